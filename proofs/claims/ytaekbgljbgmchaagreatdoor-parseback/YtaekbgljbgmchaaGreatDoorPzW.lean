/-
  truth, integer, bounds of package parse.
-/
import Derived.Test.YtaekbgljbgmchaaGreatDoorPzR
namespace Go.Proofs.YtaekbgljbgmchaaGreatDoor
open Go.RowKit
open Lx (Out)
open Pz
/-- The tokens' numbers are none below 0. -/
def Nn (toks : List Out) : Prop := ∀ t ∈ toks, 0 ≤ t.n
theorem take_nn {toks : List Out} {s : S} (hn : Nn toks) (h : Ok toks s) (k : Int) : 0 ≤ (s.take k).1.n ∧ (s.take k).1.n ≤ 9223372036854775807 := by
  have hf := (take_fit h k).2.1
  refine ⟨?_, hf.2⟩
  unfold S.take
  split
  · obtain ⟨pre, hp⟩ := h.suf
    exact hn _ (by rw [hp]; exact List.mem_append_right _ (hd_mem s h.tk.ne))
  · exact Int.le_refl 0
set_option maxRecDepth 100000 in
set_option maxHeartbeats 2000000 in
theorem truth_any (b g cap : Nat) (toks : List Out) (s : S) (w : World) (A : At b g cap toks s w) :
    Calls Tryz.prog 195 #[.pointer (some ⟨b, 0, none⟩)] w fun r w' => r = .returned (.int .i64 (truth s).1) ∧ At b g cap toks (truth s).2 w' ∧ Kp b w w' := by
  have K := Kp.refl b w
  obtain ⟨R, hR⟩ : ∃ R, truth s = R := ⟨_, rfl⟩
  rw [hR]
  cases q : s.sees ⟨#[116, 114, 117, 101]⟩
  · have HR : Hid (R = (0, s.want k_false)) := by show _ = _; rw [← hR]; unfold truth; rw [show s.sees k_true = false from q]; rfl
    clear hR
    go_enter Tryz.func195, Tryz.ntmps195
    go_wp2_with (first
      | (go_at_call 69; (with_reducible refine (sees_any _ b g cap toks _ _ A).mono ?_); rintro r w1 ⟨rfl, b1⟩; have A := A.below b1; have K := K.tr b1)
      | (go_at_call 156; (with_reducible refine (want_any _ b g cap toks _ _ A).mono ?_); rintro r w3 ⟨rfl, A, k⟩; have K := K.trans k))
    go_ret
    rw [HR.out]
    exact ⟨rfl, A, K⟩
  · have HR : Hid (R = (1, s.pass)) := by show _ = _; rw [← hR]; unfold truth; rw [show s.sees k_true = true from q]; rfl
    clear hR
    go_enter Tryz.func195, Tryz.ntmps195
    go_wp2_with (first
      | (go_at_call 69; (with_reducible refine (sees_any _ b g cap toks _ _ A).mono ?_); rintro r w1 ⟨rfl, b1⟩; have A := A.below b1; have K := K.tr b1)
      | (go_at_call 110; (with_reducible refine (pass_any b g cap toks _ _ A).mono ?_); rintro r w3 ⟨rfl, A, k⟩; have K := K.trans k))
    go_ret
    rw [HR.out]
    exact ⟨rfl, A, K⟩
set_option maxRecDepth 100000 in
set_option maxHeartbeats 2000000 in
theorem integer_any (b g cap : Nat) (toks : List Out) (s : S) (w : World) (A : At b g cap toks s w) (hn : Nn toks) :
    Calls Tryz.prog 197 #[.pointer (some ⟨b, 0, none⟩)] w fun r w' => r = .returned (.int .i64 (integer s).1) ∧ At b g cap toks (integer s).2 w' ∧ Kp b w w' := by
  have K := Kp.refl b w
  obtain ⟨R, hR⟩ : ∃ R, integer s = R := ⟨_, rfl⟩
  rw [hR]
  cases q : s.sees ⟨#[45]⟩
  · have HR : Hid (R = ((s.take 2).1.n, (s.take 2).2)) := by show _ = _; rw [← hR]; unfold integer; rw [show s.sees s_minus = false from q]; rfl
    clear hR
    go_enter Tryz.func197, Tryz.ntmps197
    go_wp2_with (first
      | (go_at_call 69; (with_reducible refine (sees_any _ b g cap toks _ _ A).mono ?_); rintro r w1 ⟨rfl, b1⟩; have A := A.below b1; have K := K.tr b1)
      | (go_at_call 120; (with_reducible refine (numTok_any b g cap toks _ _ A).mono ?_); rintro r w3 ⟨rfl, A, k⟩; have K := K.trans k))
    go_ret
    rw [HR.out]
    exact ⟨rfl, A, K⟩
  · have HR : Hid (R = (-(s.pass.take 2).1.n, (s.pass.take 2).2)) := by show _ = _; rw [← hR]; unfold integer; rw [show s.sees s_minus = true from q]; rfl
    clear hR
    have hr := take_nn hn A.ok.pass 2
    have h120 : ∀ W, At b g cap toks s.pass W → Calls Tryz.prog 120 #[.pointer (some ⟨b, 0, none⟩)] W fun e w' => e = .returned (.int .i64 (s.pass.take 2).1.n) ∧ At b g cap toks (s.pass.take 2).2 w' ∧ Kp b W w' := fun W hW => numTok_any b g cap toks _ W hW
    obtain ⟨m, hm⟩ : ∃ m, (s.pass.take 2).1.n = m := ⟨_, rfl⟩
    rw [hm] at hr HR
    simp only [hm] at h120
    clear hm
    go_enter Tryz.func197, Tryz.ntmps197
    go_wp2_with (first
      | (go_at_call 69; (with_reducible refine (sees_any _ b g cap toks _ _ A).mono ?_); rintro r w1 ⟨rfl, b1⟩; have A := A.below b1; have K := K.tr b1)
      | (go_at_call 110; (with_reducible refine (pass_any b g cap toks _ _ A).mono ?_); rintro r w3 ⟨rfl, A, k⟩; have K := K.trans k)
      | (go_at_call 120; (with_reducible refine (h120 _ A).mono ?_); rintro r w3 ⟨rfl, A, k⟩; have K := K.trans k))
    go_ret
    rw [HR.out]
    exact ⟨rfl, A, K⟩
theorem integer_fit {toks : List Out} {s : S} (hn : Nn toks) (h : Ok toks s) : I64 (integer s).1 ∧ Ok toks (integer s).2 := by
  unfold integer I64
  split
  · have := take_nn hn h.pass 2
    exact ⟨by simp only; omega, h.pass.take 2⟩
  · have := take_nn hn h 2
    exact ⟨by simp only; omega, h.take 2⟩
set_option maxRecDepth 100000 in
set_option maxHeartbeats 2000000 in
theorem bounds_any (b g cap : Nat) (toks : List Out) (s : S) (w : World) (A : At b g cap toks s w) (hn : Nn toks) :
    Calls Tryz.prog 196 #[.pointer (some ⟨b, 0, none⟩)] w fun r w' => r = .returned (.tuple #[.int .i64 (bounds s).1.1, .int .i64 (bounds s).1.2]) ∧ At b g cap toks (bounds s).2 w' ∧ Kp b w w' := by
  have K := Kp.refl b w
  have f3 := fld3
  obtain ⟨R, hR⟩ : ∃ R, bounds s = R := ⟨_, rfl⟩
  rw [hR]
  have h1 := integer_any b g cap toks s w A hn
  have h2 : ∀ W, At b g cap toks ((integer s).2.want s_dots) W → Calls Tryz.prog 197 #[.pointer (some ⟨b, 0, none⟩)] W fun r w' => r = .returned (.int .i64 (integer ((integer s).2.want s_dots)).1) ∧ At b g cap toks (integer ((integer s).2.want s_dots)).2 w' ∧ Kp b W w' := fun W hW => integer_any b g cap toks _ W hW hn
  have HR0 : Hid (R = (((integer s).1, (integer ((integer s).2.want s_dots)).1), if (integer ((integer s).2.want s_dots)).1 < (integer s).1 then (integer ((integer s).2.want s_dots)).2.fail 40 ((integer s).2.want s_dots).hd.pos else (integer ((integer s).2.want s_dots)).2)) := by show _ = _; rw [← hR]; rfl
  clear hR
  obtain ⟨lo, hlo⟩ : ∃ lo, (integer s).1 = lo := ⟨_, rfl⟩
  obtain ⟨hi, hhi⟩ : ∃ hi, (integer ((integer s).2.want s_dots)).1 = hi := ⟨_, rfl⟩
  rw [hlo] at h1
  simp only [hhi] at h2
  rw [hlo, hhi] at HR0
  clear hlo hhi
  have dots : ∀ W, At b g cap toks ((integer s).2.want ⟨#[46, 46]⟩) W → At b g cap toks ((integer s).2.want s_dots) W := fun W hW => hW
  by_cases q : hi < lo
  · have HR : Hid (R = ((lo, hi), (integer ((integer s).2.want s_dots)).2.fail 40 ((integer s).2.want s_dots).hd.pos)) := by show _ = _; rw [HR0.out, if_pos q]
    clear HR0
    go_enter Tryz.func196, Tryz.ntmps196
    go_wp2_with (first
      | (go_at_call 197; (with_reducible refine h1.mono ?_); rintro r w1 ⟨rfl, A, k⟩; have K := K.trans k; clear h1)
      | (go_at_call 156; (with_reducible refine (want_any _ b g cap toks _ _ A).mono ?_); rintro r w2 ⟨rfl, A, k⟩; have K := K.trans k; have A := dots _ A)
      | (go_at_call 62; (with_reducible refine (token_any b g cap toks _ _ A).mono ?_); rintro r w3 ⟨rfl, b1⟩; have A := A.below b1; have K := K.tr b1)
      | (go_at_call 197; (with_reducible refine (h2 _ A).mono ?_); rintro r w4 ⟨rfl, A, k⟩; have K := K.trans k)
      | (go_at_call 107; (with_reducible refine (fail_any 40 _ b g cap toks _ _ A).mono ?_); rintro r w5 ⟨rfl, A, k⟩; have K := K.trans k))
    go_ret2
    rw [HR.out]
    exact ⟨rfl, A, K⟩
  · have HR : Hid (R = ((lo, hi), (integer ((integer s).2.want s_dots)).2)) := by show _ = _; rw [HR0.out, if_neg q]
    clear HR0
    have q2 : decide (hi < lo) = false := by simp only [decide_eq_false_iff_not]; exact q
    go_enter Tryz.func196, Tryz.ntmps196
    go_wp2_with (first
      | (go_at_call 197; (with_reducible refine h1.mono ?_); rintro r w1 ⟨rfl, A, k⟩; have K := K.trans k; clear h1)
      | (go_at_call 156; (with_reducible refine (want_any _ b g cap toks _ _ A).mono ?_); rintro r w2 ⟨rfl, A, k⟩; have K := K.trans k; have A := dots _ A)
      | (go_at_call 62; (with_reducible refine (token_any b g cap toks _ _ A).mono ?_); rintro r w3 ⟨rfl, b1⟩; have A := A.below b1; have K := K.tr b1)
      | (go_at_call 197; (with_reducible refine (h2 _ A).mono ?_); rintro r w4 ⟨rfl, A, k⟩; have K := K.trans k))
    go_ret2
    rw [HR.out]
    exact ⟨rfl, A, K⟩
end Go.Proofs.YtaekbgljbgmchaaGreatDoor
