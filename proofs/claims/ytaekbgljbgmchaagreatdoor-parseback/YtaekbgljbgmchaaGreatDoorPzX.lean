/-
  typed and variable of package parse.
-/
import Derived.Test.YtaekbgljbgmchaaGreatDoorPzW
namespace Go.Proofs.YtaekbgljbgmchaaGreatDoor
open Go.RowKit
open Lx (Out)
open Pz
/-- A variable as a value. -/
def VaBack (b g cap : Nat) (toks : List Out) (x : Va × S) (w : World) (r : Ending) (w' : World) : Prop :=
  r = .returned (.agg #[.string x.1.name, .int .i64 x.1.type, .int .i64 x.1.lo, .int .i64 x.1.hi, .int .i64 x.1.init, .int .i64 x.1.pos]) ∧ At b g cap toks x.2 w' ∧ Kp b w w'
theorem bounds_ok {toks : List Out} {s : S} (hn : Nn toks) (h : Ok toks s) : I64 (bounds s).1.1 ∧ I64 (bounds s).1.2 ∧ Ok toks (bounds s).2 := by
  have h1 := integer_fit hn h
  have h2 := integer_fit hn (h1.2.want s_dots)
  refine ⟨h1.1, h2.1, ?_⟩
  unfold bounds
  simp only
  split
  · exact h2.2.fail _ _
  · exact h2.2
set_option maxRecDepth 100000 in
set_option maxHeartbeats 2000000 in
theorem typed_any (b g cap : Nat) (toks : List Out) (s : S) (w : World) (h : At b g cap toks s w) (hn : Nn toks) :
    Calls Tryz.prog 178 #[.pointer (some ⟨b, 0, none⟩)] w (VaBack b g cap toks (typed s) w) := by
  have hb := h.lt
  have hgl := h.glt
  have A := h.al (.cells #[.string ⟨#[]⟩, .int .i64 0, .int .i64 0, .int .i64 0, .int .i64 0, .int .i64 0] 86)
  have bR := newB w #[.string ⟨#[]⟩, .int .i64 0, .int .i64 0, .int .i64 0, .int .i64 0, .int .i64 0] 86
  have hne : w.heap.size ≠ b := by omega
  have hng : w.heap.size ≠ g := by omega
  have K : Kp b w (w.alloc (.cells #[.string ⟨#[]⟩, .int .i64 0, .int .i64 0, .int .i64 0, .int .i64 0, .int .i64 0] 86)) := (Kp.refl b w).al _
  have hlR := ltB bR
  have bS := newB' (w.alloc (.cells #[.string ⟨#[]⟩, .int .i64 0, .int .i64 0, .int .i64 0, .int .i64 0, .int .i64 0] 86)) #[.string ⟨#[]⟩, .int .i64 0, .int .i64 0, .int .i64 0, .int .i64 0, .int .i64 0] 86 (w.heap.size + 1) (by simp)
  have A := A.al (.cells #[.string ⟨#[]⟩, .int .i64 0, .int .i64 0, .int .i64 0, .int .i64 0, .int .i64 0] 86)
  have K := K.al (.cells #[.string ⟨#[]⟩, .int .i64 0, .int .i64 0, .int .i64 0, .int .i64 0, .int .i64 0] 86)
  have bR := bel_box bR (bel_al _ (.cells #[.string ⟨#[]⟩, .int .i64 0, .int .i64 0, .int .i64 0, .int .i64 0, .int .i64 0] 86))
  have hnS : w.heap.size + 1 ≠ b := by omega
  have hnS2 : w.heap.size + 1 ≠ g := by omega
  have hnR : w.heap.size ≠ w.heap.size + 1 := by omega
  have hSw : w.heap.size ≤ w.heap.size + 1 := by omega
  obtain ⟨y0, y1, y2, y3, y4, y5, yf, yl⟩ := six bS
  obtain ⟨R, hR⟩ : ∃ R, typed s = R := ⟨_, rfl⟩
  rw [hR]
  cases q1 : s.sees ⟨#[98, 111, 111, 108]⟩
  case true =>
    have HR : Hid (R = (⟨e0, 1, 0, 0, (truth (s.pass.want s_eq)).1, 0⟩, (truth (s.pass.want s_eq)).2)) := by show _ = _; rw [← hR]; unfold typed; rw [show s.sees k_bool = true from q1]; rfl
    have ht : ∀ W, At b g cap toks (s.pass.want s_eq) W → Calls Tryz.prog 195 #[.pointer (some ⟨b, 0, none⟩)] W fun r w' => r = .returned (.int .i64 (truth (s.pass.want s_eq)).1) ∧ At b g cap toks (truth (s.pass.want s_eq)).2 w' ∧ Kp b W w' := fun W hW => truth_any b g cap toks _ W hW
    clear hR h
    go_enter Tryz.func178, Tryz.ntmps178
    go_wp2_with (first
      | (go_at_call 69; (with_reducible refine (sees_any _ b g cap toks _ _ A).mono ?_); rintro r w1 ⟨rfl, b1⟩; have A := A.below b1; have K := K.tr b1; have bR := bel_box bR b1; have bS := bel_box bS b1; obtain ⟨y0, y1, y2, y3, y4, y5, yf, yl⟩ := six bS)
      | (go_at_call 110; (with_reducible refine (pass_any b g cap toks _ _ A).mono ?_); rintro r w3 ⟨rfl, A, k⟩; have K := K.trans k; have bR := k.box bR hne; have bS := k.box bS hnS; obtain ⟨y0, y1, y2, y3, y4, y5, yf, yl⟩ := six bS; have A := A.put (p := ⟨w.heap.size + 1, 1, none⟩) hnS hnS2 (.int .i64 1); have K := K.set (p := ⟨w.heap.size + 1, 1, none⟩) (.inr hSw) (.int .i64 1); have bR := set_box (j := w.heap.size + 1) (i := 1) bR hnR (.int .i64 1); have bS := setBx (i := 1) (c2 := #[.string ⟨#[]⟩, .int .i64 1, .int .i64 0, .int .i64 0, .int .i64 0, .int .i64 0]) bS (.int .i64 1) rfl)
      | (go_at_call 156; (with_reducible refine (want_any _ b g cap toks _ _ A).mono ?_); rintro r w4 ⟨rfl, A, k⟩; have K := K.trans k; have bR := k.box bR hne; have bS := k.box bS hnS; obtain ⟨y0, y1, y2, y3, y4, y5, yf, yl⟩ := six bS; have A : At b g cap toks (s.pass.want s_eq) w4 := A)
      | (go_at_call 195; (with_reducible refine (ht _ A).mono ?_); rintro r w5 ⟨rfl, A, k⟩; have K := K.trans k; have bR := k.box bR hne; have bS := k.box bS hnS; obtain ⟨y0, y1, y2, y3, y4, y5, yf, yl⟩ := six bS; obtain ⟨x0, x1, x2, x3, x4, x5, xf, xl⟩ := six bR))
    rw [HR.out]
    refine bodyPost_ret (v := .agg #[.string ⟨#[]⟩, .int .i64 1, .int .i64 0, .int .i64 0, .int .i64 (truth (s.pass.want s_eq)).1, .int .i64 0]) ?_ rfl ⟨rfl, ?_, ?_⟩
    · simp [results, Tryz.results178, go_sem, x0, x1, x2, x3, x4, x5]
    · repeat (first | with_reducible refine Pz.At.put ?_ hne hng _ | with_reducible refine Pz.At.put ?_ hnS hnS2 _ | with_reducible refine Pz.At.al ?_ _)
      exact A
    · repeat (first | with_reducible refine Kp.set ?_ (.inr (Nat.le_refl _)) _ | with_reducible refine Kp.set ?_ (.inr hSw) _ | with_reducible refine Kp.al ?_ _)
      with_reducible exact K
  cases q2 : s.sees ⟨#[105, 110, 116]⟩
  case true =>
    have HR : Hid (R = (⟨e0, 2, 0, 0, (integer (s.pass.want s_eq)).1, 0⟩, (integer (s.pass.want s_eq)).2)) := by show _ = _; rw [← hR]; unfold typed; rw [show s.sees k_bool = false from q1, show s.sees k_int = true from q2]; rfl
    have ht : ∀ W, At b g cap toks (s.pass.want s_eq) W → Calls Tryz.prog 197 #[.pointer (some ⟨b, 0, none⟩)] W fun r w' => r = .returned (.int .i64 (integer (s.pass.want s_eq)).1) ∧ At b g cap toks (integer (s.pass.want s_eq)).2 w' ∧ Kp b W w' := fun W hW => integer_any b g cap toks _ W hW hn
    clear hR h
    go_enter Tryz.func178, Tryz.ntmps178
    go_wp2_with (first
      | (go_at_call 69; (with_reducible refine (sees_any _ b g cap toks _ _ A).mono ?_); rintro r w1 ⟨rfl, b1⟩; have A := A.below b1; have K := K.tr b1; have bR := bel_box bR b1; have bS := bel_box bS b1; obtain ⟨y0, y1, y2, y3, y4, y5, yf, yl⟩ := six bS)
      | (go_at_call 110; (with_reducible refine (pass_any b g cap toks _ _ A).mono ?_); rintro r w3 ⟨rfl, A, k⟩; have K := K.trans k; have bR := k.box bR hne; have bS := k.box bS hnS; obtain ⟨y0, y1, y2, y3, y4, y5, yf, yl⟩ := six bS; have A := A.put (p := ⟨w.heap.size + 1, 1, none⟩) hnS hnS2 (.int .i64 2); have K := K.set (p := ⟨w.heap.size + 1, 1, none⟩) (.inr hSw) (.int .i64 2); have bR := set_box (j := w.heap.size + 1) (i := 1) bR hnR (.int .i64 2); have bS := setBx (i := 1) (c2 := #[.string ⟨#[]⟩, .int .i64 2, .int .i64 0, .int .i64 0, .int .i64 0, .int .i64 0]) bS (.int .i64 2) rfl)
      | (go_at_call 156; (with_reducible refine (want_any _ b g cap toks _ _ A).mono ?_); rintro r w4 ⟨rfl, A, k⟩; have K := K.trans k; have bR := k.box bR hne; have bS := k.box bS hnS; obtain ⟨y0, y1, y2, y3, y4, y5, yf, yl⟩ := six bS; have A : At b g cap toks (s.pass.want s_eq) w4 := A)
      | (go_at_call 197; (with_reducible refine (ht _ A).mono ?_); rintro r w5 ⟨rfl, A, k⟩; have K := K.trans k; have bR := k.box bR hne; have bS := k.box bS hnS; obtain ⟨y0, y1, y2, y3, y4, y5, yf, yl⟩ := six bS; obtain ⟨x0, x1, x2, x3, x4, x5, xf, xl⟩ := six bR))
    rw [HR.out]
    refine bodyPost_ret (v := .agg #[.string ⟨#[]⟩, .int .i64 2, .int .i64 0, .int .i64 0, .int .i64 (integer (s.pass.want s_eq)).1, .int .i64 0]) ?_ rfl ⟨rfl, ?_, ?_⟩
    · simp [results, Tryz.results178, go_sem, x0, x1, x2, x3, x4, x5]
    · repeat (first | with_reducible refine Pz.At.put ?_ hne hng _ | with_reducible refine Pz.At.put ?_ hnS hnS2 _ | with_reducible refine Pz.At.al ?_ _)
      exact A
    · repeat (first | with_reducible refine Kp.set ?_ (.inr (Nat.le_refl _)) _ | with_reducible refine Kp.set ?_ (.inr hSw) _ | with_reducible refine Kp.al ?_ _)
      with_reducible exact K
  case false =>
    have HR : Hid (R = (⟨e0, 3, (bounds s).1.1, (bounds s).1.2, (integer ((bounds s).2.want s_eq)).1, 0⟩, (integer ((bounds s).2.want s_eq)).2)) := by show _ = _; rw [← hR]; unfold typed; rw [show s.sees k_bool = false from q1, show s.sees k_int = false from q2]; rfl
    have ht : ∀ W, At b g cap toks ((bounds s).2.want s_eq) W → Calls Tryz.prog 197 #[.pointer (some ⟨b, 0, none⟩)] W fun r w' => r = .returned (.int .i64 (integer ((bounds s).2.want s_eq)).1) ∧ At b g cap toks (integer ((bounds s).2.want s_eq)).2 w' ∧ Kp b W w' := fun W hW => integer_any b g cap toks _ W hW hn
    have hbo : ∀ W, At b g cap toks s W → Calls Tryz.prog 196 #[.pointer (some ⟨b, 0, none⟩)] W fun r w' => r = .returned (.tuple #[.int .i64 (bounds s).1.1, .int .i64 (bounds s).1.2]) ∧ At b g cap toks (bounds s).2 w' ∧ Kp b W w' := fun W hW => bounds_any b g cap toks _ W hW hn
    clear hR h
    go_enter Tryz.func178, Tryz.ntmps178
    go_wp2_with (first
      | (go_at_call 69; (with_reducible refine (sees_any _ b g cap toks _ _ A).mono ?_); rintro r w1 ⟨rfl, b1⟩; have A := A.below b1; have K := K.tr b1; have bR := bel_box bR b1; have bS := bel_box bS b1; obtain ⟨y0, y1, y2, y3, y4, y5, yf, yl⟩ := six bS)
      | (go_at_call 196; (with_reducible refine (hbo _ (A.put (p := ⟨w.heap.size + 1, 1, none⟩) hnS hnS2 (.int .i64 3))).mono ?_); have A := A.put (p := ⟨w.heap.size + 1, 1, none⟩) hnS hnS2 (.int .i64 3); have K := K.set (p := ⟨w.heap.size + 1, 1, none⟩) (.inr hSw) (.int .i64 3); have bR := set_box (j := w.heap.size + 1) (i := 1) bR hnR (.int .i64 3); have bS := setBx (i := 1) (c2 := #[.string ⟨#[]⟩, .int .i64 3, .int .i64 0, .int .i64 0, .int .i64 0, .int .i64 0]) bS (.int .i64 3) rfl; rintro r w3 ⟨rfl, A, k⟩; have K := K.trans k; have bR := k.box bR hne; have bS := k.box bS hnS; obtain ⟨y0, y1, y2, y3, y4, y5, yf, yl⟩ := six bS; have A := A.put (p := ⟨w.heap.size + 1, 2, none⟩) hnS hnS2 (.int .i64 (bounds s).1.1); have K := K.set (p := ⟨w.heap.size + 1, 2, none⟩) (.inr hSw) (.int .i64 (bounds s).1.1); have bR := set_box (j := w.heap.size + 1) (i := 2) bR hnR (.int .i64 (bounds s).1.1); have bS := setBx (i := 2) (c2 := #[.string ⟨#[]⟩, .int .i64 3, .int .i64 (bounds s).1.1, .int .i64 0, .int .i64 0, .int .i64 0]) bS (.int .i64 (bounds s).1.1) rfl; have A := A.put (p := ⟨w.heap.size + 1, 3, none⟩) hnS hnS2 (.int .i64 (bounds s).1.2); have K := K.set (p := ⟨w.heap.size + 1, 3, none⟩) (.inr hSw) (.int .i64 (bounds s).1.2); have bR := set_box (j := w.heap.size + 1) (i := 3) bR hnR (.int .i64 (bounds s).1.2); have bS := setBx (i := 3) (c2 := #[.string ⟨#[]⟩, .int .i64 3, .int .i64 (bounds s).1.1, .int .i64 (bounds s).1.2, .int .i64 0, .int .i64 0]) bS (.int .i64 (bounds s).1.2) rfl)
      | (go_at_call 156; (with_reducible refine (want_any _ b g cap toks _ _ A).mono ?_); rintro r w4 ⟨rfl, A, k⟩; have K := K.trans k; have bR := k.box bR hne; have bS := k.box bS hnS; obtain ⟨y0, y1, y2, y3, y4, y5, yf, yl⟩ := six bS; have A : At b g cap toks ((bounds s).2.want s_eq) w4 := A)
      | (go_at_call 197; (with_reducible refine (ht _ A).mono ?_); rintro r w5 ⟨rfl, A, k⟩; have K := K.trans k; have bR := k.box bR hne; have bS := k.box bS hnS; obtain ⟨y0, y1, y2, y3, y4, y5, yf, yl⟩ := six bS; obtain ⟨x0, x1, x2, x3, x4, x5, xf, xl⟩ := six bR))
    rw [HR.out]
    refine bodyPost_ret (v := .agg #[.string ⟨#[]⟩, .int .i64 3, .int .i64 (bounds s).1.1, .int .i64 (bounds s).1.2, .int .i64 (integer ((bounds s).2.want s_eq)).1, .int .i64 0]) ?_ rfl ⟨rfl, ?_, ?_⟩
    · simp [results, Tryz.results178, go_sem, x0, x1, x2, x3, x4, x5]
    · repeat (first | with_reducible refine Pz.At.put ?_ hne hng _ | with_reducible refine Pz.At.put ?_ hnS hnS2 _ | with_reducible refine Pz.At.al ?_ _)
      exact A
    · repeat (first | with_reducible refine Kp.set ?_ (.inr (Nat.le_refl _)) _ | with_reducible refine Kp.set ?_ (.inr hSw) _ | with_reducible refine Kp.al ?_ _)
      with_reducible exact K
set_option maxRecDepth 100000 in
set_option maxHeartbeats 2000000 in
theorem vari_any (b g cap : Nat) (toks : List Out) (s : S) (w : World) (h : At b g cap toks s w) (hn : Nn toks) :
    Calls Tryz.prog 158 #[.pointer (some ⟨b, 0, none⟩)] w (VaBack b g cap toks (vari s) w) := by
  have hb := h.lt
  have hgl := h.glt
  have A := h.al (.cells #[.string ⟨#[]⟩, .int .i64 0, .int .i64 0, .int .i64 0, .int .i64 0, .int .i64 0] 86)
  have bR := newB w #[.string ⟨#[]⟩, .int .i64 0, .int .i64 0, .int .i64 0, .int .i64 0, .int .i64 0] 86
  have hne : w.heap.size ≠ b := by omega
  have hng : w.heap.size ≠ g := by omega
  have K : Kp b w (w.alloc (.cells #[.string ⟨#[]⟩, .int .i64 0, .int .i64 0, .int .i64 0, .int .i64 0, .int .i64 0] 86)) := (Kp.refl b w).al _
  have h1 := declared_any b g cap toks s _ A
  obtain ⟨dn, hdn⟩ : ∃ dn, (s.take 1).1.text = dn := ⟨_, rfl⟩
  obtain ⟨dp, hdp⟩ : ∃ dp, (s.take 1).1.pos = dp := ⟨_, rfl⟩
  have ht : ∀ W, At b g cap toks ((s.take 1).2.want s_colon) W → Calls Tryz.prog 178 #[.pointer (some ⟨b, 0, none⟩)] W (VaBack b g cap toks (typed ((s.take 1).2.want s_colon)) W) := fun W hW => typed_any b g cap toks _ W hW hn
  obtain ⟨ty, hty⟩ : ∃ ty, typed ((s.take 1).2.want s_colon) = ty := ⟨_, rfl⟩
  have HR : Hid (vari s = (⟨dn, ty.1.type, ty.1.lo, ty.1.hi, ty.1.init, dp⟩, ty.2.want s_semi)) := by show _ = _; rw [← hty, ← hdn, ← hdp]; rfl
  obtain ⟨R, hR⟩ : ∃ R, vari s = R := ⟨_, rfl⟩
  rw [hR] at HR ⊢
  rw [hdn, hdp] at h1
  simp only [hty] at ht
  clear hR hdn hdp hty h
  obtain ⟨⟨vn, vt, vl, vh, vi, vp⟩, s2⟩ := ty
  have ht2 : ∀ W, At b g cap toks ((s.take 1).2.want s_colon) W → Calls Tryz.prog 178 #[.pointer (some ⟨b, 0, none⟩)] W fun r w' => r = .returned (.agg #[.string vn, .int .i64 vt, .int .i64 vl, .int .i64 vh, .int .i64 vi, .int .i64 vp]) ∧ At b g cap toks s2 w' ∧ Kp b W w' := ht
  clear ht
  go_enter Tryz.func158, Tryz.ntmps158
  go_wp2_with (first
      | (go_at_call 117; (with_reducible refine h1.mono ?_); rintro r w1 ⟨rfl, A, k⟩; have K := K.trans k; have bR := k.box bR hne)
      | (go_at_call 156; (with_reducible refine (want_any ⟨#[58]⟩ b g cap toks _ _ A).mono ?_); rintro r w2 ⟨rfl, A, k⟩; have A : At b g cap toks ((s.take 1).2.want s_colon) w2 := A; have K := K.trans k; have bR := k.box bR hne)
      | (go_at_call 178; (with_reducible refine (ht2 _ A).mono ?_); rintro r w3 ⟨rfl, A, k⟩; have K := K.trans k; have bR := k.box bR hne; have hlR := ltB bR; have bS := newB w3 #[.string vn, .int .i64 vt, .int .i64 vl, .int .i64 vh, .int .i64 vi, .int .i64 vp] 86; have A := A.al (.cells #[.string vn, .int .i64 vt, .int .i64 vl, .int .i64 vh, .int .i64 vi, .int .i64 vp] 86); have K := K.al (.cells #[.string vn, .int .i64 vt, .int .i64 vl, .int .i64 vh, .int .i64 vi, .int .i64 vp] 86); have bR := bel_box bR (bel_al _ (.cells #[.string vn, .int .i64 vt, .int .i64 vl, .int .i64 vh, .int .i64 vi, .int .i64 vp] 86)); have hnS : w3.heap.size ≠ b := (by omega); have hnS2 : w3.heap.size ≠ g := (by omega); have hnR : w.heap.size ≠ w3.heap.size := (by omega); have hnR2 : w3.heap.size ≠ w.heap.size := (by omega); have hSw : w.heap.size ≤ w3.heap.size := (by omega))
      | (go_at_call 156; (with_reducible refine (want_any ⟨#[59]⟩ b g cap toks _ _ A).mono ?_); rintro r w4 ⟨rfl, A, k⟩; have K := K.trans k; have bR := k.box bR hne; have bS := k.box bS hnS; obtain ⟨x0, x1, x2, x3, x4, x5, xf, xl⟩ := six bR; obtain ⟨y0, y1, y2, y3, y4, y5, yf, yl⟩ := six bS))
  rw [HR.out]
  refine bodyPost_ret (v := .agg #[.string dn, .int .i64 vt, .int .i64 vl, .int .i64 vh, .int .i64 vi, .int .i64 (dp : Int)]) ?_ rfl ⟨rfl, ?_, ?_⟩
  · simp [results, Tryz.results158, go_sem, x0, x1, x2, x3, x4, x5]
  · repeat (first | with_reducible refine Pz.At.put ?_ hne hng _ | with_reducible refine Pz.At.put ?_ hnS hnS2 _ | with_reducible refine Pz.At.al ?_ _)
    exact A
  · repeat (first | with_reducible refine Kp.set ?_ (.inr (Nat.le_refl _)) _ | with_reducible refine Kp.set ?_ (.inr hSw) _ | with_reducible refine Kp.al ?_ _)
    with_reducible exact K
end Go.Proofs.YtaekbgljbgmchaaGreatDoor
