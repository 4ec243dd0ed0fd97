/-
  The reader's small methods: token, sees, pass, fail, refuse, want.
-/
import Derived.Test.YtaekbgljbgmchaaGreatDoorPzB
import Derived.RegionTactic
namespace Go.Proofs.YtaekbgljbgmchaaGreatDoor
open Go.RowKit
open Lx (Out)
open Pz
/-- A token as a value. -/
def tokV (t : Out) : Value := .agg #[.int .i64 t.kind, .string t.text, .int .i64 t.n, .int .i64 (t.pos : Int)]
theorem fld0 (a b c d : Value) (w : World) : (Instr.field 57 (.agg #[a, b, c, d]) 0).run Tryz.prog w = .ok a w := by kernel_rfl
theorem fld1 (a b c d : Value) (w : World) : (Instr.field 57 (.agg #[a, b, c, d]) 1).run Tryz.prog w = .ok b w := by kernel_rfl
theorem fld2 (a b c d : Value) (w : World) : (Instr.field 57 (.agg #[a, b, c, d]) 2).run Tryz.prog w = .ok c w := by kernel_rfl
theorem fld3 (a b c d : Value) (w : World) : (Instr.field 57 (.agg #[a, b, c, d]) 3).run Tryz.prog w = .ok d w := by kernel_rfl
set_option maxRecDepth 100000 in
set_option maxHeartbeats 2000000 in
theorem token_any (b g cap : Nat) (toks : List Out) (s : S) (w : World) (h : At b g cap toks s w) :
    Calls Tryz.prog 62 #[.pointer (some ⟨b, 0, none⟩)] w fun e w' => e = .returned (.agg #[.int .i64 s.hd.kind, .string s.hd.text, .int .i64 s.hd.n, .int .i64 (s.hd.pos : Int)]) ∧ Below w.heap.size w w' := by
  obtain ⟨hlt, hhd⟩ := h.ok.at
  have hW := h.al (.cells #[.int .i64 0, .string ⟨#[]⟩, .int .i64 0, .int .i64 0] 57)
  obtain ⟨c0, c1, -, -, -, -⟩ := hW.cells
  obtain ⟨r0, r1, r2, r3⟩ := hW.row _ hlt
  rw [hhd] at r0 r1 r2 r3
  obtain ⟨k, hk⟩ : ∃ k, toks.length - s.rest.length = k := ⟨_, rfl⟩
  rw [hk] at c1 r0 r1 r2 r3 hlt
  obtain ⟨n, hn⟩ : ∃ n, toks.length = n := ⟨_, rfl⟩
  rw [hn] at c0 hlt
  obtain ⟨t, ht⟩ : ∃ t, s.hd = t := ⟨_, rfl⟩
  rw [ht] at r0 r1 r2 r3 ⊢
  have hcap := h.cp
  rw [hn] at hcap
  unfold maxLen at hcap
  have hin : (k : Int) < (n : Int) := by omega
  clear hhd hk hn ht hW h
  obtain ⟨tk, tt, tn, tp, te⟩ := t
  go_enter Tryz.func62, Tryz.ntmps62
  go_wp2_with fail
  go_region
  go_wp2
  refine bodyPost_ret (v := .agg #[.int .i64 tk, .string tt, .int .i64 tn, .int .i64 (tp : Int)]) ?_ rfl ⟨rfl, ?_⟩
  · simp [results, Tryz.results62, go_sem]
  · exact ((Below.refl _ _).alloc (Nat.le_refl _) _).drew
set_option maxRecDepth 100000 in
set_option maxHeartbeats 1000000 in
theorem sees_any (x : ByteArray) (b g cap : Nat) (toks : List Out) (s : S) (w : World) (h : At b g cap toks s w) :
    Calls Tryz.prog 69 #[.pointer (some ⟨b, 0, none⟩), .string x] w fun e w' => e = .returned (.bool (s.sees x)) ∧ Below w.heap.size w w' := by
  have h1 := token_any b g cap toks s w h
  have f1 := fld1
  go_enter Tryz.func69, Tryz.ntmps69
  go_wp2_with (go_at_call 62; refine h1.mono ?_; rintro e w1 ⟨rfl, b1⟩)
  go_ret
  exact ⟨ret_bool rfl, b1⟩
theorem Pz.At.pass1 {b g cap : Nat} {toks : List Out} {s : S} {w : World} (h : At b g cap toks s w) (hk : s.hd.kind ≠ 5) (k : Nat) (hn : toks.length - s.rest.length = k) : At b g cap toks s.pass (w.setCell ⟨b, 1, none⟩ (.int .i64 ((k : Int) + 1))) := by
  have hp : s.pass = ⟨s.rest.tail, s.opn, s.err, s.pos⟩ := by unfold S.pass; rw [if_neg hk]
  have hl := h.ok.len
  refine h.keep ((Kp.refl b w).set (p := ⟨b, 1, none⟩) (.inl rfl) _) ?_ h.ok.pass
  rw [setB h.box, hp]
  have : toks.length - s.rest.tail.length = k + 1 := by simp; omega
  rw [this]
  simp
set_option maxRecDepth 100000 in
set_option maxHeartbeats 1000000 in
theorem pass_any (b g cap : Nat) (toks : List Out) (s : S) (w : World) (h : At b g cap toks s w) :
    Calls Tryz.prog 110 #[.pointer (some ⟨b, 0, none⟩)] w fun e w' => e = .returned (.tuple #[]) ∧ At b g cap toks s.pass w' ∧ Kp b w w' := by
  have h1 := token_any b g cap toks s w h
  have hsm := h.small
  obtain ⟨k, hk⟩ : ∃ k, toks.length - s.rest.length = k := ⟨_, rfl⟩
  have HK := hid hk
  cases hq : (s.hd.kind != 5)
  · have HQ : Hid (s.pass = s) := by show _ = _; unfold S.pass; rw [if_pos (by simpa using hq)]
    have f0 := fld0
    go_enter Tryz.func110, Tryz.ntmps110
    go_wp2_with (go_at_call 62; refine h1.mono ?_; rintro e w1 ⟨rfl, b1⟩)
    go_end0
    exact ⟨rfl, by rw [HQ.out]; exact h.below b1, .of b1⟩
  · have hne : s.hd.kind ≠ 5 := by simpa using hq
    have hkl : k ≤ 100000 := by omega
    clear hk
    have f0 := fld0
    go_enter Tryz.func110, Tryz.ntmps110
    go_wp2_with (go_at_call 62; refine h1.mono ?_; rintro e w1 ⟨rfl, b1⟩; have hA := h.below b1; obtain ⟨-, c1, -, -, -, cf⟩ := hA.cells; rw [HK.out] at c1)
    go_end0
    exact ⟨rfl, hA.pass1 hne k HK.out, (Kp.of b1).set (p := ⟨b, 1, none⟩) (.inl rfl) _⟩
theorem Pz.At.fail1 {b g cap : Nat} {toks : List Out} {s : S} {w : World} (h : At b g cap toks s w) (e a : Int) (he : s.err = 0) : At b g cap toks (s.fail e a) (((w.setCell ⟨b, 3, none⟩ (.int .i64 e)).setCell ⟨b, 4, none⟩ (.int .i64 a)).setCell ⟨b, 1, none⟩ (.int .i64 ((toks.length : Int) - 1))) := by
  have hp : s.fail e a = ⟨last1 s.rest, s.opn, e, a⟩ := by unfold S.fail; rw [if_pos he]
  have hl := h.ok.len
  refine h.keep ((((Kp.refl b w).set (p := ⟨b, 3, none⟩) (.inl rfl) _).set (p := ⟨b, 4, none⟩) (.inl rfl) _).set (p := ⟨b, 1, none⟩) (.inl rfl) _) ?_ (h.ok.fail e a)
  rw [setB (setB (setB h.box _) _) _, hp]
  have : toks.length - (last1 s.rest).length = toks.length - 1 := by rw [last1_eq _ h.ok.tk.ne]; simp
  rw [this]
  have h2 : ((toks.length - 1 : Nat) : Int) = (toks.length : Int) - 1 := by omega
  rw [h2]
  simp
set_option maxRecDepth 100000 in
set_option maxHeartbeats 1000000 in
theorem fail_any (e a : Int) (b g cap : Nat) (toks : List Out) (s : S) (w : World) (h : At b g cap toks s w) :
    Calls Tryz.prog 107 #[.pointer (some ⟨b, 0, none⟩), .int .i64 e, .int .i64 a] w fun r w' => r = .returned (.tuple #[]) ∧ At b g cap toks (s.fail e a) w' ∧ Kp b w w' := by
  have hsm := h.small
  have hl := h.ok.len
  obtain ⟨c0, c1, -, c3, c4, cf⟩ := h.cells
  obtain ⟨v1, hv1⟩ : ∃ v1, Value.int .i64 ((toks.length - s.rest.length : Nat) : Int) = v1 := ⟨_, rfl⟩
  rw [hv1] at c1
  clear hv1
  cases hq : (s.err != 0)
  · have hz : s.err = 0 := by simpa using hq
    have HA := hid (h.fail1 e a hz)
    have hKp : Kp b w (((w.setCell ⟨b, 3, none⟩ (.int .i64 e)).setCell ⟨b, 4, none⟩ (.int .i64 a)).setCell ⟨b, 1, none⟩ (.int .i64 ((toks.length : Int) - 1))) := (((Kp.refl b w).set (p := ⟨b, 3, none⟩) (.inl rfl) _).set (p := ⟨b, 4, none⟩) (.inl rfl) _).set (p := ⟨b, 1, none⟩) (.inl rfl) _
    clear h
    obtain ⟨n, hn⟩ : ∃ n, toks.length = n := ⟨_, rfl⟩
    rw [hn] at c0 hsm hl hKp HA
    clear hn hz
    go_enter Tryz.func107, Tryz.ntmps107
    go_wp2
    go_end0
    exact ⟨rfl, HA.out, hKp⟩
  · have HQ : Hid (s.fail e a = s) := by show _ = _; unfold S.fail; rw [if_neg (by simpa using hq)]
    go_enter Tryz.func107, Tryz.ntmps107
    go_wp2
    ((try simp only [Exit.inBlock, Exit.then]); refine bodyPost_ret (results_none rfl _ _ _) rfl ?_)
    exact ⟨rfl, by rw [HQ.out]; exact h, .refl _ _⟩
set_option maxRecDepth 100000 in
set_option maxHeartbeats 1000000 in
theorem refuse_any (e : Int) (b g cap : Nat) (toks : List Out) (s : S) (w : World) (h : At b g cap toks s w) :
    Calls Tryz.prog 63 #[.pointer (some ⟨b, 0, none⟩), .int .i64 e] w fun r w' => r = .returned (.tuple #[]) ∧ At b g cap toks (s.refuse e) w' ∧ Kp b w w' := by
  have h1 := token_any b g cap toks s w h
  have f3 := fld3
  go_enter Tryz.func63, Tryz.ntmps63
  go_wp2_with (first
    | (go_at_call 62; refine h1.mono ?_; rintro r w1 ⟨rfl, b1⟩; have h2 := fail_any e s.hd.pos b g cap toks s _ (h.below b1))
    | (go_at_call 107; refine h2.mono ?_; rintro r w2 ⟨rfl, a2, k2⟩))
  go_end0
  exact ⟨rfl, a2, (Kp.of b1).trans k2⟩
set_option maxRecDepth 100000 in
set_option maxHeartbeats 1000000 in
theorem want_any (x : ByteArray) (b g cap : Nat) (toks : List Out) (s : S) (w : World) (h : At b g cap toks s w) :
    Calls Tryz.prog 156 #[.pointer (some ⟨b, 0, none⟩), .string x] w fun r w' => r = .returned (.tuple #[]) ∧ At b g cap toks (s.want x) w' ∧ Kp b w w' := by
  have h1 := sees_any x b g cap toks s w h
  cases hq : s.sees x
  · have HQ : Hid (s.want x = (s.refuse 40).pass) := by show _ = _; unfold S.want; rw [hq]; rfl
    rw [hq] at h1
    have h2 : ∀ W, At b g cap toks s W → Calls Tryz.prog 63 #[.pointer (some ⟨b, 0, none⟩), .int .i64 40] W fun r w' => r = .returned (.tuple #[]) ∧ At b g cap toks (s.refuse 40) w' ∧ Kp b W w' := fun W hW => refuse_any 40 b g cap toks s W hW
    have h3 : ∀ W, At b g cap toks (s.refuse 40) W → Calls Tryz.prog 110 #[.pointer (some ⟨b, 0, none⟩)] W fun r w' => r = .returned (.tuple #[]) ∧ At b g cap toks (s.refuse 40).pass w' ∧ Kp b W w' := fun W hW => pass_any b g cap toks _ W hW
    go_enter Tryz.func156, Tryz.ntmps156
    go_wp2_with (first
      | (go_at_call 69; refine h1.mono ?_; rintro r w1 ⟨rfl, b1⟩)
      | (go_at_call 63; refine (h2 _ (h.below b1)).mono ?_; rintro r w2 ⟨rfl, a2, k2⟩)
      | (go_at_call 110; refine (h3 _ a2).mono ?_; rintro r w3 ⟨rfl, a3, k3⟩))
    go_end0
    exact ⟨rfl, by rw [HQ.out]; exact a3, ((Kp.of b1).trans k2).trans k3⟩
  · have HQ : Hid (s.want x = s.pass) := by show _ = _; unfold S.want; rw [hq]; rfl
    rw [hq] at h1
    have h3 : ∀ W, At b g cap toks s W → Calls Tryz.prog 110 #[.pointer (some ⟨b, 0, none⟩)] W fun r w' => r = .returned (.tuple #[]) ∧ At b g cap toks s.pass w' ∧ Kp b W w' := fun W hW => pass_any b g cap toks _ W hW
    go_enter Tryz.func156, Tryz.ntmps156
    go_wp2_with (first
      | (go_at_call 69; refine h1.mono ?_; rintro r w1 ⟨rfl, b1⟩)
      | (go_at_call 110; refine (h3 _ (h.below b1)).mono ?_; rintro r w3 ⟨rfl, a3, k3⟩))
    go_end0
    exact ⟨rfl, by rw [HQ.out]; exact a3, (Kp.of b1).trans k3⟩
end Go.Proofs.YtaekbgljbgmchaaGreatDoor
