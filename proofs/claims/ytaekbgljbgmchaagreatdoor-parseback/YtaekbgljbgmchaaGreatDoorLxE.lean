/-
  signLength and signAt of package lex tell the sign at a place.
-/
import Derived.Test.YtaekbgljbgmchaaGreatDoorLxD
namespace Go.Proofs.YtaekbgljbgmchaaGreatDoor
open Go.RowKit
namespace Lx
/-- How long the sign is that begins with c, d behind it (0: none). -/
def signLen (c d : Int) : Nat :=
  if c == 38 || c == 124 then (if d == c then 2 else 0) else
  if c == 46 then (if d == 46 then 2 else 1) else
  if c == 61 || c == 33 || c == 60 || c == 62 then (if d == 61 then 2 else 1) else
  if c == 123 || c == 125 || c == 40 || c == 41 || c == 59 || c == 58 || c == 43 || c == 45 || c == 42 then 1 else 0
/-- The byte at a place, 0 behind the end. -/
def byteAt (s : ByteArray) (k : Nat) : Int := if h : k < s.size then (s[k].toNat : Int) else 0
theorem byteAt_lt (s : ByteArray) (k : Nat) (h : k < s.size) : byteAt s k = (s[k].toNat : Int) := by simp [byteAt, h]
theorem byteAt_over (s : ByteArray) (k : Nat) (h : ¬ k < s.size) : byteAt s k = 0 := by simp [byteAt, h]
end Lx
set_option maxHeartbeats 2000000 in
theorem signLength_any (s : ByteArray) (a : Nat) (w : World) (hs : s.size ≤ 20000) (ha : a < s.size) :
    Calls Tryz.prog 147 #[.string s, .int .i64 (a : Int)] w fun e w' => e = .returned (.int .i64 (Lx.signLen (Lx.byteAt s a) (Lx.byteAt s (a + 1)) : Nat)) ∧ w' = w := by
  have HC := hid (Lx.byteAt_lt s a ha)
  by_cases h1 : a + 1 < s.size
  · have HD := hid (Lx.byteAt_lt s (a + 1) h1)
    go_enter Tryz.func147, Tryz.ntmps147
    go_wp2
    all_goals go_ret
    all_goals exact ⟨ret_i64 (by rw [HC.out, HD.out]; simp [Lx.signLen, *]), rfl⟩
  · have HD := hid (Lx.byteAt_over s (a + 1) h1)
    go_enter Tryz.func147, Tryz.ntmps147
    go_wp2
    all_goals go_ret
    all_goals exact ⟨ret_i64 (by rw [HC.out, HD.out]; simp [Lx.signLen, *]), rfl⟩
namespace Lx
/-- The sign at a place. -/
def signOut (s : ByteArray) (a : Nat) : Out :=
  if signLen (byteAt s a) (byteAt s (a + 1)) = 0 then bad 10 else ⟨4, s.extract a (a + signLen (byteAt s a) (byteAt s (a + 1))), 0, a, 0⟩
theorem signLen_le (s : ByteArray) (a : Nat) (ha : a < s.size) : a + signLen (byteAt s a) (byteAt s (a + 1)) ≤ s.size := by
  by_cases h1 : a + 1 < s.size
  · have : signLen (byteAt s a) (byteAt s (a + 1)) ≤ 2 := by unfold signLen; (repeat' split) <;> omega
    omega
  · rw [byteAt_over s (a + 1) h1]
    have : signLen (byteAt s a) 0 ≤ 1 := by
      have hc : byteAt s a = (s[a].toNat : Int) := byteAt_lt s a ha
      unfold signLen
      (repeat' split) <;> simp_all <;> omega
    omega
end Lx
theorem tokenOf_at (k : Int) (s : ByteArray) (a b : Nat) (bi : Int) (w : World) (hs : s.size ≤ 20000) (hab : a ≤ b) (hb : b ≤ s.size) (hbi : bi = (b : Int)) :
    Calls Tryz.prog 142 #[.int .i64 k, .string s, .int .i64 (a : Int), .int .i64 bi] w fun e w' => e = .returned (Value.agg #[.int .i64 k, .string (s.extract a b), .int .i64 0, .int .i64 (a : Int)]) ∧ Below w.heap.size w w' := by
  subst hbi
  exact tokenOf_any k s a b w hs hab hb
set_option maxHeartbeats 1000000 in
theorem signAt_any (s : ByteArray) (a : Nat) (w : World) (hs : s.size ≤ 20000) (ha : a < s.size) :
    Calls Tryz.prog 105 #[.string s, .int .i64 (a : Int)] w fun e w' => e = .returned (.tuple #[Value.agg #[.int .i64 (Lx.signOut s a).kind, .string (Lx.signOut s a).text, .int .i64 (Lx.signOut s a).n, .int .i64 ((Lx.signOut s a).pos : Int)], .int .i64 (Lx.signOut s a).err]) ∧ Below w.heap.size w w' := by
  have hle := Lx.signLen_le s a ha
  by_cases h0 : Lx.signLen (Lx.byteAt s a) (Lx.byteAt s (a + 1)) = 0
  · have HR : Hid (Lx.signOut s a = ⟨0, ⟨#[]⟩, 0, 0, 10⟩) := by show _ = _; unfold Lx.signOut; rw [if_pos h0]; rfl
    have hb : (((Lx.signLen (Lx.byteAt s a) (Lx.byteAt s (a + 1)) : Nat) : Int) == 0) = true := by rw [beq_iff_eq]; omega
    clear h0
    go_enter Tryz.func105, Tryz.ntmps105
    go_wp2_with (go_at_call 147; refine (signLength_any s a _ hs ha).mono ?_; rintro e w' ⟨rfl, rfl⟩)
    refine bodyPost_ret (v := .tuple #[Value.agg #[.int .i64 0, .string ⟨#[]⟩, .int .i64 0, .int .i64 0], .int .i64 10]) ?_ rfl ⟨by rw [HR.out] <;> rfl, ?_⟩
    · simp [results, Tryz.results105, go_sem]
    · exact (Below.refl _ _).alloc (Nat.le_refl _) _
  · have HR : Hid (Lx.signOut s a = ⟨4, s.extract a (a + Lx.signLen (Lx.byteAt s a) (Lx.byteAt s (a + 1))), 0, a, 0⟩) := by show _ = _; unfold Lx.signOut; rw [if_neg h0]
    have hb : (((Lx.signLen (Lx.byteAt s a) (Lx.byteAt s (a + 1)) : Nat) : Int) == 0) = false := by rw [beq_eq_false_iff_ne]; omega
    clear h0
    go_enter Tryz.func105, Tryz.ntmps105
    go_wp2_with (first
      | (go_at_call 147; refine (signLength_any s a _ hs ha).mono ?_; rintro e w' ⟨rfl, rfl⟩)
      | (go_at_call 142; refine (tokenOf_at 4 s a (a + Lx.signLen (Lx.byteAt s a) (Lx.byteAt s (a + 1))) _ _ hs (by omega) hle (by omega)).mono ?_; rintro e w1 ⟨rfl, hbel⟩; obtain ⟨k0, k1, k2, k3, kf, klt⟩ := box4 hbel))
    refine bodyPost_ret (v := .tuple #[Value.agg #[.int .i64 4, .string (s.extract a (a + Lx.signLen (Lx.byteAt s a) (Lx.byteAt s (a + 1)))), .int .i64 0, .int .i64 (a : Int)], .int .i64 0]) ?_ rfl ⟨by rw [HR.out] <;> rfl, ?_⟩
    · simp [results, Tryz.results105, go_sem, k0, k1, k2, k3]
    · repeat (refine Below.setCell ?_ (by simp) _)
      exact ((Below.refl _ _).alloc (Nat.le_refl _) _).trans (hbel.mono (by simp))
end Go.Proofs.YtaekbgljbgmchaaGreatDoor
