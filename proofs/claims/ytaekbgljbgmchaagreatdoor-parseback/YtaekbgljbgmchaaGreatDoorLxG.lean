/-
  tokenAt of package lex makes the token at a place that a plain Lean function on the text's bytes says.
-/
import Derived.Test.YtaekbgljbgmchaaGreatDoorLxF
namespace Go.Proofs.YtaekbgljbgmchaaGreatDoor
open Go.RowKit
namespace Lx
/-- The token at a place, or the error. -/
def tokOut (s : ByteArray) (a : Nat) : Out :=
  if h : a < s.size then (if letter s[a] then nameOut s a else if digit s[a] then numOut s a else signOut s a) else bad 10
theorem tokOut_letter (s : ByteArray) (a : Nat) (h : a < s.size) (hl : letter s[a] = true) : tokOut s a = nameOut s a := by simp [tokOut, h, hl]
theorem tokOut_digit (s : ByteArray) (a : Nat) (h : a < s.size) (hl : letter s[a] = false) (hd : digit s[a] = true) : tokOut s a = numOut s a := by simp [tokOut, h, hl, hd]
theorem tokOut_sign (s : ByteArray) (a : Nat) (h : a < s.size) (hl : letter s[a] = false) (hd : digit s[a] = false) : tokOut s a = signOut s a := by simp [tokOut, h, hl, hd]
end Lx
set_option maxHeartbeats 1000000 in
theorem tokenAt_any (s : ByteArray) (a : Nat) (w : World) (hs : s.size ≤ 20000) (ha : a < s.size) (hE : HasErr w) :
    Calls Tryz.prog 58 #[.string s, .int .i64 (a : Int)] w fun e w' => e = .returned (.tuple #[Value.agg #[.int .i64 (Lx.tokOut s a).kind, .string (Lx.tokOut s a).text, .int .i64 (Lx.tokOut s a).n, .int .i64 ((Lx.tokOut s a).pos : Int)], .int .i64 (Lx.tokOut s a).err]) ∧ Below w.heap.size w w' := by
  cases hl : Lx.letter s[a]
  · cases hd : Lx.digit s[a]
    · have HR := hid (Lx.tokOut_sign s a ha hl hd)
      go_enter Tryz.func58, Tryz.ntmps58
      go_wp2_with (first
        | (go_at_call 101; refine (isLetter_any _ _).mono ?_; rintro e w' ⟨rfl, rfl⟩)
        | (go_at_call 103; refine (isDigit_any _ _).mono ?_; rintro e w' ⟨rfl, rfl⟩)
        | (go_at_call 105; refine (signAt_any s a _ hs ha).mono ?_; rintro e w1 ⟨rfl, hbel⟩; obtain ⟨k0, k1, k2, k3, kf, klt⟩ := box4 hbel))
      refine bodyPost_ret (v := .tuple #[Value.agg #[.int .i64 (Lx.signOut s a).kind, .string (Lx.signOut s a).text, .int .i64 (Lx.signOut s a).n, .int .i64 ((Lx.signOut s a).pos : Int)], .int .i64 (Lx.signOut s a).err]) ?_ rfl ⟨by rw [HR.out], ?_⟩
      · simp [results, Tryz.results58, go_sem, k0, k1, k2, k3]
      · repeat (refine Below.setCell ?_ (by simp) _)
        exact ((Below.refl _ _).alloc (Nat.le_refl _) _).trans (hbel.mono (by simp))
    · have HR := hid (Lx.tokOut_digit s a ha hl hd)
      go_enter Tryz.func58, Tryz.ntmps58
      go_wp2_with (first
        | (go_at_call 101; refine (isLetter_any _ _).mono ?_; rintro e w' ⟨rfl, rfl⟩)
        | (go_at_call 103; refine (isDigit_any _ _).mono ?_; rintro e w' ⟨rfl, rfl⟩)
        | (go_at_call 104; refine (numberAt_any s a _ hs ha hd (by exact hE.alloc _)).mono ?_; rintro e w1 ⟨rfl, hbel⟩; obtain ⟨k0, k1, k2, k3, kf, klt⟩ := box4 hbel))
      refine bodyPost_ret (v := .tuple #[Value.agg #[.int .i64 (Lx.numOut s a).kind, .string (Lx.numOut s a).text, .int .i64 (Lx.numOut s a).n, .int .i64 ((Lx.numOut s a).pos : Int)], .int .i64 (Lx.numOut s a).err]) ?_ rfl ⟨by rw [HR.out], ?_⟩
      · simp [results, Tryz.results58, go_sem, k0, k1, k2, k3]
      · repeat (refine Below.setCell ?_ (by simp) _)
        exact ((Below.refl _ _).alloc (Nat.le_refl _) _).trans (hbel.mono (by simp))
  · have HR := hid (Lx.tokOut_letter s a ha hl)
    go_enter Tryz.func58, Tryz.ntmps58
    go_wp2_with (first
      | (go_at_call 101; refine (isLetter_any _ _).mono ?_; rintro e w' ⟨rfl, rfl⟩)
      | (go_at_call 103; refine (isDigit_any _ _).mono ?_; rintro e w' ⟨rfl, rfl⟩)
      | (go_at_call 102; refine (nameAt_any s a _ hs (by omega)).mono ?_; rintro e w1 ⟨rfl, hbel⟩; obtain ⟨k0, k1, k2, k3, kf, klt⟩ := box4 hbel))
    refine bodyPost_ret (v := .tuple #[Value.agg #[.int .i64 (Lx.nameOut s a).kind, .string (Lx.nameOut s a).text, .int .i64 (Lx.nameOut s a).n, .int .i64 ((Lx.nameOut s a).pos : Int)], .int .i64 (Lx.nameOut s a).err]) ?_ rfl ⟨by rw [HR.out], ?_⟩
    · simp [results, Tryz.results58, go_sem, k0, k1, k2, k3]
    · repeat (refine Below.setCell ?_ (by simp) _)
      exact ((Below.refl _ _).alloc (Nat.le_refl _) _).trans (hbel.mono (by simp))
end Go.Proofs.YtaekbgljbgmchaaGreatDoor
