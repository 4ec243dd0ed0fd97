/-
  tokenOf, nameAt, signLength and signAt of package lex make the tokens that plain Lean functions on the text's bytes say.
-/
import Derived.Test.YtaekbgljbgmchaaGreatDoorLxC
import Derived.Test.YtaekbgljbgmchaaGreatDoorShelf
namespace Go.Proofs.YtaekbgljbgmchaaGreatDoor
open Go.RowKit
namespace Lx
/-- What is told at a place: a token's four parts, and an error's number (0: none; then the parts are the token's, else zeros). -/
structure Out where
  kind : Int
  text : ByteArray
  n : Int
  pos : Nat
  err : Int
/-- An error. -/
def bad (e : Int) : Out := ⟨0, ⟨#[]⟩, 0, 0, e⟩
end Lx
theorem bcell {W w1 : World} (hb : Below W.heap.size W w1) : (∀ b o, b < W.heap.size → w1.cell? ⟨b, o, none⟩ = W.cell? ⟨b, o, none⟩) ∧ (∀ b o, b < W.heap.size → w1.frozen? ⟨b, o, none⟩ = W.frozen? ⟨b, o, none⟩) :=
  ⟨fun b o h => hb.cell (p := ⟨b, o, none⟩) h, fun b o h => hb.frozen (p := ⟨b, o, none⟩) h⟩
theorem box4 {w w1 : World} {c0 c1 c2 c3 : Value} {T : TypeId} (hb : Below (w.alloc (.cells #[c0, c1, c2, c3] T)).heap.size (w.alloc (.cells #[c0, c1, c2, c3] T)) w1) :
    w1.cell? ⟨w.heap.size, 0, none⟩ = some c0 ∧ w1.cell? ⟨w.heap.size, 1, none⟩ = some c1 ∧ w1.cell? ⟨w.heap.size, 2, none⟩ = some c2 ∧ w1.cell? ⟨w.heap.size, 3, none⟩ = some c3 ∧
    (∀ o, w1.frozen? ⟨w.heap.size, o, none⟩ = false) ∧ w.heap.size < w1.heap.size := by
  obtain ⟨hc, hf⟩ := bcell hb
  have hz := hb.size
  simp at hz
  refine ⟨?_, ?_, ?_, ?_, fun o => ?_, by omega⟩
  · rw [hc _ _ (by simp), World.cell?_alloc_at _ _ _ _ rfl]; rfl
  · rw [hc _ _ (by simp), World.cell?_alloc_at _ _ _ _ rfl]; rfl
  · rw [hc _ _ (by simp), World.cell?_alloc_at _ _ _ _ rfl]; rfl
  · rw [hc _ _ (by simp), World.cell?_alloc_at _ _ _ _ rfl]; rfl
  · rw [hf _ _ (by simp)]; simp
theorem clone_any (s : ByteArray) (w : World) (hlim : s.size ≤ 281474976710656) :
    Calls Tryz.prog 169 #[.string s] w fun e w' => e = .returned (.string s) ∧ Below w.heap.size w w' := by
  go_enter Tryz.func169, Tryz.ntmps169
  go_wp2_with (go_at_call 187; refine (Tryz.stringslite_Clone _ _ hlim).mono ?_; rintro e w' ⟨rfl, hb⟩)
  go_ret
  exact ⟨rfl, hb⟩
set_option maxHeartbeats 400000 in
theorem tokenOf_any (k : Int) (s : ByteArray) (a b : Nat) (w : World) (hs : s.size ≤ 20000) (hab : a ≤ b) (hb : b ≤ s.size) :
    Calls Tryz.prog 142 #[.int .i64 k, .string s, .int .i64 (a : Int), .int .i64 (b : Int)] w fun e w' => e = .returned (Value.agg #[.int .i64 k, .string (s.extract a b), .int .i64 0, .int .i64 (a : Int)]) ∧ Below w.heap.size w w' := by
  have hz : (s.extract a b).size ≤ 281474976710656 := by simp; omega
  go_enter Tryz.func142, Tryz.ntmps142
  go_wp2_with (go_at_call 169; refine (clone_any _ _ hz).mono ?_; rintro e w1 ⟨rfl, hbel⟩; obtain ⟨k0, k1, k2, k3, kf, klt⟩ := box4 hbel)
  refine bodyPost_ret (v := Value.agg #[.int .i64 k, .string (s.extract a b), .int .i64 0, .int .i64 (a : Int)]) ?_ rfl ⟨rfl, ?_⟩
  · simp [results, Tryz.results142, go_sem, k0, k1, k2, k3]
  · repeat (refine Below.setCell ?_ (by simp) _)
    exact ((Below.refl _ _).alloc (Nat.le_refl _) _).trans (hbel.mono (by simp))
namespace Lx
/-- The name or word at a place. -/
def nameOut (s : ByteArray) (a : Nat) : Out :=
  if word (s.extract a (spanEnd nameByte s a)) then ⟨3, s.extract a (spanEnd nameByte s a), 0, a, 0⟩ else
  if 32 < (s.extract a (spanEnd nameByte s a)).size then bad 12 else ⟨1, s.extract a (spanEnd nameByte s a), 0, a, 0⟩
end Lx
set_option maxHeartbeats 1000000 in
theorem nameAt_any (s : ByteArray) (a : Nat) (w : World) (hs : s.size ≤ 20000) (ha : a ≤ s.size) :
    Calls Tryz.prog 102 #[.string s, .int .i64 (a : Int)] w fun e w' => e = .returned (.tuple #[Value.agg #[.int .i64 (Lx.nameOut s a).kind, .string (Lx.nameOut s a).text, .int .i64 (Lx.nameOut s a).n, .int .i64 ((Lx.nameOut s a).pos : Int)], .int .i64 (Lx.nameOut s a).err]) ∧ Below w.heap.size w w' := by
  have hle := Lx.spanEnd_le Lx.nameByte s a ha
  have hge := Lx.le_spanEnd Lx.nameByte s a
  cases hw : Lx.word (s.extract a (Lx.spanEnd Lx.nameByte s a))
  · by_cases h32 : 32 < (s.extract a (Lx.spanEnd Lx.nameByte s a)).size
    · have h33 : 32 < Lx.spanEnd Lx.nameByte s a - a := by have := h32; simp at this; omega
      have HR : Hid (Lx.nameOut s a = ⟨0, ⟨#[]⟩, 0, 0, 12⟩) := by show _ = _; unfold Lx.nameOut; rw [hw, if_neg (by simp), if_pos h32]; rfl
      clear h32
      go_enter Tryz.func102, Tryz.ntmps102
      go_wp2_with (first
        | (go_at_call 143; refine (nameEnd_any s a _ (by omega) ha).mono ?_; rintro e w' ⟨rfl, rfl⟩)
        | (go_at_call 142; refine (tokenOf_any 1 s a _ _ hs hge hle).mono ?_; rintro e w1 ⟨rfl, hbel⟩; obtain ⟨k0, k1, k2, k3, kf, klt⟩ := box4 hbel)
        | (go_at_call 144; refine (word_any _ _).mono ?_; rintro e w' ⟨rfl, rfl⟩))
      refine bodyPost_ret (v := .tuple #[Value.agg #[.int .i64 0, .string ⟨#[]⟩, .int .i64 0, .int .i64 0], .int .i64 12]) ?_ rfl ⟨by rw [HR.out] <;> rfl, ?_⟩
      · simp [results, Tryz.results102, go_sem, klt, k0, k1, k2, k3]
      · refine Below.alloc ?_ (by simp; omega) _
        repeat (refine Below.setCell ?_ (by simp) _)
        exact ((Below.refl _ _).alloc (Nat.le_refl _) _).trans (hbel.mono (by simp))
    · have h33 : Lx.spanEnd Lx.nameByte s a - a ≤ 32 := by have := h32; simp at this; omega
      have HR : Hid (Lx.nameOut s a = ⟨1, (s.extract a (Lx.spanEnd Lx.nameByte s a)), 0, a, 0⟩) := by show _ = _; unfold Lx.nameOut; rw [hw, if_neg (by simp), if_neg h32]
      clear h32
      go_enter Tryz.func102, Tryz.ntmps102
      go_wp2_with (first
        | (go_at_call 143; refine (nameEnd_any s a _ (by omega) ha).mono ?_; rintro e w' ⟨rfl, rfl⟩)
        | (go_at_call 142; refine (tokenOf_any 1 s a _ _ hs hge hle).mono ?_; rintro e w1 ⟨rfl, hbel⟩; obtain ⟨k0, k1, k2, k3, kf, klt⟩ := box4 hbel)
        | (go_at_call 144; refine (word_any _ _).mono ?_; rintro e w' ⟨rfl, rfl⟩))
      refine bodyPost_ret (v := .tuple #[Value.agg #[.int .i64 1, .string (s.extract a (Lx.spanEnd Lx.nameByte s a)), .int .i64 0, .int .i64 (a : Int)], .int .i64 0]) ?_ rfl ⟨by rw [HR.out] <;> rfl, ?_⟩
      · simp [results, Tryz.results102, go_sem, klt, k0, k1, k2, k3]
      · refine Below.alloc ?_ (by simp; omega) _
        repeat (refine Below.setCell ?_ (by simp) _)
        exact ((Below.refl _ _).alloc (Nat.le_refl _) _).trans (hbel.mono (by simp))
  · have HR : Hid (Lx.nameOut s a = ⟨3, (s.extract a (Lx.spanEnd Lx.nameByte s a)), 0, a, 0⟩) := by show _ = _; unfold Lx.nameOut; rw [hw, if_pos rfl]
    go_enter Tryz.func102, Tryz.ntmps102
    go_wp2_with (first
      | (go_at_call 143; refine (nameEnd_any s a _ (by omega) ha).mono ?_; rintro e w' ⟨rfl, rfl⟩)
      | (go_at_call 142; refine (tokenOf_any 1 s a _ _ hs hge hle).mono ?_; rintro e w1 ⟨rfl, hbel⟩; obtain ⟨k0, k1, k2, k3, kf, klt⟩ := box4 hbel)
      | (go_at_call 144; refine (word_any _ _).mono ?_; rintro e w' ⟨rfl, rfl⟩))
    refine bodyPost_ret (v := .tuple #[Value.agg #[.int .i64 3, .string (s.extract a (Lx.spanEnd Lx.nameByte s a)), .int .i64 0, .int .i64 (a : Int)], .int .i64 0]) ?_ rfl ⟨by rw [HR.out] <;> rfl, ?_⟩
    · simp [results, Tryz.results102, go_sem, klt, k0, k1, k2, k3]
    · refine Below.alloc ?_ (by simp; omega) _
      repeat (refine Below.setCell ?_ (by simp) _)
      exact ((Below.refl _ _).alloc (Nat.le_refl _) _).trans (hbel.mono (by simp))
end Go.Proofs.YtaekbgljbgmchaaGreatDoor
