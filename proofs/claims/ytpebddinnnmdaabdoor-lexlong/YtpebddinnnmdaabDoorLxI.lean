/-
  Join of package lex, and the document's own, lay the tokens' texts one behind the other, a blank between two.
-/
import Derived.Test.YtpebddinnnmdaabDoorLxH
namespace Go.Proofs.YtpebddinnnmdaabDoor
open Go.RowKit
namespace Lx
/-- Texts one behind the other, a blank between two. -/
def joinB : List ByteArray → List UInt8
  | [] => []
  | x :: r => x.data.toList ++ r.flatMap (fun y => 32 :: y.data.toList)
theorem joinB_first (l : List ByteArray) (h : 0 < l.length) : joinB (l.take 1) = l[0].data.toList := by
  cases l with
  | nil => simp at h
  | cons x r => simp [joinB]
theorem joinB_next (l : List ByteArray) (k : Nat) (h : k < l.length) (hk : 0 < k) : joinB (l.take (k + 1)) = joinB (l.take k) ++ (32 :: l[k].data.toList) := by
  rw [List.take_succ_eq_append_getElem h]
  cases hl : l.take k with
  | nil => exfalso; have h2 := congrArg List.length hl; rw [List.length_take, List.length_nil] at h2; omega
  | cons x r => simp [joinB]
theorem joinB_take_le (l : List ByteArray) (k : Nat) : (joinB (l.take k)).length ≤ (joinB l).length := by
  cases l with
  | nil => simp
  | cons x r =>
    cases k with
    | zero => simp [joinB]
    | succ k =>
      simp only [List.take_succ_cons, joinB, List.length_append]
      have h1 : (r.flatMap (fun y => 32 :: y.data.toList)) = (r.take k).flatMap (fun y => 32 :: y.data.toList) ++ (r.drop k).flatMap (fun y => 32 :: y.data.toList) := by
        rw [← List.flatMap_append, List.take_append_drop]
      rw [h1, List.length_append]; omega
end Lx
/-- A token of this text lies at a place. -/
def TokAt (w : World) (b off : Nat) (x : ByteArray) : Prop := ∃ k n p : Int, w.cell? ⟨b, off, none⟩ = some (.int .i64 k) ∧ w.cell? ⟨b, off + 1, none⟩ = some (.string x) ∧ w.cell? ⟨b, off + 2, none⟩ = some (.int .i64 n) ∧ w.cell? ⟨b, off + 3, none⟩ = some (.int .i64 p)
/-- Tokens of these texts lie there, one behind the other. -/
def TextsAt (w : World) (b off : Nat) (l : List ByteArray) : Prop := ∀ (j : Nat) (h : j < l.length), TokAt w b (off + j * 4) l[j]
theorem kept_box {wr W1 : World} {b : Nat} {c0 c1 c2 c3 : Value} (h : Lib.OthersKept 5 (some b) (wr.alloc (.cells #[c0, c1, c2, c3] 30)) W1) (hne : b < wr.heap.size) : W1.cell? ⟨wr.heap.size, 1, none⟩ = some c1 ∧ W1.frozen? ⟨wr.heap.size, 1, none⟩ = false := by
  have h1 := h wr.heap.size (.cells #[c0, c1, c2, c3] 30 (0, 0)) (heap_alloc_new wr _) (by intro e; cases e; omega) (by intro c fz e; cases e)
  constructor
  · simp [World.cell?, h1]
  · simp [World.frozen?, h1]
theorem IsBuilderF_lt {T e : TypeId} {B b : Nat} {bs : List Value} {w : World} (h : Lib.IsBuilderF T e B b bs w) : b < w.heap.size := h.elim (fun x => x.lt) (fun x => x.lt)
theorem text_le (l : List ByteArray) (k : Nat) (h : k < l.length) : (Lx.joinB (l.take k)).length + 1 ≤ (Lx.joinB l).length + 1 ∧ l[k].size ≤ (Lx.joinB l).length := by
  have h1 := Lx.joinB_take_le l k
  have h2 := Lx.joinB_take_le l (k + 1)
  refine ⟨by omega, ?_⟩
  have e : l[k].size = l[k].data.toList.length := by simp
  by_cases hk : 0 < k
  · rw [Lx.joinB_next l k h hk] at h2
    simp only [List.length_append, List.length_cons] at h2; omega
  · obtain rfl : k = 0 := by omega
    rw [show 0 + 1 = 1 from rfl, Lx.joinB_first l h] at h2; omega
set_option maxRecDepth 100000 in
set_option maxHeartbeats 1000000 in
theorem join_any (l : List ByteArray) (b off c : Nat) (w : World) (hb : b < w.heap.size) (hn : l.length ≤ 1000000) (ht : TextsAt w b off l) (hlen : (Lx.joinB l).length ≤ 1000000000) :
    Calls Tryd.prog 9 #[.slice (some ⟨b, off, none⟩) l.length c] w fun e w' => e = .returned (.string ⟨(Lx.joinB l).toArray⟩) ∧ Below w.heap.size w w' := by
  go_enter Tryd.func9, Tryd.ntmps9
  go_wp2
  go_loopw [8] (fun i wr => ∃ k : Nat, k ≤ l.length ∧ i = .int .i64 k ∧ Lib.IsBuilderF 40 5 w.heap.size w.heap.size (Lib.byteCells (Lx.joinB (l.take k))) wr ∧ Below w.heap.size w wr)
    (fun i _ => l.length - (intOf i).toNat)
  case atStart => exact ⟨0, by omega, rfl, Lib.IsBuilderF.of (Lib.fresh_isBuilder 40 5 w), (Below.refl _ w).alloc (Nat.le_refl _) _⟩
  case round =>
    obtain ⟨k, hk, rfl, hI, hbw⟩ := hrel
    have hsz := hbw.size
    by_cases hlt : k < l.length
    · obtain ⟨tk, tn, tp, c0, c1, c2, c3⟩ := ht k hlt
      rw [← hbw.cell (p := ⟨b, _, none⟩) hb] at c0 c1 c2 c3
      have hlb := IsBuilderF_lt hI
      obtain ⟨hl1, hl2⟩ := text_le l k hlt
      by_cases hk0 : 0 < k
      · have HJ := hid (Lx.joinB_next l k hlt hk0)
        go_wp2_with (first
          | (go_at_call 14; refine (Tryd.Builder_WriteByte_k w.heap.size w.heap.size _ 32 _ (hI.elim (fun x => .inl (x.alloc _)) (fun x => .inr (x.alloc _))) (by rw [Lib.byteCells_length]; omega) (by simp; omega)).mono ?_; rintro e W1 ⟨rfl, h1, b1, k1⟩; obtain ⟨kb1, kb2⟩ := kept_box k1 hlb; have hz1 : w.heap.size ≤ W1.heap.size := (by have := b1.size; simp at this; omega))
          | (go_at_call 15; refine (Tryd.Builder_WriteString_k w.heap.size w.heap.size _ l[k] _ (.inr h1) (by rw [List.length_append, Lib.byteCells_length]; simp; omega) hz1).mono ?_; rintro e W2 ⟨rfl, h2, b2, k2⟩))
        go_roundw
        case rel =>
          refine ⟨k + 1, by omega, by go_num, ?_, ((hbw.alloc hsz _).trans b1).trans b2⟩
          rw [HJ.out]
          have e : Lib.byteCells (Lx.joinB (l.take k) ++ (32 :: l[k].data.toList)) = Lib.byteCells (Lx.joinB (l.take k)) ++ [.int .u8 32] ++ Lib.strCells l[k] := by
            simp [Lib.byteCells, Lib.strCells]
          rw [e]
          exact Or.inr h2
        case measure => simp [intOf]; omega
      · obtain rfl : k = 0 := by omega
        have HJ := hid (Lx.joinB_first l hlt)
        simp only [Nat.zero_mul, Nat.add_zero] at c0 c1 c2 c3
        go_wp2_with (go_at_call 15; refine (Tryd.Builder_WriteString_k w.heap.size w.heap.size _ l[0] _ (hI.elim (fun x => .inl (x.alloc _)) (fun x => .inr (x.alloc _))) (by rw [Lib.byteCells_length]; omega) (by simp; omega)).mono ?_; rintro e W2 ⟨rfl, h2, b2, k2⟩)
        go_roundw
        case rel =>
          refine ⟨1, by omega, by go_num, ?_, (hbw.alloc hsz _).trans b2⟩
          rw [HJ.out]
          have e : Lib.byteCells (l[0].data.toList) = Lib.byteCells (Lx.joinB (l.take 0)) ++ Lib.strCells l[0] := by
            simp [Lib.byteCells, Lib.strCells, Lx.joinB]
          rw [e]
          exact Or.inr h2
        case measure => simp [intOf]; omega
    · have hk1 : k = l.length := by omega
      rw [show l.take k = l by rw [hk1]; simp] at hI
      have hk2 : l.length ≤ k := by omega
      clear hk1
      go_wp2_with (go_at_call 16; refine (Tryd.Builder_String_any_k w.heap.size w.heap.size _ _ hI (by omega)).mono ?_; rintro e W1 ⟨rfl, _, b1, _⟩)
      go_ret
      exact ⟨rfl, hbw.trans b1⟩
end Go.Proofs.YtpebddinnnmdaabDoor
