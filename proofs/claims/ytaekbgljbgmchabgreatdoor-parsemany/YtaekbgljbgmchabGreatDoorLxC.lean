/-
  Word and Name of package lex, and the document's own, tell whether a text is a word, or a name.
-/
import Derived.Test.YtaekbgljbgmchabGreatDoorLxB
namespace Go.Proofs.YtaekbgljbgmchabGreatDoor
open Go.RowKit
namespace Lx
/-- The words of the language. -/
def words : List (List UInt8) := [[109, 111, 110, 105, 116, 111, 114], [118, 97, 114], [109, 101, 116, 104, 111, 100], [116, 104, 114, 101, 97, 100], [98, 111, 111, 108], [105, 110, 116], [116, 114, 117, 101], [102, 97, 108, 115, 101], [115, 107, 105, 112], [105, 102], [101, 108, 115, 101], [119, 104, 105, 108, 101], [108, 111, 111, 112], [99, 104, 111, 111, 115, 101], [111, 114], [115, 121, 110, 99], [99, 97, 108, 108], [119, 97, 105, 116], [110, 111, 116, 105, 102, 121], [110, 111, 116, 105, 102, 121, 97, 108, 108]]
/-- Whether a text is a word. -/
def word (s : ByteArray) : Bool := words.contains s.toList
end Lx
set_option maxHeartbeats 1000000 in
theorem word_any (s : ByteArray) (w : World) :
    Calls Tryz.prog 53 #[.string s] w fun e w' => e = .returned (.bool (Lx.word s)) ∧ w' = w := by
  go_enter Tryz.func53, Tryz.ntmps53
  go_wp2
  all_goals go_ret
  all_goals exact ⟨ret_bool (by simp only [Lx.word, Lx.words, List.contains_cons, List.contains_nil, *]; simp_all), rfl⟩
/-- Texts as a row of cells. -/
def textCells (l : List (List UInt8)) : Array Value := (l.map fun x => Value.string ⟨x.toArray⟩).toArray
/-- Block b holds these texts, one behind the other. -/
def HoldsTexts (w : World) (b : Nat) (l : List (List UInt8)) : Prop := ∀ (j : Nat) (h : j < l.length), w.cell? ⟨b, j, none⟩ = some (.string ⟨(l[j]).toArray⟩)
theorem textCells_cell (l : List (List UInt8)) (w : World) (t : TypeId) : HoldsTexts (w.alloc (.cells (textCells l) t)) w.heap.size l := by
  intro j h
  rw [World.cell?_alloc_at _ _ _ _ rfl]
  simp [textCells, h]
theorem contains_snoc (l : List (List UInt8)) (k : Nat) (x : List UInt8) (h : k < l.length) : (l.take (k + 1)).contains x = ((l.take k).contains x || x == l[k]) := by
  rw [List.take_succ_eq_append_getElem h, List.contains_append, Bool.eq_iff_iff]; simp
theorem bytes_beq_comm (a b : List UInt8) : (a == b) = (b == a) := by rw [Bool.eq_iff_iff, beq_iff_eq, beq_iff_eq]; exact eq_comm
theorem toList_mk (l : List UInt8) : (ByteArray.mk l.toArray).toList = l := by rw [ByteArray.toList_eq]
namespace Lx
/-- Whether a text is a name. -/
def name (s : ByteArray) : Bool := decide (0 < s.size) && decide (s.size ≤ 32) && (match s.data.toList with | c :: _ => letter c | [] => false) && s.data.toList.all nameByte && !word s
theorem name_zero (s : ByteArray) (h : s.size = 0) : name s = false := by simp [name, h]
theorem name_long (s : ByteArray) (h : 32 < s.size) : name s = false := by simp [name]; omega
theorem list_cons (s : ByteArray) (h : 0 < s.size) : s.data.toList = s[0] :: s.data.toList.drop 1 := by
  have := drop_cons s 0 h; simpa using this
theorem name_head (s : ByteArray) (h : 0 < s.size) (hl : letter s[0] = false) : name s = false := by
  unfold name; rw [list_cons s h]; simp [hl]
theorem name_body (s : ByteArray) (h : 0 < s.size) (h32 : s.size ≤ 32) (hl : letter s[0] = true) : name s = (s.data.toList.all nameByte && !word s) := by
  unfold name; rw [list_cons s h]; simp [hl, h, h32]
theorem all_span (s : ByteArray) : (spanEnd nameByte s 0 = s.size) ↔ s.data.toList.all nameByte = true := by
  have e : s.size = s.data.toList.length := by simp
  unfold spanEnd
  rw [e, List.drop_zero, Nat.zero_add]
  generalize s.data.toList = l
  induction l with
  | nil => simp
  | cons c r ih =>
    cases h : nameByte c
    · simp [h]
    · simp [h]; simpa using ih
end Lx
theorem all_snoc (s : ByteArray) (k : Nat) (h : k < s.size) (p : UInt8 → Bool) : (s.data.toList.take (k + 1)).all p = ((s.data.toList.take k).all p && p s[k]) := by
  rw [List.take_succ_eq_append_getElem (by simpa using h), List.all_append]; simp; rfl
theorem all_cut (s : ByteArray) (k : Nat) (h : k < s.size) (p : UInt8 → Bool) (hp : p s[k] = false) : s.data.toList.all p = false := by
  rw [List.all_eq_false]
  exact ⟨s[k], by rw [show s[k] = s.data.toList[k]'(by simpa using h) from rfl]; exact List.getElem_mem _, by simp [hp]⟩
theorem all_whole (s : ByteArray) (k : Nat) (h : s.size ≤ k) : s.data.toList.take k = s.data.toList := by
  apply List.take_of_length_le; simpa using h
end Go.Proofs.YtaekbgljbgmchabGreatDoor
