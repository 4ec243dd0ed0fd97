/-
  Word and Name of package lex, and the document's own, tell whether a text is a word, or a name.
-/
import Derived.Test.YtaekbgljbgmchaaGreatDoorLxB
namespace Go.Proofs.YtaekbgljbgmchaaGreatDoor
open Go.RowKit
namespace Lx
/-- The words of the language. -/
def words : List (List UInt8) := [[109, 111, 110, 105, 116, 111, 114], [118, 97, 114], [109, 101, 116, 104, 111, 100], [116, 104, 114, 101, 97, 100], [98, 111, 111, 108], [105, 110, 116], [116, 114, 117, 101], [102, 97, 108, 115, 101], [115, 107, 105, 112], [105, 102], [101, 108, 115, 101], [119, 104, 105, 108, 101], [108, 111, 111, 112], [99, 104, 111, 111, 115, 101], [111, 114], [115, 121, 110, 99], [99, 97, 108, 108], [119, 97, 105, 116], [110, 111, 116, 105, 102, 121], [110, 111, 116, 105, 102, 121, 97, 108, 108]]
/-- Whether a text is a word. -/
def word (s : ByteArray) : Bool := words.contains s.toList
end Lx
set_option maxHeartbeats 1000000 in
theorem word_any (s : ByteArray) (w : World) :
    Calls Tryz.prog 144 #[.string s] w fun e w' => e = .returned (.bool (Lx.word s)) ∧ w' = w := by
  go_enter Tryz.func144, Tryz.ntmps144
  go_wp2
  all_goals go_ret
  all_goals exact ⟨ret_bool (by simp only [Lx.word, Lx.words, List.contains_cons, List.contains_nil, *]; simp_all), rfl⟩
/-- Texts as a row of cells. -/
def textCells (l : List (List UInt8)) : Array Value := (l.map fun x => Value.string ⟨x.toArray⟩).toArray
set_option maxHeartbeats 1000000 in
theorem words_any (w : World) :
    Calls Tryz.prog 152 #[] w fun e w' => e = .returned (.slice (some ⟨w.heap.size, 0, none⟩) 20 20) ∧ w' = w.alloc (.cells (textCells Lx.words) 9) := by
  go_enter Tryz.func152, Tryz.ntmps152
  go_wp2
  go_ret
  exact ⟨rfl, rfl⟩
/-- Block b holds these texts, one behind the other. -/
def HoldsTexts (w : World) (b : Nat) (l : List (List UInt8)) : Prop := ∀ (j : Nat) (h : j < l.length), w.cell? ⟨b, j, none⟩ = some (.string ⟨(l[j]).toArray⟩)
theorem textCells_cell (l : List (List UInt8)) (w : World) (t : TypeId) : HoldsTexts (w.alloc (.cells (textCells l) t)) w.heap.size l := by
  intro j h
  rw [World.cell?_alloc_at _ _ _ _ rfl]
  simp [textCells, h]
theorem words_row (w : World) :
    Calls Tryz.prog 152 #[] w fun e w' => ∃ b, e = .returned (.slice (some ⟨b, 0, none⟩) 20 20) ∧ HoldsTexts w' b Lx.words ∧ Below w.heap.size w w' := by
  refine (words_any w).mono ?_
  rintro e w' ⟨rfl, rfl⟩
  exact ⟨_, rfl, textCells_cell _ _ _, (Below.refl _ _).alloc (Nat.le_refl _) _⟩
theorem contains_snoc (l : List (List UInt8)) (k : Nat) (x : List UInt8) (h : k < l.length) : (l.take (k + 1)).contains x = ((l.take k).contains x || x == l[k]) := by
  rw [List.take_succ_eq_append_getElem h, List.contains_append, Bool.eq_iff_iff]; simp
theorem bytes_beq_comm (a b : List UInt8) : (a == b) = (b == a) := by rw [Bool.eq_iff_iff, beq_iff_eq, beq_iff_eq]; exact eq_comm
theorem toList_mk (l : List UInt8) : (ByteArray.mk l.toArray).toList = l := by rw [ByteArray.toList_eq]
set_option maxHeartbeats 400000 in
theorem refWord_any (s : ByteArray) (w : World) :
    Calls Tryz.prog 113 #[.string s] w fun e w' => e = .returned (.bool (Lx.word s)) ∧ Below w.heap.size w w' := by
  go_enter Tryz.func113, Tryz.ntmps113
  go_wp2_with (go_at_call 152; refine (words_row _).mono ?_; rintro e w1 ⟨b, rfl, hrow, hb⟩)
  go_loop [4] (fun i => ∃ k : Nat, k ≤ 20 ∧ i = .int .i64 k ∧ (Lx.words.take k).contains s.toList = false) (fun i => 20 - (intOf i).toNat)
  case atStart => exact ⟨0, by omega, rfl, rfl⟩
  case round =>
    obtain ⟨k, hk, rfl, hq⟩ := hrel
    have HQ := hid hq
    clear hq
    by_cases hlt : k < 20
    · have hl : k < Lx.words.length := hlt
      have hc := hrow k hl
      have hs := contains_snoc Lx.words k s.toList hl
      have ht := toList_mk (Lx.words[k])
      have HS := hid hs
      clear hs
      generalize hx : (ByteArray.mk (Lx.words[k]).toArray) = x at hc ht
      clear hx
      have HT : Hid (x.toList = Lx.words[k]) := ht
      clear ht
      cases he : (x.toList == s.toList)
      · go_wp2
        go_round
        case rel => exact ⟨k + 1, by omega, by go_num, by rw [HS.out, HQ.out, ← HT.out, bytes_beq_comm, he]; rfl⟩
        case measure => simp [intOf]; omega
      · go_wp2
        go_ret
        refine ⟨ret_bool ?_, hb⟩
        have h1 : (Lx.words.take (k + 1)).contains s.toList = true := by rw [HS.out, HQ.out, ← HT.out, bytes_beq_comm, he]; rfl
        have h2 := List.mem_of_mem_take (List.contains_iff_mem.1 h1)
        exact (List.contains_iff_mem.2 h2).symm
    · have hk20 : k = 20 := by omega
      go_wp2
      go_ret
      refine ⟨ret_bool ?_, hb⟩
      have := HQ.out
      rw [hk20] at this
      exact this.symm
namespace Lx
/-- Whether a text is a name. -/
def name (s : ByteArray) : Bool := decide (0 < s.size) && decide (s.size ≤ 32) && (match s.data.toList with | c :: _ => letter c | [] => false) && s.data.toList.all nameByte && !word s
theorem name_zero (s : ByteArray) (h : s.size = 0) : name s = false := by simp [name, h]
theorem name_long (s : ByteArray) (h : 32 < s.size) : name s = false := by simp [name]; omega
theorem list_cons (s : ByteArray) (h : 0 < s.size) : s.data.toList = s[0] :: s.data.toList.drop 1 := by
  have := drop_cons s 0 h; simpa using this
theorem name_head (s : ByteArray) (h : 0 < s.size) (hl : letter s[0] = false) : name s = false := by
  unfold name; rw [list_cons s h]; simp [hl]
theorem name_body (s : ByteArray) (h : 0 < s.size) (h32 : s.size ≤ 32) (hl : letter s[0] = true) : name s = (s.data.toList.all nameByte && !word s) := by
  unfold name; rw [list_cons s h]; simp [hl, h, h32]
theorem all_span (s : ByteArray) : (spanEnd nameByte s 0 = s.size) ↔ s.data.toList.all nameByte = true := by
  have e : s.size = s.data.toList.length := by simp
  unfold spanEnd
  rw [e, List.drop_zero, Nat.zero_add]
  generalize s.data.toList = l
  induction l with
  | nil => simp
  | cons c r ih =>
    cases h : nameByte c
    · simp [h]
    · simp [h]; simpa using ih
end Lx
set_option maxHeartbeats 400000 in
theorem name_any (s : ByteArray) (w : World) (hs : s.size ≤ 140737488351232) :
    Calls Tryz.prog 137 #[.string s] w fun e w' => e = .returned (.bool (Lx.name s)) ∧ w' = w := by
  by_cases h0 : s.size = 0
  · have HN := hid (Lx.name_zero s h0)
    go_enter Tryz.func137, Tryz.ntmps137
    go_wp2
    go_ret
    exact ⟨ret_bool HN.out.symm, rfl⟩
  · have hb0 : ((s.size : Int) == 0) = false := by rw [beq_eq_false_iff_ne]; omega
    have hp : 0 < s.size := by omega
    by_cases h32 : 32 < s.size
    · have HN := hid (Lx.name_long s h32)
      go_enter Tryz.func137, Tryz.ntmps137
      go_wp2
      go_ret
      exact ⟨ret_bool HN.out.symm, rfl⟩
    · cases hl : Lx.letter s[0]
      · have HN := hid (Lx.name_head s hp hl)
        go_enter Tryz.func137, Tryz.ntmps137
        go_wp2_with (go_at_call 101; refine (isLetter_any _ _).mono ?_; rintro e w' ⟨rfl, rfl⟩)
        go_ret
        exact ⟨ret_bool HN.out.symm, rfl⟩
      · have HN := hid (Lx.name_body s hp (by omega) hl)
        have HA := hid (Lx.all_span s)
        by_cases hq : Lx.spanEnd Lx.nameByte s 0 = s.size
        · have hqb : (((Lx.spanEnd Lx.nameByte s 0 : Nat) : Int) == (s.size : Int)) = true := by rw [beq_iff_eq]; omega
          have HQ := hid hq
          clear hq
          go_enter Tryz.func137, Tryz.ntmps137
          go_wp2_with (first | (go_at_call 101; refine (isLetter_any _ _).mono ?_; rintro e w' ⟨rfl, rfl⟩) | (go_at_call 143; refine (nameEnd_any s 0 _ hs (by omega)).mono ?_; rintro e w' ⟨rfl, rfl⟩) | (go_at_call 144; refine (word_any _ _).mono ?_; rintro e w' ⟨rfl, rfl⟩))
          go_ret
          exact ⟨ret_bool (by rw [HN.out, HA.out.1 HQ.out]; rfl), rfl⟩
        · have hqb : (((Lx.spanEnd Lx.nameByte s 0 : Nat) : Int) == (s.size : Int)) = false := by rw [beq_eq_false_iff_ne]; omega
          have HQ := hid hq
          clear hq
          go_enter Tryz.func137, Tryz.ntmps137
          go_wp2_with (first | (go_at_call 101; refine (isLetter_any _ _).mono ?_; rintro e w' ⟨rfl, rfl⟩) | (go_at_call 143; refine (nameEnd_any s 0 _ hs (by omega)).mono ?_; rintro e w' ⟨rfl, rfl⟩) | (go_at_call 144; refine (word_any _ _).mono ?_; rintro e w' ⟨rfl, rfl⟩))
          go_ret
          refine ⟨ret_bool ?_, rfl⟩
          cases ha : s.data.toList.all Lx.nameByte
          · rw [HN.out, ha]; rfl
          · exact absurd (HA.out.2 ha) HQ.out
theorem all_snoc (s : ByteArray) (k : Nat) (h : k < s.size) (p : UInt8 → Bool) : (s.data.toList.take (k + 1)).all p = ((s.data.toList.take k).all p && p s[k]) := by
  rw [List.take_succ_eq_append_getElem (by simpa using h), List.all_append]; simp; rfl
theorem all_cut (s : ByteArray) (k : Nat) (h : k < s.size) (p : UInt8 → Bool) (hp : p s[k] = false) : s.data.toList.all p = false := by
  rw [List.all_eq_false]
  exact ⟨s[k], by rw [show s[k] = s.data.toList[k]'(by simpa using h) from rfl]; exact List.getElem_mem _, by simp [hp]⟩
theorem all_whole (s : ByteArray) (k : Nat) (h : s.size ≤ k) : s.data.toList.take k = s.data.toList := by
  apply List.take_of_length_le; simpa using h
end Go.Proofs.YtaekbgljbgmchaaGreatDoor
