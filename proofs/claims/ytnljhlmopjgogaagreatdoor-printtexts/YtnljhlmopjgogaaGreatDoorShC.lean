/-
  The sheet of package print: String at the builder in it, told, end, line.
-/
import Derived.Test.YtnljhlmopjgogaaGreatDoorShB
import Derived.RegionTactic
namespace Go.Proofs.YtnljhlmopjgogaaGreatDoor
open Go.RowKit
set_option maxHeartbeats 2000000 in
set_option maxRecDepth 100000 in
theorem string_some (b : Nat) (mv : Value) (o : Int) (l : List UInt8) (w : World) (h : Sheet b b mv o l w) (h0 : l ≠ []) :
    Calls Tryz.prog 39 #[.pointer (some ⟨b, 0, none⟩)] w fun e w' => e = .returned (.string ⟨l.toArray⟩) ∧ Below b w w' := by
  obtain ⟨p, hB, v, hbk, hown⟩ : ∃ p, SheetAt b b p mv o l w := h.elim (fun x => ⟨_, x⟩) (fun x => ⟨_, x⟩)
  have hl0 : l.length ≠ 0 := by simpa using h0
  obtain ⟨g, cap, cur, rfl, hbg, hg, hnc, hcm, hcs, htake⟩ : ∃ g cap cur, v = .slice (some ⟨g, 0, none⟩) l.length cap ∧ b ≤ g ∧ w.heap[g]? = some (.cells cur 5 (0, 0)) ∧ l.length ≤ cap ∧ cap ≤ maxLen ∧ cur.size = cap * 1 ∧ cur.toList.take (l.length * 1) = Lib.byteCells l := by
    rcases hown.2 with ⟨_, hz⟩ | ⟨g, cap, cur, hv, r⟩
    · exact absurd hz hl0
    · exact ⟨g, cap, cur, hv, r⟩
  have c1 : w.drew.cell? ⟨b, 1, none⟩ = some (.slice (some ⟨g, 0, none⟩) l.length cap) := by
    have : w.drew.heap[b]? = some (.cells #[p, .slice (some ⟨g, 0, none⟩) l.length cap, mv, .int .i64 o] 66 (0, 0)) := hbk
    rw [Lib.cell_of_heap this]; rfl
  have hSD : (Builtin.unsafeSliceData_ #[62] 117 #[.slice (some ⟨g, 0, none⟩) l.length cap]).run Tryz.prog w.drew = .ok (.pointer (some ⟨g, 0, none⟩)) w.drew :=
    Lib.run_unsafeSliceData_row _ _ _ _ _ _ (by omega)
  have hUS : (Builtin.unsafeString_ #[117, 3] 9 #[.pointer (some ⟨g, 0, none⟩), .int .i64 l.length]).run Tryz.prog w.drew = .ok (.string ⟨l.toArray⟩) (w.drew.freeze ⟨g, 0, none⟩ l.length) := by
    refine Lib.run_unsafeString_row w.drew 117 3 9 5 Tryz.underlying117 cellsByte g cur.size (by have hg' : w.drew.heap[g]? = some (.cells cur 5 (0, 0)) := hg; simp [World.shape?, hg']) l h0 (by omega) (by unfold maxLen at hcm; omega) ?_
    intro j x hx
    have := hown.cells (g := g) rfl j (.int .u8 x.toNat) (by simp [Lib.byteCells, hx])
    exact this
  go_enter Tryz.func39, Tryz.ntmps39
  go_wp2
  go_region
  all_goals (go_wp2; go_ret; exact ⟨rfl, Lib.below_freeze (Below.drew (Below.refl b w)) (p := ⟨g, 0, none⟩) hbg _⟩)
set_option maxHeartbeats 2000000 in
set_option maxRecDepth 100000 in
theorem string_nil (b : Nat) (p mv : Value) (o : Int) (w : World) (hbk : w.heap[b]? = some (.cells #[p, .slice none 0 0, mv, .int .i64 o] 66 (0, 0))) :
    Calls Tryz.prog 39 #[.pointer (some ⟨b, 0, none⟩)] w fun e w' => e = .returned (.string ⟨#[]⟩) ∧ Below b w w' := by
  have hUS : ∀ (W : World) (q : Option Addr), (Builtin.unsafeString_ #[117, 3] 9 #[.pointer q, .int .i64 0]).run Tryz.prog W = .ok (.string .empty) W := fun W q => Lib.run_unsafeString_none W _ _ _ q
  have c1 : w.drew.cell? ⟨b, 1, none⟩ = some (.slice none 0 0) := by
    have : w.drew.heap[b]? = some (.cells #[p, .slice none 0 0, mv, .int .i64 o] 66 (0, 0)) := hbk
    rw [Lib.cell_of_heap this]; rfl
  have hSD : (Builtin.unsafeSliceData_ #[62] 117 #[.slice none 0 0]).run Tryz.prog w.drew = .ok (.pointer none) w.drew := rfl
  go_enter Tryz.func39, Tryz.ntmps39
  go_wp2
  go_region
  all_goals (go_wp2; go_ret; exact ⟨rfl, Below.drew (Below.refl b w)⟩)
set_option maxHeartbeats 2000000 in
set_option maxRecDepth 100000 in
theorem string_noroom (b g : Nat) (p mv : Value) (o : Int) (cur : Array Value) (w : World) (hbk : w.heap[b]? = some (.cells #[p, .slice (some ⟨g, 0, none⟩) 0 0, mv, .int .i64 o] 66 (0, 0))) (hg : w.heap[g]? = some (.cells cur 5 (0, 0))) :
    Calls Tryz.prog 39 #[.pointer (some ⟨b, 0, none⟩)] w fun e w' => e = .returned (.string ⟨#[]⟩) ∧ Below b w w' := by
  have hUS : ∀ (W : World) (q : Option Addr), (Builtin.unsafeString_ #[117, 3] 9 #[.pointer q, .int .i64 0]).run Tryz.prog W = .ok (.string .empty) W := fun W q => Lib.run_unsafeString_none W _ _ _ q
  have hlt : b < w.heap.size := (Array.getElem?_eq_some_iff.1 hbk).1
  have c1 : w.drew.cell? ⟨b, 1, none⟩ = some (.slice (some ⟨g, 0, none⟩) 0 0) := by
    have : w.drew.heap[b]? = some (.cells #[p, .slice (some ⟨g, 0, none⟩) 0 0, mv, .int .i64 o] 66 (0, 0)) := hbk
    rw [Lib.cell_of_heap this]; rfl
  have hSD : (Builtin.unsafeSliceData_ #[62] 117 #[.slice (some ⟨g, 0, none⟩) 0 0]).run Tryz.prog w.drew = .ok (.pointer (some ⟨w.drew.heap.size, 0, none⟩)) (w.drew.alloc (.view ⟨g, 0, none⟩ 5)) :=
    Lib.run_unsafeSliceData_zero w.drew _ _ 5 Tryz.underlying117 ⟨g, 0, none⟩ 0 (5, cur.size) (by have hg' : w.drew.heap[g]? = some (.cells cur 5 (0, 0)) := hg; simp [World.shape?, hg'])
  have c2 : (w.drew.alloc (.view ⟨g, 0, none⟩ 5)).cell? ⟨b, 1, none⟩ = some (.slice (some ⟨g, 0, none⟩) 0 0) := by
    have : (w.drew.alloc (.view ⟨g, 0, none⟩ 5)).heap[b]? = _ := (Lib.alloc_old w.drew _ b hlt).trans hbk
    rw [Lib.cell_of_heap this]; rfl
  have c3 : (w.alloc (.view ⟨g, 0, none⟩ 5)).drew.cell? ⟨b, 1, none⟩ = some (.slice (some ⟨g, 0, none⟩) 0 0) := c2
  have c0 : w.cell? ⟨b, 1, none⟩ = some (.slice (some ⟨g, 0, none⟩) 0 0) := c1
  have hle : b ≤ w.heap.size := by omega
  go_enter Tryz.func39, Tryz.ntmps39
  go_wp2
  go_region
  all_goals (go_wp2; go_ret; exact ⟨rfl, (Below.drew (Below.refl b w)).alloc hle _⟩)
set_option maxHeartbeats 2000000 in
set_option maxRecDepth 100000 in
theorem string_room (b g cap : Nat) (p mv : Value) (o : Int) (w : World) (hc0 : cap ≠ 0) (hbk : w.heap[b]? = some (.cells #[p, .slice (some ⟨g, 0, none⟩) 0 cap, mv, .int .i64 o] 66 (0, 0))) :
    Calls Tryz.prog 39 #[.pointer (some ⟨b, 0, none⟩)] w fun e w' => e = .returned (.string ⟨#[]⟩) ∧ Below b w w' := by
  have hUS : ∀ (W : World) (q : Option Addr), (Builtin.unsafeString_ #[117, 3] 9 #[.pointer q, .int .i64 0]).run Tryz.prog W = .ok (.string .empty) W := fun W q => Lib.run_unsafeString_none W _ _ _ q
  have c1 : w.drew.cell? ⟨b, 1, none⟩ = some (.slice (some ⟨g, 0, none⟩) 0 cap) := by
    have : w.drew.heap[b]? = some (.cells #[p, .slice (some ⟨g, 0, none⟩) 0 cap, mv, .int .i64 o] 66 (0, 0)) := hbk
    rw [Lib.cell_of_heap this]; rfl
  have hSD : (Builtin.unsafeSliceData_ #[62] 117 #[.slice (some ⟨g, 0, none⟩) 0 cap]).run Tryz.prog w.drew = .ok (.pointer (some ⟨g, 0, none⟩)) w.drew :=
    Lib.run_unsafeSliceData_row _ _ _ _ _ _ hc0
  clear hc0
  go_enter Tryz.func39, Tryz.ntmps39
  go_wp2
  go_region
  all_goals (go_wp2; go_ret; exact ⟨rfl, Below.drew (Below.refl b w)⟩)
theorem string_any (b : Nat) (mv : Value) (o : Int) (l : List UInt8) (w : World) (h : Sheet b b mv o l w) :
    Calls Tryz.prog 39 #[.pointer (some ⟨b, 0, none⟩)] w fun e w' => e = .returned (.string ⟨l.toArray⟩) ∧ Below b w w' := by
  cases l with
  | cons x r => exact string_some b mv o (x :: r) w h (by simp)
  | nil =>
    obtain ⟨p, hB, v, hbk, hown⟩ : ∃ p, SheetAt b b p mv o [] w := h.elim (fun x => ⟨_, x⟩) (fun x => ⟨_, x⟩)
    rcases hown.2 with ⟨rfl, _⟩ | ⟨g, cap, cur, rfl, hbg, hg, _, _, _, _⟩
    · exact string_nil b p mv o w hbk
    · by_cases hc0 : cap = 0
      · subst hc0
        exact string_noroom b g p mv o cur w hbk hg
      · exact string_room b g cap p mv o w hc0 hbk
/-- What is told of a text: it, or that it is too long. -/
def toldOf (t : List UInt8) : Value := if 20000 < t.length then .tuple #[.string ⟨#[]⟩, .int .i64 1] else .tuple #[.string ⟨t.toArray⟩, .int .i64 0]
set_option maxHeartbeats 1000000 in
theorem told_any (b m o : Nat) (t : List UInt8) (w : World) (hs : Sh b m o t w) :
    Calls Tryz.prog 19 #[.pointer (some ⟨b, 0, none⟩)] w fun e w' => e = .returned (toldOf t) ∧ Below b w w' := by
  obtain ⟨c, hO, hSh⟩ := hs.sheet
  have hf := full_any b _ _ c w hSh
  have hS := string_any b _ _ c w hSh
  cases hd : decide (20000 < c.length)
  · rw [hd] at hf
    have hd2 := of_decide_eq_false hd
    have HT : Hid (toldOf t = .tuple #[.string ⟨c.toArray⟩, .int .i64 0]) := by
      have hct : c = t := hO.2.resolve_right hd2
      show toldOf t = _
      rw [toldOf, if_neg (by rw [← hct]; exact hd2), hct]
    clear hd hd2
    go_enter Tryz.func19, Tryz.ntmps19
    go_wp2_with (first
      | (go_at_call 38; refine hf.mono ?_; rintro e w' ⟨rfl, hw'⟩; have hw2 := hw'.symm; subst hw2)
      | (go_at_call 39; refine hS.mono ?_; rintro e w' ⟨rfl, hb⟩))
    go_ret2
    exact ⟨by rw [HT.out]; rfl, hb⟩
  · rw [hd] at hf
    have hd2 := of_decide_eq_true hd
    have HT : Hid (toldOf t = .tuple #[.string ⟨#[]⟩, .int .i64 1]) := by
      have := hO.1
      show toldOf t = _
      rw [toldOf, if_pos (by omega)]
    clear hd hd2
    go_enter Tryz.func19, Tryz.ntmps19
    go_wp2_with (go_at_call 38; refine hf.mono ?_; rintro e w' ⟨rfl, hw'⟩; have hw2 := hw'.symm; subst hw2)
    go_ret2
    exact ⟨by rw [HT.out]; rfl, Below.refl _ _⟩
theorem cat2 (a b : ByteArray) : cat [a, b] = a.data.toList ++ b.data.toList := by simp [cat]
/-- Texts that were just put into a slice are laid. -/
theorem lay_new (ps : List ByteArray) (b m o : Nat) (t : List UInt8) (w : World) (hs : Sh b m o t w) (hn : ps.length ≤ 1000) (hl : t.length + (cat ps).length ≤ 1000000000000) :
    Calls Tryz.prog 48 #[.pointer (some ⟨b, 0, none⟩), .slice (some ⟨w.heap.size, 0, none⟩) ps.length ps.length] (w.alloc (.cells (ps.map Value.string).toArray 9)) fun e w' => e = .returned (.tuple #[]) ∧ Sh b m o (t ++ cat ps) w' ∧ Kept b w w' := by
  refine (lay_any ps w.heap.size b m o t _ (hs.al _) (heap_alloc_new w _) (by have := hs.bl; omega) hn hl).mono ?_
  rintro e w' ⟨rfl, h1, h2⟩
  exact ⟨rfl, h1, ((Kept.refl b w).al (by have := hs.bl; omega) _).trans h2⟩
theorem begin_new (ps : List ByteArray) (b m o : Nat) (t : List UInt8) (w : World) (hs : Sh b m o t w) (hn : ps.length ≤ 1000) (ho : o ≤ 1000000) (hl : t.length + 2 * o + (cat ps).length ≤ 1000000000000) :
    Calls Tryz.prog 36 #[.pointer (some ⟨b, 0, none⟩), .slice (some ⟨w.heap.size, 0, none⟩) ps.length ps.length] (w.alloc (.cells (ps.map Value.string).toArray 9)) fun e w' => e = .returned (.tuple #[]) ∧ Sh b m o (t ++ (ind o ++ cat ps)) w' ∧ Kept b w w' := by
  refine (begin_any ps w.heap.size b m o t _ (hs.al _) (heap_alloc_new w _) (by have := hs.bl; omega) hn ho hl).mono ?_
  rintro e w' ⟨rfl, h1, h2⟩
  exact ⟨rfl, by rw [← List.append_assoc]; exact h1, ((Kept.refl b w).al (by have := hs.bl; omega) _).trans h2⟩
set_option maxHeartbeats 1000000 in
theorem end_any (s : ByteArray) (b m o : Nat) (t : List UInt8) (w : World) (hs : Sh b m o t w) (hl : t.length + s.size + 1 ≤ 1000000000000) :
    Calls Tryz.prog 60 #[.pointer (some ⟨b, 0, none⟩), .string s] w fun e w' => e = .returned (.tuple #[]) ∧ Sh b m o (t ++ (s.data.toList ++ [10])) w' ∧ Kept b w w' := by
  have hb := hs.bl
  have hsz : s.size = s.data.toList.length := by simp
  have hlay := lay_any [s, ⟨#[10]⟩] w.heap.size b m o t (w.alloc (.cells #[.string s, .string ⟨#[10]⟩] 9)) (hs.al _) (heap_alloc_new w _) (by omega) (by simp) (by rw [cat2]; simp; omega)
  simp only [List.length_cons, List.length_nil, Nat.zero_add, Nat.reduceAdd, cat2] at hlay
  clear hsz
  go_enter Tryz.func60, Tryz.ntmps60
  go_wp2_with (go_at_call 48; refine hlay.mono ?_; rintro e w' ⟨rfl, h1, k1⟩)
  go_end0
  exact ⟨rfl, h1, ((Kept.refl b w).al (by omega) _).trans k1⟩
set_option maxHeartbeats 1000000 in
theorem line_any (ps : List ByteArray) (g b m o : Nat) (t : List UInt8) (w : World) (hs : Sh b m o t w) (hg : PcAt w g ps) (hgb : g ≠ b) (hn : ps.length ≤ 1000) (ho : o ≤ 1000000) (hl : t.length + 2 * o + (cat ps).length + 1 ≤ 1000000000000) :
    Calls Tryz.prog 80 #[.pointer (some ⟨b, 0, none⟩), .slice (some ⟨g, 0, none⟩) ps.length ps.length] w fun e w' => e = .returned (.tuple #[]) ∧ Sh b m o (t ++ (ind o ++ cat ps ++ [10])) w' ∧ Kept b w w' := by
  have h1 := begin_any ps g b m o t w hs hg hgb hn ho (by omega)
  have hle : (t ++ ind o ++ cat ps).length = t.length + 2 * o + (cat ps).length := by simp [ind]; omega
  have h2 : ∀ w', Sh b m o (t ++ ind o ++ cat ps) w' → Calls Tryz.prog 60 #[.pointer (some ⟨b, 0, none⟩), .string ⟨#[]⟩] w' fun e w'' => e = .returned (.tuple #[]) ∧ Sh b m o (t ++ (ind o ++ cat ps ++ [10])) w'' ∧ Kept b w' w'' := fun w' h => by
    refine (end_any ⟨#[]⟩ b m o _ w' h (by show _ + 0 + 1 ≤ _; omega)).mono ?_
    rintro e w'' ⟨rfl, h3, h4⟩
    refine ⟨rfl, ?_, h4⟩
    have e : t ++ (ind o ++ cat ps ++ [10]) = t ++ ind o ++ cat ps ++ ((⟨#[]⟩ : ByteArray).data.toList ++ [10]) := by simp
    rw [e]; exact h3
  go_enter Tryz.func80, Tryz.ntmps80
  go_wp2_with (first
    | (go_at_call 36; refine h1.mono ?_; rintro e w1 ⟨rfl, s1, k1⟩)
    | (go_at_call 60; refine (h2 _ s1).mono ?_; rintro e w2 ⟨rfl, s2, k2⟩))
  go_end0
  exact ⟨rfl, s2, k1.trans k2⟩
theorem line_new (ps : List ByteArray) (b m o : Nat) (t : List UInt8) (w : World) (hs : Sh b m o t w) (hn : ps.length ≤ 1000) (ho : o ≤ 1000000) (hl : t.length + 2 * o + (cat ps).length + 1 ≤ 1000000000000) :
    Calls Tryz.prog 80 #[.pointer (some ⟨b, 0, none⟩), .slice (some ⟨w.heap.size, 0, none⟩) ps.length ps.length] (w.alloc (.cells (ps.map Value.string).toArray 9)) fun e w' => e = .returned (.tuple #[]) ∧ Sh b m o (t ++ (ind o ++ cat ps ++ [10])) w' ∧ Kept b w w' := by
  refine (line_any ps w.heap.size b m o t _ (hs.al _) (heap_alloc_new w _) (by have := hs.bl; omega) hn ho hl).mono ?_
  rintro e w' ⟨rfl, h1, h2⟩
  exact ⟨rfl, h1, ((Kept.refl b w).al (by have := hs.bl; omega) _).trans h2⟩
end Go.Proofs.YtnljhlmopjgogaaGreatDoor
