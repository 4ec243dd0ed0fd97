/-
  A sheet of package print, which embeds a strings.Builder: how it lies in memory; copyCheck, Len, WriteString and String at the builder in it.
-/
import Derived.Test.YtnljhlmopjgogaaGreatDoorTrB
import Derived.Shelf.Strings.BuilderK
namespace Go.Proofs.YtnljhlmopjgogaaGreatDoor
open Go.RowKit
/-- A sheet in block b, from B on: the builder's own pointer pp, the signs mv, so many open ones, the bytes that were written. -/
def SheetAt (B b : Nat) (pp mv : Value) (o : Int) (c : List UInt8) (w : World) : Prop :=
  B ≤ b ∧ ∃ v, w.heap[b]? = some (.cells #[pp, v, mv, .int .i64 o] 66 (0, 0)) ∧ w.ownsRow B 5 1 v c.length (Lib.byteCells c)
/-- .. whether it has been written to or not. -/
def Sheet (B b : Nat) (mv : Value) (o : Int) (c : List UInt8) (w : World) : Prop := SheetAt B b (.pointer none) mv o c w ∨ SheetAt B b (.pointer (some ⟨b, 0, none⟩)) mv o c w
theorem SheetAt.lt {B b : Nat} {pp mv : Value} {o : Int} {c : List UInt8} {w : World} (h : SheetAt B b pp mv o c w) : b < w.heap.size := by
  obtain ⟨_, v, hb, _⟩ := h
  exact (Array.getElem?_eq_some_iff.1 hb).1
theorem Sheet.lt {B b : Nat} {mv : Value} {o : Int} {c : List UInt8} {w : World} (h : Sheet B b mv o c w) : b < w.heap.size := h.elim (·.lt) (·.lt)
theorem Sheet.le {B b : Nat} {mv : Value} {o : Int} {c : List UInt8} {w : World} (h : Sheet B b mv o c w) : B ≤ b := h.elim (·.1) (·.1)
theorem Sheet.cells {B b : Nat} {mv : Value} {o : Int} {c : List UInt8} {w : World} (h : Sheet B b mv o c w) : w.cell? ⟨b, 2, none⟩ = some mv ∧ w.cell? ⟨b, 3, none⟩ = some (.int .i64 o) ∧ w.frozen? ⟨b, 3, none⟩ = false := by
  rcases h with ⟨_, v, hb, _⟩ | ⟨_, v, hb, _⟩ <;> exact ⟨by rw [Lib.cell_of_heap hb]; rfl, by rw [Lib.cell_of_heap hb]; rfl, Lib.frozen_of_heap hb 3⟩
theorem SheetAt.below {B b : Nat} {pp mv : Value} {o : Int} {c : List UInt8} {w w' : World} (h : SheetAt B b pp mv o c w) (hb : Below w.heap.size w w') : SheetAt B b pp mv o c w' := by
  obtain ⟨hB, v, hbk, hown⟩ := h
  refine ⟨hB, v, (hb.block b (Array.getElem?_eq_some_iff.1 hbk).1).trans hbk, hown.kept (row := none) ⟨hb.os, hb.tape, hb.output, hb.size, fun k hk _ => hb.block k hk⟩ ?_⟩
  cases v.ownBlock <;> simp
theorem Sheet.below {B b : Nat} {mv : Value} {o : Int} {c : List UInt8} {w w' : World} (h : Sheet B b mv o c w) (hb : Below w.heap.size w w') : Sheet B b mv o c w' := h.elim (fun x => .inl (x.below hb)) (fun x => .inr (x.below hb))
theorem Sheet.alloc {B b : Nat} {mv : Value} {o : Int} {c : List UInt8} {w : World} (h : Sheet B b mv o c w) (x : Obj) : Sheet B b mv o c (w.alloc x) := h.below ((Below.refl _ w).alloc (Nat.le_refl _) x)
theorem SheetAt.own {B b : Nat} {pp mv v : Value} {o : Int} {c : List UInt8} {w : World} (hb : w.heap[b]? = some (.cells #[pp, v, mv, .int .i64 o] 66 (0, 0))) (hown : w.ownsRow B 5 1 v c.length (Lib.byteCells c)) : v.ownBlock ≠ some b := Lib.ownBlock_ne hown hb (by decide)
/-- The number of open ones is set. -/
theorem SheetAt.put {B b : Nat} {pp mv : Value} {o : Int} {c : List UInt8} {w : World} (h : SheetAt B b pp mv o c w) (o' : Int) : SheetAt B b pp mv o' c (w.setCell ⟨b, 3, none⟩ (.int .i64 o')) := by
  obtain ⟨hB, v, hbk, hown⟩ := h
  refine ⟨hB, v, by simp [World.setCell, Array.getElem?_modify, hbk], ?_⟩
  exact hown.kept (row := some b) ⟨rfl, rfl, rfl, by simp [World.setCell], fun k _ hk => Below.heap_setCell _ _ _ _ (fun e => hk (by simp [e]))⟩ (Or.inr (SheetAt.own hbk hown))
theorem Sheet.put {B b : Nat} {mv : Value} {o : Int} {c : List UInt8} {w : World} (h : Sheet B b mv o c w) (o' : Int) : Sheet B b mv o' c (w.setCell ⟨b, 3, none⟩ (.int .i64 o')) := h.elim (fun x => .inl (x.put o')) (fun x => .inr (x.put o'))
theorem sizeBuilder : (Tryz.prog.info? 64).map (·.size) = some 2 := by kernel_rfl
theorem liesBuilder : liesAt Tryz.prog Tryz.prog.depth 66 (4 / Tryz.prog.cellsOf 66) 0 64 1 = true := by kernel_rfl
theorem infoByte : (Tryz.prog.info? 5).map (fun i => (i.zero, i.size, i.bytes)) = some (some (.int .u8 0), 1, 1) := by kernel_rfl
theorem cellsByte : Tryz.prog.cellsOf 5 = 1 := by kernel_rfl
set_option maxHeartbeats 1000000 in
set_option maxRecDepth 100000 in
theorem copyCheck_used (b : Nat) (w : World) (h0 : w.cell? ⟨b, 0, none⟩ = some (.pointer (some ⟨b, 0, none⟩))) :
    Calls Tryz.prog 82 #[.pointer (some ⟨b, 0, none⟩)] w fun e w' => e = .returned (.tuple #[]) ∧ w' = w := by
  obtain ⟨j, hj, _⟩ := Option.map_eq_some_iff.1 sizeBuilder
  go_enter Tryz.func82, Tryz.ntmps82
  go_wp2
  rw [Lib.run_neq_ptr_same w _ Tryz.underlying61 hj]
  go_wp2
  go_end0
  exact ⟨rfl, rfl⟩
set_option maxHeartbeats 1000000 in
set_option maxRecDepth 100000 in
theorem copyCheck_fresh (b : Nat) (w : World) (h0 : w.cell? ⟨b, 0, none⟩ = some (.pointer none)) (hsh : w.shape? b = some (66, 4)) (hfz : w.frozen? ⟨b, 0, none⟩ = false) :
    Calls Tryz.prog 82 #[.pointer (some ⟨b, 0, none⟩)] w fun e w' => e = .returned (.tuple #[]) ∧ w' = w.setCell ⟨b, 0, none⟩ (.pointer (some ⟨b, 0, none⟩)) := by
  obtain ⟨j, hj, hjs⟩ := Option.map_eq_some_iff.1 sizeBuilder
  go_enter Tryz.func82, Tryz.ntmps82
  go_wp2
  rw [Lib.run_to_unsafe w ⟨b, 0, none⟩ Tryz.underlying61 Tryz.underlying142 hj (by rw [hjs]; decide) hsh (Nat.zero_lt_succ 3)]
  simp only [Result.andThen]
  rw [Oper.upon_value]
  go_wp2
  rw [run_callFunc_extern Tryz.func95 (by kernel_rfl) (by kernel_rfl) (by kernel_rfl) (e := Extern.AbiNoEscape.same) (by kernel_rfl)]
  rw [Lib.run_noEscape]
  simp only [Result.andThen]
  rw [Oper.upon_value]
  go_wp2
  rw [Lib.run_from_unsafe w ⟨b, 0, none⟩ Tryz.underlying142 Tryz.underlying61 hj hsh liesBuilder]
  simp only [Result.andThen]
  rw [Oper.upon_value]
  go_wp2
  go_end0
  exact ⟨rfl, rfl⟩
theorem copyCheck_any (B b : Nat) (mv : Value) (o : Int) (c : List UInt8) (w : World) (h : Sheet B b mv o c w) :
    Calls Tryz.prog 82 #[.pointer (some ⟨b, 0, none⟩)] w fun e w' => e = .returned (.tuple #[]) ∧ SheetAt B b (.pointer (some ⟨b, 0, none⟩)) mv o c w' ∧ Below B w w' ∧ Lib.OthersKept 5 (some b) w w' := by
  rcases h with h | h
  · obtain ⟨hB, v, hbk, hown⟩ := h
    refine (copyCheck_fresh b w (by rw [Lib.cell_of_heap hbk]; rfl) (by simp [World.shape?, hbk]) (Lib.frozen_of_heap hbk 0)).mono ?_
    rintro e w' ⟨rfl, rfl⟩
    refine ⟨rfl, ⟨hB, v, by simp [World.setCell, Array.getElem?_modify, hbk], ?_⟩, (Below.refl B w).setCell (p := ⟨b, 0, none⟩) hB _, (Lib.OthersKept.refl 5 (some b) w).setCell ⟨b, 0, none⟩ rfl _⟩
    exact hown.kept (row := some b) ⟨rfl, rfl, rfl, by simp [World.setCell], fun k _ hk => Below.heap_setCell _ _ _ _ (fun e => hk (by simp [e]))⟩ (Or.inr (SheetAt.own hbk hown))
  · obtain ⟨hB, v, hbk, hown⟩ := h
    refine (copyCheck_used b w (by rw [Lib.cell_of_heap hbk]; rfl)).mono ?_
    rintro e w' ⟨rfl, rfl⟩
    exact ⟨rfl, ⟨hB, v, hbk, hown⟩, Below.refl B _, Lib.OthersKept.refl 5 (some b) _⟩
set_option maxHeartbeats 1000000 in
set_option maxRecDepth 100000 in
theorem len_any (B b : Nat) (mv : Value) (o : Int) (c : List UInt8) (w : World) (h : Sheet B b mv o c w) :
    Calls Tryz.prog 65 #[.pointer (some ⟨b, 0, none⟩)] w fun e w' => e = .returned (.int .i64 (c.length : Nat)) ∧ w' = w := by
  obtain ⟨pp, hB, v, hbk, hown⟩ : ∃ pp, SheetAt B b pp mv o c w := h.elim (fun x => ⟨_, x⟩) (fun x => ⟨_, x⟩)
  obtain ⟨ao, cap, rfl⟩ : ∃ ao cap, v = .slice ao c.length cap := by
    rcases hown.2 with ⟨hv, h0⟩ | ⟨g, cap, cur, hv, _⟩
    · exact ⟨none, 0, by rw [hv, h0]⟩
    · exact ⟨_, _, hv⟩
  have c1 : w.cell? ⟨b, 1, none⟩ = some (.slice ao c.length cap) := by rw [Lib.cell_of_heap hbk]; rfl
  go_enter Tryz.func65, Tryz.ntmps65
  go_wp2
  go_ret
  exact ⟨rfl, rfl⟩
theorem byteCells_app (c : List UInt8) (s : ByteArray) : Lib.byteCells (c ++ s.data.toList) = Lib.byteCells c ++ Lib.strCells s := by simp [Lib.byteCells, Lib.strCells]
set_option maxHeartbeats 2000000 in
set_option maxRecDepth 100000 in
theorem writeString_any (B b : Nat) (mv : Value) (o : Int) (c : List UInt8) (s : ByteArray) (w : World) (h : Sheet B b mv o c w) (hlen : c.length + s.size ≤ 140737488355328) (hBw : B ≤ w.heap.size) :
    Calls Tryz.prog 62 #[.pointer (some ⟨b, 0, none⟩), .string s] w fun e w' => e = .returned (.tuple #[.int .i64 s.size, .nilIface]) ∧ Sheet B b mv o (c ++ s.data.toList) w' ∧ Below B w w' ∧ Lib.OthersKept 5 (some b) w w' := by
  obtain ⟨i0, hi, hz0, hz1, hz2⟩ := info_parts infoByte
  go_enter Tryz.func62, Tryz.ntmps62
  go_wp2_with (go_at_call 82; refine (copyCheck_any B b mv o c _ h).mono ?_)
  rintro e w1 ⟨rfl, h1, hb1, hk1⟩
  obtain ⟨hB, v, hbk, hown⟩ := h1
  have hne := SheetAt.own hbk hown
  have c0 : w1.cell? ⟨b, 0, none⟩ = some (.pointer (some ⟨b, 0, none⟩)) := by rw [Lib.cell_of_heap hbk]; rfl
  have c1 : w1.cell? ⟨b, 1, none⟩ = some v := by rw [Lib.cell_of_heap hbk]; rfl
  go_wp2_with (at_builtin; refine Lib.wpList_append_own_string _ rfl _ _ 62 9 rfl B 5 i0 Tryz.underlying62 Tryz.underlying9 hi hz0 hz1 hz2 _ _ _ rfl hown s rfl ?c3 ?c4 ?c5 ?_)
  case c3 => unfold maxLen; omega
  case c4 => omega
  case c5 => have := hb1.size; omega
  intro v' w2 hown' hgrow _
  have hlt : b < w1.heap.size := (Array.getElem?_eq_some_iff.1 hbk).1
  have hb2 : w2.heap[b]? = some (.cells #[.pointer (some ⟨b, 0, none⟩), v, mv, .int .i64 o] 66 (0, 0)) := by
    rw [hgrow.block b hlt (fun e => hne e.symm)]
    exact hbk
  have d0 : w2.cell? ⟨b, 0, none⟩ = some (.pointer (some ⟨b, 0, none⟩)) := by rw [Lib.cell_of_heap hb2]; rfl
  have d1 : w2.cell? ⟨b, 1, none⟩ = some v := by rw [Lib.cell_of_heap hb2]; rfl
  have f1 : w2.frozen? ⟨b, 1, none⟩ = false := Lib.frozen_of_heap hb2 1
  obtain ⟨ao, n', cap, rfl⟩ : ∃ ao n' cap, v' = .slice ao n' cap := by
    rcases hown'.2 with ⟨hv, _⟩ | ⟨g, cap, cur, hv, _⟩
    · exact ⟨_, _, _, hv⟩
    · exact ⟨_, _, _, hv⟩
  go_wp2
  go_ret2
  have hown2 : w2.ownsRow B 5 1 (.slice ao n' cap) (c ++ s.data.toList).length (Lib.byteCells (c ++ s.data.toList)) := by
    rw [byteCells_app]
    simpa [Lib.strCells_length, Lib.byteCells_length] using hown'
  have hne2 : (Value.slice ao n' cap).ownBlock ≠ some b := Lib.ownBlock_ne hown2 hb2 (by decide)
  refine ⟨rfl, .inr ⟨hB, .slice ao n' cap, by simp [World.setCell, Array.getElem?_modify, hb2], ?_⟩, ?_, (hk1.grown hgrow (fun g hg => ?_)).setCell ⟨b, 1, none⟩ rfl _⟩
  · exact hown2.kept (row := some b) ⟨rfl, rfl, rfl, by simp [World.setCell], fun k _ hk => Below.heap_setCell _ _ _ _ (fun e => hk (by simp [e]))⟩ (Or.inr hne2)
  · exact (hb1.grown hgrow (by have := hb1.size; omega) (fun k hk => (hown.lt k hk).1)).setCell (p := ⟨b, 1, none⟩) hB _
  · rcases hown.2 with ⟨hv, _⟩ | ⟨g', cap', cur, hv, _, hgg, _⟩
    · rw [hv] at hg; simp [Value.ownBlock] at hg
    · rw [hv] at hg; simp [Value.ownBlock] at hg; subst hg; exact ⟨_, _, hgg⟩
end Go.Proofs.YtnljhlmopjgogaaGreatDoor
