/-
  A world in which the five listed variables lie as they are listed; what all cards of this seat share.
-/
import Derived.Test.YtnljhlmopjgogaaGreatDoorRows
import Derived.Test.YtnljhlmopjgogaaGreatDoorPxA
import Derived.ProofKit
import Derived.OpenShut
import Derived.LaidLaws
import Derived.Deep.Strs
import Derived.Lib.LaidTab
import Derived.Stop.LaidErr
import Derived.Test.YtnljhlmopjgogaaGreatDoorTrB
import Derived.SizedLaws
import Derived.Deep.Slices
import Derived.Lib.SmallJoins
import Derived.Test.YtnljhlmopjgogaaGreatDoorLvA
import Derived.Test.YtnljhlmopjgogaaGreatDoorCards
import Derived.Test.YtnljhlmopjgogaaGreatDoorTie
import Derived.Deep.DeepHandedRow
namespace Go.Proofs.YtnljhlmopjgogaaGreatDoor
open Go.ChangeShapes Go.WideShapes Go.ChangeAt Go.RowKit
theorem exs_at (k : Nat) (hk : k < 18) (l : List (DataW Unit)) (h : (Rows.laid_vigil_tree_exprShapes : DataW Unit) = .agg l) : l[k]? = some (.agg [.lit (.bool (exNames k)), .lit (.bool (exNumber k)), .lit (.int .i64 ((exKids k : Nat) : Int))]) := by
  have h' := h
  unfold Rows.laid_vigil_tree_exprShapes at h'
  injection h' with h'
  subst h'
  have hc : k = 0 ∨ k = 1 ∨ k = 2 ∨ k = 3 ∨ k = 4 ∨ k = 5 ∨ k = 6 ∨ k = 7 ∨ k = 8 ∨ k = 9 ∨ k = 10 ∨ k = 11 ∨ k = 12 ∨ k = 13 ∨ k = 14 ∨ k = 15 ∨ k = 16 ∨ k = 17 := by omega
  rcases hc with rfl | rfl | rfl | rfl | rfl | rfl | rfl | rfl | rfl | rfl | rfl | rfl | rfl | rfl | rfl | rfl | rfl | rfl <;> rfl
set_option maxRecDepth 100000 in
theorem exs_cells {W : World} {cs : Array Value} {fuel : Nat} {p : List MemPlace} (hv : W.var? Tryz.prog "vigil/tree.exprShapes" = some cs) (hd : DataW.trod (fun _ => ()) Tryz.prog W 0 (fun _ => true) false fuel 129 cs.toList = some (Rows.laid_vigil_tree_exprShapes, p)) (k : Nat) (hk : k < 18) :
    W.cell? ⟨1, k * 3, none⟩ = some (.bool (exNames k)) ∧ W.cell? ⟨1, k * 3 + 1, none⟩ = some (.bool (exNumber k)) ∧ W.cell? ⟨1, k * 3 + 2, none⟩ = some (.int .i64 (exKids k : Nat)) := by
  obtain ⟨xs, m, rfl, hx, hlen, hxl, hE⟩ := DataW.trod_array Tryz.underlying129 hd
  have hx1 : (Rows.laid_vigil_tree_exprShapes : DataW Unit) = .agg (xs.map (·.1)) := congrArg Prod.fst hx
  have hat := exs_at k hk _ hx1
  have hE := hE k hk
  rw [show Tryz.prog.cellsOf 128 = 3 from by kernel_rfl] at hE
  obtain ⟨y, hy⟩ : ∃ y, xs[k]? = some y := ⟨xs[k], List.getElem?_eq_getElem (by omega)⟩
  rw [hy] at hE
  have hy1 : y.1 = .agg [.lit (.bool (exNames k)), .lit (.bool (exNumber k)), .lit (.int .i64 ((exKids k : Nat) : Int))] := by
    rw [List.getElem?_map, hy] at hat
    simpa using hat
  obtain ⟨zs, m2, _, rfl, hl2, hzl, hf⟩ := DataW.trod_struct Tryz.underlying128 hE
  rw [show Tryz.prog.cellsOf 128 = 3 from by kernel_rfl] at hl2
  have hzl : zs.length = 3 := hzl
  have hz1 : zs.map (·.1) = [.lit (.bool (exNames k)), .lit (.bool (exNumber k)), .lit (.int .i64 ((exKids k : Nat) : Int))] := by simpa using hy1
  have gc : ∀ i, i < 3 → W.cell? ⟨1, k * 3 + i, none⟩ = ((cs.toList.drop (k * 3)).take 3)[i]? := by
    intro i hi
    rw [World.var?_cell (g := 1) (by kernel_rfl) hv, List.getElem?_take, if_pos hi, List.getElem?_drop, Array.getElem?_toList]
  generalize (cs.toList.drop (k * 3)).take 3 = seg at hl2 hf gc
  obtain ⟨s0, s1, s2, rfl⟩ : ∃ s0 s1 s2, seg = [s0, s1, s2] := by
    match seg, hl2 with
    | [s0, s1, s2], _ => exact ⟨s0, s1, s2, rfl⟩
  obtain ⟨z0, z1, z2, rfl⟩ : ∃ z0 z1 z2, zs = [z0, z1, z2] := by
    match zs, hzl with
    | [z0, z1, z2], _ => exact ⟨z0, z1, z2, rfl⟩
  simp only [List.map_cons, List.map_nil, List.cons.injEq, and_true] at hz1
  obtain ⟨e0, e1, e2⟩ := hz1
  have g0 : DataW.trod (fun _ => ()) Tryz.prog W 0 (fun _ => true) false m2 4 [s0] = some z0 := by
    have q : DataW.trod (fun _ => ()) Tryz.prog W 0 (fun _ => true) false m2 4 (([s0, s1, s2].drop 0).take (Tryz.prog.cellsOf 4)) = some z0 := hf 0 _ rfl
    rw [show Tryz.prog.cellsOf 4 = 1 from by kernel_rfl] at q
    exact q
  have g1 : DataW.trod (fun _ => ()) Tryz.prog W 0 (fun _ => true) false m2 4 [s1] = some z1 := by
    have q : DataW.trod (fun _ => ()) Tryz.prog W 0 (fun _ => true) false m2 4 (([s0, s1, s2].drop 1).take (Tryz.prog.cellsOf 4)) = some z1 := hf 1 _ rfl
    rw [show Tryz.prog.cellsOf 4 = 1 from by kernel_rfl] at q
    exact q
  have g2 : DataW.trod (fun _ => ()) Tryz.prog W 0 (fun _ => true) false m2 3 [s2] = some z2 := by
    have q : DataW.trod (fun _ => ()) Tryz.prog W 0 (fun _ => true) false m2 3 (([s0, s1, s2].drop 2).take (Tryz.prog.cellsOf 3)) = some z2 := hf 2 _ rfl
    rw [show Tryz.prog.cellsOf 3 = 1 from by kernel_rfl] at q
    exact q
  obtain ⟨b0, q0, r0⟩ := DataW.trod_bool Tryz.underlying4 g0
  rw [r0] at e0
  simp at q0 e0
  subst q0 e0
  obtain ⟨b1, q1, r1⟩ := DataW.trod_bool Tryz.underlying4 g1
  rw [r1] at e1
  simp at q1 e1
  subst q1 e1
  obtain ⟨b2, q2, r2, _⟩ := DataW.trod_int Tryz.underlying3 g2
  rw [r2] at e2
  simp at q2 e2
  subst q2 e2
  exact ⟨gc 0 (by omega), gc 1 (by omega), gc 2 (by omega)⟩
theorem sts_at (k : Nat) (hk : k < 12) (l : List (DataW Unit)) (h : (Rows.laid_vigil_tree_stmtShapes : DataW Unit) = .agg l) : l[k]? = some (.agg [.lit (.bool (stMon k)), .lit (.bool (stName k)), .lit (.bool (stNumber k)), .lit (.bool (stExpr k)), .lit (.int .i64 ((stLeast k : Nat) : Int)), .lit (.int .i64 ((stMost k : Nat) : Int))]) := by
  have h' := h
  unfold Rows.laid_vigil_tree_stmtShapes at h'
  injection h' with h'
  subst h'
  have hc : k = 0 ∨ k = 1 ∨ k = 2 ∨ k = 3 ∨ k = 4 ∨ k = 5 ∨ k = 6 ∨ k = 7 ∨ k = 8 ∨ k = 9 ∨ k = 10 ∨ k = 11 := by omega
  rcases hc with rfl | rfl | rfl | rfl | rfl | rfl | rfl | rfl | rfl | rfl | rfl | rfl <;> rfl
set_option maxRecDepth 100000 in
theorem sts_cells {W : World} {cs : Array Value} {fuel : Nat} {p : List MemPlace} (hv : W.var? Tryz.prog "vigil/tree.stmtShapes" = some cs) (hd : DataW.trod (fun _ => ()) Tryz.prog W 0 (fun _ => true) false fuel 102 cs.toList = some (Rows.laid_vigil_tree_stmtShapes, p)) (k : Nat) (hk : k < 12) :
    W.cell? ⟨0, k * 6, none⟩ = some (.bool (stMon k)) ∧ W.cell? ⟨0, k * 6 + 1, none⟩ = some (.bool (stName k)) ∧ W.cell? ⟨0, k * 6 + 2, none⟩ = some (.bool (stNumber k)) ∧ W.cell? ⟨0, k * 6 + 3, none⟩ = some (.bool (stExpr k)) ∧ W.cell? ⟨0, k * 6 + 4, none⟩ = some (.int .i64 (stLeast k : Nat)) ∧ W.cell? ⟨0, k * 6 + 5, none⟩ = some (.int .i64 (stMost k : Nat)) := by
  obtain ⟨xs, m, rfl, hx, hlen, hxl, hE⟩ := DataW.trod_array Tryz.underlying102 hd
  have hx1 : (Rows.laid_vigil_tree_stmtShapes : DataW Unit) = .agg (xs.map (·.1)) := congrArg Prod.fst hx
  have hat := sts_at k hk _ hx1
  have hE := hE k hk
  rw [show Tryz.prog.cellsOf 101 = 6 from by kernel_rfl] at hE
  obtain ⟨y, hy⟩ : ∃ y, xs[k]? = some y := ⟨xs[k], List.getElem?_eq_getElem (by omega)⟩
  rw [hy] at hE
  have hy1 : y.1 = .agg [.lit (.bool (stMon k)), .lit (.bool (stName k)), .lit (.bool (stNumber k)), .lit (.bool (stExpr k)), .lit (.int .i64 ((stLeast k : Nat) : Int)), .lit (.int .i64 ((stMost k : Nat) : Int))] := by
    rw [List.getElem?_map, hy] at hat
    simpa using hat
  obtain ⟨zs, m2, _, rfl, hl2, hzl, hf⟩ := DataW.trod_struct Tryz.underlying101 hE
  rw [show Tryz.prog.cellsOf 101 = 6 from by kernel_rfl] at hl2
  have hzl : zs.length = 6 := hzl
  have hz1 : zs.map (·.1) = [.lit (.bool (stMon k)), .lit (.bool (stName k)), .lit (.bool (stNumber k)), .lit (.bool (stExpr k)), .lit (.int .i64 ((stLeast k : Nat) : Int)), .lit (.int .i64 ((stMost k : Nat) : Int))] := by simpa using hy1
  have gc : ∀ i, i < 6 → W.cell? ⟨0, k * 6 + i, none⟩ = ((cs.toList.drop (k * 6)).take 6)[i]? := by
    intro i hi
    rw [World.var?_cell (g := 0) (by kernel_rfl) hv, List.getElem?_take, if_pos hi, List.getElem?_drop, Array.getElem?_toList]
  generalize (cs.toList.drop (k * 6)).take 6 = seg at hl2 hf gc
  obtain ⟨s0, s1, s2, s3, s4, s5, rfl⟩ : ∃ s0 s1 s2 s3 s4 s5, seg = [s0, s1, s2, s3, s4, s5] := by
    match seg, hl2 with
    | [s0, s1, s2, s3, s4, s5], _ => exact ⟨s0, s1, s2, s3, s4, s5, rfl⟩
  obtain ⟨z0, z1, z2, z3, z4, z5, rfl⟩ : ∃ z0 z1 z2 z3 z4 z5, zs = [z0, z1, z2, z3, z4, z5] := by
    match zs, hzl with
    | [z0, z1, z2, z3, z4, z5], _ => exact ⟨z0, z1, z2, z3, z4, z5, rfl⟩
  simp only [List.map_cons, List.map_nil, List.cons.injEq, and_true] at hz1
  obtain ⟨e0, e1, e2, e3, e4, e5⟩ := hz1
  have g0 : DataW.trod (fun _ => ()) Tryz.prog W 0 (fun _ => true) false m2 4 [s0] = some z0 := by
    have q : DataW.trod (fun _ => ()) Tryz.prog W 0 (fun _ => true) false m2 4 (([s0, s1, s2, s3, s4, s5].drop 0).take (Tryz.prog.cellsOf 4)) = some z0 := hf 0 _ rfl
    rw [show Tryz.prog.cellsOf 4 = 1 from by kernel_rfl] at q
    exact q
  have g1 : DataW.trod (fun _ => ()) Tryz.prog W 0 (fun _ => true) false m2 4 [s1] = some z1 := by
    have q : DataW.trod (fun _ => ()) Tryz.prog W 0 (fun _ => true) false m2 4 (([s0, s1, s2, s3, s4, s5].drop 1).take (Tryz.prog.cellsOf 4)) = some z1 := hf 1 _ rfl
    rw [show Tryz.prog.cellsOf 4 = 1 from by kernel_rfl] at q
    exact q
  have g2 : DataW.trod (fun _ => ()) Tryz.prog W 0 (fun _ => true) false m2 4 [s2] = some z2 := by
    have q : DataW.trod (fun _ => ()) Tryz.prog W 0 (fun _ => true) false m2 4 (([s0, s1, s2, s3, s4, s5].drop 2).take (Tryz.prog.cellsOf 4)) = some z2 := hf 2 _ rfl
    rw [show Tryz.prog.cellsOf 4 = 1 from by kernel_rfl] at q
    exact q
  have g3 : DataW.trod (fun _ => ()) Tryz.prog W 0 (fun _ => true) false m2 4 [s3] = some z3 := by
    have q : DataW.trod (fun _ => ()) Tryz.prog W 0 (fun _ => true) false m2 4 (([s0, s1, s2, s3, s4, s5].drop 3).take (Tryz.prog.cellsOf 4)) = some z3 := hf 3 _ rfl
    rw [show Tryz.prog.cellsOf 4 = 1 from by kernel_rfl] at q
    exact q
  have g4 : DataW.trod (fun _ => ()) Tryz.prog W 0 (fun _ => true) false m2 3 [s4] = some z4 := by
    have q : DataW.trod (fun _ => ()) Tryz.prog W 0 (fun _ => true) false m2 3 (([s0, s1, s2, s3, s4, s5].drop 4).take (Tryz.prog.cellsOf 3)) = some z4 := hf 4 _ rfl
    rw [show Tryz.prog.cellsOf 3 = 1 from by kernel_rfl] at q
    exact q
  have g5 : DataW.trod (fun _ => ()) Tryz.prog W 0 (fun _ => true) false m2 3 [s5] = some z5 := by
    have q : DataW.trod (fun _ => ()) Tryz.prog W 0 (fun _ => true) false m2 3 (([s0, s1, s2, s3, s4, s5].drop 5).take (Tryz.prog.cellsOf 3)) = some z5 := hf 5 _ rfl
    rw [show Tryz.prog.cellsOf 3 = 1 from by kernel_rfl] at q
    exact q
  obtain ⟨b0, q0, r0⟩ := DataW.trod_bool Tryz.underlying4 g0
  rw [r0] at e0
  simp at q0 e0
  subst q0 e0
  obtain ⟨b1, q1, r1⟩ := DataW.trod_bool Tryz.underlying4 g1
  rw [r1] at e1
  simp at q1 e1
  subst q1 e1
  obtain ⟨b2, q2, r2⟩ := DataW.trod_bool Tryz.underlying4 g2
  rw [r2] at e2
  simp at q2 e2
  subst q2 e2
  obtain ⟨b3, q3, r3⟩ := DataW.trod_bool Tryz.underlying4 g3
  rw [r3] at e3
  simp at q3 e3
  subst q3 e3
  obtain ⟨b4, q4, r4, _⟩ := DataW.trod_int Tryz.underlying3 g4
  rw [r4] at e4
  simp at q4 e4
  subst q4 e4
  obtain ⟨b5, q5, r5, _⟩ := DataW.trod_int Tryz.underlying3 g5
  rw [r5] at e5
  simp at q5 e5
  subst q5 e5
  exact ⟨gc 0 (by omega), gc 1 (by omega), gc 2 (by omega), gc 3 (by omega), gc 4 (by omega), gc 5 (by omega)⟩
theorem lt_of_cell2 {w : World} {b o : Nat} {v : Value} (h : w.cell? ⟨b, o, none⟩ = some v) : b < w.heap.size := by
  rcases Nat.lt_or_ge b w.heap.size with h1 | h1
  · exact h1
  · exfalso
    have h2 : w.heap[b]? = none := by rw [Array.getElem?_eq_none_iff]; exact h1
    simp [World.cell?, h2] at h
theorem shapes_of {W : World} (h : laidMet Tryz.prog (Rows.printTextsRow.laid.drop 3) W) : Shapes W := by
  obtain ⟨ps, ⟨g, t, cs, fuel, p, q, hg, ht, hv, hd, ⟨g', t', cs', fuel', p', q', hg', ht', hv', hd', _, _⟩, _⟩, _⟩ := h
  obtain rfl : g = 1 := Option.some.inj (hg.symm.trans (show Tryz.prog.globalNamed "vigil/tree.exprShapes" = some 1 by kernel_rfl))
  obtain rfl : g' = 0 := Option.some.inj (hg'.symm.trans (show Tryz.prog.globalNamed "vigil/tree.stmtShapes" = some 0 by kernel_rfl))
  obtain rfl : t = 129 := Option.some.inj (ht.symm.trans (show (Tryz.prog.globals[1]?).map (·.type) = some 129 by kernel_rfl))
  obtain rfl : t' = 102 := Option.some.inj (ht'.symm.trans (show (Tryz.prog.globals[0]?).map (·.type) = some 102 by kernel_rfl))
  have h0 := exs_cells hv hd
  have h1 := sts_cells hv' hd'
  refine ⟨?_, h0, h1⟩
  have := lt_of_cell2 (h0 0 (by omega)).1
  omega
theorem tab_of {W : World} (h : laidMet Tryz.prog (Rows.printTextsRow.laid.drop 2) W) : Tab W :=
  Lib.tabIs_of_head (g := 2) (t := 146) (e := 137) (n := 20) (by kernel_rfl) (by kernel_rfl) Tryz.underlying146 Tryz.underlying137 (by kernel_rfl) (by kernel_rfl) (show laidMet Tryz.prog (("internal/strconv.uint64pow10", Lib.tabData .u64 Lib.pow10Tab) :: Rows.printTextsRow.laid.drop 3) W from h)
theorem laid_of {W : World} (h : laidMet Tryz.prog Rows.printTextsRow.laid W) : Laid W := by
  have h2 : laidMet Tryz.prog (Rows.printTextsRow.laid.drop 2) W := h.tail.tail
  have ht := tab_of h2
  refine ⟨shapes_of h2.tail, ht, ?_⟩
  have := lt_of_cell2 (Lib.TabIs.cell ht gPow 0 (by decide))
  omega
end Go.Proofs.YtnljhlmopjgogaaGreatDoor
namespace Go.Proofs.YtnljhlmopjgogaaGreatDoor
open Go.ChangeShapes Go.WideShapes Go.ChangeAt Go.RowKit Go.Deep
theorem oc33 : Tryz.prog.cellsOf 50 = 6 := by kernel_rfl
theorem oc31 : Tryz.prog.cellsOf 48 = 1 := by kernel_rfl
theorem oc3 : Tryz.prog.cellsOf 3 = 1 := by kernel_rfl
theorem oc2 : Tryz.prog.cellsOf 2 = 1 := by kernel_rfl
theorem oc9 : Tryz.prog.cellsOf 9 = 1 := by kernel_rfl
theorem i64_of_wf {k : Int} (h : (Lit.int .i64 k).wf = true) : I64 k := by
  have h' : (decide (IntKind.i64.min ≤ k) && decide (k ≤ IntKind.i64.max)) = true := h
  simp only [Bool.and_eq_true, decide_eq_true_eq] at h'
  have e1 : IntKind.i64.min = -9223372036854775808 := by decide
  have e2 : IntKind.i64.max = 9223372036854775807 := by decide
  rw [e1, e2] at h'
  exact h'
theorem list6 {α : Type} {l : List α} (h : l.length = 6) : ∃ a b c d e f, l = [a, b, c, d, e, f] := by
  match l, h with
  | [a, b, c, d, e, f], _ => exact ⟨a, b, c, d, e, f, rfl⟩
theorem weightsAll_mem {H : Type} {P : Program} {e : TypeId} {l : List (DataW H)} {d : DataW H} (hd : d ∈ l) {z : Nat} (hz : z ∈ d.weights P e) : z ∈ DataW.weightsAll P e l := by
  induction l with
  | nil => cases hd
  | cons x r ih =>
    rw [DataW.weightsAll]
    rcases List.mem_cons.1 hd with rfl | hd
    · exact List.mem_append.2 (.inl hz)
    · exact List.mem_append.2 (.inr (ih hd))
set_option maxRecDepth 100000 in
theorem open_ex {H : Type} {enc : TypeId × Value → H} {W : World} (fuel : Nat) : ∀ (cs : List Value) (x : DataW H × List MemPlace), DataW.trod enc Tryz.prog W 0 (fun _ => true) true fuel 50 cs = some x → (∀ k ∈ x.1.weights Tryz.prog 50, k ≤ reachBytes) →
    ∃ e : Ex, cs = e.cells ∧ e.Is W.heap.size W := by
  induction fuel using Nat.strongRecOn with
  | _ fuel ih =>
    intro cs x h hw
    obtain ⟨xs, n, rfl, rfl, hlen, hxl, hf⟩ := DataW.trod_struct Tryz.underlying50 h
    rw [oc33] at hlen
    obtain ⟨v0, v1, v2, v3, v4, v5, rfl⟩ := list6 hlen
    obtain ⟨y0, y1, y2, y3, y4, y5, rfl⟩ := list6 (show xs.length = 6 from hxl)
    have g0 : DataW.trod enc Tryz.prog W 0 (fun _ => true) true n 3 [v0] = some y0 := by
      have g : DataW.trod enc Tryz.prog W 0 (fun _ => true) true n 3 (([v0, v1, v2, v3, v4, v5].drop 0).take (Tryz.prog.cellsOf 3)) = some y0 := hf 0 _ rfl
      rw [oc3] at g
      exact g
    have g1 : DataW.trod enc Tryz.prog W 0 (fun _ => true) true n 9 [v1] = some y1 := by
      have g : DataW.trod enc Tryz.prog W 0 (fun _ => true) true n 9 (([v0, v1, v2, v3, v4, v5].drop 1).take (Tryz.prog.cellsOf 9)) = some y1 := hf 1 _ rfl
      rw [oc9] at g
      exact g
    have g2 : DataW.trod enc Tryz.prog W 0 (fun _ => true) true n 9 [v2] = some y2 := by
      have g : DataW.trod enc Tryz.prog W 0 (fun _ => true) true n 9 (([v0, v1, v2, v3, v4, v5].drop 2).take (Tryz.prog.cellsOf 9)) = some y2 := hf 2 _ rfl
      rw [oc9] at g
      exact g
    have g3 : DataW.trod enc Tryz.prog W 0 (fun _ => true) true n 2 [v3] = some y3 := by
      have g : DataW.trod enc Tryz.prog W 0 (fun _ => true) true n 2 (([v0, v1, v2, v3, v4, v5].drop 3).take (Tryz.prog.cellsOf 2)) = some y3 := hf 3 _ rfl
      rw [oc2] at g
      exact g
    have g4 : DataW.trod enc Tryz.prog W 0 (fun _ => true) true n 48 [v4] = some y4 := by
      have g : DataW.trod enc Tryz.prog W 0 (fun _ => true) true n 48 (([v0, v1, v2, v3, v4, v5].drop 4).take (Tryz.prog.cellsOf 48)) = some y4 := hf 4 _ rfl
      rw [oc31] at g
      exact g
    have g5 : DataW.trod enc Tryz.prog W 0 (fun _ => true) true n 3 [v5] = some y5 := by
      have g : DataW.trod enc Tryz.prog W 0 (fun _ => true) true n 3 (([v0, v1, v2, v3, v4, v5].drop 5).take (Tryz.prog.cellsOf 3)) = some y5 := hf 5 _ rfl
      rw [oc3] at g
      exact g
    obtain ⟨op, e0, w0, q0⟩ := DataW.trod_int Tryz.underlying3 g0
    obtain ⟨mon, e1, w1, d1⟩ := DataW.trod_string Tryz.underlying9 g1
    obtain ⟨name, e2, w2, d2⟩ := DataW.trod_string Tryz.underlying9 g2
    obtain ⟨k, e3, w3, q3⟩ := DataW.trod_int Tryz.underlying2 g3
    obtain ⟨pos, e5, w5, q5⟩ := DataW.trod_int Tryz.underlying3 g5
    simp at e0 e1 e2 e3 e5
    subst e0 e1 e2 e3 e5
    clear hf h hlen hxl g0 g1 g2 g3 g5
    subst w0 w1 w2 w3 w5
    have hw1 : ∀ z, z ∈ DataW.weightsEach Tryz.prog [3, 9, 9, 2, 48, 3] [(DataW.lit (Lit.int IntKind.i64 op) : DataW H), .lit (.string mon.data.toList), .lit (.string name.data.toList), .lit (.int .i64 k), y4.1, .lit (.int .i64 pos)] → z ≤ reachBytes := by
      intro z hz
      refine hw z ?_
      show z ∈ DataW.weights Tryz.prog 50 (DataW.agg _)
      rw [DataW.weights, Tryz.underlying50]
      exact hz
    clear hw
    simp only [DataW.weightsEach, DataW.weights, List.nil_append, List.cons_append, List.append_nil, List.mem_cons, forall_eq_or_imp] at hw1
    obtain ⟨m1, m2, m4⟩ := hw1
    have e3 : reachBytes = 140737488351232 := by decide
    rw [e3] at m1 m2
    have hl1 : Len mon := by unfold Len; simpa using m1
    have hl2 : Len name := by unfold Len; simpa using m2
    have base : I64 op ∧ I64 k ∧ I64 pos ∧ Len mon ∧ Len name := ⟨i64_of_wf q0, i64_of_wf q3, i64_of_wf q5, hl1, hl2⟩
    rcases DataW.trod_slice Tryz.underlying48 g4 with ⟨hv, _⟩ | ⟨a, len, cap, elems, rest, n', rfl, hv, rfl, _, hlc, hcm, hel, hE, _, _⟩
    · simp at hv
      subst hv
      exact ⟨.mk op mon name k none 0 [] pos, rfl, Ex.Is.up ⟨base, ⟨Nat.le_refl _, by unfold maxLen; omega, .inl rfl⟩, fun x hx => by cases hx⟩⟩
    · simp at hv
      subst hv
      have hwe : ∀ z, z ∈ DataW.weightsAll Tryz.prog 50 (elems.map (·.1)) → z ≤ reachBytes := by
        intro z hz
        refine m4 z ?_
        show z ∈ DataW.weights Tryz.prog 48 (DataW.slice _ _)
        rw [DataW.weights, Tryz.underlying48]
        exact List.mem_cons_of_mem _ (List.mem_append.2 (.inl hz))
      have hwi : ∀ (i : Nat) (y : DataW H × List MemPlace), elems[i]? = some y → ∀ z ∈ y.1.weights Tryz.prog 50, z ≤ reachBytes := by
        intro i y hy z hz
        exact hwe z (weightsAll_mem (List.mem_map.2 ⟨y, List.mem_of_getElem? hy, rfl⟩) hz)
      have each : ∀ i, i < len → ∃ e : Ex, W.cells? 0 (a.add (i * 6)) 6 = some e.cells ∧ e.Is W.heap.size W := by
        intro i hi
        have hb := hE i hi
        rw [oc33] at hb
        obtain ⟨y, hy⟩ : ∃ y, elems[i]? = some y := ⟨elems[i], List.getElem?_eq_getElem (by omega)⟩
        rw [hy] at hb
        obtain ⟨cs', hc1, hc2⟩ := Option.bind_eq_some_iff.1 hb
        obtain ⟨e, rfl, he⟩ := ih n' (by omega) cs' y hc2 (hwi i y hy)
        exact ⟨e, hc1, he⟩
      haveI : Inhabited Ex := ⟨.mk 0 ⟨#[]⟩ ⟨#[]⟩ 0 none 0 [] 0⟩
      obtain ⟨q, hq⟩ := choose_lt each
      refine ⟨.mk op mon name k (some a) cap ((List.range len).map q) pos, by simp [Ex.cells], Ex.Is.up ⟨base, ⟨by simpa using hlc, hcm, ?_⟩, fun x hx => ?_⟩⟩
      · rcases Nat.eq_zero_or_pos len with h0 | hpos
        · subst h0; exact .inl rfl
        · right
          obtain ⟨b, off, spot⟩ := a
          have hc := fun i hi => World.cells?_some (hq i hi).1
          have hbl := World.cells?_block (hq 0 hpos).1 (by decide)
          have hspot : spot = none := by
            have hex : (q 0).cells.length = 6 := by cases q 0; rfl
            obtain ⟨v, hv⟩ : ∃ v, (q 0).cells[0]? = some v := ⟨_, List.getElem?_eq_getElem (by omega)⟩
            have h0 := (hc 0 hpos).2.2 0 (by decide)
            have h1 := World.cell?_spot (h0.trans hv)
            simpa [Addr.add] using h1
          subst hspot
          refine ⟨b, off, rfl, by simpa [Addr.add] using hbl, ?_⟩
          intro j hj i hi
          have hj' : j < len := by simpa using hj
          have h1 := (hc j hj').2.2 i hi
          rw [add_plain, add_plain] at h1
          simp only [List.getElem_map, List.getElem_range]
          exact h1
      · obtain ⟨i, hi, rfl⟩ := List.mem_map.1 hx
        exact (hq i (List.mem_range.1 hi)).2
/-- An argument of type Expr. -/
theorem open_arg {H : Type} {enc : TypeId × Value → H} {W : World} {v : Value} {d : DataW H} {ps : List MemPlace} (hv : ∃ c, v = .agg c ∧ c.size = Tryz.prog.cellsOf 50) (h : DataW.Trod enc Tryz.prog W 0 (fun _ => true) true 50 v d ps) (hw : ∀ k ∈ d.weights Tryz.prog 50, k ≤ reachBytes) :
    ∃ e : Ex, v = e.val ∧ e.Is W.heap.size W := by
  obtain ⟨c, rfl, _⟩ := hv
  obtain ⟨fuel, hf⟩ := h
  obtain ⟨e, he, hI⟩ := open_ex fuel _ _ hf hw
  refine ⟨e, ?_, hI⟩
  have hc : c.toList = e.cells := by simpa [Value.cells] using he
  show Value.agg c = Value.agg e.cells.toArray
  rw [← hc]
end Go.Proofs.YtnljhlmopjgogaaGreatDoor
namespace Go.Proofs.YtnljhlmopjgogaaGreatDoor
open Go.ChangeShapes Go.WideShapes Go.ChangeAt Go.RowKit Go.Deep
/-- A slice that comes in. -/
theorem open_sl {α : Type} (inh : Inhabited α) {H : Type} {enc : TypeId × Value → H} {W : World} {size : Nat} {cells : α → List Value} {Is : α → Prop} {t e : TypeId} {fuel : Nat} {cs : List Value} {x : DataW H × List MemPlace}
    (hu : Tryz.prog.underlying t = some (.slice e)) (hce : Tryz.prog.cellsOf e = size) (hlen : ∀ a, (cells a).length = size) (hpos : 0 < size)
    (h : DataW.trod enc Tryz.prog W 0 (fun _ => true) true fuel t cs = some x) (hw : (∀ k ∈ x.1.weights Tryz.prog t, k ≤ reachBytes))
    (each : ∀ n', n' < fuel → ∀ cs x, DataW.trod enc Tryz.prog W 0 (fun _ => true) true n' e cs = some x → (∀ k ∈ x.1.weights Tryz.prog e, k ≤ reachBytes) → ∃ a : α, cs = cells a ∧ Is a) :
    ∃ (ad : Option Addr) (cap : Nat) (l : List α), cs = [.slice ad l.length cap] ∧ SlAt size cells W.heap.size W ad cap l ∧ ∀ a ∈ l, Is a := by
  haveI := inh
  rcases DataW.trod_slice hu h with ⟨hv, _⟩ | ⟨a, len, cap, elems, rest, n', rfl, hv, rfl, _, hlc, hcm, hel, hE, _, _⟩
  · exact ⟨none, 0, [], hv, ⟨Nat.le_refl _, by unfold maxLen; omega, .inl rfl⟩, fun x hx => by cases hx⟩
  · have hwe : ∀ z, z ∈ DataW.weightsAll Tryz.prog e (elems.map (·.1)) → z ≤ reachBytes := by
      intro z hz
      refine hw z ?_
      show z ∈ DataW.weights Tryz.prog t (DataW.slice _ _)
      rw [DataW.weights, hu]
      exact List.mem_cons_of_mem _ (List.mem_append.2 (.inl hz))
    have hwi : ∀ (i : Nat) (y : DataW H × List MemPlace), elems[i]? = some y → ∀ z ∈ y.1.weights Tryz.prog e, z ≤ reachBytes := by
      intro i y hy z hz
      exact hwe z (weightsAll_mem (List.mem_map.2 ⟨y, List.mem_of_getElem? hy, rfl⟩) hz)
    have each2 : ∀ i, i < len → ∃ q : α, W.cells? 0 (a.add (i * size)) size = some (cells q) ∧ Is q := by
      intro i hi
      have hb := hE i hi
      rw [hce] at hb
      obtain ⟨y, hy⟩ : ∃ y, elems[i]? = some y := ⟨elems[i], List.getElem?_eq_getElem (by omega)⟩
      rw [hy] at hb
      obtain ⟨cs', hc1, hc2⟩ := Option.bind_eq_some_iff.1 hb
      obtain ⟨q, rfl, hq⟩ := each n' (by omega) cs' y hc2 (hwi i y hy)
      exact ⟨q, hc1, hq⟩
    obtain ⟨q, hq⟩ := choose_lt each2
    refine ⟨some a, cap, (List.range len).map q, by rw [hv]; simp, ⟨by simpa using hlc, hcm, ?_⟩, fun x hx => ?_⟩
    · rcases Nat.eq_zero_or_pos len with h0 | hp
      · subst h0; exact .inl rfl
      · right
        obtain ⟨b, off, spot⟩ := a
        have hc := fun i hi => World.cells?_some (hq i hi).1
        have hbl := World.cells?_block (hq 0 hp).1 hpos
        have hspot : spot = none := by
          obtain ⟨v, hv⟩ : ∃ v, (cells (q 0))[0]? = some v := ⟨_, List.getElem?_eq_getElem (by rw [hlen]; exact hpos)⟩
          have h0 := (hc 0 hp).2.2 0 hpos
          have h1 := World.cell?_spot (h0.trans hv)
          simpa [Addr.add] using h1
        subst hspot
        refine ⟨b, off, rfl, by simpa [Addr.add] using hbl, ?_⟩
        intro j hj i hi
        have hj' : j < len := by simpa using hj
        have h1 := (hc j hj').2.2 i hi
        rw [add_plain, add_plain] at h1
        simp only [List.getElem_map, List.getElem_range]
        exact h1
    · obtain ⟨i, hi, rfl⟩ := List.mem_map.1 hx
      exact (hq i (List.mem_range.1 hi)).2
theorem oc4 : Tryz.prog.cellsOf 4 = 1 := by kernel_rfl
theorem oc22 : Tryz.prog.cellsOf 22 = 1 := by kernel_rfl
theorem oc23 : Tryz.prog.cellsOf 23 = 1 := by kernel_rfl
theorem oc25 : Tryz.prog.cellsOf 25 = 2 := by kernel_rfl
theorem oc43 : Tryz.prog.cellsOf 42 = 1 := by kernel_rfl
theorem oc45 : Tryz.prog.cellsOf 47 = 5 := by kernel_rfl
theorem oc50 : Tryz.prog.cellsOf 36 = 1 := by kernel_rfl
theorem oc51 : Tryz.prog.cellsOf 37 = 1 := by kernel_rfl
theorem oc53 : Tryz.prog.cellsOf 39 = 4 := by kernel_rfl
theorem oc55 : Tryz.prog.cellsOf 41 = 6 := by kernel_rfl
theorem oc57 : Tryz.prog.cellsOf 44 = 3 := by kernel_rfl
theorem oc59 : Tryz.prog.cellsOf 53 = 1 := by kernel_rfl
theorem oc61 : Tryz.prog.cellsOf 55 = 12 := by kernel_rfl
theorem list2 {α : Type} {l : List α} (h : l.length = 2) : ∃ a0 a1, l = [a0, a1] := by
  match l, h with
  | [a0, a1], _ => exact ⟨a0, a1, rfl⟩
theorem list3 {α : Type} {l : List α} (h : l.length = 3) : ∃ a0 a1 a2, l = [a0, a1, a2] := by
  match l, h with
  | [a0, a1, a2], _ => exact ⟨a0, a1, a2, rfl⟩
theorem list4 {α : Type} {l : List α} (h : l.length = 4) : ∃ a0 a1 a2 a3, l = [a0, a1, a2, a3] := by
  match l, h with
  | [a0, a1, a2, a3], _ => exact ⟨a0, a1, a2, a3, rfl⟩
theorem list5 {α : Type} {l : List α} (h : l.length = 5) : ∃ a0 a1 a2 a3 a4, l = [a0, a1, a2, a3, a4] := by
  match l, h with
  | [a0, a1, a2, a3, a4], _ => exact ⟨a0, a1, a2, a3, a4, rfl⟩
theorem list7 {α : Type} {l : List α} (h : l.length = 7) : ∃ a0 a1 a2 a3 a4 a5 a6, l = [a0, a1, a2, a3, a4, a5, a6] := by
  match l, h with
  | [a0, a1, a2, a3, a4, a5, a6], _ => exact ⟨a0, a1, a2, a3, a4, a5, a6, rfl⟩
theorem list12 {α : Type} {l : List α} (h : l.length = 12) : ∃ a0 a1 a2 a3 a4 a5 a6 a7 a8 a9 a10 a11, l = [a0, a1, a2, a3, a4, a5, a6, a7, a8, a9, a10, a11] := by
  match l, h with
  | [a0, a1, a2, a3, a4, a5, a6, a7, a8, a9, a10, a11], _ => exact ⟨a0, a1, a2, a3, a4, a5, a6, a7, a8, a9, a10, a11, rfl⟩
theorem open_bl_of {H : Type} {enc : TypeId × Value → H} {W : World} {fuel : Nat}
    (ih : ∀ n', n' < fuel → ∀ cs x, DataW.trod enc Tryz.prog W 0 (fun _ => true) true n' 55 cs = some x → (∀ k ∈ x.1.weights Tryz.prog 55, k ≤ reachBytes) → ∃ s : St, cs = s.cells ∧ s.Is W.heap.size W)
    (cs : List Value) (x : DataW H × List MemPlace) (h : DataW.trod enc Tryz.prog W 0 (fun _ => true) true fuel 42 cs = some x) (hw : (∀ k ∈ x.1.weights Tryz.prog 42, k ≤ reachBytes)) : ∃ b : Bl, cs = b.cells ∧ b.Is W.heap.size W := by
  obtain ⟨ad, cap, l, e, I, J⟩ := open_sl ⟨.mk 0 ⟨#[]⟩ ⟨#[]⟩ 0 (.mk 0 ⟨#[]⟩ ⟨#[]⟩ 0 none 0 [] 0) none 0 [] 0⟩ (cells := St.cells) (Is := fun s => s.Is W.heap.size W) (size := 12) Tryz.underlying42 oc61 stCells_len (by decide) h hw ih
  exact ⟨.mk ad cap l, e, Bl.Is.up ⟨I, J⟩⟩
set_option maxRecDepth 100000 in
theorem open_st {H : Type} {enc : TypeId × Value → H} {W : World} (fuel : Nat) : ∀ (cs : List Value) (x : DataW H × List MemPlace), DataW.trod enc Tryz.prog W 0 (fun _ => true) true fuel 55 cs = some x → (∀ k ∈ x.1.weights Tryz.prog 55, k ≤ reachBytes) → ∃ s : St, cs = s.cells ∧ s.Is W.heap.size W := by
  induction fuel using Nat.strongRecOn with
  | _ fuel ih =>
    intro cs x h hw
    obtain ⟨xs, n, rfl, rfl, hlen, hxl, hf⟩ := DataW.trod_struct Tryz.underlying55 h
    rw [oc61] at hlen
    obtain ⟨v0, v1, v2, v3, v4, v5, v6, v7, v8, v9, v10, v11, rfl⟩ := list12 hlen
    obtain ⟨y0, y1, y2, y3, y4, y5, y6, rfl⟩ := list7 (show xs.length = 7 from hxl)
    have g0 : DataW.trod enc Tryz.prog W 0 (fun _ => true) true n 3 [v0] = some y0 := by
      have g : DataW.trod enc Tryz.prog W 0 (fun _ => true) true n 3 (([v0, v1, v2, v3, v4, v5, v6, v7, v8, v9, v10, v11].drop 0).take (Tryz.prog.cellsOf 3)) = some y0 := hf 0 _ rfl
      rw [oc3] at g
      exact g
    have g1 : DataW.trod enc Tryz.prog W 0 (fun _ => true) true n 9 [v1] = some y1 := by
      have g : DataW.trod enc Tryz.prog W 0 (fun _ => true) true n 9 (([v0, v1, v2, v3, v4, v5, v6, v7, v8, v9, v10, v11].drop 1).take (Tryz.prog.cellsOf 9)) = some y1 := hf 1 _ rfl
      rw [oc9] at g
      exact g
    have g2 : DataW.trod enc Tryz.prog W 0 (fun _ => true) true n 9 [v2] = some y2 := by
      have g : DataW.trod enc Tryz.prog W 0 (fun _ => true) true n 9 (([v0, v1, v2, v3, v4, v5, v6, v7, v8, v9, v10, v11].drop 2).take (Tryz.prog.cellsOf 9)) = some y2 := hf 2 _ rfl
      rw [oc9] at g
      exact g
    have g3 : DataW.trod enc Tryz.prog W 0 (fun _ => true) true n 2 [v3] = some y3 := by
      have g : DataW.trod enc Tryz.prog W 0 (fun _ => true) true n 2 (([v0, v1, v2, v3, v4, v5, v6, v7, v8, v9, v10, v11].drop 3).take (Tryz.prog.cellsOf 2)) = some y3 := hf 3 _ rfl
      rw [oc2] at g
      exact g
    have g4 : DataW.trod enc Tryz.prog W 0 (fun _ => true) true n 50 [v4, v5, v6, v7, v8, v9] = some y4 := by
      have g : DataW.trod enc Tryz.prog W 0 (fun _ => true) true n 50 (([v0, v1, v2, v3, v4, v5, v6, v7, v8, v9, v10, v11].drop 4).take (Tryz.prog.cellsOf 50)) = some y4 := hf 4 _ rfl
      rw [oc33] at g
      exact g
    have g5 : DataW.trod enc Tryz.prog W 0 (fun _ => true) true n 53 [v10] = some y5 := by
      have g : DataW.trod enc Tryz.prog W 0 (fun _ => true) true n 53 (([v0, v1, v2, v3, v4, v5, v6, v7, v8, v9, v10, v11].drop 10).take (Tryz.prog.cellsOf 53)) = some y5 := hf 5 _ rfl
      rw [oc59] at g
      exact g
    have g6 : DataW.trod enc Tryz.prog W 0 (fun _ => true) true n 3 [v11] = some y6 := by
      have g : DataW.trod enc Tryz.prog W 0 (fun _ => true) true n 3 (([v0, v1, v2, v3, v4, v5, v6, v7, v8, v9, v10, v11].drop 11).take (Tryz.prog.cellsOf 3)) = some y6 := hf 6 _ rfl
      rw [oc3] at g
      exact g
    clear hf h hlen hxl
    have hw1 : ∀ z, z ∈ DataW.weightsEach Tryz.prog [3, 9, 9, 2, 50, 53, 3] [y0.1, y1.1, y2.1, y3.1, y4.1, y5.1, y6.1] → z ≤ reachBytes := by
      intro z hz
      refine hw z ?_
      show z ∈ DataW.weights Tryz.prog 55 (DataW.agg _)
      rw [DataW.weights, Tryz.underlying55]
      exact hz
    simp only [DataW.weightsEach, List.mem_append] at hw1
    have m1 : ∀ z ∈ y1.1.weights Tryz.prog 9, z ≤ reachBytes := fun z hz => hw1 z (.inr (.inl hz))
    have m2 : ∀ z ∈ y2.1.weights Tryz.prog 9, z ≤ reachBytes := fun z hz => hw1 z (.inr (.inr (.inl hz)))
    have m4 : ∀ z ∈ y4.1.weights Tryz.prog 50, z ≤ reachBytes := fun z hz => hw1 z (.inr (.inr (.inr (.inr (.inl hz)))))
    have m5 : ∀ z ∈ y5.1.weights Tryz.prog 53, z ≤ reachBytes := fun z hz => hw1 z (.inr (.inr (.inr (.inr (.inr (.inl hz))))))
    clear hw hw1
    obtain ⟨kind, e0, w0, q0⟩ := DataW.trod_int Tryz.underlying3 g0
    simp at e0
    subst e0
    have I0 := i64_of_wf q0
    clear g0
    obtain ⟨mon, e1, w1, q1⟩ := DataW.trod_string Tryz.underlying9 g1
    simp at e1
    subst e1
    have I1 : Len mon := by
      rw [w1] at m1
      have hh := m1 mon.data.toList.length (by simp [DataW.weights])
      have e3 : reachBytes = 140737488351232 := by decide
      rw [e3] at hh
      unfold Len
      simpa using hh
    clear g1
    obtain ⟨name, e2, w2, q2⟩ := DataW.trod_string Tryz.underlying9 g2
    simp at e2
    subst e2
    have I2 : Len name := by
      rw [w2] at m2
      have hh := m2 name.data.toList.length (by simp [DataW.weights])
      have e3 : reachBytes = 140737488351232 := by decide
      rw [e3] at hh
      unfold Len
      simpa using hh
    clear g2
    obtain ⟨k, e3, w3, q3⟩ := DataW.trod_int Tryz.underlying2 g3
    simp at e3
    subst e3
    have I3 := i64_of_wf q3
    clear g3
    obtain ⟨e, e4, I4⟩ := open_ex n _ _ g4 m4
    clear g4
    obtain ⟨bla, blc, bl, e5, I5, J5⟩ := open_sl ⟨.mk none 0 []⟩ (cells := Bl.cells) (Is := fun b => b.Is W.heap.size W) (size := 1) Tryz.underlying53 oc43 (fun b => rfl) (by decide) g5 m5 (fun n1 h1 cs x h hw => open_bl_of (fun n2 h2 => ih n2 (by omega)) cs x h hw)
    simp at e5
    subst e5
    clear g5
    obtain ⟨pos, e6, w6, q6⟩ := DataW.trod_int Tryz.underlying3 g6
    simp at e6
    subst e6
    have I6 := i64_of_wf q6
    clear g6
    refine ⟨.mk kind mon name k e bla blc bl pos, ?_, St.Is.up ⟨⟨I0, I3, I6, I1, I2⟩, I4, I5, J5⟩⟩
    simp only [St.cells, ← e4, List.cons_append, List.nil_append]
theorem open_bl {H : Type} {enc : TypeId × Value → H} {W : World} (fuel : Nat) (cs : List Value) (x : DataW H × List MemPlace) (h : DataW.trod enc Tryz.prog W 0 (fun _ => true) true fuel 42 cs = some x) (hw : (∀ k ∈ x.1.weights Tryz.prog 42, k ≤ reachBytes)) : ∃ b : Bl, cs = b.cells ∧ b.Is W.heap.size W :=
  open_bl_of (fun n' _ => open_st n') cs x h hw
set_option maxRecDepth 100000 in
theorem open_va {H : Type} {enc : TypeId × Value → H} {W : World} (fuel : Nat) : ∀ (cs : List Value) (x : DataW H × List MemPlace), DataW.trod enc Tryz.prog W 0 (fun _ => true) true fuel 41 cs = some x → (∀ k ∈ x.1.weights Tryz.prog 41, k ≤ reachBytes) → ∃ s : Va, cs = s.cells ∧ s.Is := by
    intro cs x h hw
    obtain ⟨xs, n, rfl, rfl, hlen, hxl, hf⟩ := DataW.trod_struct Tryz.underlying41 h
    rw [oc55] at hlen
    obtain ⟨v0, v1, v2, v3, v4, v5, rfl⟩ := list6 hlen
    obtain ⟨y0, y1, y2, y3, y4, y5, rfl⟩ := list6 (show xs.length = 6 from hxl)
    have g0 : DataW.trod enc Tryz.prog W 0 (fun _ => true) true n 9 [v0] = some y0 := by
      have g : DataW.trod enc Tryz.prog W 0 (fun _ => true) true n 9 (([v0, v1, v2, v3, v4, v5].drop 0).take (Tryz.prog.cellsOf 9)) = some y0 := hf 0 _ rfl
      rw [oc9] at g
      exact g
    have g1 : DataW.trod enc Tryz.prog W 0 (fun _ => true) true n 3 [v1] = some y1 := by
      have g : DataW.trod enc Tryz.prog W 0 (fun _ => true) true n 3 (([v0, v1, v2, v3, v4, v5].drop 1).take (Tryz.prog.cellsOf 3)) = some y1 := hf 1 _ rfl
      rw [oc3] at g
      exact g
    have g2 : DataW.trod enc Tryz.prog W 0 (fun _ => true) true n 2 [v2] = some y2 := by
      have g : DataW.trod enc Tryz.prog W 0 (fun _ => true) true n 2 (([v0, v1, v2, v3, v4, v5].drop 2).take (Tryz.prog.cellsOf 2)) = some y2 := hf 2 _ rfl
      rw [oc2] at g
      exact g
    have g3 : DataW.trod enc Tryz.prog W 0 (fun _ => true) true n 2 [v3] = some y3 := by
      have g : DataW.trod enc Tryz.prog W 0 (fun _ => true) true n 2 (([v0, v1, v2, v3, v4, v5].drop 3).take (Tryz.prog.cellsOf 2)) = some y3 := hf 3 _ rfl
      rw [oc2] at g
      exact g
    have g4 : DataW.trod enc Tryz.prog W 0 (fun _ => true) true n 2 [v4] = some y4 := by
      have g : DataW.trod enc Tryz.prog W 0 (fun _ => true) true n 2 (([v0, v1, v2, v3, v4, v5].drop 4).take (Tryz.prog.cellsOf 2)) = some y4 := hf 4 _ rfl
      rw [oc2] at g
      exact g
    have g5 : DataW.trod enc Tryz.prog W 0 (fun _ => true) true n 3 [v5] = some y5 := by
      have g : DataW.trod enc Tryz.prog W 0 (fun _ => true) true n 3 (([v0, v1, v2, v3, v4, v5].drop 5).take (Tryz.prog.cellsOf 3)) = some y5 := hf 5 _ rfl
      rw [oc3] at g
      exact g
    clear hf h hlen hxl
    have hw1 : ∀ z, z ∈ DataW.weightsEach Tryz.prog [9, 3, 2, 2, 2, 3] [y0.1, y1.1, y2.1, y3.1, y4.1, y5.1] → z ≤ reachBytes := by
      intro z hz
      refine hw z ?_
      show z ∈ DataW.weights Tryz.prog 41 (DataW.agg _)
      rw [DataW.weights, Tryz.underlying41]
      exact hz
    simp only [DataW.weightsEach, List.mem_append] at hw1
    have m0 : ∀ z ∈ y0.1.weights Tryz.prog 9, z ≤ reachBytes := fun z hz => hw1 z (.inl hz)
    clear hw hw1
    obtain ⟨name, e0, w0, q0⟩ := DataW.trod_string Tryz.underlying9 g0
    simp at e0
    subst e0
    have I0 : Len name := by
      rw [w0] at m0
      have hh := m0 name.data.toList.length (by simp [DataW.weights])
      have e3 : reachBytes = 140737488351232 := by decide
      rw [e3] at hh
      unfold Len
      simpa using hh
    clear g0
    obtain ⟨type, e1, w1, q1⟩ := DataW.trod_int Tryz.underlying3 g1
    simp at e1
    subst e1
    have I1 := i64_of_wf q1
    clear g1
    obtain ⟨lo, e2, w2, q2⟩ := DataW.trod_int Tryz.underlying2 g2
    simp at e2
    subst e2
    have I2 := i64_of_wf q2
    clear g2
    obtain ⟨hi, e3, w3, q3⟩ := DataW.trod_int Tryz.underlying2 g3
    simp at e3
    subst e3
    have I3 := i64_of_wf q3
    clear g3
    obtain ⟨init, e4, w4, q4⟩ := DataW.trod_int Tryz.underlying2 g4
    simp at e4
    subst e4
    have I4 := i64_of_wf q4
    clear g4
    obtain ⟨pos, e5, w5, q5⟩ := DataW.trod_int Tryz.underlying3 g5
    simp at e5
    subst e5
    have I5 := i64_of_wf q5
    clear g5
    exact ⟨⟨name, type, lo, hi, init, pos⟩, rfl, I0, I1, I2, I3, I4, I5⟩
set_option maxRecDepth 100000 in
theorem open_me {H : Type} {enc : TypeId × Value → H} {W : World} (fuel : Nat) : ∀ (cs : List Value) (x : DataW H × List MemPlace), DataW.trod enc Tryz.prog W 0 (fun _ => true) true fuel 44 cs = some x → (∀ k ∈ x.1.weights Tryz.prog 44, k ≤ reachBytes) → ∃ s : Me, cs = s.cells ∧ s.Is W.heap.size W := by
    intro cs x h hw
    obtain ⟨xs, n, rfl, rfl, hlen, hxl, hf⟩ := DataW.trod_struct Tryz.underlying44 h
    rw [oc57] at hlen
    obtain ⟨v0, v1, v2, rfl⟩ := list3 hlen
    obtain ⟨y0, y1, y2, rfl⟩ := list3 (show xs.length = 3 from hxl)
    have g0 : DataW.trod enc Tryz.prog W 0 (fun _ => true) true n 9 [v0] = some y0 := by
      have g : DataW.trod enc Tryz.prog W 0 (fun _ => true) true n 9 (([v0, v1, v2].drop 0).take (Tryz.prog.cellsOf 9)) = some y0 := hf 0 _ rfl
      rw [oc9] at g
      exact g
    have g1 : DataW.trod enc Tryz.prog W 0 (fun _ => true) true n 42 [v1] = some y1 := by
      have g : DataW.trod enc Tryz.prog W 0 (fun _ => true) true n 42 (([v0, v1, v2].drop 1).take (Tryz.prog.cellsOf 42)) = some y1 := hf 1 _ rfl
      rw [oc43] at g
      exact g
    have g2 : DataW.trod enc Tryz.prog W 0 (fun _ => true) true n 3 [v2] = some y2 := by
      have g : DataW.trod enc Tryz.prog W 0 (fun _ => true) true n 3 (([v0, v1, v2].drop 2).take (Tryz.prog.cellsOf 3)) = some y2 := hf 2 _ rfl
      rw [oc3] at g
      exact g
    clear hf h hlen hxl
    have hw1 : ∀ z, z ∈ DataW.weightsEach Tryz.prog [9, 42, 3] [y0.1, y1.1, y2.1] → z ≤ reachBytes := by
      intro z hz
      refine hw z ?_
      show z ∈ DataW.weights Tryz.prog 44 (DataW.agg _)
      rw [DataW.weights, Tryz.underlying44]
      exact hz
    simp only [DataW.weightsEach, List.mem_append] at hw1
    have m0 : ∀ z ∈ y0.1.weights Tryz.prog 9, z ≤ reachBytes := fun z hz => hw1 z (.inl hz)
    have m1 : ∀ z ∈ y1.1.weights Tryz.prog 42, z ≤ reachBytes := fun z hz => hw1 z (.inr (.inl hz))
    clear hw hw1
    obtain ⟨name, e0, w0, q0⟩ := DataW.trod_string Tryz.underlying9 g0
    simp at e0
    subst e0
    have I0 : Len name := by
      rw [w0] at m0
      have hh := m0 name.data.toList.length (by simp [DataW.weights])
      have e3 : reachBytes = 140737488351232 := by decide
      rw [e3] at hh
      unfold Len
      simpa using hh
    clear g0
    obtain ⟨body, e1, I1⟩ := open_bl n _ _ g1 m1
    simp only [Bl.cells, List.cons.injEq, and_true] at e1
    subst e1
    clear g1
    obtain ⟨pos, e2, w2, q2⟩ := DataW.trod_int Tryz.underlying3 g2
    simp at e2
    subst e2
    have I2 := i64_of_wf q2
    clear g2
    exact ⟨⟨name, body, pos⟩, rfl, I0, I2, I1⟩
set_option maxRecDepth 100000 in
theorem open_mo {H : Type} {enc : TypeId × Value → H} {W : World} (fuel : Nat) : ∀ (cs : List Value) (x : DataW H × List MemPlace), DataW.trod enc Tryz.prog W 0 (fun _ => true) true fuel 39 cs = some x → (∀ k ∈ x.1.weights Tryz.prog 39, k ≤ reachBytes) → ∃ s : Mo, cs = s.cells ∧ s.Is W.heap.size W := by
    intro cs x h hw
    obtain ⟨xs, n, rfl, rfl, hlen, hxl, hf⟩ := DataW.trod_struct Tryz.underlying39 h
    rw [oc53] at hlen
    obtain ⟨v0, v1, v2, v3, rfl⟩ := list4 hlen
    obtain ⟨y0, y1, y2, y3, rfl⟩ := list4 (show xs.length = 4 from hxl)
    have g0 : DataW.trod enc Tryz.prog W 0 (fun _ => true) true n 9 [v0] = some y0 := by
      have g : DataW.trod enc Tryz.prog W 0 (fun _ => true) true n 9 (([v0, v1, v2, v3].drop 0).take (Tryz.prog.cellsOf 9)) = some y0 := hf 0 _ rfl
      rw [oc9] at g
      exact g
    have g1 : DataW.trod enc Tryz.prog W 0 (fun _ => true) true n 36 [v1] = some y1 := by
      have g : DataW.trod enc Tryz.prog W 0 (fun _ => true) true n 36 (([v0, v1, v2, v3].drop 1).take (Tryz.prog.cellsOf 36)) = some y1 := hf 1 _ rfl
      rw [oc50] at g
      exact g
    have g2 : DataW.trod enc Tryz.prog W 0 (fun _ => true) true n 37 [v2] = some y2 := by
      have g : DataW.trod enc Tryz.prog W 0 (fun _ => true) true n 37 (([v0, v1, v2, v3].drop 2).take (Tryz.prog.cellsOf 37)) = some y2 := hf 2 _ rfl
      rw [oc51] at g
      exact g
    have g3 : DataW.trod enc Tryz.prog W 0 (fun _ => true) true n 3 [v3] = some y3 := by
      have g : DataW.trod enc Tryz.prog W 0 (fun _ => true) true n 3 (([v0, v1, v2, v3].drop 3).take (Tryz.prog.cellsOf 3)) = some y3 := hf 3 _ rfl
      rw [oc3] at g
      exact g
    clear hf h hlen hxl
    have hw1 : ∀ z, z ∈ DataW.weightsEach Tryz.prog [9, 36, 37, 3] [y0.1, y1.1, y2.1, y3.1] → z ≤ reachBytes := by
      intro z hz
      refine hw z ?_
      show z ∈ DataW.weights Tryz.prog 39 (DataW.agg _)
      rw [DataW.weights, Tryz.underlying39]
      exact hz
    simp only [DataW.weightsEach, List.mem_append] at hw1
    have m0 : ∀ z ∈ y0.1.weights Tryz.prog 9, z ≤ reachBytes := fun z hz => hw1 z (.inl hz)
    have m1 : ∀ z ∈ y1.1.weights Tryz.prog 36, z ≤ reachBytes := fun z hz => hw1 z (.inr (.inl hz))
    have m2 : ∀ z ∈ y2.1.weights Tryz.prog 37, z ≤ reachBytes := fun z hz => hw1 z (.inr (.inr (.inl hz)))
    clear hw hw1
    obtain ⟨name, e0, w0, q0⟩ := DataW.trod_string Tryz.underlying9 g0
    simp at e0
    subst e0
    have I0 : Len name := by
      rw [w0] at m0
      have hh := m0 name.data.toList.length (by simp [DataW.weights])
      have e3 : reachBytes = 140737488351232 := by decide
      rw [e3] at hh
      unfold Len
      simpa using hh
    clear g0
    obtain ⟨vsa, vsc, vs, e1, I1, J1⟩ := open_sl ⟨⟨⟨#[]⟩, 0, 0, 0, 0, 0⟩⟩ (cells := Va.cells) (Is := Va.Is) (size := 6) Tryz.underlying36 oc55 (fun b => rfl) (by decide) g1 m1 (fun n1 _ => open_va n1)
    simp at e1
    subst e1
    clear g1
    obtain ⟨msa, msc, ms, e2, I2, J2⟩ := open_sl ⟨⟨⟨#[]⟩, .mk none 0 [], 0⟩⟩ (cells := Me.cells) (Is := fun m => m.Is W.heap.size W) (size := 3) Tryz.underlying37 oc57 (fun b => rfl) (by decide) g2 m2 (fun n1 _ => open_me n1)
    simp at e2
    subst e2
    clear g2
    obtain ⟨pos, e3, w3, q3⟩ := DataW.trod_int Tryz.underlying3 g3
    simp at e3
    subst e3
    have I3 := i64_of_wf q3
    clear g3
    exact ⟨⟨name, vsa, vsc, vs, msa, msc, ms, pos⟩, rfl, ⟨I0, I3⟩, ⟨I1, J1⟩, I2, J2⟩
set_option maxRecDepth 100000 in
theorem open_ro {H : Type} {enc : TypeId × Value → H} {W : World} (fuel : Nat) : ∀ (cs : List Value) (x : DataW H × List MemPlace), DataW.trod enc Tryz.prog W 0 (fun _ => true) true fuel 47 cs = some x → (∀ k ∈ x.1.weights Tryz.prog 47, k ≤ reachBytes) → ∃ s : Ro, cs = s.cells ∧ s.Is W.heap.size W := by
    intro cs x h hw
    obtain ⟨xs, n, rfl, rfl, hlen, hxl, hf⟩ := DataW.trod_struct Tryz.underlying47 h
    rw [oc45] at hlen
    obtain ⟨v0, v1, v2, v3, v4, rfl⟩ := list5 hlen
    obtain ⟨y0, y1, y2, y3, y4, rfl⟩ := list5 (show xs.length = 5 from hxl)
    have g0 : DataW.trod enc Tryz.prog W 0 (fun _ => true) true n 9 [v0] = some y0 := by
      have g : DataW.trod enc Tryz.prog W 0 (fun _ => true) true n 9 (([v0, v1, v2, v3, v4].drop 0).take (Tryz.prog.cellsOf 9)) = some y0 := hf 0 _ rfl
      rw [oc9] at g
      exact g
    have g1 : DataW.trod enc Tryz.prog W 0 (fun _ => true) true n 4 [v1] = some y1 := by
      have g : DataW.trod enc Tryz.prog W 0 (fun _ => true) true n 4 (([v0, v1, v2, v3, v4].drop 1).take (Tryz.prog.cellsOf 4)) = some y1 := hf 1 _ rfl
      rw [oc4] at g
      exact g
    have g2 : DataW.trod enc Tryz.prog W 0 (fun _ => true) true n 2 [v2] = some y2 := by
      have g : DataW.trod enc Tryz.prog W 0 (fun _ => true) true n 2 (([v0, v1, v2, v3, v4].drop 2).take (Tryz.prog.cellsOf 2)) = some y2 := hf 2 _ rfl
      rw [oc2] at g
      exact g
    have g3 : DataW.trod enc Tryz.prog W 0 (fun _ => true) true n 42 [v3] = some y3 := by
      have g : DataW.trod enc Tryz.prog W 0 (fun _ => true) true n 42 (([v0, v1, v2, v3, v4].drop 3).take (Tryz.prog.cellsOf 42)) = some y3 := hf 3 _ rfl
      rw [oc43] at g
      exact g
    have g4 : DataW.trod enc Tryz.prog W 0 (fun _ => true) true n 3 [v4] = some y4 := by
      have g : DataW.trod enc Tryz.prog W 0 (fun _ => true) true n 3 (([v0, v1, v2, v3, v4].drop 4).take (Tryz.prog.cellsOf 3)) = some y4 := hf 4 _ rfl
      rw [oc3] at g
      exact g
    clear hf h hlen hxl
    have hw1 : ∀ z, z ∈ DataW.weightsEach Tryz.prog [9, 4, 2, 42, 3] [y0.1, y1.1, y2.1, y3.1, y4.1] → z ≤ reachBytes := by
      intro z hz
      refine hw z ?_
      show z ∈ DataW.weights Tryz.prog 47 (DataW.agg _)
      rw [DataW.weights, Tryz.underlying47]
      exact hz
    simp only [DataW.weightsEach, List.mem_append] at hw1
    have m0 : ∀ z ∈ y0.1.weights Tryz.prog 9, z ≤ reachBytes := fun z hz => hw1 z (.inl hz)
    have m3 : ∀ z ∈ y3.1.weights Tryz.prog 42, z ≤ reachBytes := fun z hz => hw1 z (.inr (.inr (.inr (.inl hz))))
    clear hw hw1
    obtain ⟨name, e0, w0, q0⟩ := DataW.trod_string Tryz.underlying9 g0
    simp at e0
    subst e0
    have I0 : Len name := by
      rw [w0] at m0
      have hh := m0 name.data.toList.length (by simp [DataW.weights])
      have e3 : reachBytes = 140737488351232 := by decide
      rw [e3] at hh
      unfold Len
      simpa using hh
    clear g0
    obtain ⟨star, e1, w1⟩ := DataW.trod_bool Tryz.underlying4 g1
    simp at e1
    subst e1
    clear g1
    obtain ⟨count, e2, w2, q2⟩ := DataW.trod_int Tryz.underlying2 g2
    simp at e2
    subst e2
    have I2 := i64_of_wf q2
    clear g2
    obtain ⟨body, e3, I3⟩ := open_bl n _ _ g3 m3
    simp only [Bl.cells, List.cons.injEq, and_true] at e3
    subst e3
    clear g3
    obtain ⟨pos, e4, w4, q4⟩ := DataW.trod_int Tryz.underlying3 g4
    simp at e4
    subst e4
    have I4 := i64_of_wf q4
    clear g4
    exact ⟨⟨name, star, count, body, pos⟩, rfl, I0, I2, I4, I3⟩
set_option maxRecDepth 100000 in
theorem open_pr {H : Type} {enc : TypeId × Value → H} {W : World} (fuel : Nat) : ∀ (cs : List Value) (x : DataW H × List MemPlace), DataW.trod enc Tryz.prog W 0 (fun _ => true) true fuel 25 cs = some x → (∀ k ∈ x.1.weights Tryz.prog 25, k ≤ reachBytes) → ∃ p : Pr, cs = [.slice p.mad p.mons.length p.mcap, .slice p.rad p.roles.length p.rcap] ∧ p.Is W.heap.size W := by
    intro cs x h hw
    obtain ⟨xs, n, rfl, rfl, hlen, hxl, hf⟩ := DataW.trod_struct Tryz.underlying25 h
    rw [oc25] at hlen
    obtain ⟨v0, v1, rfl⟩ := list2 hlen
    obtain ⟨y0, y1, rfl⟩ := list2 (show xs.length = 2 from hxl)
    have g0 : DataW.trod enc Tryz.prog W 0 (fun _ => true) true n 22 [v0] = some y0 := by
      have g : DataW.trod enc Tryz.prog W 0 (fun _ => true) true n 22 (([v0, v1].drop 0).take (Tryz.prog.cellsOf 22)) = some y0 := hf 0 _ rfl
      rw [oc22] at g
      exact g
    have g1 : DataW.trod enc Tryz.prog W 0 (fun _ => true) true n 23 [v1] = some y1 := by
      have g : DataW.trod enc Tryz.prog W 0 (fun _ => true) true n 23 (([v0, v1].drop 1).take (Tryz.prog.cellsOf 23)) = some y1 := hf 1 _ rfl
      rw [oc23] at g
      exact g
    clear hf h hlen hxl
    have hw1 : ∀ z, z ∈ DataW.weightsEach Tryz.prog [22, 23] [y0.1, y1.1] → z ≤ reachBytes := by
      intro z hz
      refine hw z ?_
      show z ∈ DataW.weights Tryz.prog 25 (DataW.agg _)
      rw [DataW.weights, Tryz.underlying25]
      exact hz
    simp only [DataW.weightsEach, List.mem_append] at hw1
    have m0 : ∀ z ∈ y0.1.weights Tryz.prog 22, z ≤ reachBytes := fun z hz => hw1 z (.inl hz)
    have m1 : ∀ z ∈ y1.1.weights Tryz.prog 23, z ≤ reachBytes := fun z hz => hw1 z (.inr (.inl hz))
    clear hw hw1
    obtain ⟨msa, msc, ms, e0, I0, J0⟩ := open_sl ⟨⟨⟨#[]⟩, none, 0, [], none, 0, [], 0⟩⟩ (cells := Mo.cells) (Is := fun m => m.Is W.heap.size W) (size := 4) Tryz.underlying22 oc53 (fun b => rfl) (by decide) g0 m0 (fun n1 _ => open_mo n1)
    simp at e0
    subst e0
    clear g0
    obtain ⟨rsa, rsc, rs, e1, I1, J1⟩ := open_sl ⟨⟨⟨#[]⟩, false, 0, .mk none 0 [], 0⟩⟩ (cells := Ro.cells) (Is := fun m => m.Is W.heap.size W) (size := 5) Tryz.underlying23 oc45 (fun b => rfl) (by decide) g1 m1 (fun n1 _ => open_ro n1)
    simp at e1
    subst e1
    clear g1
    exact ⟨⟨msa, msc, ms, rsa, rsc, rs⟩, rfl, ⟨I0, J0⟩, I1, J1⟩
/-- An argument of type Program. -/
theorem open_prog {H : Type} {enc : TypeId × Value → H} {W : World} {v : Value} {d : DataW H} {ps : List MemPlace} (hv : ∃ c, v = .agg c ∧ c.size = Tryz.prog.cellsOf 25) (h : DataW.Trod enc Tryz.prog W 0 (fun _ => true) true 25 v d ps) (hw : ∀ k ∈ d.weights Tryz.prog 25, k ≤ reachBytes) :
    ∃ p : Pr, v = p.val ∧ p.Is W.heap.size W := by
  obtain ⟨c, rfl, _⟩ := hv
  obtain ⟨fuel, hf⟩ := h
  obtain ⟨p, he, hI⟩ := open_pr fuel _ _ hf hw
  refine ⟨p, ?_, hI⟩
  have hc : c.toList = [.slice p.mad p.mons.length p.mcap, .slice p.rad p.roles.length p.rcap] := by simpa [Value.cells] using he
  show Value.agg c = Value.agg [.slice p.mad p.mons.length p.mcap, .slice p.rad p.roles.length p.rcap].toArray
  rw [← hc]
end Go.Proofs.YtnljhlmopjgogaaGreatDoor
namespace Go.Proofs.YtnljhlmopjgogaaGreatDoor
open Go.ChangeShapes Go.WideShapes Go.ChangeAt Go.RowKit Go.Deep Go.Joins
theorem own : ownKnob Tryz.prog.godebug = none := by kernel_rfl
theorem laidOut : laidOutB Tryz.prog = true := by kernel_rfl
def setCells (c : Array Value) : Obj → Obj
  | .cells _ t frozen => .cells c t frozen
  | o => o
/-- The settled world with the five variables as their initialisers lay them. -/
noncomputable def laidWorld (os : Os) : World :=
  let w0 := World.holding Tryz.prog os ⟨#[], #[], []⟩
  { w0 with heap := (((((w0.heap).modify 1 (setCells #[.bool false, .bool false, .int .i64 0, .bool false, .bool true, .int .i64 0, .bool false, .bool false, .int .i64 0, .bool false, .bool false, .int .i64 0, .bool true, .bool false, .int .i64 0, .bool false, .bool false, .int .i64 1, .bool false, .bool false, .int .i64 1, .bool false, .bool true, .int .i64 1, .bool false, .bool false, .int .i64 2, .bool false, .bool false, .int .i64 2, .bool false, .bool false, .int .i64 2, .bool false, .bool false, .int .i64 2, .bool false, .bool false, .int .i64 2, .bool false, .bool false, .int .i64 2, .bool false, .bool false, .int .i64 2, .bool false, .bool false, .int .i64 2, .bool false, .bool false, .int .i64 2, .bool false, .bool false, .int .i64 2])).modify 0 (setCells #[.bool false, .bool false, .bool false, .bool false, .int .i64 0, .int .i64 0, .bool false, .bool false, .bool false, .bool false, .int .i64 0, .int .i64 0, .bool true, .bool true, .bool false, .bool true, .int .i64 0, .int .i64 0, .bool false, .bool false, .bool false, .bool true, .int .i64 1, .int .i64 2, .bool false, .bool false, .bool false, .bool true, .int .i64 1, .int .i64 1, .bool false, .bool false, .bool false, .bool false, .int .i64 1, .int .i64 1, .bool false, .bool false, .bool false, .bool false, .int .i64 1, .int .i64 8, .bool true, .bool false, .bool false, .bool false, .int .i64 1, .int .i64 1, .bool true, .bool true, .bool false, .bool false, .int .i64 0, .int .i64 0, .bool true, .bool false, .bool true, .bool false, .int .i64 0, .int .i64 0, .bool true, .bool false, .bool false, .bool false, .int .i64 0, .int .i64 0, .bool true, .bool false, .bool false, .bool false, .int .i64 0, .int .i64 0])).modify 2 (setCells #[.int .u64 1, .int .u64 10, .int .u64 100, .int .u64 1000, .int .u64 10000, .int .u64 100000, .int .u64 1000000, .int .u64 10000000, .int .u64 100000000, .int .u64 1000000000, .int .u64 10000000000, .int .u64 100000000000, .int .u64 1000000000000, .int .u64 10000000000000, .int .u64 100000000000000, .int .u64 1000000000000000, .int .u64 10000000000000000, .int .u64 100000000000000000, .int .u64 1000000000000000000, .int .u64 10000000000000000000])).modify 3 (setCells #[.int .u8 0, .int .u8 1, .int .u8 28, .int .u8 2, .int .u8 29, .int .u8 14, .int .u8 24, .int .u8 3, .int .u8 30, .int .u8 22, .int .u8 20, .int .u8 15, .int .u8 25, .int .u8 17, .int .u8 4, .int .u8 8, .int .u8 31, .int .u8 27, .int .u8 13, .int .u8 23, .int .u8 21, .int .u8 19, .int .u8 16, .int .u8 7, .int .u8 26, .int .u8 12, .int .u8 18, .int .u8 6, .int .u8 11, .int .u8 5, .int .u8 10, .int .u8 9])).modify 4 (setCells #[.int .u8 0, .int .u8 1, .int .u8 56, .int .u8 2, .int .u8 57, .int .u8 49, .int .u8 28, .int .u8 3, .int .u8 61, .int .u8 58, .int .u8 42, .int .u8 50, .int .u8 38, .int .u8 29, .int .u8 17, .int .u8 4, .int .u8 62, .int .u8 47, .int .u8 59, .int .u8 36, .int .u8 45, .int .u8 43, .int .u8 51, .int .u8 22, .int .u8 53, .int .u8 39, .int .u8 33, .int .u8 30, .int .u8 24, .int .u8 18, .int .u8 12, .int .u8 5, .int .u8 63, .int .u8 55, .int .u8 48, .int .u8 27, .int .u8 60, .int .u8 41, .int .u8 37, .int .u8 16, .int .u8 46, .int .u8 35, .int .u8 44, .int .u8 21, .int .u8 52, .int .u8 32, .int .u8 23, .int .u8 11, .int .u8 54, .int .u8 26, .int .u8 40, .int .u8 15, .int .u8 34, .int .u8 20, .int .u8 31, .int .u8 10, .int .u8 25, .int .u8 14, .int .u8 19, .int .u8 9, .int .u8 13, .int .u8 8, .int .u8 7, .int .u8 6]) }
theorem laid_met (os : Os) (args : Array Value) : laidMet Tryz.prog Rows.printTextsRow.laid ((laidWorld os).forCall (fun _ _ => 0) ⟨#[], args, []⟩).memory :=
  laidMet_of_run' 8 (by kernel_rfl) (by kernel_rfl)
theorem weights_each {H : Type} {P : Program} {t : TypeId} {ts : List TypeId} {d : DataW H} {ds : List (DataW H)} (h : (DataW.weightsEach P (t :: ts) (d :: ds)).all (· ≤ reachBytes) = true) : (∀ k ∈ d.weights P t, k ≤ reachBytes) ∧ (DataW.weightsEach P ts ds).all (· ≤ reachBytes) = true := by
  rw [DataW.weightsEach, List.all_append, Bool.and_eq_true] at h
  exact ⟨fun k hk => by simpa using List.all_eq_true.1 h.1 k hk, h.2⟩
end Go.Proofs.YtnljhlmopjgogaaGreatDoor
