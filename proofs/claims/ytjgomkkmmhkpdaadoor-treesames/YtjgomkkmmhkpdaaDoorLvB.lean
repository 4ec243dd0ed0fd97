/-
  live, the first line of every statement of this stage, hands back true.
-/
import Derived.Test.YtjgomkkmmhkpdaaDoorLvA
namespace Go.Proofs.YtjgomkkmmhkpdaaDoor
open Go.RowKit
/-- The world in which the small program lies. -/
def liveB (w w1 : World) : World := ((((w1.alloc (.cells vaV.cells.toArray 55)).alloc (.cells (moM w1.heap.size).cells.toArray 53)).alloc (.cells (stS (w.heap.size + 1)).cells.toArray 61)).alloc (.cells (roR (w.heap.size + 1) (w1.heap.size + 1 + 1)).cells.toArray 45)).alloc
  (.cells #[.slice (some ⟨w1.heap.size + 1, 0, none⟩) 1 1, .slice (some ⟨w1.heap.size + 1 + 1 + 1, 0, none⟩) 1 1] 25)
def liveP (w w1 : World) : Pr := prP (w.heap.size + 1) w1.heap.size (w1.heap.size + 1) (w1.heap.size + 1 + 1) (w1.heap.size + 1 + 1 + 1)
theorem heapAt {W : World} (o : Obj) {k : Nat} (h : W.heap.size = k) : (W.alloc o).heap[k]? = some o := by subst h; exact World.alloc_heap_new W o
theorem liveB_size (w w1 : World) : (liveB w w1).heap.size = w1.heap.size + 5 := by simp [liveB]
theorem liveB_below (w w1 : World) : Below w1.heap.size w1 (liveB w w1) := (((((Below.refl _ w1).al le_rfl' _).al le_rfl' _).al le_rfl' _).al le_rfl' _).al le_rfl' _
theorem liveP_is {w w1 : World} (hk : w1.heap[w.heap.size + 1]? = some (.cells (exX.cells ++ exY.cells).toArray 33 (0, 0))) : (liveP w w1).Is (liveB w w1).heap.size (liveB w w1) := by
  have hlt := (Array.getElem?_eq_some_iff.1 hk).1
  rw [liveB_size]
  refine prP_is (z1 := (0, 0)) (z2 := (0, 0)) (z3 := (0, 0)) (z4 := (0, 0)) (exE_is (((liveB_below w w1).block _ hlt).trans hk) (by omega)) ?_ ?_ ?_ ?_ (by omega) (by omega) (by omega) (by omega)
  · unfold liveB
    rw [Below.heap_alloc _ _ _ (by simp; omega), Below.heap_alloc _ _ _ (by simp; omega), Below.heap_alloc _ _ _ (by simp; omega), Below.heap_alloc _ _ _ (by simp)]
    exact heapAt _ rfl
  · unfold liveB
    rw [Below.heap_alloc _ _ _ (by simp), Below.heap_alloc _ _ _ (by simp), Below.heap_alloc _ _ _ (by simp)]
    exact heapAt _ (by simp)
  · unfold liveB
    rw [Below.heap_alloc _ _ _ (by simp), Below.heap_alloc _ _ _ (by simp)]
    exact heapAt _ (by simp)
  · unfold liveB
    rw [Below.heap_alloc _ _ _ (by simp)]
    exact heapAt _ (by simp)
theorem liveB_p (w w1 : World) : (liveB w w1).heap[w1.heap.size + 1 + 1 + 1 + 1]? = some (.cells #[.slice (some ⟨w1.heap.size + 1, 0, none⟩) 1 1, .slice (some ⟨w1.heap.size + 1 + 1 + 1, 0, none⟩) 1 1] 25 (0, 0)) := heapAt _ (by simp)
theorem live_kit {w w1 : World} {W : World} (h : ExBox W w.heap.size exX ∧ ExBox W (w.heap.size + 1 + 1) (exE (w.heap.size + 1)) ∧ W.heap[w1.heap.size + 1 + 1 + 1 + 1]? = some (.cells #[.slice (some ⟨w1.heap.size + 1, 0, none⟩) 1 1, .slice (some ⟨w1.heap.size + 1 + 1 + 1, 0, none⟩) 1 1] 25 (0, 0)) ∧
      (exE (w.heap.size + 1)).Is W.heap.size W ∧ (liveP w w1).Is W.heap.size W ∧ Shapes W) :
    (Calls Tryd.prog 15 #[.agg #[.int .i64 8, .string ⟨#[]⟩, .string ⟨#[]⟩, .int .i64 0, .slice (some ⟨w.heap.size + 1, 0, none⟩) 2 2, .int .i64 0], .agg #[.int .i64 8, .string ⟨#[]⟩, .string ⟨#[]⟩, .int .i64 0, .slice (some ⟨w.heap.size + 1, 0, none⟩) 2 2, .int .i64 0]] W fun r w' => r = .returned (.bool true) ∧ Below W.heap.size W w') ∧
    (Calls Tryd.prog 15 #[.agg #[.int .i64 8, .string ⟨#[]⟩, .string ⟨#[]⟩, .int .i64 0, .slice (some ⟨w.heap.size + 1, 0, none⟩) 2 2, .int .i64 0], .agg #[.int .i64 4, .string ⟨#[97]⟩, .string ⟨#[120]⟩, .int .i64 0, .slice none 0 0, .int .i64 0]] W fun r w' => r = .returned (.bool false) ∧ Below W.heap.size W w') ∧
    (Calls Tryd.prog 24 #[.agg #[.slice (some ⟨w1.heap.size + 1, 0, none⟩) 1 1, .slice (some ⟨w1.heap.size + 1 + 1 + 1, 0, none⟩) 1 1]] W fun r w' => r = .returned (.int .i64 4) ∧ Below W.heap.size W w') ∧
    (Calls Tryd.prog 10 #[.agg #[.slice (some ⟨w1.heap.size + 1, 0, none⟩) 1 1, .slice (some ⟨w1.heap.size + 1 + 1 + 1, 0, none⟩) 1 1]] W fun r w' => r = .returned (.int .i64 0) ∧ Below W.heap.size W w') ∧
    (Calls Tryd.prog 13 #[.agg #[.int .i64 0, .string ⟨#[]⟩, .string ⟨#[]⟩, .int .i64 0, .slice none 0 0, .int .i64 0]] W fun r w' => r = .returned (.int .i64 20) ∧ Below W.heap.size W w') ∧
    (Calls Tryd.prog 20 #[.agg #[.slice (some ⟨w1.heap.size + 1, 0, none⟩) 1 1, .slice (some ⟨w1.heap.size + 1 + 1 + 1, 0, none⟩) 1 1], .agg #[.slice (some ⟨w1.heap.size + 1, 0, none⟩) 1 1, .slice (some ⟨w1.heap.size + 1 + 1 + 1, 0, none⟩) 1 1]] W fun r w' => r = .returned (.bool true) ∧ Below W.heap.size W w') ∧
    (Calls Tryd.prog 20 #[.agg #[.slice (some ⟨w1.heap.size + 1, 0, none⟩) 1 1, .slice (some ⟨w1.heap.size + 1 + 1 + 1, 0, none⟩) 1 1], .agg #[.slice none 0 0, .slice none 0 0]] W fun r w' => r = .returned (.bool false) ∧ Below W.heap.size W w') ∧
    (Calls Tryd.prog 22 #[.slice none 0 0, .slice none 0 0] W fun r w' => r = .returned (.bool true) ∧ Below W.heap.size W w') := by
  obtain ⟨_, _, _, h4, h5, h6⟩ := h
  have q1 := sameExpr_any W.heap.size (exE (w.heap.size + 1)) (exE (w.heap.size + 1)) W (Nat.le_refl _) h4 h4
  have q2 := sameExpr_any W.heap.size (exE (w.heap.size + 1)) exX W (Nat.le_refl _) h4 (exX_is _ _)
  have q3 := size_any (liveP w w1) W.heap.size W (Nat.le_refl _) h5 (by rw [liveP, prP_size]; omega)
  have q4 := check_any (liveP w w1) W.heap.size W (Nat.le_refl _) h5 h6
  have q5 := checkExpr_any exZ W.heap.size W (Nat.le_refl _) (exZ_is _ _) h6
  have q6 := same_any W.heap.size (liveP w w1) (liveP w w1) W (Nat.le_refl _) h5 h5
  have q7 := same_any W.heap.size (liveP w w1) prZ W (Nat.le_refl _) h5 (prZ_is _ _)
  have q8 := sameStmts_any W.heap.size (.mk none 0 []) (.mk none 0 []) W (Nat.le_refl _) (Bl.Is.up ⟨slAt_nil, fun x hx => by cases hx⟩) (Bl.Is.up ⟨slAt_nil, fun x hx => by cases hx⟩)
  rw [exE_same] at q1
  rw [exE_x] at q2
  rw [show (liveP w w1).size = 4 from prP_size _ _ _ _ _] at q3
  rw [show (liveP w w1).ok = true from prP_ok _ _ _ _ _] at q4
  rw [exZ_ok] at q5
  rw [show (liveP w w1).same (liveP w w1) = true from prP_same _ _ _ _ _] at q6
  rw [show (liveP w w1).same prZ = false from prP_z _ _ _ _ _] at q7
  rw [show (Bl.mk none 0 []).same (Bl.mk none 0 []) = true by simp [Bl.same, St.sameL]] at q8
  exact ⟨q1, q2, q3, q4, q5, q6, q7, q8⟩
theorem alloc2 {W : World} (b i : Nat) (hb : b < W.heap.size) (o1 o2 : Obj) : ((W.alloc o1).alloc o2).cell? ⟨b, i, none⟩ = W.cell? ⟨b, i, none⟩ :=
  (((Below.refl W.heap.size W).al le_rfl' o1).al le_rfl' o2).cell (p := ⟨b, i, none⟩) hb
theorem alloc5 {W : World} (b i : Nat) (hb : b < W.heap.size) (o1 o2 o3 o4 o5 : Obj) : (((((W.alloc o1).alloc o2).alloc o3).alloc o4).alloc o5).cell? ⟨b, i, none⟩ = W.cell? ⟨b, i, none⟩ :=
  ((((((Below.refl W.heap.size W).al le_rfl' o1).al le_rfl' o2).al le_rfl' o3).al le_rfl' o4).al le_rfl' o5).cell (p := ⟨b, i, none⟩) hb
theorem lt_of_cell {w : World} {b o : Nat} {v : Value} (h : w.cell? ⟨b, o, none⟩ = some v) : b < w.heap.size := by
  rcases Nat.lt_or_ge b w.heap.size with h1 | h1
  · exact h1
  · exfalso
    have h2 : w.heap[b]? = none := by rw [Array.getElem?_eq_none_iff]; exact h1
    simp [World.cell?, h2] at h
set_option maxRecDepth 100000 in
set_option maxHeartbeats 8000000 in
theorem live_any (w : World) (hS : Shapes w) : Calls Tryd.prog 9 #[] w fun e w' => e = .returned (.bool true) ∧ Below w.heap.size w w' := by
  have hs2 := hS.size
  obtain ⟨A, hA⟩ : ∃ A, ((w.alloc (.cells exX.cells.toArray 33)).alloc (.cells (exX.cells ++ exY.cells).toArray 33)).alloc (.cells (exE (w.heap.size + 1)).cells.toArray 33) = A := ⟨_, rfl⟩
  have hBA : Below w.heap.size w A := by rw [← hA]; exact (((Below.refl _ w).al le_rfl' _).al le_rfl' _).al le_rfl' _
  have hAz : A.heap.size = w.heap.size + 3 := by rw [← hA]; simp
  have hk : A.heap[w.heap.size + 1]? = some (.cells (exX.cells ++ exY.cells).toArray 33 (0, 0)) := by
    rw [← hA, Below.heap_alloc _ _ _ (by simp)]
    exact heapAt _ (by simp)
  have hx : ExBox A w.heap.size exX := by
    show A.heap[_]? = _
    rw [← hA, Below.heap_alloc _ _ _ (by simp; omega), Below.heap_alloc _ _ _ (by simp)]
    exact World.alloc_heap_new w _
  have he : ExBox A (w.heap.size + 1 + 1) (exE (w.heap.size + 1)) := by
    show A.heap[_]? = _
    rw [← hA]
    exact heapAt _ (by simp)
  have hRead := reads_any (exE (w.heap.size + 1)) A.heap.size A (Nat.le_refl _) (exE_is hk (by omega)) (by rw [exE_subs]; simp)
  rw [exE_vars] at hRead
  have hSA := hS.below hBA hs2
  -- what holds behind Reads
  have hKit : ∀ w1, Below A.heap.size A w1 → ∀ W, Below (liveB w w1).heap.size (liveB w w1) W →
      ExBox W w.heap.size exX ∧ ExBox W (w.heap.size + 1 + 1) (exE (w.heap.size + 1)) ∧ W.heap[w1.heap.size + 1 + 1 + 1 + 1]? = some (.cells #[.slice (some ⟨w1.heap.size + 1, 0, none⟩) 1 1, .slice (some ⟨w1.heap.size + 1 + 1 + 1, 0, none⟩) 1 1] 25 (0, 0)) ∧
      (exE (w.heap.size + 1)).Is W.heap.size W ∧ (liveP w w1).Is W.heap.size W ∧ Shapes W := by
    intro w1 hb1 W hW
    have hz1 := hb1.size
    have hzW := hW.size
    have hLz := liveB_size w w1
    have hb2 := (hb1.tr le_rfl' (liveB_below w w1)).tr le_rfl' hW
    have hk1 : w1.heap[w.heap.size + 1]? = _ := (hb1.block _ (by omega)).trans hk
    refine ⟨hx.below hb2 (by omega), he.below hb2 (by omega), (hW.block _ (by omega)).trans (liveB_p w w1), exE_is ((hb2.block _ (by omega)).trans hk) (by omega), ((liveP_is hk1).below hW).mono hzW, hSA.below hb2 (by omega)⟩
  have hA2 := hA
  simp only [exE, exX, exY, Ex.cells, List.cons_append, List.nil_append, List.length_cons, List.length_nil, Nat.zero_add, Nat.reduceAdd] at hA2
  have HA := hid hA2
  have HKIT := hid hKit
  clear hA hA2 hKit hSA hk
  have hE1 : ∀ w1, Below A.heap.size A w1 → ExBox w1 w.heap.size exX ∧ ExBox w1 (w.heap.size + 1 + 1) (exE (w.heap.size + 1)) := fun w1 hb1 => ⟨hx.below hb1 (by omega), he.below hb1 (by omega)⟩
  clear he hx
  have hBA' := hid hBA
  clear hBA
  have HAZ := hid hAz
  clear hAz
  simp only [exE, Ex.cells, Ex.val, List.length_cons, List.length_nil, Nat.zero_add, Nat.reduceAdd] at hRead
  rw [← HA.out] at hRead
  go_enter Tryd.func9, Tryd.ntmps9
  go_wp2_with (first
    | (go_at_call 18; refine hRead.mono ?_; clear hRead; rintro e w1 ⟨v, rfl, hown, hb1⟩; rw [HA.out] at hown hb1; obtain ⟨e0, e1, e2, e3, e4, e5⟩ := (hE1 w1 hb1).2.cells; simp at e4; obtain ⟨x0, x1, x2, x3, x4, x5⟩ := (hE1 w1 hb1).1.cells; simp at x4; obtain ⟨g', cap', rfl⟩ := ownsRow_succ hown; have hlow : w1.cell? ⟨g', 0, none⟩ = some (.string ⟨#[97, 46, 120]⟩) := hown.cellAt 0 (by simp); have hgl : g' < w1.heap.size := lt_of_cell hlow; have hzl : w.heap.size + 1 + 1 < w1.heap.size := by have h1 := HAZ.out; have h2 := hb1.size; omega
       have hzl1 : w.heap.size + 1 < w1.heap.size := by omega
       have hzl0 : w.heap.size < w1.heap.size := by omega
       have al5 := @alloc5 w1; have al2 := @alloc2 w1)
    | (go_at_call 22; refine ((live_kit (HKIT.out w1 hb1 _ hc8)).2.2.2.2.2.2.2).mono ?_; rintro e w9 ⟨rfl, hb9⟩; have hc9 := Below.tr hc8 le_rfl' hb9; have hK9 := HKIT.out w1 hb1 _ hc9; obtain ⟨x0, x1, x2, x3, x4, x5⟩ := hK9.1.cells; obtain ⟨e0, e1, e2, e3, e4, e5⟩ := hK9.2.1.cells; have p0 := cell_of hK9.2.2.1 0; have p1 := cell_of hK9.2.2.1 1; simp at p0 p1 e4 x4; clear hK9)
    | (go_at_call 20; refine ((live_kit (HKIT.out w1 hb1 _ hc7)).2.2.2.2.2.2.1).mono ?_; rintro e w8 ⟨rfl, hb8⟩; have hc8 := Below.tr hc7 le_rfl' hb8; have hK8 := HKIT.out w1 hb1 _ hc8; obtain ⟨x0, x1, x2, x3, x4, x5⟩ := hK8.1.cells; obtain ⟨e0, e1, e2, e3, e4, e5⟩ := hK8.2.1.cells; have p0 := cell_of hK8.2.2.1 0; have p1 := cell_of hK8.2.2.1 1; simp at p0 p1 e4 x4; clear hK8)
    | (go_at_call 20; refine ((live_kit (HKIT.out w1 hb1 _ hc6)).2.2.2.2.2.1).mono ?_; rintro e w7 ⟨rfl, hb7⟩; have hc7 := Below.tr hc6 le_rfl' hb7; have hK7 := HKIT.out w1 hb1 _ hc7; obtain ⟨x0, x1, x2, x3, x4, x5⟩ := hK7.1.cells; obtain ⟨e0, e1, e2, e3, e4, e5⟩ := hK7.2.1.cells; have p0 := cell_of hK7.2.2.1 0; have p1 := cell_of hK7.2.2.1 1; simp at p0 p1 e4 x4; clear hK7)
    | (go_at_call 13; refine ((live_kit (HKIT.out w1 hb1 _ hc5)).2.2.2.2.1).mono ?_; rintro e w6 ⟨rfl, hb6⟩; have hc6 := Below.tr hc5 le_rfl' hb6; have hK6 := HKIT.out w1 hb1 _ hc6; obtain ⟨x0, x1, x2, x3, x4, x5⟩ := hK6.1.cells; obtain ⟨e0, e1, e2, e3, e4, e5⟩ := hK6.2.1.cells; have p0 := cell_of hK6.2.2.1 0; have p1 := cell_of hK6.2.2.1 1; simp at p0 p1 e4 x4; clear hK6)
    | (go_at_call 10; refine ((live_kit (HKIT.out w1 hb1 _ hc4)).2.2.2.1).mono ?_; rintro e w5 ⟨rfl, hb5⟩; have hc5 := Below.tr hc4 le_rfl' hb5; have hK5 := HKIT.out w1 hb1 _ hc5; obtain ⟨x0, x1, x2, x3, x4, x5⟩ := hK5.1.cells; obtain ⟨e0, e1, e2, e3, e4, e5⟩ := hK5.2.1.cells; have p0 := cell_of hK5.2.2.1 0; have p1 := cell_of hK5.2.2.1 1; simp at p0 p1 e4 x4; clear hK5)
    | (go_at_call 24; refine ((live_kit (HKIT.out w1 hb1 _ hc3)).2.2.1).mono ?_; rintro e w4 ⟨rfl, hb4⟩; have hc4 := Below.tr hc3 le_rfl' hb4; have hK4 := HKIT.out w1 hb1 _ hc4; obtain ⟨x0, x1, x2, x3, x4, x5⟩ := hK4.1.cells; obtain ⟨e0, e1, e2, e3, e4, e5⟩ := hK4.2.1.cells; have p0 := cell_of hK4.2.2.1 0; have p1 := cell_of hK4.2.2.1 1; simp at p0 p1 e4 x4; clear hK4)
    | (go_at_call 15; refine ((live_kit (HKIT.out w1 hb1 _ hc2)).2.1).mono ?_; rintro e w3 ⟨rfl, hb3⟩; have hc3 := Below.tr hc2 le_rfl' hb3; have hK3 := HKIT.out w1 hb1 _ hc3; obtain ⟨x0, x1, x2, x3, x4, x5⟩ := hK3.1.cells; obtain ⟨e0, e1, e2, e3, e4, e5⟩ := hK3.2.1.cells; have p0 := cell_of hK3.2.2.1 0; have p1 := cell_of hK3.2.2.1 1; simp at p0 p1 e4 x4; clear hK3)
    | (go_at_call 15; refine ((live_kit (HKIT.out w1 hb1 _ (Below.refl (liveB w w1).heap.size (liveB w w1)))).1).mono ?_; rintro e w2 ⟨rfl, hb2⟩; have hc2 := Below.tr (Below.refl (liveB w w1).heap.size (liveB w w1)) le_rfl' hb2; have hK2 := HKIT.out w1 hb1 _ hc2; obtain ⟨x0, x1, x2, x3, x4, x5⟩ := hK2.1.cells; obtain ⟨e0, e1, e2, e3, e4, e5⟩ := hK2.2.1.cells; have p0 := cell_of hK2.2.2.1 0; have p1 := cell_of hK2.2.2.1 1; simp at p0 p1 e4 x4; clear hK2))
  go_ret
  exact ⟨rfl, ((hBA'.out.tr le_rfl' hb1).tr le_rfl' (liveB_below w w1)).tr le_rfl' hc9⟩
end Go.Proofs.YtjgomkkmmhkpdaaDoor
