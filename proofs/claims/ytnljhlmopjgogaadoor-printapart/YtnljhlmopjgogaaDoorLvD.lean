/-
  live, the first line of every statement of stage 3, hands back true.
-/
import Derived.Test.YtnljhlmopjgogaaDoorLvC
namespace Go.Proofs.YtnljhlmopjgogaaDoor
open Go.RowKit Px
set_option maxHeartbeats 1000000 in
theorem v_any (s : ByteArray) (w : World) : Calls Tryd.prog 18 #[.string s] w fun r w' => r = .returned (.agg #[.int .i64 4, .string ⟨#[97]⟩, .string s, .int .i64 0, .slice none 0 0, .int .i64 0]) ∧ Below w.heap.size w w' := by
  go_enter Tryd.func18, Tryd.ntmps18
  go_wp2
  refine bodyPost_ret (v := Value.agg #[.int .i64 4, .string ⟨#[97]⟩, .string s, .int .i64 0, .slice none 0 0, .int .i64 0]) (by simp [results, Tryd.results18, go_sem]) rfl ⟨rfl, (Below.refl _ w).al le_rfl' _⟩
set_option maxHeartbeats 1000000 in
theorem num_any3 (n : Int) (w : World) : Calls Tryd.prog 11 #[.int .i64 n] w fun e w' => e = .returned (.int .i64 n) ∧ w' = w := by
  go_enter Tryd.func11, Tryd.ntmps11
  go_wp2
  go_ret
  exact ⟨rfl, rfl⟩
theorem lvT_calls (W : World) (hL : Laid W) : Calls Tryd.prog 15 #[.agg #[.slice none 0 0, .slice (some ⟨W.heap.size + 1, 0, none⟩) 1 1]] ((W.alloc (.cells #[.int .i64 1, .string ⟨#[]⟩, .string ⟨#[]⟩, .int .i64 0, .int .i64 0, .string ⟨#[]⟩, .string ⟨#[]⟩, .int .i64 0, .slice none 0 0, .int .i64 0, .slice none 0 0, .int .i64 0] 47)).alloc (.cells #[.string ⟨#[114]⟩, .bool false, .int .i64 2, .slice (some ⟨W.heap.size, 0, none⟩) 1 1, .int .i64 0] 49)) fun r w' => r = .returned (.tuple #[.string ⟨#[116, 104, 114, 101, 97, 100, 32, 114, 32, 50, 32, 123, 10, 32, 32, 115, 107, 105, 112, 59, 10, 125, 10]⟩, .int .i64 0]) ∧ Below W.heap.size W w' := by
  have hB : Below W.heap.size W ((W.alloc (.cells #[.int .i64 1, .string ⟨#[]⟩, .string ⟨#[]⟩, .int .i64 0, .int .i64 0, .string ⟨#[]⟩, .string ⟨#[]⟩, .int .i64 0, .slice none 0 0, .int .i64 0, .slice none 0 0, .int .i64 0] 47)).alloc (.cells #[.string ⟨#[114]⟩, .bool false, .int .i64 2, .slice (some ⟨W.heap.size, 0, none⟩) 1 1, .int .i64 0] 49)) := ((Below.refl _ W).al le_rfl' _).al le_rfl' _
  have h1 : ((W.alloc (.cells #[.int .i64 1, .string ⟨#[]⟩, .string ⟨#[]⟩, .int .i64 0, .int .i64 0, .string ⟨#[]⟩, .string ⟨#[]⟩, .int .i64 0, .slice none 0 0, .int .i64 0, .slice none 0 0, .int .i64 0] 47)).alloc (.cells #[.string ⟨#[114]⟩, .bool false, .int .i64 2, .slice (some ⟨W.heap.size, 0, none⟩) 1 1, .int .i64 0] 49)).heap[W.heap.size]? = some (.cells lvS.cells.toArray 47 (0, 0)) := (Below.heap_alloc _ _ _ (by simp)).trans (heap_alloc_new W _)
  have h2 : ((W.alloc (.cells #[.int .i64 1, .string ⟨#[]⟩, .string ⟨#[]⟩, .int .i64 0, .int .i64 0, .string ⟨#[]⟩, .string ⟨#[]⟩, .int .i64 0, .slice none 0 0, .int .i64 0, .slice none 0 0, .int .i64 0] 47)).alloc (.cells #[.string ⟨#[114]⟩, .bool false, .int .i64 2, .slice (some ⟨W.heap.size, 0, none⟩) 1 1, .int .i64 0] 49)).heap[W.heap.size + 1]? = some (.cells (lvR W.heap.size).cells.toArray 49 (0, 0)) := by
    have := heap_alloc_new (W.alloc (.cells #[.int .i64 1, .string ⟨#[]⟩, .string ⟨#[]⟩, .int .i64 0, .int .i64 0, .string ⟨#[]⟩, .string ⟨#[]⟩, .int .i64 0, .slice none 0 0, .int .i64 0, .slice none 0 0, .int .i64 0] 47)) (.cells #[.string ⟨#[114]⟩, .bool false, .int .i64 2, .slice (some ⟨W.heap.size, 0, none⟩) 1 1, .int .i64 0] 49)
    rw [World.size_alloc] at this
    exact this
  have h3 := printText_any (lvP W.heap.size (W.heap.size + 1)) _ _ (Nat.le_refl _) (lvP_is h1 h2 (by simp; omega) (by simp)) (hL.below hB hL.size) (by rw [lvP_size]; omega)
  rw [lvP_out] at h3
  refine h3.mono ?_
  rintro r w' ⟨rfl, hb⟩
  exact ⟨rfl, hB.tr le_rfl' hb⟩
theorem lvN_calls (W : World) (hL : Laid W) : Calls Tryd.prog 19 #[.agg #[.slice none 0 0, .slice (some ⟨W.heap.size, 0, none⟩) 1 1]] (W.alloc (.cells #[.string ⟨#[114]⟩, .bool true, .int .i64 0, .slice none 0 0, .int .i64 0] 49)) fun r w' => r = .returned (.int .i64 1) ∧ Below W.heap.size W w' := by
  have hB : Below W.heap.size W (W.alloc (.cells #[.string ⟨#[114]⟩, .bool true, .int .i64 0, .slice none 0 0, .int .i64 0] 49)) := (Below.refl _ W).al le_rfl' _
  have h2 : (W.alloc (.cells #[.string ⟨#[114]⟩, .bool true, .int .i64 0, .slice none 0 0, .int .i64 0] 49)).heap[W.heap.size]? = some (.cells lvQ.cells.toArray 49 (0, 0)) := heap_alloc_new W _
  have h3 := printNest_any (lvP2 W.heap.size) _ _ (Nat.le_refl _) (lvP2_is h2 (by simp)) (hL.below hB hL.size) (by rw [lvP2_size]; omega)
  rw [lvP2_nst] at h3
  refine h3.mono ?_
  rintro r w' ⟨rfl, hb⟩
  exact ⟨rfl, hB.tr le_rfl' hb⟩
theorem lvZ_calls (W : World) (hL : Laid W) : Calls Tryd.prog 9 #[.agg #[.int .i64 0, .string ⟨#[]⟩, .string ⟨#[]⟩, .int .i64 0, .slice none 0 0, .int .i64 0]] W fun r w' => r = .returned (.tuple #[.string ⟨#[]⟩, .int .i64 20]) ∧ Below W.heap.size W w' := by
  have h3 := printExpr_any exZ _ W (Nat.le_refl _) (exZ_is _ _) hL (by simp [exZ, Ex.subs, Ex.subsL])
  rw [exZ_out] at h3
  exact h3
theorem lvE_calls (g1 g2 g3 n₀ : Nat) (W : World) (hn : n₀ ≤ W.heap.size) (hI : (lvE g1 g2 g3).Is n₀ W) (hL : Laid W) : Calls Tryd.prog 9 #[.agg #[.int .i64 16, .string ⟨#[]⟩, .string ⟨#[]⟩, .int .i64 0, .slice (some ⟨g3, 0, none⟩) 2 2, .int .i64 0]] W fun r w' => r = .returned (.tuple #[.string ⟨#[40, 97, 46, 120, 32, 124, 124, 32, 97, 46, 121, 41, 32, 38, 38, 32, 33, 97, 46, 122]⟩, .int .i64 0]) ∧ Below W.heap.size W w' := by
  have h3 := printExpr_any (lvE g1 g2 g3) n₀ W hn hI hL (by rw [lvE_subs]; omega)
  rw [lvE_out] at h3
  exact h3
theorem lvE_nests (g1 g2 g3 n₀ : Nat) (W : World) (hn : n₀ ≤ W.heap.size) (hI : (lvE g1 g2 g3).Is n₀ W) (hL : Laid W) : Calls Tryd.prog 12 #[.agg #[.int .i64 16, .string ⟨#[]⟩, .string ⟨#[]⟩, .int .i64 0, .slice (some ⟨g3, 0, none⟩) 2 2, .int .i64 0]] W fun r w' => r = .returned (.int .i64 1) ∧ Below W.heap.size W w' := by
  have h3 := nestExpr_any (lvE g1 g2 g3) n₀ W hn hI hL (by rw [lvE_subs]; omega)
  rw [show nestOut (lvE g1 g2 g3) = 1 by rw [nestOut, lvE_ok, lvE_nest]; rfl] at h3
  exact h3
set_option maxRecDepth 100000 in
set_option maxHeartbeats 1000000 in
theorem live_any (w : World) (hL : Laid w) : Calls Tryd.prog 8 #[] w fun r w' => r = .returned (.bool true) ∧ Below w.heap.size w w' := by
  have hv1 := v_any ⟨#[120]⟩ w
  have hv2 := fun W => v_any ⟨#[121]⟩ W
  have hv3 := fun W => v_any ⟨#[122]⟩ W
  go_enter Tryd.func8, Tryd.ntmps8
  go_upto_region 2 with (first
    | (go_at_call 18; (with_reducible refine hv1.mono ?_); rintro r u1 ⟨rfl, bb1⟩)
    | (go_at_call 18; (with_reducible refine (hv2 _).mono ?_); rintro r u2 ⟨rfl, bb2⟩)
    | (go_at_call 18; (with_reducible refine (hv3 _).mono ?_); rintro r u3 ⟨rfl, bb3⟩))
  obtain ⟨W, hW⟩ : ∃ W, ((u3.alloc (.cells #[.int .i64 4, .string ⟨#[97]⟩, .string ⟨#[122]⟩, .int .i64 0, .slice none 0 0, .int .i64 0] 24)).alloc (.cells #[.int .i64 17, .string ⟨#[]⟩, .string ⟨#[]⟩, .int .i64 0, .slice (some ⟨u2.heap.size, 0, none⟩) 2 2, .int .i64 0, .int .i64 5, .string ⟨#[]⟩, .string ⟨#[]⟩, .int .i64 0, .slice (some ⟨u3.heap.size, 0, none⟩) 1 1, .int .i64 0] 24)).alloc (.cells #[.int .i64 16, .string ⟨#[]⟩, .string ⟨#[]⟩, .int .i64 0, .slice (some ⟨u3.heap.size + 1, 0, none⟩) 2 2, .int .i64 0] 24) = W := ⟨_, rfl⟩
  have hBW : Below u3.heap.size u3 W := by rw [← hW]; exact (((Below.refl _ u3).al le_rfl' _).al le_rfl' _).al le_rfl' _
  have hz1 := bb1.size
  have hz2 := bb2.size
  have hz3 := bb3.size
  simp only [World.size_alloc] at hz3
  have hB : Below w.heap.size w W := (bb1.trans (bb2.mono hz1)).trans ((((Below.refl _ u2).al le_rfl' _).mono (by omega)).trans ((bb3.mono (by simp; omega)).trans (hBW.mono (by omega))))
  have r1 : W.heap[u2.heap.size]? = some (.cells ((lvX 120).cells ++ (lvX 121).cells).toArray 24 (0, 0)) := (hBW.block _ (by omega)).trans ((bb3.block _ (by simp)).trans (heap_alloc_new u2 _))
  have r2 : W.heap[u3.heap.size]? = some (.cells (lvX 122).cells.toArray 24 (0, 0)) := by rw [← hW]; exact (Below.heap_alloc _ _ _ (by simp; omega)).trans ((Below.heap_alloc _ _ _ (by simp)).trans (heap_alloc_new u3 _))
  have r3 : W.heap[u3.heap.size + 1]? = some (.cells ((lvO u2.heap.size).cells ++ (lvN u3.heap.size).cells).toArray 24 (0, 0)) := by
    rw [← hW]
    refine (Below.heap_alloc _ _ _ (by simp)).trans ?_
    have := heap_alloc_new (u3.alloc (.cells #[.int .i64 4, .string ⟨#[97]⟩, .string ⟨#[122]⟩, .int .i64 0, .slice none 0 0, .int .i64 0] 24)) (.cells #[.int .i64 17, .string ⟨#[]⟩, .string ⟨#[]⟩, .int .i64 0, .slice (some ⟨u2.heap.size, 0, none⟩) 2 2, .int .i64 0, .int .i64 5, .string ⟨#[]⟩, .string ⟨#[]⟩, .int .i64 0, .slice (some ⟨u3.heap.size, 0, none⟩) 1 1, .int .i64 0] 24)
    rw [World.size_alloc] at this
    exact this
  have r4 : ExBox W (u3.heap.size + 1 + 1) (lvE u2.heap.size u3.heap.size (u3.heap.size + 1)) := by
    rw [← hW]
    have := heap_alloc_new ((u3.alloc (.cells #[.int .i64 4, .string ⟨#[97]⟩, .string ⟨#[122]⟩, .int .i64 0, .slice none 0 0, .int .i64 0] 24)).alloc (.cells #[.int .i64 17, .string ⟨#[]⟩, .string ⟨#[]⟩, .int .i64 0, .slice (some ⟨u2.heap.size, 0, none⟩) 2 2, .int .i64 0, .int .i64 5, .string ⟨#[]⟩, .string ⟨#[]⟩, .int .i64 0, .slice (some ⟨u3.heap.size, 0, none⟩) 1 1, .int .i64 0] 24)) (.cells #[.int .i64 16, .string ⟨#[]⟩, .string ⟨#[]⟩, .int .i64 0, .slice (some ⟨u3.heap.size + 1, 0, none⟩) 2 2, .int .i64 0] 24)
    rw [World.size_alloc, World.size_alloc] at this
    exact this
  have hzW : u3.heap.size + 1 + 1 < W.heap.size := r4.lt
  have hI : (lvE u2.heap.size u3.heap.size (u3.heap.size + 1)).Is W.heap.size W := lvE_is (lvO_is r1 (by omega)) (lvN_is r2 (by omega)) r3 (by omega)
  rw [hW]
  clear hW r1 r2 r3 bb1 bb2 bb3 hBW hv1 hv2 hv3 hz1 hz2 hz3
  obtain ⟨g1, hg1⟩ : ∃ g, u2.heap.size = g := ⟨_, rfl⟩
  obtain ⟨g2, hg2⟩ : ∃ g, u3.heap.size = g := ⟨_, rfl⟩
  rw [hg1, hg2] at hI r4
  rw [hg2] at hzW
  rw [hg1, hg2]
  clear hg1 hg2
  have h3 := hL.size
  have HB : Hid (∀ V, Below W.heap.size W V → V.cell? ⟨g2 + 1 + 1, 0, none⟩ = some (.int .i64 16) ∧ V.cell? ⟨g2 + 1 + 1, 1, none⟩ = some (.string ⟨#[]⟩) ∧ V.cell? ⟨g2 + 1 + 1, 2, none⟩ = some (.string ⟨#[]⟩) ∧ V.cell? ⟨g2 + 1 + 1, 3, none⟩ = some (.int .i64 0) ∧ V.cell? ⟨g2 + 1 + 1, 4, none⟩ = some (.slice (some ⟨g2 + 1, 0, none⟩) 2 2) ∧ V.cell? ⟨g2 + 1 + 1, 5, none⟩ = some (.int .i64 0)) := fun V hV => (r4.below hV hzW).cells
  have hbW := hB.size
  have hLW : ∀ V, Below W.heap.size W V → Laid V := fun V hV => hL.below (hB.trans (hV.mono hbW)) h3
  have hE : ∀ V, Below W.heap.size W V → Calls Tryd.prog 9 #[.agg #[.int .i64 16, .string ⟨#[]⟩, .string ⟨#[]⟩, .int .i64 0, .slice (some ⟨g2 + 1, 0, none⟩) 2 2, .int .i64 0]] V fun r w' => r = .returned (.tuple #[.string ⟨#[40, 97, 46, 120, 32, 124, 124, 32, 97, 46, 121, 41, 32, 38, 38, 32, 33, 97, 46, 122]⟩, .int .i64 0]) ∧ Below V.heap.size V w' := fun V hV => lvE_calls g1 g2 (g2 + 1) W.heap.size V hV.size (hI.below hV) (hLW V hV)
  have hE2 : ∀ V, Below W.heap.size W V → Calls Tryd.prog 12 #[.agg #[.int .i64 16, .string ⟨#[]⟩, .string ⟨#[]⟩, .int .i64 0, .slice (some ⟨g2 + 1, 0, none⟩) 2 2, .int .i64 0]] V fun r w' => r = .returned (.int .i64 1) ∧ Below V.heap.size V w' := fun V hV => lvE_nests g1 g2 (g2 + 1) W.heap.size V hV.size (hI.below hV) (hLW V hV)
  have B := Below.refl W.heap.size W
  obtain ⟨c0, c1, c2, c3, c4, c5⟩ := HB.out _ B
  clear r4 hI
  go_wp2_with (first
    | (go_at_call 9; (with_reducible refine (hE _ B).mono ?_); rintro r w1 ⟨rfl, bb⟩; have B := B.tr le_rfl' bb; clear c0 c1 c2 c3 c4 c5; have hT := lvT_calls w1 (hLW _ B))
    | (go_at_call 15; (with_reducible refine hT.mono ?_); rintro r w2 ⟨rfl, bb⟩; have B := B.tr le_rfl' bb; have hZ := lvZ_calls w2 (hLW _ B))
    | (go_at_call 9; (with_reducible refine hZ.mono ?_); rintro r w3 ⟨rfl, bb⟩; have B := B.tr le_rfl' bb; obtain ⟨c0, c1, c2, c3, c4, c5⟩ := HB.out _ B)
    | (go_at_call 12; (with_reducible refine (hE2 _ B).mono ?_); rintro r w4 ⟨rfl, bb⟩; have B := B.tr le_rfl' bb; have hN := lvN_calls w4 (hLW _ B))
    | (go_at_call 11; (with_reducible refine (num_any3 _ _).mono ?_); rintro r w' ⟨rfl, hw'⟩; subst hw')
    | (go_at_call 19; (with_reducible refine hN.mono ?_); rintro r w5 ⟨rfl, bb⟩; have B := B.tr le_rfl' bb))
  go_ret
  exact ⟨rfl, hB.trans (B.mono hbW)⟩
end Go.Proofs.YtnljhlmopjgogaaDoor
