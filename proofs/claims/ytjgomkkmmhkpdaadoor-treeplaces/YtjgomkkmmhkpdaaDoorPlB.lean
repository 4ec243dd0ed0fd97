/-
  The statement TreePlaces: its walk.
-/
import Derived.Test.YtjgomkkmmhkpdaaDoorPlM
import Derived.Test.YtjgomkkmmhkpdaaDoorPtB
import Derived.Deep.RegionHeld3
namespace Go.Proofs.YtjgomkkmmhkpdaaDoor
open Go.RowKit
set_option maxRecDepth 100000 in
set_option maxHeartbeats 8000000 in
theorem treePlaces_walk (a : Ex) (by' : Int) (w : World) (hS : Shapes w) (ha : a.Is w.heap.size w) (hby : I64 by') :
    Calls Tryd.prog 6 #[a.val, .int .i64 by'] w fun e w' => e = .returned (.bool true) ∧ Below w.heap.size w w' := by
  have hs2 := hS.size
  have hrc := rest_count a 400
  obtain ⟨ra, hra⟩ : ∃ ra, restE a 400 = ra := ⟨_, rfl⟩
  have h12 : ∀ W, Below w.heap.size w W → Calls Tryd.prog 12 #[a.val, .int .i64 400] W fun r w' => r = .returned (.int .i64 ra) ∧ Below W.heap.size W w' := fun W hW => by
    have := restExpr_any w.heap.size a 400 W (by omega) (by omega) hW.size (ha.below hW)
    rw [hra] at this; exact this
  rw [hra] at hrc
  clear hra
  have h9 : ∀ W, Below w.heap.size w W → Calls Tryd.prog 9 #[] W fun r w' => r = .returned (.bool true) ∧ Below W.heap.size W w' := fun W hW => live_any W (hS.below hW hs2)
  have h26 : a.subs.length ≤ 1000 → ∀ W, Below w.heap.size w W → Calls Tryd.prog 26 #[a.val, .int .i64 by'] W fun r w' => ∃ op' mon' name' n' ad' cap' kids' pos', r = .returned (.agg #[.int .i64 op', .string mon', .string name', .int .i64 n', .slice ad' (List.length kids') cap', .int .i64 pos']) ∧
      Hid (a.same (.mk op' mon' name' n' ad' cap' kids' pos') = true) ∧ Hid (Ex.Is w'.heap.size w' (.mk op' mon' name' n' ad' cap' kids' pos')) ∧ Below W.heap.size W w' := fun hc W hW => by
    refine (moved_any w.heap.size by' hby a W hW.size (ha.below hW) hc).mono ?_
    rintro r w' ⟨f, rfl, h1, h2, h3⟩
    rcases f with ⟨op', mon', name', n', ad', cap', kids', pos'⟩
    exact ⟨op', mon', name', n', ad', cap', kids', pos', rfl, h1, (h2.keep (fun b hb => hb.2) (fun _ _ => rfl)).is, h3⟩
  rcases hae : a with ⟨op, mon, name, n, ad, cap, kids, pos⟩
  have HAE := hid hae
  rw [hae] at h12 h26
  clear hae
  simp only [Ex.val, Ex.cells] at h12 h26 ⊢
  have B1 : Below w.heap.size w (w.alloc (.cells #[.int .i64 op, .string mon, .string name, .int .i64 n, .slice ad kids.length cap, .int .i64 pos] 33)) := (Below.refl _ w).al le_rfl' _
  have hcA := six_new (W := w) (t := 33) (c0 := .int .i64 op) (c1 := .string mon) (c2 := .string name) (c3 := .int .i64 n) (c4 := .slice ad kids.length cap) (c5 := .int .i64 pos) rfl
  cases hpa : decide (ra < 0)
  · have hra0 : 0 ≤ ra := by simpa using hpa
    have hna := hrc hra0
    have hc := h26 (by rw [← HAE.out]; omega)
    clear hrc h26
    go_enter Tryd.func6, Tryd.ntmps6
    go_wp2_with (first
      | (go_at_call 12; refine (h12 _ B1).mono ?_; rintro r w1 ⟨rfl, bb1⟩; have B2 := B1.tr le_rfl' bb1; obtain ⟨e0, e1, e2, e3, e4, e5⟩ := six_keep hcA bb1)
      | (go_at_call 26; refine (hc _ B2).mono ?_; rintro r w2 ⟨op', mon', name', n', ad', cap', kids', pos', rfl, HX, HY, bb2⟩))
    clear h12 hc
    have B3 := B2.tr le_rfl' bb2
    have B4 := B3.al le_rfl' (.cells #[.int .i64 op', .string mon', .string name', .int .i64 n', .slice ad' kids'.length cap', .int .i64 pos'] 33)
    have hcE := six_keep hcA ((bb1.tr le_rfl' bb2).al le_rfl' (.cells #[.int .i64 op', .string mon', .string name', .int .i64 n', .slice ad' kids'.length cap', .int .i64 pos'] 33))
    have hcF := six_new (W := w2) (t := 33) (c0 := .int .i64 op') (c1 := .string mon') (c2 := .string name') (c3 := .int .i64 n') (c4 := .slice ad' kids'.length cap') (c5 := .int .i64 pos') rfl
    have hIF : ∀ W, Below (w2.heap.size + 1) (w2.alloc (.cells #[.int .i64 op', .string mon', .string name', .int .i64 n', .slice ad' kids'.length cap', .int .i64 pos'] 33)) W → Ex.Is W.heap.size W (.mk op' mon' name' n' ad' cap' kids' pos') := fun W hW => by
      have h1 := HY.out.below ((Below.refl w2.heap.size w2).al le_rfl' (.cells #[.int .i64 op', .string mon', .string name', .int .i64 n', .slice ad' kids'.length cap', .int .i64 pos'] 33))
      have h2 := hW.size
      exact (h1.below (hW.mono (by omega))).mono (by simp at h2; omega)
    obtain ⟨W3, hW3⟩ : ∃ W3, w2.alloc (.cells #[.int .i64 op', .string mon', .string name', .int .i64 n', .slice ad' kids'.length cap', .int .i64 pos'] 33) = W3 := ⟨_, rfl⟩
    have hz3 : W3.heap.size = w2.heap.size + 1 := by rw [← hW3]; simp
    rw [hW3] at B4 hcE hcF hIF ⊢
    rw [← hz3] at hIF
    clear hW3 B3 bb1 bb2 HY
    have hA : ∀ W, Below W3.heap.size W3 W → a.Is W.heap.size W := fun W hW => (ha.below (B4.tr le_rfl' hW)).mono ((B4.tr le_rfl' hW).size)
    obtain ⟨F, hF⟩ : ∃ F, Ex.mk op' mon' name' n' ad' cap' kids' pos' = F := ⟨_, rfl⟩
    have hva : a.val = .agg #[.int .i64 op, .string mon, .string name, .int .i64 n, .slice ad kids.length cap, .int .i64 pos] := by rw [HAE.out]; rfl
    have hvf : F.val = .agg #[.int .i64 op', .string mon', .string name', .int .i64 n', .slice ad' kids'.length cap', .int .i64 pos'] := by rw [← hF]; rfl
    rw [hF] at hIF HX
    rw [← HAE.out] at HX
    clear hF
    have hlen := same_len HX.out
    have Q15a : ∀ W, Below W3.heap.size W3 W → Calls Tryd.prog 15 #[a.val, F.val] W fun r w' => r = .returned (.bool true) ∧ Below W.heap.size W w' := fun W hW => by
      have h := sameExpr_any W.heap.size a F W (Nat.le_refl _) (hA W hW) (hIF W hW)
      rw [HX.out] at h; exact h
    have Q15b : ∀ W, Below W3.heap.size W3 W → Calls Tryd.prog 15 #[F.val, a.val] W fun r w' => r = .returned (.bool true) ∧ Below W.heap.size W w' := fun W hW => by
      have h := sameExpr_any W.heap.size F a W (Nat.le_refl _) (hIF W hW) (hA W hW)
      rw [same_symm _ _ HX.out] at h; exact h
    have R : ∀ (e : Ex) (W : World), e.Is W.heap.size W → e.subs.length ≤ 1000 → Calls Tryd.prog 18 #[e.val] W fun r w' => ∃ v, r = .returned v ∧ TxAt w' v ((varsOf e.subs).map vname) ∧ Below W.heap.size W w' := fun e W he hc => by
      refine (reads_any e W.heap.size W (Nat.le_refl _) he (by omega)).mono ?_
      rintro r w' ⟨v, rfl, hown, hbb⟩
      exact ⟨v, rfl, tx_of (by have := varsOf_len e.subs; omega) hown, hbb⟩
    have Q18e := fun W (hW : Below W3.heap.size W3 W) => R a W (hA W hW) (by omega)
    have Q18f := fun W (hW : Below W3.heap.size W3 W) => R F W (hIF W hW) (by omega)
    rw [← same_vars HX.out] at Q18f
    have Q13e := fun W (hW : Below W3.heap.size W3 W) => checkExpr_any a W.heap.size W (Nat.le_refl _) (hA W hW) (hS.below (B4.tr le_rfl' hW) hs2)
    have Q13f := fun W (hW : Below W3.heap.size W3 W) => checkExpr_any F W.heap.size W (Nat.le_refl _) (hIF W hW) (hS.below (B4.tr le_rfl' hW) hs2)
    rw [← same_ok HX.out] at Q13f
    obtain ⟨oa, hoa⟩ : ∃ oa : Int, (if a.ok then (0 : Int) else 20) = oa := ⟨_, rfl⟩
    rw [hoa] at Q13e Q13f
    obtain ⟨l, hl⟩ : ∃ l, (varsOf a.subs).map vname = l := ⟨_, rfl⟩
    rw [hl] at Q18e Q18f
    have Q9 := fun W (hW : Below W3.heap.size W3 W) => h9 W (B4.tr le_rfl' hW)
    rw [hva] at Q15a Q15b Q18e Q13e
    rw [hvf] at Q15a Q15b Q18f Q13f
    clear hoa hl R h9 hIF hA hlen hva hvf
    have B := below_drew (Below.refl W3.heap.size W3)
    have SE := six_keep hcE B
    have SF := six_keep hcF B
    clear e0 e1 e2 e3 e4 e5
    go_region_held3 (fun W => (W.cell? ⟨w.heap.size, 0, none⟩ = some (.int .i64 op) ∧ W.cell? ⟨w.heap.size, 1, none⟩ = some (.string mon) ∧ W.cell? ⟨w.heap.size, 2, none⟩ = some (.string name) ∧ W.cell? ⟨w.heap.size, 3, none⟩ = some (.int .i64 n) ∧ W.cell? ⟨w.heap.size, 4, none⟩ = some (.slice ad kids.length cap) ∧ W.cell? ⟨w.heap.size, 5, none⟩ = some (.int .i64 pos)) ∧
        (W.cell? ⟨w2.heap.size, 0, none⟩ = some (.int .i64 op') ∧ W.cell? ⟨w2.heap.size, 1, none⟩ = some (.string mon') ∧ W.cell? ⟨w2.heap.size, 2, none⟩ = some (.string name') ∧ W.cell? ⟨w2.heap.size, 3, none⟩ = some (.int .i64 n') ∧ W.cell? ⟨w2.heap.size, 4, none⟩ = some (.slice ad' kids'.length cap') ∧ W.cell? ⟨w2.heap.size, 5, none⟩ = some (.int .i64 pos')))
      (exact ⟨SE, SF⟩)
      (first
        | (go_at_call 15; have := M1; refine (Q15b _ B).mono ?_; rintro r u2 ⟨rfl, bb⟩; have B := B.tr le_rfl' bb; have SE := six_keep hcE B; have SF := six_keep hcF B)
        | (go_at_call 15; refine (Q15a _ B).mono ?_; rintro r u1 ⟨rfl, bb⟩; have B := B.tr le_rfl' bb; have SE := six_keep hcE B; have SF := six_keep hcF B; have M1 : True := trivial)
        | (go_at_call 18; have := M2; refine (Q18f _ B).mono ?_; rintro r u4 ⟨v2, rfl, x2, bb⟩; have B := B.tr le_rfl' bb; have SE := six_keep hcE B; have SF := six_keep hcF B; have x1 := x1.below bb)
        | (go_at_call 18; refine (Q18e _ B).mono ?_; rintro r u3 ⟨v1, rfl, x1, bb⟩; have B := B.tr le_rfl' bb; have SE := six_keep hcE B; have SF := six_keep hcF B; have M2 : True := trivial)
        | (go_at_call 17; refine (texts_same l v1 v2 _ x1 x2).mono ?_; rintro r u5 ⟨rfl, bb⟩; have B := B.tr le_rfl' bb; have SE := six_keep hcE B; have SF := six_keep hcF B)
        | (go_at_call 13; have := M3; refine (Q13f _ B).mono ?_; rintro r u7 ⟨rfl, bb⟩; have B := B.tr le_rfl' bb; have SE := six_keep hcE B; have SF := six_keep hcF B)
        | (go_at_call 13; refine (Q13e _ B).mono ?_; rintro r u6 ⟨rfl, bb⟩; have B := B.tr le_rfl' bb; have SE := six_keep hcE B; have SF := six_keep hcF B; have M3 : True := trivial)
        | (go_at_call 9; refine (Q9 _ B).mono ?_; rintro r u8 ⟨rfl, bb⟩; have B := B.tr le_rfl' bb; have SE := six_keep hcE B; have SF := six_keep hcF B))
    go_wp2
    go_ret
    exact ⟨rfl, B4.tr le_rfl' B⟩
  · go_enter Tryd.func6, Tryd.ntmps6
    go_wp2_with (first
      | (go_at_call 12; refine (h12 _ B1).mono ?_; rintro r w1 ⟨rfl, bb1⟩)
      | (go_at_call 9; refine (h9 _ (B1.tr le_rfl' bb1)).mono ?_; rintro r w2 ⟨rfl, bb2⟩))
    go_ret
    exact ⟨rfl, (B1.tr le_rfl' bb1).tr le_rfl' bb2⟩
end Go.Proofs.YtjgomkkmmhkpdaaDoor
