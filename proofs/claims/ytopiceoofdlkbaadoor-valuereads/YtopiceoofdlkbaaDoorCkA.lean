/-
  CheckExpr of package tree: whether an expression and all its parts have the shapes of their kinds; isNone, fitsExpr.
-/
import Derived.Test.YtopiceoofdlkbaaDoorShA
namespace Go.Proofs.YtopiceoofdlkbaaDoor
open Go.RowKit Go.Shelf
attribute [local go_sem] Oper.semAt_some
/-- All parts have the shapes of their kinds. -/
def Ex.ok (e : Ex) : Bool := e.subs.all Ex.ok1
theorem exBox_kept {W W' : World} {row : Option Nat} {b : Nat} {e : Ex} (h : ExBox W b e) (hg : W.grownBy W' row) (hr : ∀ r, row = some r → ∃ o : Obj, W.heap[r]? = some o ∧ o.isCells = false) : ExBox W' b e :=
  (hg.block b h.lt (fun e' => by obtain ⟨o, ho, hc⟩ := hr b e'.symm; rw [show W.heap[b]? = _ from h] at ho; cases ho; cases hc)).trans h
theorem kp_setCell {n₀ B b : Nat} {W : World} {v : Value} (h1 : n₀ ≤ b) (h2 : b < B) : Kp n₀ B W (W.setCell ⟨b, 0, none⟩ v) :=
  ⟨(Below.refl n₀ W).setCell (p := ⟨b, 0, none⟩) h1 _, fun k _ _ _ hk _ hc => ((grownBy_setCell' W b v).block k (Array.getElem?_eq_some_iff.1 hc).1 (fun e => by cases e; omega)).trans hc⟩
theorem keepsFrom_of {B : Nat} {W W' : World} (h : Below W.heap.size W W') : KeepsFrom B W W' := ⟨h.size, fun k _ _ h0 _ => (h.block k (Array.getElem?_eq_some_iff.1 h0).1).trans h0⟩
theorem boxed_of {W W' : World} {b : Nat} {t : TypeId} {v : Value} (h : Boxed W b t v) (hb : Below W.heap.size W W') : Boxed W' b t v := (hb.block _ h.lt).trans h
set_option maxRecDepth 100000 in
set_option maxHeartbeats 2000000 in
theorem checkExpr_in (n : Nat) (hn9 : 9 ≤ n) (T : Ex) (w : World) (hT : T.Is w.heap.size w) (hS : Shapes w) :
    CallsIn Fence.wide n Tryd.prog 35 #[T.val] w fun e w' => e = .returned (.int .i64 (if T.ok then 0 else 20)) ∧ Below w.heap.size w w' := by
  have hd : Fence.wide.depth = none := rfl
  have hro : Fence.wide.round = none := rfl
  have h1 : 1 ≤ n := by omega
  have hsz2 := hS.size
  have hpart := parts_in Fence.wide (n - 1) trivial rfl T
  obtain ⟨res, hres⟩ : ∃ res : Int, (if T.ok then (0 : Int) else 20) = res := ⟨_, rfl⟩
  rw [hres]
  have HR := hid hres
  clear hres
  rcases hTT : T with ⟨op, mon, name, k, ad, cap, kids, pos⟩
  rw [hTT] at hpart
  simp only [Ex.val, Ex.cells] at hpart ⊢
  refine callsIn_of_wp_marks Tryd.func35 rfl trivial ?_ hro
  simp only [Tryd.ntmps35, List.size_toArray, List.length_cons, List.length_nil, Nat.reduceAdd, Nat.reduceSub, Array.replicate_succ, Array.replicate_zero, List.push_toArray, List.append_toArray, List.nil_append, List.cons_append]
  gi_wp2_with (refine ⟨trivial, ?_⟩; gi_at_call 37; refine (hpart _).mono ?_; rintro e w' ⟨rfl, rfl⟩)
  obtain ⟨tv, htv⟩ : ∃ tv : Value, Value.agg #[.int .i64 op, .string mon, .string name, .int .i64 k, .slice ad kids.length cap, .int .i64 pos] = tv := ⟨_, rfl⟩
  have bR : Boxed (((w.alloc (.cells #[.int .i64 op, .string mon, .string name, .int .i64 k, .slice ad kids.length cap, .int .i64 pos] 28)).alloc (.cells #[.int .i64 0] 33)).alloc (.cells #[.int .i64 op, .string mon, .string name, .int .i64 k, .slice ad kids.length cap, .int .i64 pos] 28)) (w.heap.size + 1) 33 (.int .i64 0) := by
    have := (Boxed.new (w.alloc (.cells #[.int .i64 op, .string mon, .string name, .int .i64 k, .slice ad kids.length cap, .int .i64 pos] 28)) 33 (.int .i64 0)).alloc (.cells #[.int .i64 op, .string mon, .string name, .int .i64 k, .slice ad kids.length cap, .int .i64 pos] 28)
    rwa [World.size_alloc] at this
  have bA : ExBox (((w.alloc (.cells #[.int .i64 op, .string mon, .string name, .int .i64 k, .slice ad kids.length cap, .int .i64 pos] 28)).alloc (.cells #[.int .i64 0] 33)).alloc (.cells #[.int .i64 op, .string mon, .string name, .int .i64 k, .slice ad kids.length cap, .int .i64 pos] 28)) (w.heap.size + 1 + 1) T := by
    have := ExBox.new ((w.alloc (.cells #[.int .i64 op, .string mon, .string name, .int .i64 k, .slice ad kids.length cap, .int .i64 pos] 28)).alloc (.cells #[.int .i64 0] 33)) T
    rw [World.size_alloc, World.size_alloc, hTT] at this
    rw [hTT]
    exact this
  have hB0 : Below w.heap.size w (((w.alloc (.cells #[.int .i64 op, .string mon, .string name, .int .i64 k, .slice ad kids.length cap, .int .i64 pos] 28)).alloc (.cells #[.int .i64 0] 33)).alloc (.cells #[.int .i64 op, .string mon, .string name, .int .i64 k, .slice ad kids.length cap, .int .i64 pos] 28)) := (((Below.refl _ w).al le_rfl' _).al le_rfl' _).al le_rfl' _
  have hsz : (((w.alloc (.cells #[.int .i64 op, .string mon, .string name, .int .i64 k, .slice ad kids.length cap, .int .i64 pos] 28)).alloc (.cells #[.int .i64 0] 33)).alloc (.cells #[.int .i64 op, .string mon, .string name, .int .i64 k, .slice ad kids.length cap, .int .i64 pos] 28)).heap.size = w.heap.size + 3 := by simp
  obtain ⟨W0, hW0⟩ : ∃ W0, ((w.alloc (.cells #[.int .i64 op, .string mon, .string name, .int .i64 k, .slice ad kids.length cap, .int .i64 pos] 28)).alloc (.cells #[.int .i64 0] 33)).alloc (.cells #[.int .i64 op, .string mon, .string name, .int .i64 k, .slice ad kids.length cap, .int .i64 pos] 28) = W0 := ⟨_, rfl⟩
  rw [hW0] at bR bA hB0 hsz ⊢
  clear hW0
  rw [htv]
  have HTV := hid htv
  have HTT := hid hTT
  clear hpart htv hTT
  refine wpIn_rangeFunc_ownH hro h1 (gf := 54) (lb := #[.pointer (some ⟨w.heap.size + 1 + 1, 0, none⟩)]) rfl trivial (enters_of Tryd.func54 (by kernel_rfl) rfl)
    (parts_stops Fence.wide hd (n - 1) trivial trivial hro (w.heap.size + 1 + 1) w.heap.size W0.heap.size W0 (by omega) (by omega) T (hT.below hB0) bA) Kp.t (Kp.b (by omega)) (Below.refl _ _) (fun _ => rfl)
    (fun pre W => (Boxed W (w.heap.size + 1) 33 (.int .i64 0) ∧ pre.all (fun x => x.1.ok1) = true) ∧ Below w.heap.size W0 W)
    (fun c pre W => (c = .ret ∧ Boxed W (w.heap.size + 1) 33 (.int .i64 20) ∧ ∃ x ∈ pre, x.1.ok1 = false) ∧ Below w.heap.size W0 W)
    (OwnFrom.and (OwnFrom.and (Own.from (boxed_own _ _ _) _) (ownFrom_pure _ _)) (ownFrom_below (by omega) (by omega)))
    (fun c => OwnFrom.and (OwnFrom.and (ownFrom_pure _ (fun _ => c = .ret)) (OwnFrom.and (Own.from (boxed_own _ _ _) _) (ownFrom_pure _ _))) (ownFrom_below (by omega) (by omega)))
    ⟨⟨bR, rfl⟩, Below.refl _ _⟩
    (fun x a' W => ∃ Bx, W0.heap.size ≤ Bx ∧ ExBox W Bx x.1 ∧ a' = { tmps := #[tv, .pointer (some ⟨w.heap.size, 0, none⟩), .pointer (some ⟨w.heap.size + 1, 0, none⟩), .pointer (some ⟨Bx, 0, none⟩), tv, .func (.func 54) #[] #[.pointer (some ⟨w.heap.size + 1 + 1, 0, none⟩)], x.1.val, undef, undef, undef], defers := [] })
    (fun x a' _ X Y row hs hg hr => by obtain ⟨Bx, h1, h2, h3⟩ := hs; exact ⟨Bx, h1, exBox_kept h2 hg (fun r e => (hr r e).2), h3⟩)
    ?assign ?body ?done ?stop
  case assign =>
    rintro l pre ⟨⟨op', mon', name', k', ad', cap', kids', pos'⟩, hx⟩ W K ⟨⟨bR1, hall⟩, hB1⟩ hK
    simp only [Ex.val, Ex.cells]
    gi_wp2
    have hs1 := hB1.size
    exact hK _ _ ((KeepsOthers.alloc _ _).from _) (Kp.alloc (by omega) _) ⟨⟨bR1.alloc _, hall⟩, hB1.al (by omega) _⟩ ⟨W.heap.size, hs1, ExBox.new W (.mk op' mon' name' k' ad' cap' kids' pos'), rfl⟩
  case body =>
    rintro l pre ⟨⟨op', mon', name', k', ad', cap', kids', pos'⟩, hx⟩ a' W hl ⟨r, hr⟩ ⟨⟨bR1, hall⟩, hB1⟩ ⟨Bx, hBx, bX, rfl⟩ hlt
    have hs1 := hB1.size
    have hxW : (Ex.mk op' mon' name' k' ad' cap' kids' pos').Is w.heap.size W := hx.below hB1
    have hcall := isExpr_any _ w.heap.size W hxW ((hS.below hB0 hsz2).below hB1 hsz2)
    obtain ⟨c0, c1, c2, c3, c4, c5⟩ := bX.cells
    have HALL := hid hall
    clear hall
    have cR := bR1.cell
    have fR := bR1.frozen
    simp only [Ex.val, Ex.cells] at hcall
    cases hok : (Ex.mk op' mon' name' k' ad' cap' kids' pos').ok1
    · rw [hok] at hcall
      have HOK := hid hok
      clear hok
      gi_wp2_with (refine ⟨trivial, ?_⟩; gi_at_call 52; refine (CallsIn.inRound l (callsIn_wide.2 hcall)).mono ?_; rintro e w' ⟨rfl, hbel⟩; have bR2 := boxed_of bR1 hbel; have cR2 := bR2.cell; have fR2 := bR2.frozen)
      exact ⟨(keepsFrom_of hbel).trans ((KeepsOthers.setCell _ _ _).from _), ⟨rfl, bR2.set _, ⟨_, hx⟩, List.mem_append.2 (.inr (List.mem_singleton.2 rfl)), HOK.out⟩, (hB1.tr (by omega) hbel).setCell (p := ⟨w.heap.size + 1, 0, none⟩) (by simp) _⟩
    · rw [hok] at hcall
      have HOK := hid hok
      clear hok
      gi_wp2_with (refine ⟨trivial, ?_⟩; gi_at_call 52; refine (CallsIn.inRound l (callsIn_wide.2 hcall)).mono ?_; rintro e w' ⟨rfl, hbel⟩; have bR2 := boxed_of bR1 hbel)
      refine ⟨keepsFrom_of hbel, Kp.of (by omega) hbel, ⟨bR2, ?_⟩, hB1.tr (by omega) hbel⟩
      rw [List.all_append, HALL.out]
      simp only [List.all_cons, List.all_nil, HOK.out, Bool.and_true]
  case done =>
    rintro D ys W hD hys ⟨⟨bR1, hall⟩, hB1⟩ hK
    have cR := bR1.cell
    have fR := bR1.frozen
    have HALL := hid hall
    clear hall
    gi_wp2
    have hK' := (KeepsOthers.setCell W ⟨w.heap.size + 1, 0, none⟩ (.int .i64 0)).same D _ hK rfl
    refine ⟨by simp, .inl ⟨_, _, rfl, run_takeDeferred hK', ?_⟩⟩
    have hc5 := cell_kept (World.cell?_setCell_same' W ⟨w.heap.size + 1, 0, none⟩ (.int .i64 0) (by rw [cR]; rfl)) (grownBy_putObj' _ D (.deferred none)) (fun r e => by cases e; exact ⟨_, hK', rfl⟩)
    refine ⟨.int .i64 0, ?_, ?_, ((hB0.trans hB1).setCell (p := ⟨w.heap.size + 1, 0, none⟩) (by simp) _).trans (belowK_b (w := w) (Nat.le_refl _) _ D _ _ (by omega) hK' rfl rfl)⟩
    · simp [results, Tryd.f35, go_sem, hc5]
    · rw [← HR.out, if_pos]
      rw [Ex.ok, ← hys, List.all_map]
      exact HALL.out
  case stop =>
    rintro D c pre W hD hpre ⟨⟨rfl, bR1, x, hx, hok⟩, hB1⟩ hK
    have cR := bR1.cell
    have HOK := hid hok
    clear hok
    gi_wp2
    refine ⟨by simp, .inl ⟨_, _, rfl, run_takeDeferred hK, ?_⟩⟩
    have hc5 := cell_kept cR (grownBy_putObj' _ D (.deferred none)) (fun r e => by cases e; exact ⟨_, hK, rfl⟩)
    refine ⟨.int .i64 20, ?_, ?_, (hB0.trans hB1).trans (belowK_b (w := w) (Nat.le_refl _) W D _ _ (by omega) hK rfl rfl)⟩
    · simp [results, Tryd.f35, go_sem, hc5]
    · rw [← HR.out, if_neg]
      intro h
      have h2 := (List.all_eq_true.1 h) x.1 (hpre.subset (List.mem_map.2 ⟨x, hx, rfl⟩))
      rw [HOK.out] at h2
      cases h2
theorem checkExpr_any (T : Ex) (n₀ : Nat) (w : World) (hn : n₀ ≤ w.heap.size) (hT : T.Is n₀ w) (hS : Shapes w) :
    Calls Tryd.prog 35 #[T.val] w fun e w' => e = .returned (.int .i64 (if T.ok then 0 else 20)) ∧ Below w.heap.size w w' :=
  (callsIn_wide (n := 9)).1 (checkExpr_in 9 (Nat.le_refl _) T w (hT.mono hn) hS)
end Go.Proofs.YtopiceoofdlkbaaDoor
