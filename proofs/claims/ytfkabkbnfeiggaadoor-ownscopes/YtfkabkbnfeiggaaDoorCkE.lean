/-
  Check of package tree: whether a program has the shape that programs have.
-/
import Derived.Test.YtfkabkbnfeiggaaDoorCkD
import Derived.Test.YtfkabkbnfeiggaaDoorItD
namespace Go.Proofs.YtfkabkbnfeiggaaDoor
open Go.RowKit Go.Shelf
attribute [local go_sem] Oper.semAt_some
/-- A program has its shape. -/
def Pr.ok (p : Pr) : Bool := p.decl && p.stmts.all St.ok1
/-- The twelve cells of a statement. -/
def StBox (W : World) (b : Nat) (s : St) : Prop := W.heap[b]? = some (.cells s.cells.toArray 39 (0, 0))
theorem StBox.lt {W : World} {b : Nat} {s : St} (h : StBox W b s) : b < W.heap.size := (Array.getElem?_eq_some_iff.1 h).1
theorem StBox.new (W : World) (s : St) : StBox (W.alloc (.cells s.cells.toArray 39)) W.heap.size s := World.alloc_heap_new W _
theorem stBox_kept {W W' : World} {row : Option Nat} {b : Nat} {s : St} (h : StBox W b s) (hg : W.grownBy W' row) (hr : ∀ r, row = some r → ∃ o : Obj, W.heap[r]? = some o ∧ o.isCells = false) : StBox W' b s :=
  (hg.block b h.lt (fun e' => by obtain ⟨o, ho, hc⟩ := hr b e'.symm; rw [show W.heap[b]? = _ from h] at ho; cases ho; cases hc)).trans h
theorem StBox.cells {W : World} {b : Nat} {kind : Int} {mon name : ByteArray} {n : Int} {eop : Int} {emon ename : ByteArray} {en : Int} {ead : Option Addr} {ecap : Nat} {ekids : List Ex} {epos : Int} {ad : Option Addr} {cap : Nat} {blocks : List Bl} {pos : Int}
    (h : StBox W b (.mk kind mon name n ⟨eop, emon, ename, en, ead, ecap, ekids, epos⟩ ad cap blocks pos)) :
    (W.cell? ⟨b, 0, none⟩ = some (.int .i64 kind) ∧ W.cell? ⟨b, 1, none⟩ = some (.string mon) ∧ W.cell? ⟨b, 2, none⟩ = some (.string name) ∧ W.cell? ⟨b, 3, none⟩ = some (.int .i64 n)) ∧
    (W.cell? ⟨b, 4, none⟩ = some (.int .i64 eop) ∧ W.cell? ⟨b, 5, none⟩ = some (.string emon) ∧ W.cell? ⟨b, 6, none⟩ = some (.string ename) ∧ W.cell? ⟨b, 7, none⟩ = some (.int .i64 en) ∧ W.cell? ⟨b, 8, none⟩ = some (.slice ead ekids.length ecap) ∧ W.cell? ⟨b, 9, none⟩ = some (.int .i64 epos)) ∧
    W.cell? ⟨b, 10, none⟩ = some (.slice ad blocks.length cap) ∧ W.cell? ⟨b, 11, none⟩ = some (.int .i64 pos) := by
  have h' : W.heap[b]? = some (.cells #[.int .i64 kind, .string mon, .string name, .int .i64 n, .int .i64 eop, .string emon, .string ename, .int .i64 en, .slice ead ekids.length ecap, .int .i64 epos, .slice ad blocks.length cap, .int .i64 pos] 39 (0, 0)) := h
  exact ⟨⟨cell_of h' 0, cell_of h' 1, cell_of h' 2, cell_of h' 3⟩, ⟨cell_of h' 4, cell_of h' 5, cell_of h' 6, cell_of h' 7, cell_of h' 8, cell_of h' 9⟩, cell_of h' 10, cell_of h' 11⟩
set_option maxRecDepth 100000 in
set_option maxHeartbeats 2000000 in
theorem check_in (n : Nat) (hn9 : 9 ≤ n) (p : Pr) (w : World) (hT : p.Is w.heap.size w) (hS : Shapes w) :
    CallsIn Fence.wide n Tryd.prog 31 #[p.val] w fun e w' => e = .returned (.int .i64 (if p.ok then 0 else 20)) ∧ Below w.heap.size w w' := by
  have hd : Fence.wide.depth = none := rfl
  have hro : Fence.wide.round = none := rfl
  have h1 : 1 ≤ n := by omega
  have hsz2 := hS.size
  have hpart := statements_in Fence.wide (n - 1) trivial rfl p
  have hdecl := declares_any w.heap.size p ((w.alloc (.cells #[.slice p.mad p.mons.length p.mcap, .slice p.rad p.roles.length p.rcap] 45)).alloc (.cells #[.int .i64 0] 27)) (by simp; omega) (hT.below (((Below.refl _ w).al le_rfl' _).al le_rfl' _))
  obtain ⟨res, hres⟩ : ∃ res : Int, (if p.ok then (0 : Int) else 20) = res := ⟨_, rfl⟩
  rw [hres]
  have HR := hid hres
  clear hres
  rcases hpp : p with ⟨mad, mcap, mons, rad, rcap, roles⟩
  cases hdc : p.decl
  · rw [hdc] at hdecl
    have HDC := hid hdc
    clear hdc
    simp only [hpp, Pr.val] at hpart hdecl ⊢
    refine callsIn_of_wp_marks Tryd.func31 rfl trivial ?_ hro
    simp only [Tryd.ntmps31, List.size_toArray, List.length_cons, List.length_nil, Nat.reduceAdd, Nat.reduceSub, Array.replicate_succ, Array.replicate_zero, List.push_toArray, List.append_toArray, List.nil_append, List.cons_append]
    gi_wp2_with (refine ⟨trivial, ?_⟩; gi_at_call 46; refine (callsIn_wide.2 hdecl).mono ?_; rintro e w1 ⟨rfl, hb1⟩; obtain ⟨hcc, hff⟩ := bcell hb1)
    have bR : Boxed w1 (w.heap.size + 1) 27 (.int .i64 0) := by
      have := Boxed.new (w.alloc (.cells #[.slice mad mons.length mcap, .slice rad roles.length rcap] 45)) 27 (.int .i64 0)
      rw [World.size_alloc] at this
      exact boxed_of this hb1
    have hc5 := (bR.set (.int .i64 20)).cell
    refine ⟨.int .i64 20, ?_, ?_, ((((Below.refl _ w).al le_rfl' _).al le_rfl' _).tr le_rfl' hb1).setCell (p := ⟨w.heap.size + 1, 0, none⟩) (by simp) _⟩
    · simp [results, Tryd.f31, go_sem, hc5]
    · rw [← HR.out, if_neg]
      rw [Pr.ok, HDC.out]; simp
  · rw [hdc] at hdecl
    have HDC := hid hdc
    clear hdc
    have HPP := hid hpp
    simp only [hpp, Pr.val] at hpart hdecl ⊢
    clear hpp
    refine callsIn_of_wp_marks Tryd.func31 rfl trivial ?_ hro
    simp only [Tryd.ntmps31, List.size_toArray, List.length_cons, List.length_nil, Nat.reduceAdd, Nat.reduceSub, Array.replicate_succ, Array.replicate_zero, List.push_toArray, List.append_toArray, List.nil_append, List.cons_append]
    gi_wp2_with (first
      | (refine ⟨trivial, ?_⟩; gi_at_call 46; refine (callsIn_wide.2 hdecl).mono ?_; rintro e w1 ⟨rfl, hb1⟩; obtain ⟨hcc, hff⟩ := bcell hb1)
      | (refine ⟨trivial, ?_⟩; gi_at_call 47; refine (hpart _).mono ?_; rintro e w' ⟨rfl, rfl⟩))
    have bR0 : Boxed w1 (w.heap.size + 1) 27 (.int .i64 0) := by
      have := Boxed.new (w.alloc (.cells #[.slice mad mons.length mcap, .slice rad roles.length rcap] 45)) 27 (.int .i64 0)
      rw [World.size_alloc] at this
      exact boxed_of this hb1
    have bR := bR0.alloc (.cells #[.slice mad mons.length mcap, .slice rad roles.length rcap] 45)
    have bA : PrBox (w1.alloc (.cells #[.slice mad mons.length mcap, .slice rad roles.length rcap] 45)) w1.heap.size p := by
      rw [HPP.out]
      exact World.alloc_heap_new w1 _
    have hz1 := hb1.size
    simp at hz1
    have hB0 : Below w.heap.size w (w1.alloc (.cells #[.slice mad mons.length mcap, .slice rad roles.length rcap] 45)) := ((((Below.refl _ w).al le_rfl' _).al le_rfl' _).tr le_rfl' hb1).al le_rfl' _
    have hsz : (w1.alloc (.cells #[.slice mad mons.length mcap, .slice rad roles.length rcap] 45)).heap.size = w1.heap.size + 1 := by simp
    obtain ⟨W0, hW0⟩ : ∃ W0, w1.alloc (.cells #[.slice mad mons.length mcap, .slice rad roles.length rcap] 45) = W0 := ⟨_, rfl⟩
    obtain ⟨tv, htv⟩ : ∃ tv : Value, Value.agg #[.slice mad mons.length mcap, .slice rad roles.length rcap] = tv := ⟨_, rfl⟩
    rw [hW0] at bR bA hB0 hsz ⊢
    clear hW0
    rw [htv]
    clear hpart htv hdecl hcc hff
    refine wpIn_rangeFunc_ownH hro h1 (gf := 67) (lb := #[.pointer (some ⟨w1.heap.size, 0, none⟩)]) rfl trivial (enters_of Tryd.func67 (by kernel_rfl) rfl)
      (statements_stops Fence.wide hd (n - 1) trivial trivial hro w1.heap.size w.heap.size w1.heap.size W0 (by omega) (by omega) (Nat.le_refl _) p (hT.below hB0) bA) Kp.t (Kp.b (by omega)) (Below.refl _ _) (fun _ => rfl)
      (fun pre W => (Boxed W (w.heap.size + 1) 27 (.int .i64 0) ∧ pre.all (fun x => x.1.ok1) = true) ∧ Below w.heap.size W0 W)
      (fun c pre W => (c = .ret ∧ Boxed W (w.heap.size + 1) 27 (.int .i64 20) ∧ ∃ x ∈ pre, x.1.ok1 = false) ∧ Below w.heap.size W0 W)
      (OwnFrom.and (OwnFrom.and (Own.from (boxed_own _ _ _) _) (ownFrom_pure _ _)) (ownFrom_below (by omega) (by omega)))
      (fun c => OwnFrom.and (OwnFrom.and (ownFrom_pure _ (fun _ => c = .ret)) (OwnFrom.and (Own.from (boxed_own _ _ _) _) (ownFrom_pure _ _))) (ownFrom_below (by omega) (by omega)))
      ⟨⟨bR, rfl⟩, Below.refl _ _⟩
      (fun x a' W => ∃ Bx, W0.heap.size ≤ Bx ∧ StBox W Bx x.1 ∧ a' = { tmps := #[tv, .pointer (some ⟨w.heap.size, 0, none⟩), .pointer (some ⟨w.heap.size + 1, 0, none⟩), .pointer (some ⟨Bx, 0, none⟩), tv, .bool true, .bool false, tv, .func (.func 67) #[] #[.pointer (some ⟨w1.heap.size, 0, none⟩)], x.1.val, undef, undef, undef], defers := [] })
      (fun x a' _ X Y row hs hg hr => by obtain ⟨Bx, h1, h2, h3⟩ := hs; exact ⟨Bx, h1, stBox_kept h2 hg (fun r e => (hr r e).2), h3⟩)
      ?assign ?body ?done ?stop
    case assign =>
      rintro l pre ⟨⟨kind', mon', name', k', ⟨eop', emon', ename', en', ead', ecap', ekids', epos'⟩, ad', cap', blocks', pos'⟩, hx⟩ W K ⟨⟨bR1, hall⟩, hB1⟩ hK
      simp only [St.val, St.cells, Ex.cells, List.cons_append, List.nil_append]
      gi_wp2
      have hs1 := hB1.size
      exact hK _ _ ((KeepsOthers.alloc _ _).from _) (Kp.alloc (by omega) _) ⟨⟨bR1.alloc _, hall⟩, hB1.al (by omega) _⟩ ⟨W.heap.size, hs1, StBox.new W (.mk kind' mon' name' k' ⟨eop', emon', ename', en', ead', ecap', ekids', epos'⟩ ad' cap' blocks' pos'), rfl⟩
    case body =>
      rintro l pre ⟨⟨kind', mon', name', k', ⟨eop', emon', ename', en', ead', ecap', ekids', epos'⟩, ad', cap', blocks', pos'⟩, hx⟩ a' W hl ⟨r, hr⟩ ⟨⟨bR1, hall⟩, hB1⟩ ⟨Bx, hBx, bX, rfl⟩ hlt
      have hs1 := hB1.size
      have hcall := isStmt_any w.heap.size _ W hsz2 (by omega) (hx.below hB1) ((hS.below hB0 hsz2).below hB1 hsz2)
      obtain ⟨⟨c0, c1, c2, c3⟩, ⟨c4, c5, c6, c7, c8, c9⟩, c10, c11⟩ := bX.cells
      have HALL := hid hall
      clear hall
      have cR := bR1.cell
      have fR := bR1.frozen
      cases hok : (St.mk kind' mon' name' k' ⟨eop', emon', ename', en', ead', ecap', ekids', epos'⟩ ad' cap' blocks' pos').ok1
      · rw [hok] at hcall
        have HOK := hid hok
        clear hok
        simp only [St.val, St.cells, Ex.cells, List.cons_append, List.nil_append] at hcall
        gi_wp2_with (refine ⟨trivial, ?_⟩; gi_at_call 48; refine (CallsIn.inRound l (callsIn_wide.2 hcall)).mono ?_; rintro e w' ⟨rfl, hbel⟩; have bR2 := boxed_of bR1 hbel; have cR2 := bR2.cell; have fR2 := bR2.frozen)
        exact ⟨(keepsFrom_of hbel).trans ((KeepsOthers.setCell _ _ _).from _), ⟨rfl, bR2.set _, ⟨_, hx⟩, List.mem_append.2 (.inr (List.mem_singleton.2 rfl)), HOK.out⟩, (hB1.tr (by omega) hbel).setCell (p := ⟨w.heap.size + 1, 0, none⟩) (by simp) _⟩
      · rw [hok] at hcall
        have HOK := hid hok
        clear hok
        simp only [St.val, St.cells, Ex.cells, List.cons_append, List.nil_append] at hcall
        gi_wp2_with (refine ⟨trivial, ?_⟩; gi_at_call 48; refine (CallsIn.inRound l (callsIn_wide.2 hcall)).mono ?_; rintro e w' ⟨rfl, hbel⟩; have bR2 := boxed_of bR1 hbel)
        refine ⟨keepsFrom_of hbel, Kp.of (by omega) hbel, ⟨bR2, ?_⟩, hB1.tr (by omega) hbel⟩
        rw [List.all_append, HALL.out]
        simp only [List.all_cons, List.all_nil, HOK.out, Bool.and_true]
    case done =>
      rintro D ys W hD hys ⟨⟨bR1, hall⟩, hB1⟩ hK
      have cR := bR1.cell
      have fR := bR1.frozen
      have HALL := hid hall
      clear hall
      gi_wp2
      have hK' := (KeepsOthers.setCell W ⟨w.heap.size + 1, 0, none⟩ (.int .i64 0)).same D _ hK rfl
      refine ⟨by simp, .inl ⟨_, _, rfl, run_takeDeferred hK', ?_⟩⟩
      have hc5 := cell_kept (World.cell?_setCell_same' W ⟨w.heap.size + 1, 0, none⟩ (.int .i64 0) (by rw [cR]; rfl)) (grownBy_putObj' _ D (.deferred none)) (fun r e => by cases e; exact ⟨_, hK', rfl⟩)
      refine ⟨.int .i64 0, ?_, ?_, ((hB0.trans hB1).setCell (p := ⟨w.heap.size + 1, 0, none⟩) (by simp) _).trans (belowK_b (w := w) (Nat.le_refl _) _ D _ _ (by omega) hK' rfl rfl)⟩
      · simp [results, Tryd.f31, go_sem, hc5]
      · rw [← HR.out, if_pos]
        rw [Pr.ok, HDC.out, ← hys, List.all_map, Bool.true_and]
        exact HALL.out
    case stop =>
      rintro D c pre W hD hpre ⟨⟨rfl, bR1, x, hx, hok⟩, hB1⟩ hK
      have cR := bR1.cell
      have HOK := hid hok
      clear hok
      gi_wp2
      refine ⟨by simp, .inl ⟨_, _, rfl, run_takeDeferred hK, ?_⟩⟩
      have hc5 := cell_kept cR (grownBy_putObj' _ D (.deferred none)) (fun r e => by cases e; exact ⟨_, hK, rfl⟩)
      refine ⟨.int .i64 20, ?_, ?_, (hB0.trans hB1).trans (belowK_b (w := w) (Nat.le_refl _) W D _ _ (by omega) hK rfl rfl)⟩
      · simp [results, Tryd.f31, go_sem, hc5]
      · rw [← HR.out, if_neg]
        intro h
        rw [Pr.ok, HDC.out, Bool.true_and] at h
        have h2 := (List.all_eq_true.1 h) x.1 (hpre.subset (List.mem_map.2 ⟨x, hx, rfl⟩))
        rw [HOK.out] at h2
        cases h2
theorem check_any (p : Pr) (n₀ : Nat) (w : World) (hn : n₀ ≤ w.heap.size) (hT : p.Is n₀ w) (hS : Shapes w) :
    Calls Tryd.prog 31 #[p.val] w fun e w' => e = .returned (.int .i64 (if p.ok then 0 else 20)) ∧ Below w.heap.size w w' :=
  (callsIn_wide (n := 9)).1 (check_in 9 (Nat.le_refl _) p w (hT.mono hn) hS)
end Go.Proofs.YtfkabkbnfeiggaaDoor
