/-
  Size of package tree: how many statements and expressions a program has in all.
-/
import Derived.Test.YtjgomkkmmhkpdaaDoorCkE
namespace Go.Proofs.YtjgomkkmmhkpdaaDoor
open Go.RowKit Go.Shelf
attribute [local go_sem] Oper.semAt_some
/-- A statement and its expression. -/
def St.sz (s : St) : Nat := 1 + if s.e.none then 0 else s.e.subs.length
def Pr.size (p : Pr) : Nat := (p.stmts.map St.sz).sum
/-- What statements come to. -/
def szA {n₀ : Nat} {w : World} (l : List (StA n₀ w)) : Nat := ((l.map Subtype.val).map St.sz).sum
theorem szA_snoc {n₀ : Nat} {w : World} (l : List (StA n₀ w)) (x : StA n₀ w) : szA (l ++ [x]) = szA l + x.1.sz := by simp [szA]
theorem wrap_next (x : Int) : wrap64 (wrap64 x + 1) = wrap64 (x + 1) := by unfold wrap64; omega
theorem wrap_small (n : Nat) (h : n ≤ 1000000) : wrap64 (n : Int) = n := by unfold wrap64; omega
theorem exBox_set {W : World} {Bx b : Nat} {s : Ex} (h : ExBox W Bx s) (hne : Bx ≠ b) (v : Value) : ExBox (W.setCell ⟨b, 0, none⟩ v) Bx s := ((grownBy_setCell' W b v).block Bx h.lt (fun e => hne (by cases e; rfl))).trans h
theorem stBox_set {W : World} {Bx b : Nat} {s : St} (h : StBox W Bx s) (hne : Bx ≠ b) (v : Value) : StBox (W.setCell ⟨b, 0, none⟩ v) Bx s := ((grownBy_setCell' W b v).block Bx h.lt (fun e => hne (by cases e; rfl))).trans h
theorem ownFrom_kp {β : Type} {n₀ B B' : Nat} {W : World} (h1 : n₀ ≤ W.heap.size) (h2 : n₀ ≤ B') : OwnFrom B' (fun (_ : β) W' => Kp n₀ B W W') :=
  fun s X Y row hs hg hr => ⟨ownFrom_below h1 h2 s X Y row hs.1 hg hr, fun k c t z hk ht hc => by
    have hX := hs.2 k c t z hk ht hc
    refine (hg.block k (Array.getElem?_eq_some_iff.1 hX).1 (fun e => ?_)).trans hX
    obtain ⟨_, o, ho, hoc⟩ := hr k e.symm
    rw [hX] at ho; cases ho; cases hoc⟩
set_option maxRecDepth 100000 in
set_option maxHeartbeats 4000000 in
theorem size_in (n : Nat) (hn9 : 12 ≤ n) (p : Pr) (w : World) (hT : p.Is w.heap.size w) (hbig : p.size ≤ 1000000) :
    CallsIn Fence.wide n Tryd.prog 24 #[p.val] w fun e w' => e = .returned (.int .i64 (p.size : Nat)) ∧ Below w.heap.size w w' := by
  have hd : Fence.wide.depth = none := rfl
  have hro : Fence.wide.round = none := rfl
  have h1 : 1 ≤ n := by omega
  have hpart := statements_in Fence.wide (n - 1) trivial rfl p
  obtain ⟨res, hres⟩ : ∃ res : Nat, p.size = res := ⟨_, rfl⟩
  rw [hres]
  have HR := hid hres
  clear hres
  rcases hpp : p with ⟨mad, mcap, mons, rad, rcap, roles⟩
  have HPP := hid hpp
  simp only [hpp, Pr.val] at hpart ⊢
  clear hpp
  refine callsIn_of_wp_marks Tryd.func24 rfl trivial ?_ hro
  simp only [Tryd.ntmps24, List.size_toArray, List.length_cons, List.length_nil, Nat.reduceAdd, Nat.reduceSub, Array.replicate_succ, Array.replicate_zero, List.push_toArray, List.append_toArray, List.nil_append, List.cons_append]
  gi_wp2_with (refine ⟨trivial, ?_⟩; gi_at_call 30; refine (hpart _).mono ?_; rintro e w' ⟨rfl, rfl⟩)
  have bN : Boxed (((w.alloc (.cells #[.slice mad mons.length mcap, .slice rad roles.length rcap] 25)).alloc (.cells #[.int .i64 0] 3)).alloc (.cells #[.slice mad mons.length mcap, .slice rad roles.length rcap] 25)) (w.heap.size + 1) 3 (.int .i64 0) := by
    have := (Boxed.new (w.alloc (.cells #[.slice mad mons.length mcap, .slice rad roles.length rcap] 25)) 3 (.int .i64 0)).alloc (.cells #[.slice mad mons.length mcap, .slice rad roles.length rcap] 25)
    rwa [World.size_alloc] at this
  have bA : PrBox (((w.alloc (.cells #[.slice mad mons.length mcap, .slice rad roles.length rcap] 25)).alloc (.cells #[.int .i64 0] 3)).alloc (.cells #[.slice mad mons.length mcap, .slice rad roles.length rcap] 25)) (w.heap.size + 1 + 1) p := by
    have := World.alloc_heap_new ((w.alloc (.cells #[.slice mad mons.length mcap, .slice rad roles.length rcap] 25)).alloc (.cells #[.int .i64 0] 3)) (.cells #[.slice mad mons.length mcap, .slice rad roles.length rcap] 25)
    rw [World.size_alloc, World.size_alloc] at this
    rw [HPP.out]
    exact this
  have hB0 : Below w.heap.size w (((w.alloc (.cells #[.slice mad mons.length mcap, .slice rad roles.length rcap] 25)).alloc (.cells #[.int .i64 0] 3)).alloc (.cells #[.slice mad mons.length mcap, .slice rad roles.length rcap] 25)) := (((Below.refl _ w).al le_rfl' _).al le_rfl' _).al le_rfl' _
  have hsz : (((w.alloc (.cells #[.slice mad mons.length mcap, .slice rad roles.length rcap] 25)).alloc (.cells #[.int .i64 0] 3)).alloc (.cells #[.slice mad mons.length mcap, .slice rad roles.length rcap] 25)).heap.size = w.heap.size + 3 := by simp
  obtain ⟨W0, hW0⟩ : ∃ W0, ((w.alloc (.cells #[.slice mad mons.length mcap, .slice rad roles.length rcap] 25)).alloc (.cells #[.int .i64 0] 3)).alloc (.cells #[.slice mad mons.length mcap, .slice rad roles.length rcap] 25) = W0 := ⟨_, rfl⟩
  obtain ⟨tv, htv⟩ : ∃ tv : Value, Value.agg #[.slice mad mons.length mcap, .slice rad roles.length rcap] = tv := ⟨_, rfl⟩
  rw [hW0] at bN bA hB0 hsz ⊢
  clear hW0
  rw [htv]
  clear hpart htv
  refine wpIn_rangeFunc_ownH hro h1 (gf := 51) (lb := #[.pointer (some ⟨w.heap.size + 1 + 1, 0, none⟩)]) rfl trivial (enters_of Tryd.func51 (by kernel_rfl) rfl)
    (statements_stops Fence.wide hd (n - 1) trivial trivial hro (w.heap.size + 1 + 1) w.heap.size (w.heap.size + 1 + 1) W0 (by omega) (by omega) (Nat.le_refl _) p (hT.below hB0) bA) Kp.t (Kp.b (by omega)) (Below.refl _ _) (fun _ => rfl)
    (fun pre W => Boxed W (w.heap.size + 1) 3 (.int .i64 (wrap64 (szA pre : Nat))) ∧ Below w.heap.size W0 W)
    (fun _ _ _ => False)
    (OwnFrom.and (Own.from (boxed_own _ _ _) _) (ownFrom_below (by omega) (by omega)))
    (fun _ _ _ _ _ hs _ _ => hs)
    ⟨by have e0 : wrap64 ((szA ([] : List (StA w.heap.size W0)) : Nat) : Int) = 0 := by simp [szA, wrap64]
        rw [e0]; exact bN, Below.refl _ _⟩
    (fun x a' W => ∃ Bx, W0.heap.size ≤ Bx ∧ StBox W Bx x.1 ∧ a' = { tmps := #[tv, .pointer (some ⟨w.heap.size, 0, none⟩), .int .i64 0, .pointer (some ⟨w.heap.size + 1, 0, none⟩), .pointer (some ⟨Bx, 0, none⟩), tv, .func (.func 51) #[] #[.pointer (some ⟨w.heap.size + 1 + 1, 0, none⟩)], x.1.val, undef, undef, undef, undef, undef, undef, undef, undef, undef, undef, undef, undef], defers := [] })
    (fun x a' _ X Y row hs hg hr => by obtain ⟨Bx, h1, h2, h3⟩ := hs; exact ⟨Bx, h1, stBox_kept h2 hg (fun r e => (hr r e).2), h3⟩)
    ?assign ?body ?done ?stop
  case assign =>
    rintro l pre ⟨⟨kind', mon', name', k', ⟨eop', emon', ename', en', ead', ecap', ekids', epos'⟩, ad', cap', blocks', pos'⟩, hx⟩ W K ⟨bR1, hB1⟩ hK
    simp only [St.val, St.cells, Ex.cells, List.cons_append, List.nil_append]
    gi_wp2
    have hs1 := hB1.size
    exact hK _ _ ((KeepsOthers.alloc _ _).from _) (Kp.alloc (by omega) _) ⟨bR1.alloc _, hB1.al (by omega) _⟩ ⟨W.heap.size, hs1, StBox.new W (.mk kind' mon' name' k' ⟨eop', emon', ename', en', ead', ecap', ekids', epos'⟩ ad' cap' blocks' pos'), rfl⟩
  case body =>
    rintro l pre ⟨⟨kind', mon', name', k', ⟨eop', emon', ename', en', ead', ecap', ekids', epos'⟩, ad', cap', blocks', pos'⟩, hx⟩ a' W hl ⟨r, hr⟩ ⟨bR1, hB1⟩ ⟨Bx, hBx, bX, rfl⟩ hlt
    have hs1 := hB1.size
    obtain ⟨acc, hacc⟩ : ∃ acc : Int, wrap64 (szA pre : Nat) = acc := ⟨_, rfl⟩
    rw [hacc] at bR1
    have HACC := hid hacc
    clear hacc
    have hne : Bx ≠ w.heap.size + 1 := by omega
    have bX2 := fun v => stBox_set bX hne v
    have hcx := fun v => (bX2 v).cells
    have cN := bR1.cell
    have fN := bR1.frozen
    have hxe := hx.down.2.1.below hB1
    have hBS : ∀ v, Below w.heap.size W (W.setCell ⟨w.heap.size + 1, 0, none⟩ v) := fun v => (Below.refl _ W).setCell (p := ⟨w.heap.size + 1, 0, none⟩) (by simp) v
    have hKS : ∀ v, Kp w.heap.size (w.heap.size + 1 + 1) W (W.setCell ⟨w.heap.size + 1, 0, none⟩ v) := fun v => kp_setCell (by omega) (by omega)
    have hn1 := isNone_any w.heap.size (Ex.mk eop' emon' ename' en' ead' ecap' ekids' epos') (W.setCell ⟨w.heap.size + 1, 0, none⟩ (.int .i64 (wrap64 (acc + 1)))) (by simp; omega) (hxe.below (hBS _))
    have HNO : Hid ((Ex.mk eop' emon' ename' en' ead' ecap' ekids' epos').none = (Ex.mk eop' emon' ename' en' ead' ecap' ekids' epos').same (.mk 0 ⟨#[]⟩ ⟨#[]⟩ 0 none 0 [] 0)) := rfl
    rw [← HNO.out] at hn1
    simp only [Ex.val, Ex.cells] at hn1
    have HSZ : Hid (szA (pre ++ [⟨St.mk kind' mon' name' k' ⟨eop', emon', ename', en', ead', ecap', ekids', epos'⟩ ad' cap' blocks' pos', hx⟩]) = szA pre + (1 + if (Ex.mk eop' emon' ename' en' ead' ecap' ekids' epos').none then 0 else (Ex.mk eop' emon' ename' en' ead' ecap' ekids' epos').subs.length)) := szA_snoc pre _
    cases hno : (Ex.mk eop' emon' ename' en' ead' ecap' ekids' epos').none
    · rw [hno] at hn1 HSZ
      clear hno
      have hpar := parts_in Fence.wide (n - 1 - 1 - 1) trivial rfl (Ex.mk eop' emon' ename' en' ead' ecap' ekids' epos')
      simp only [Ex.val, Ex.cells] at hpar
      have h1' : 1 ≤ n - 1 - 1 := by omega
      gi_wp2_with (first
        | (refine ⟨trivial, ?_⟩; gi_at_call 47; refine (CallsIn.inRound l (callsIn_wide.2 hn1)).mono ?_; rintro e w2 ⟨rfl, hb2⟩; have bX3 : StBox w2 Bx _ := (hb2.block Bx (bX2 _).lt).trans (bX2 _); obtain ⟨-, ⟨e4, e5, e6, e7, e8, e9⟩, -⟩ := bX3.cells)
        | (refine ⟨trivial, ?_⟩; gi_at_call 35; refine (CallsIn.inRound l (hpar _)).mono ?_; rintro e w3 ⟨rfl, rfl⟩))
      have bN2 := boxed_of (bR1.set (.int .i64 (wrap64 (acc + 1)))) hb2
      have hz2 := hb2.size
      simp at hz2
      have hKW2 : Kp w.heap.size (w.heap.size + 1 + 1) W w2 := (hKS _).t (Kp.of (by simp; omega) hb2)
      have hKF2 : KeepsFrom W0.heap.size W w2 := ((KeepsOthers.setCell _ _ _).from _).trans (keepsFrom_of hb2)
      have hr2 : w2.heap[l]? = some (.loop r) := hKF2.same l _ hl hr rfl
      obtain ⟨ev, hev⟩ : ∃ ev : Value, Value.agg #[.int .i64 eop', .string emon', .string ename', .int .i64 en', .slice ead' ekids'.length ecap', .int .i64 epos'] = ev := ⟨_, rfl⟩
      have bE : ExBox (w2.alloc (.cells #[.int .i64 eop', .string emon', .string ename', .int .i64 en', .slice ead' ekids'.length ecap', .int .i64 epos'] 33)) w2.heap.size (Ex.mk eop' emon' ename' en' ead' ecap' ekids' epos') := ExBox.new w2 (Ex.mk eop' emon' ename' en' ead' ecap' ekids' epos')
      have bN3 := bN2.alloc (.cells #[.int .i64 eop', .string emon', .string ename', .int .i64 en', .slice ead' ekids'.length ecap', .int .i64 epos'] 33)
      have hKW3 : Kp w.heap.size (w.heap.size + 1 + 1) W (w2.alloc (.cells #[.int .i64 eop', .string emon', .string ename', .int .i64 en', .slice ead' ekids'.length ecap', .int .i64 epos'] 33)) := hKW2.t (Kp.alloc (by omega) _)
      have hKF3 : KeepsFrom W0.heap.size W (w2.alloc (.cells #[.int .i64 eop', .string emon', .string ename', .int .i64 en', .slice ead' ekids'.length ecap', .int .i64 epos'] 33)) := hKF2.trans ((KeepsOthers.alloc _ _).from _)
      have hr3 : (w2.alloc (.cells #[.int .i64 eop', .string emon', .string ename', .int .i64 en', .slice ead' ekids'.length ecap', .int .i64 epos'] 33)).heap[l]? = some (.loop r) := hKF3.same l _ hl hr rfl
      have hsz3 : (w2.alloc (.cells #[.int .i64 eop', .string emon', .string ename', .int .i64 en', .slice ead' ekids'.length ecap', .int .i64 epos'] 33)).heap.size = w2.heap.size + 1 := by simp
      obtain ⟨W3, hW3⟩ : ∃ W3, w2.alloc (.cells #[.int .i64 eop', .string emon', .string ename', .int .i64 en', .slice ead' ekids'.length ecap', .int .i64 epos'] 33) = W3 := ⟨_, rfl⟩
      rw [hW3] at bE bN3 hKW3 hKF3 hr3 hsz3 ⊢
      rw [hev]
      clear hev hW3 hpar hn1 e4 e5 e6 e7 e8 e9
      have hxe3 : (Ex.mk eop' emon' ename' en' ead' ecap' ekids' epos').Is w.heap.size W3 := hxe.below hKW3.1
      refine wpIn_rangeFunc_ownN (l₀ := l) (r₀ := r) rfl hr3 h1' (gf := 61) (lb := #[.pointer (some ⟨w2.heap.size, 0, none⟩)]) rfl trivial (enters_of Tryd.func61 (by kernel_rfl) rfl)
        ((parts_stops Fence.wide hd (n - 1 - 1 - 1) trivial trivial hro w2.heap.size w.heap.size (w.heap.size + 1 + 1) W3 (by omega) (by omega) (Ex.mk eop' emon' ename' en' ead' ecap' ekids' epos') hxe3 bE).inRound l) Kp.t (Kp.b (by omega)) (Below.refl _ _) (fun _ => rfl)
        (fun pre' W' => Boxed W' (w.heap.size + 1) 3 (.int .i64 (wrap64 ((szA pre + 1 + pre'.length : Nat) : Int))) ∧ (Kp w.heap.size (w.heap.size + 1 + 1) W W' ∧ KeepsFrom W0.heap.size W W'))
        (fun _ _ _ => False)
        (OwnFrom.and (Own.from (boxed_own _ _ _) _) (OwnFrom.and (ownFrom_kp (by omega) (by omega)) (ownFrom_keepsFrom (by omega))))
        (fun _ _ _ _ _ hs _ _ => hs)
        ⟨by have e1 : wrap64 (acc + 1) = wrap64 ((szA pre + 1 + ([] : List (ExA w.heap.size W3)).length : Nat) : Int) := by rw [← HACC.out, wrap_next]; simp
            rw [← e1]; exact bN3, hKW3, hKF3⟩
        (fun y a'' _ => a'' = { tmps := #[tv, .pointer (some ⟨w.heap.size, 0, none⟩), .int .i64 0, .pointer (some ⟨w.heap.size + 1, 0, none⟩), .pointer (some ⟨Bx, 0, none⟩), tv, .func (.func 51) #[] #[.pointer (some ⟨w.heap.size + 1 + 1, 0, none⟩)], (St.mk kind' mon' name' k' ⟨eop', emon', ename', en', ead', ecap', ekids', epos'⟩ ad' cap' blocks' pos').val, .int .i64 acc, .int .i64 (wrap64 (acc + 1)), .pointer (some ⟨Bx, 4, none⟩), ev, .bool false, .pointer (some ⟨Bx, 4, none⟩), ev, .func (.func 61) #[] #[.pointer (some ⟨w2.heap.size, 0, none⟩)], y.1.val, undef, undef, undef], defers := [] })
        (fun _ _ _ _ _ _ hs _ _ => hs)
        ?assign2 ?body2 ?done2 ?stop2
      case assign2 =>
        rintro l2 pre' y W' K hi hK
        gi_wp2
        exact hK _ _ (KeepsFrom.refl _ _) (Kp.refl _ _ _) hi (by simp)
      case body2 =>
        rintro l2 pre' y a'' W' _ _ ⟨bN4, hK4, hF4⟩ rfl _
        obtain ⟨a4, ha4⟩ : ∃ a4 : Int, wrap64 ((szA pre + 1 + pre'.length : Nat) : Int) = a4 := ⟨_, rfl⟩
        rw [ha4] at bN4
        have HA4 := hid ha4
        clear ha4
        have cS := bN4.cell
        have fS := bN4.frozen
        gi_wp2
        refine ⟨(KeepsOthers.setCell _ _ _).from _, kp_setCell (by omega) (by omega), ?_, hK4.t (kp_setCell (by omega) (by omega)), hF4.trans ((KeepsOthers.setCell _ _ _).from _)⟩
        have e1 : wrap64 (a4 + 1) = wrap64 ((szA pre + 1 + (pre' ++ [y]).length : Nat) : Int) := by rw [← HA4.out, wrap_next, List.length_append]; congr 1
        rw [← e1]
        exact bN4.set _
      case done2 =>
        rintro ys' W' hys' ⟨bN4, hK4, hF4⟩
        gi_wp2
        refine ⟨hF4, hK4, ?_, hB1.trans hK4.1⟩
        rw [HSZ.out]
        have hle : ys'.length = (Ex.mk eop' emon' ename' en' ead' ecap' ekids' epos').subs.length := by have := congrArg List.length hys'; rw [List.length_map] at this; exact this
        rw [hle] at bN4
        have e2 : szA pre + 1 + (Ex.mk eop' emon' ename' en' ead' ecap' ekids' epos').subs.length = szA pre + (1 + if (false = true) then 0 else (Ex.mk eop' emon' ename' en' ead' ecap' ekids' epos').subs.length) := by simp; omega
        rw [← e2]
        exact bN4
      case stop2 =>
        rintro c pre' W' _ h
        exact h.elim
    · rw [hno] at hn1 HSZ
      clear hno
      gi_wp2_with (first
        | (refine ⟨trivial, ?_⟩; gi_at_call 47; refine (CallsIn.inRound l (callsIn_wide.2 hn1)).mono ?_; rintro e w2 ⟨rfl, hb2⟩))
      have bN2 := boxed_of (bR1.set (.int .i64 (wrap64 (acc + 1)))) hb2
      refine ⟨((KeepsOthers.setCell _ _ _).from _).trans (keepsFrom_of hb2), (hKS _).t (Kp.of (by simp; omega) hb2), ?_, (hB1.trans (hBS _)).tr (by omega) hb2⟩
      rw [HSZ.out]
      have e1 : wrap64 (acc + 1) = wrap64 ((szA pre + (1 + 0) : Nat) : Int) := by rw [← HACC.out, wrap_next]; simp
      rw [e1] at bN2
      exact bN2
  case done =>
    rintro D ys W hD hys ⟨bR1, hB1⟩ hK
    have cR := bR1.cell
    gi_wp2
    refine ⟨by simp, .inl ⟨_, _, rfl, run_takeDeferred hK, ?_⟩⟩
    refine ⟨_, results_tmp rfl _ _ _, ?_, (hB0.trans hB1).trans (belowK_b (w := w) (Nat.le_refl _) W D _ _ (by omega) hK rfl rfl)⟩
    show Ending.returned (.int .i64 (wrap64 (szA ys : Nat))) = _
    rw [← HR.out]
    have hz : szA ys = p.size := by rw [szA, hys]; rfl
    have hz2 := wrap_small _ hbig
    rw [hz, hz2]
  case stop =>
    rintro D c pre W _ _ h _
    exact h.elim
theorem size_any (p : Pr) (n₀ : Nat) (w : World) (hn : n₀ ≤ w.heap.size) (hT : p.Is n₀ w) (hbig : p.size ≤ 1000000) :
    Calls Tryd.prog 24 #[p.val] w fun e w' => e = .returned (.int .i64 (p.size : Nat)) ∧ Below w.heap.size w w' :=
  (callsIn_wide (n := 12)).1 (size_in 12 (Nat.le_refl _) p w (hT.mono hn) hbig)
end Go.Proofs.YtjgomkkmmhkpdaaDoor
