/-
  Reads of package tree: the variables that stand in an expression, each once, in the order in which they come first.
-/
import Derived.Test.YtopiceoofdlkbaaDoorCkA
import Derived.Test.YtopiceoofdlkbaaDoorMpA
import Derived.Maps.OwnIn
import Derived.Maps.AppendAt
import Derived.Test.YtopiceoofdlkbaaDoorMpB
namespace Go.Proofs.YtopiceoofdlkbaaDoor
open Go.RowKit Go.Shelf
attribute [local go_sem] Oper.semAt_some
open Classical in
/-- One part more. -/
noncomputable def vstep (S : List (ByteArray × ByteArray)) : Ex → List (ByteArray × ByteArray)
  | .mk op mon name _ _ _ _ _ => if op = 4 ∧ (mon, name) ∉ S then S ++ [(mon, name)] else S
open Classical in
theorem vstep_no {S : List (ByteArray × ByteArray)} {op : Int} {mon name : ByteArray} {n : Int} {ad : Option Addr} {cap : Nat} {kids : List Ex} {pos : Int} (h : ¬ (op = 4 ∧ (mon, name) ∉ S)) : vstep S (.mk op mon name n ad cap kids pos) = S := by
  show (if op = 4 ∧ (mon, name) ∉ S then S ++ [(mon, name)] else S) = S
  rw [if_neg h]
open Classical in
theorem vstep_yes {S : List (ByteArray × ByteArray)} {op : Int} {mon name : ByteArray} {n : Int} {ad : Option Addr} {cap : Nat} {kids : List Ex} {pos : Int} (h : op = 4 ∧ (mon, name) ∉ S) : vstep S (.mk op mon name n ad cap kids pos) = S ++ [(mon, name)] := by
  show (if op = 4 ∧ (mon, name) ∉ S then S ++ [(mon, name)] else S) = _
  rw [if_pos h]
/-- The variables among these, each once. -/
noncomputable def varsOf (l : List Ex) : List (ByteArray × ByteArray) := l.foldl vstep []
def vname (p : ByteArray × ByteArray) : ByteArray := p.1 ++ ⟨#[46]⟩ ++ p.2
theorem varsOf_snoc (l : List Ex) (x : Ex) : varsOf (l ++ [x]) = vstep (varsOf l) x := by simp [varsOf]
theorem vstep_len (S : List (ByteArray × ByteArray)) (x : Ex) : (vstep S x).length ≤ S.length + 1 := by
  rcases x with ⟨op, mon, name, _, _, _, _, _⟩
  by_cases h : op = 4 ∧ (mon, name) ∉ S
  · rw [vstep_yes h, List.length_append]; exact Nat.le_refl _
  · rw [vstep_no h]; exact Nat.le_succ _
theorem vfold_len (l : List Ex) (S : List (ByteArray × ByteArray)) : (l.foldl vstep S).length ≤ S.length + l.length := by
  induction l generalizing S with
  | nil => simp
  | cons x l ih =>
    have h1 := ih (vstep S x)
    have h2 := vstep_len S x
    simp only [List.foldl_cons, List.length_cons]; omega
theorem varsOf_len (l : List Ex) : (varsOf l).length ≤ l.length := by
  have := vfold_len l []
  simpa [varsOf] using this
noncomputable def varsA {n₀ : Nat} {w : World} (l : List (ExA n₀ w)) : List (ByteArray × ByteArray) := varsOf (l.map Subtype.val)
theorem varsA_snoc {n₀ : Nat} {w : World} (l : List (ExA n₀ w)) (x : ExA n₀ w) : varsA (l ++ [x]) = vstep (varsA l) x.1 := by
  rw [varsA, List.map_append]; exact varsOf_snoc _ _
theorem varsA_len {n₀ : Nat} {w : World} (l : List (ExA n₀ w)) : (varsA l).length ≤ l.length := by
  have := varsOf_len (l.map Subtype.val); simpa [varsA] using this
theorem SeenMap.kept {W W' : World} {b : Nat} {S : List (ByteArray × ByteArray)} (h : SeenMap W b S) (hb : W'.heap[b]? = W.heap[b]?) : SeenMap W' b S := ⟨hb.trans h.1, h.2⟩
theorem SeenMap.lt {W : World} {b : Nat} {S : List (ByteArray × ByteArray)} (h : SeenMap W b S) : b < W.heap.size := (Array.getElem?_eq_some_iff.1 h.1).1
theorem info9 : (Tryd.prog.info? 9).map (fun i => (i.zero, i.size, i.bytes)) = some (some (.string ⟨#[]⟩), 1, 16) := by kernel_rfl
theorem kp_append {W w1 : World} {n₀ B b k : Nat} {v v' : Value} {xs : List Value} {tmp : Obj} (hrow : W.ownsRow n₀ 9 1 v k xs) (hgrow : (W.alloc tmp).grownBy w1 v.ownBlock) (hbB : b < B) (hBel : Below n₀ W (w1.setCell ⟨b, 0, none⟩ v')) : Kp n₀ B W (w1.setCell ⟨b, 0, none⟩ v') := by
  refine ⟨hBel, fun j c t z hj ht hc => ?_⟩
  have hlt := (Array.getElem?_eq_some_iff.1 hc).1
  have h1 : (W.alloc tmp).heap[j]? = some (.cells c t z) := (Below.heap_alloc _ _ _ hlt).trans hc
  have h2 : w1.heap[j]? = some (.cells c t z) := by
    refine (hgrow.block j (Array.getElem?_eq_some_iff.1 h1).1 (fun e => ?_)).trans h1
    rcases hrow.2 with ⟨rfl, _⟩ | ⟨g, cp, cur, rfl, _, hgb, _⟩
    · simp [Value.ownBlock] at e
    · obtain rfl : j = g := by simpa [Value.ownBlock] using e
      rw [hc] at hgb
      cases hgb
      exact ht rfl
  exact ((grownBy_setCell' w1 b v').block j (Array.getElem?_eq_some_iff.1 h2).1 (fun e => by cases e; omega)).trans h2
theorem entryW_grown (W : World) (b : Nat) (S : List (ByteArray × ByteArray)) (p : ByteArray × ByteArray) (v : Int) : W.grownBy (entryW { W with drawn := W.drawn + 1 } b S p v) (some b) :=
  ⟨rfl, rfl, rfl, by simp [entryW, ChangeMaps.setBlock], fun k _ hk => by
    show (W.heap.setIfInBounds b _)[k]? = _
    rw [Array.getElem?_setIfInBounds_ne (fun e => hk (by rw [e]))]⟩
set_option maxRecDepth 100000 in
set_option maxHeartbeats 4000000 in
theorem reads_in (n : Nat) (hn9 : 9 ≤ n) (T : Ex) (w : World) (hT : T.Is w.heap.size w) (hcnt : T.subs.length ≤ 1000000) :
    CallsIn Fence.wide n Tryd.prog 23 #[T.val] w fun e w' => ∃ v, e = .returned v ∧ w'.ownsRow w.heap.size 9 1 v (varsOf T.subs).length ((varsOf T.subs).map fun p => .string (vname p)) ∧ Below w.heap.size w w' := by
  have hd : Fence.wide.depth = none := rfl
  have hro : Fence.wide.round = none := rfl
  have h1 : 1 ≤ n := by omega
  have hmm := @run_makeMap Tryd.prog
  have hpart := parts_in Fence.wide (n - 1) trivial rfl T
  obtain ⟨vs, hvs⟩ : ∃ vs, varsOf T.subs = vs := ⟨_, rfl⟩
  rw [hvs]
  have HR := hid hvs
  clear hvs
  rcases hTT : T with ⟨op, mon, name, k, ad, cap, kids, pos⟩
  have HTT := hid hTT
  rw [hTT] at hpart
  simp only [Ex.val, Ex.cells] at hpart ⊢
  clear hTT
  refine callsIn_of_wp_marks Tryd.func23 rfl trivial ?_ hro
  simp only [Tryd.ntmps23, List.size_toArray, List.length_cons, List.length_nil, Nat.reduceAdd, Nat.reduceSub, Array.replicate_succ, Array.replicate_zero, List.push_toArray, List.append_toArray, List.nil_append, List.cons_append]
  gi_wp2_with (refine ⟨trivial, ?_⟩; gi_at_call 37; refine (hpart _).mono ?_; rintro e w' ⟨rfl, rfl⟩)
  obtain ⟨ca, hca⟩ : ∃ ca : Array Value, #[Value.int .i64 op, .string mon, .string name, .int .i64 k, .slice ad kids.length cap, .int .i64 pos] = ca := ⟨_, rfl⟩
  rw [hca]
  have bN : Boxed (((((w.alloc (.cells ca 28)).alloc (.cells #[.slice none 0 0] 53)).alloc (.map #[] 0)).alloc (.cells #[.map (some (w.heap.size + 1 + 1))] 80)).alloc (.cells ca 28)) (w.heap.size + 1) 53 (.slice none 0 0) := by
    have := (((Boxed.new (w.alloc (.cells ca 28)) 53 (.slice none 0 0)).alloc (.map #[] 0)).alloc (.cells #[.map (some (w.heap.size + 1 + 1))] 80)).alloc (.cells ca 28)
    rwa [World.size_alloc] at this
  have bS : Boxed (((((w.alloc (.cells ca 28)).alloc (.cells #[.slice none 0 0] 53)).alloc (.map #[] 0)).alloc (.cells #[.map (some (w.heap.size + 1 + 1))] 80)).alloc (.cells ca 28)) (w.heap.size + 1 + 1 + 1) 80 (.map (some (w.heap.size + 1 + 1))) := by
    have := (Boxed.new (((w.alloc (.cells ca 28)).alloc (.cells #[.slice none 0 0] 53)).alloc (.map #[] 0)) 80 (.map (some (w.heap.size + 1 + 1)))).alloc (.cells ca 28)
    rwa [World.size_alloc, World.size_alloc, World.size_alloc] at this
  have bM : SeenMap (((((w.alloc (.cells ca 28)).alloc (.cells #[.slice none 0 0] 53)).alloc (.map #[] 0)).alloc (.cells #[.map (some (w.heap.size + 1 + 1))] 80)).alloc (.cells ca 28)) (w.heap.size + 1 + 1) [] := by
    have h := World.alloc_heap_new ((w.alloc (.cells ca 28)).alloc (.cells #[.slice none 0 0] 53)) (.map #[] 0)
    rw [World.size_alloc, World.size_alloc] at h
    refine ⟨?_, fun p hp => by cases hp⟩
    rw [Below.heap_alloc _ _ _ (by simp), Below.heap_alloc _ _ _ (by simp)]
    exact h
  have bA : ExBox (((((w.alloc (.cells ca 28)).alloc (.cells #[.slice none 0 0] 53)).alloc (.map #[] 0)).alloc (.cells #[.map (some (w.heap.size + 1 + 1))] 80)).alloc (.cells ca 28)) (w.heap.size + 1 + 1 + 1 + 1) T := by
    have h := World.alloc_heap_new ((((w.alloc (.cells ca 28)).alloc (.cells #[.slice none 0 0] 53)).alloc (.map #[] 0)).alloc (.cells #[.map (some (w.heap.size + 1 + 1))] 80)) (.cells ca 28)
    rw [World.size_alloc, World.size_alloc, World.size_alloc, World.size_alloc] at h
    rw [HTT.out]
    rw [← hca] at h ⊢
    exact h
  have hB0 : Below w.heap.size w (((((w.alloc (.cells ca 28)).alloc (.cells #[.slice none 0 0] 53)).alloc (.map #[] 0)).alloc (.cells #[.map (some (w.heap.size + 1 + 1))] 80)).alloc (.cells ca 28)) := (((((Below.refl _ w).al le_rfl' _).al le_rfl' _).al le_rfl' _).al le_rfl' _).al le_rfl' _
  have hsz : (((((w.alloc (.cells ca 28)).alloc (.cells #[.slice none 0 0] 53)).alloc (.map #[] 0)).alloc (.cells #[.map (some (w.heap.size + 1 + 1))] 80)).alloc (.cells ca 28)).heap.size = w.heap.size + 5 := by simp
  obtain ⟨W0, hW0⟩ : ∃ W0, ((((w.alloc (.cells ca 28)).alloc (.cells #[.slice none 0 0] 53)).alloc (.map #[] 0)).alloc (.cells #[.map (some (w.heap.size + 1 + 1))] 80)).alloc (.cells ca 28) = W0 := ⟨_, rfl⟩
  obtain ⟨tv, htv⟩ : ∃ tv : Value, Value.agg ca = tv := ⟨_, rfl⟩
  rw [hW0] at bN bS bM bA hB0 hsz ⊢
  clear hW0
  rw [htv]
  clear hpart htv hca hmm
  refine wpIn_rangeFunc_ownH hro h1 (gf := 54) (lb := #[.pointer (some ⟨w.heap.size + 1 + 1 + 1 + 1, 0, none⟩)]) rfl trivial (enters_of Tryd.func54 (by kernel_rfl) rfl)
    (parts_stops Fence.wide hd (n - 1) trivial trivial hro (w.heap.size + 1 + 1 + 1 + 1) w.heap.size (w.heap.size + 1 + 1 + 1 + 1) W0 (by omega) (by omega) T (hT.below hB0) bA) Kp.t (Kp.b (by omega)) (Below.refl _ _) (fun _ => rfl)
    (fun pre W => ((∃ v, Boxed W (w.heap.size + 1) 53 v ∧ W.ownsRow w.heap.size 9 1 v (varsA pre).length ((varsA pre).map fun p => .string (vname p)) ∧ True) ∧ SeenMap W (w.heap.size + 1 + 1) (varsA pre) ∧ Boxed W (w.heap.size + 1 + 1 + 1) 80 (.map (some (w.heap.size + 1 + 1)))) ∧ Below w.heap.size W0 W)
    (fun _ _ _ => False)
    (OwnFrom.and (OwnFrom.and (Own.from (holdsRow_own _ _ _ _ _ _ _ _) _) (OwnFrom.and (fun s X Y row hs hg hr => hs.kept (hg.block _ hs.lt (fun e => by have := (hr _ e.symm).1; omega))) (Own.from (boxed_own _ _ _) _))) (ownFrom_below (by omega) (by omega)))
    (fun _ _ _ _ _ hs _ _ => hs)
    ⟨⟨⟨_, bN, World.ownsRow_nil _ _ _ _, trivial⟩, bM, bS⟩, Below.refl _ _⟩
    (fun x a' W => ∃ Bx, W0.heap.size ≤ Bx ∧ ExBox W Bx x.1 ∧ a' = { tmps := #[tv, .pointer (some ⟨w.heap.size, 0, none⟩), .slice none 0 0, .pointer (some ⟨w.heap.size + 1, 0, none⟩), .pointer (some ⟨w.heap.size + 1 + 1 + 1, 0, none⟩), .pointer (some ⟨Bx, 0, none⟩), undef, .map (some (w.heap.size + 1 + 1)), tv, .func (.func 54) #[] #[.pointer (some ⟨w.heap.size + 1 + 1 + 1 + 1, 0, none⟩)], x.1.val, undef, undef, undef, undef, undef, undef, undef, undef, undef, undef, undef, undef, undef, undef, undef, undef, undef, undef, undef, undef, undef, undef, undef, undef, undef, undef, undef, undef, undef, undef], defers := [] })
    (fun x a' _ X Y row hs hg hr => by obtain ⟨Bx, h1, h2, h3⟩ := hs; exact ⟨Bx, h1, exBox_kept h2 hg (fun r e => (hr r e).2), h3⟩)
    ?assign ?body ?done ?stop
  case assign =>
    rintro l pre ⟨⟨op', mon', name', k', ad', cap', kids', pos'⟩, hx⟩ W K ⟨⟨⟨v, bN1, hrow, _⟩, bM1, bS1⟩, hB1⟩ hK
    simp only [Ex.val, Ex.cells]
    gi_wp2
    have hs1 := hB1.size
    exact hK _ _ ((KeepsOthers.alloc _ _).from _) (Kp.alloc (by omega) _) ⟨⟨⟨v, bN1.alloc _, hrow.alloc _, trivial⟩, bM1.kept (Below.heap_alloc _ _ _ bM1.lt), bS1.alloc _⟩, hB1.al (by omega) _⟩ ⟨W.heap.size, hs1, ExBox.new W (.mk op' mon' name' k' ad' cap' kids' pos'), rfl⟩
  case body =>
    rintro l pre ⟨⟨op', mon', name', k', ad', cap', kids', pos'⟩, hx⟩ a' W hl ⟨r, hr⟩ ⟨⟨⟨v, bN1, hrow, _⟩, bM1, bS1⟩, hB1⟩ ⟨Bx, hBx, bX, rfl⟩ hlt
    have hs1 := hB1.size
    obtain ⟨c0, c1, c2, c3, c4, c5⟩ := bX.cells
    have hxd := hx.down.1
    have hvl : VLen (mon', name') := by
      have h1 := hxd.2.2.2.1; have h2 := hxd.2.2.2.2
      unfold Len at h1 h2
      unfold VLen maxLen
      exact ⟨by simp; omega, by simp; omega⟩
    obtain ⟨S, hSS⟩ : ∃ S, varsA pre = S := ⟨_, rfl⟩
    have HSN := hid (varsA_snoc pre ⟨⟨op', mon', name', k', ad', cap', kids', pos'⟩, hx⟩)
    have hlen := varsA_len pre
    rw [hSS] at hrow bM1 HSN hlen
    have HSS := hid hSS
    clear hSS
    have bM2 : SeenMap (W.alloc (.cells #[.string mon', .string name'] 85)) (w.heap.size + 1 + 1) S := bM1.kept (Below.heap_alloc _ _ _ bM1.lt)
    have bS2 := bS1.alloc (.cells #[.string mon', .string name'] 85)
    have cS := bS2.cell
    have hBxW := bX.lt
    cases hop : ((op' != 4) : Bool)
    · by_cases hm : (mon', name') ∈ S
      · have hL : (Instr.lookup 80 (.map (some (w.heap.size + 1 + 1))) (.agg #[.string mon', .string name']) false).run Tryd.prog (W.alloc (.cells #[.string mon', .string name'] 85)) = .ok (.int .i64 1) _ := lookup_seen bM2 hvl hm
        have HM := hid hm
        clear hm
        gi_wp2
        have hv1 : vstep S (.mk op' mon' name' k' ad' cap' kids' pos') = S := by
          exact vstep_no (fun h => h.2 HM.out)
        have HSN2 : varsA (pre ++ [⟨⟨op', mon', name', k', ad', cap', kids', pos'⟩, hx⟩]) = S := HSN.out.trans hv1
        refine ⟨(KeepsOthers.alloc _ _).from _, Kp.alloc (by omega) _, ⟨⟨v, bN1.alloc _, ?_⟩, ?_, bS2⟩, hB1.al (by omega) _⟩
        · rw [HSN2]; exact hrow.alloc _
        · rw [HSN2]; exact bM2
      · have hL : (Instr.lookup 80 (.map (some (w.heap.size + 1 + 1))) (.agg #[.string mon', .string name']) false).run Tryd.prog (W.alloc (.cells #[.string mon', .string name'] 85)) = .ok (.int .i64 0) _ := lookup_new bM2 hvl hm
        have HM := hid hm
        clear hm
        gi_wp2
        refine inc_region _ _ _ _ _ _ _ _ _ _ _ _ _ _ _ _ _ _ _ _ _ _ _ (w.heap.size + 1 + 1 + 1) W.heap.size (w.heap.size + 1 + 1) S (mon', name') _ cS (by rw [World.cell?_alloc_at _ _ _ _ rfl]; rfl) (by rw [World.cell?_alloc_at _ _ _ _ rfl]; rfl) bM2 hvl HM.out ?_
        have gW := entryW_grown (W.alloc (.cells #[.string mon', .string name'] 85)) (w.heap.size + 1 + 1) S (mon', name') 1
        have bM3 : SeenMap (entryW { (W.alloc (.cells #[.string mon', .string name'] 85)) with drawn := (W.alloc (.cells #[.string mon', .string name'] 85)).drawn + 1 } (w.heap.size + 1 + 1) S (mon', name') 1) (w.heap.size + 1 + 1) (S ++ [(mon', name')]) := seen_next (show SeenMap _ _ S from bM2) hvl
        obtain ⟨W2, hW2⟩ : ∃ W2, entryW { (W.alloc (.cells #[.string mon', .string name'] 85)) with drawn := (W.alloc (.cells #[.string mon', .string name'] 85)).drawn + 1 } (w.heap.size + 1 + 1) S (mon', name') 1 = W2 := ⟨_, rfl⟩
        rw [hW2] at gW bM3 ⊢
        clear hW2 hL
        have hop4 : op' = 4 := by simpa using hop
        have hv1 : vstep S (.mk op' mon' name' k' ad' cap' kids' pos') = S ++ [(mon', name')] := vstep_yes ⟨hop4, HM.out⟩
        have HSN2 := hid (HSN.out.trans hv1)
        clear hv1 hop4
        have hlW1 := bN1.lt
        have bN3 : Boxed W2 (w.heap.size + 1) 53 v := (bN1.alloc _).kept gW (fun e => by simp at e)
        have bS3 : Boxed W2 (w.heap.size + 1 + 1 + 1) 80 (.map (some (w.heap.size + 1 + 1))) := bS2.kept gW (fun e => by simp at e)
        have hrow3 : W2.ownsRow w.heap.size 9 1 v S.length (S.map fun p => .string (vname p)) := by
          refine (hrow.alloc _).kept gW ?_
          rcases hrow.2 with ⟨rfl, _⟩ | ⟨g, cp, cur, rfl, _, hgb, _⟩
          · exact .inl rfl
          · refine .inr (fun e => ?_)
            obtain rfl : g = w.heap.size + 1 + 1 := by simpa [Value.ownBlock] using e
            rw [bM1.1] at hgb
            cases hgb
        have hvb : W2.heap[W.heap.size]? = some (.cells #[.string mon', .string name'] 85 (0, 0)) := (gW.block _ (by simp) (fun e => by have := bM1.lt; simp at e; omega)).trans (World.alloc_heap_new W _)
        have e0 := cell_of hvb 0
        have e1 := cell_of hvb 1
        simp at e0 e1
        have cN := bN3.cell
        have hs2 := gW.size
        simp at hs2
        obtain ⟨i0, hi, hz0, hz1, hz2⟩ := info_parts info9
        have hlm := hxd.2.2.2
        unfold Len at hlm
        have hKP2 : Kp w.heap.size (w.heap.size + 1 + 1 + 1 + 1) W W2 := (Kp.alloc (by omega) _).t ⟨(Below.refl _ _).grown gW (by simp; omega) (fun k e => by cases e; omega), fun k c t z _ _ hk => (gW.block k (Array.getElem?_eq_some_iff.1 hk).1 (fun e => by cases e; rw [bM2.1] at hk; cases hk)).trans hk⟩
        have hKF2 : KeepsFrom W0.heap.size W W2 := ((KeepsOthers.alloc _ _).from _).trans (KeepsFrom.of_grownBy gW (fun j e => by cases e; omega))
        clear gW bN1 hrow bM1 bM2 bS1 bS2 cS c0 c1 c2 c3 c4 c5 bX
        have hvn : vname (mon', name') = mon' ++ ⟨#[46]⟩ ++ name' := rfl
        gi_wp2_with (gi_at_builtin; refine wpListIn_append_own _ rfl _ _ 53 rfl w.heap.size 9 i0 (.string ⟨#[]⟩) 1 16 Tryd.underlying53 hi hz0 hz1 hz2 rfl (by decide) _ _ _ rfl (hrow3.alloc _) ⟨W2.heap.size, 0, none⟩ 1 1 [.string (mon' ++ ⟨#[46]⟩ ++ name')] rfl rfl (cell_one_new _ _ _) (by simp [Value.oneCell']) (by unfold maxLen; omega) (by omega) (by simp; omega) ?_; intro v' w1 hown' hgrow _; obtain ⟨g', cap', rfl⟩ := ownsRow_succ hown'; obtain ⟨hw1, hw2, hw3, hw4, hw5⟩ := bN3.appended (by decide) hrow3 (by omega) (by omega) hown' hgrow; have hc1 := hw1.cell; have hf1 := hw1.frozen)
        have hKP3 := hKP2.t (kp_append hrow3 hgrow (by omega : w.heap.size + 1 < w.heap.size + 1 + 1 + 1 + 1) hw5)
        refine ⟨hKF2.trans (hw4.from _), hKP3, ⟨⟨_, hw2, ?_⟩, ?_, ?_⟩, hB1.trans hKP3.1⟩
        · rw [HSN2.out, List.length_append, List.map_append]
          exact ⟨hw3, trivial⟩
        · rw [HSN2.out]
          exact bM3.kept (hw4.same _ _ bM3.1 rfl |>.trans bM3.1.symm)
        · refine Boxed.other ?_ (by omega) _
          exact (bS3.alloc _).kept hgrow (bS3.not_row (by decide) hrow3)
    · gi_wp2
      have hv1 : vstep S (.mk op' mon' name' k' ad' cap' kids' pos') = S := by
        refine vstep_no (fun h => ?_)
        rw [h.1] at hop
        simp at hop
      have HSN2 : varsA (pre ++ [⟨⟨op', mon', name', k', ad', cap', kids', pos'⟩, hx⟩]) = S := HSN.out.trans hv1
      refine ⟨(KeepsOthers.alloc _ _).from _, Kp.alloc (by omega) _, ⟨⟨v, bN1.alloc _, ?_⟩, ?_, bS2⟩, hB1.al (by omega) _⟩
      · rw [HSN2]; exact hrow.alloc _
      · rw [HSN2]; exact bM2
  case done =>
    rintro D ys W hD hys ⟨⟨⟨v, bN1, hrow, _⟩, bM1, bS1⟩, hB1⟩ hK
    have cR := bN1.cell
    gi_wp2
    refine ⟨by simp, .inl ⟨_, _, rfl, run_takeDeferred hK, ?_⟩⟩
    have hvv : varsA ys = vs := by rw [varsA, hys]; exact HR.out
    rw [hvv] at hrow
    refine ⟨_, results_tmp rfl _ _ _, _, rfl, ownsRow_putObj hrow _ hK rfl, (hB0.trans hB1).trans (belowK_b (w := w) (Nat.le_refl _) W D _ _ (by omega) hK rfl rfl)⟩
  case stop =>
    rintro D c pre W _ _ h _
    exact h.elim
theorem reads_any (T : Ex) (n₀ : Nat) (w : World) (hn : n₀ ≤ w.heap.size) (hT : T.Is n₀ w) (hcnt : T.subs.length ≤ 1000000) :
    Calls Tryd.prog 23 #[T.val] w fun e w' => ∃ v, e = .returned v ∧ w'.ownsRow w.heap.size 9 1 v (varsOf T.subs).length ((varsOf T.subs).map fun p => .string (vname p)) ∧ Below w.heap.size w w' :=
  (callsIn_wide (n := 9)).1 (reads_in 9 (Nat.le_refl _) T w (hT.mono hn) hcnt)
end Go.Proofs.YtopiceoofdlkbaaDoor
