/-
  The function moved of the statement's own package: the same expression at another place.
-/
import Derived.Test.YtjgomkkmmhkpdaaDoorPlA
import Derived.Deep.RegionLaw
import Derived.Deep.DrawnRows
import Derived.Deep.AppendLies
namespace Go.Proofs.YtjgomkkmmhkpdaaDoor
open Go.RowKit
attribute [local go_sem ↓] Go.wp_at_zero Go.wp_at_succ
theorem info33 : (Tryd.prog.info? 33).map (fun i => (i.zero, i.size, i.bytes)) = some (some (.agg #[.int .i64 0, .string ⟨#[]⟩, .string ⟨#[]⟩, .int .i64 0, .slice none 0 0, .int .i64 0]), 6, 80) := by kernel_rfl
theorem below_drew {B : Nat} {w w' : World} (h : Below B w w') : Below B w w'.drew := ⟨h.os, h.tape, h.output, h.size, h.block⟩
theorem owns_drewBelow {B n e size : Nat} {v : Value} {xs : List Value} {w w' : World} (h : w.ownsRow B e size v n xs) (hb : Below w.heap.size w w') : w'.ownsRow B e size v n xs :=
  h.kept (row := none) ⟨hb.os, hb.tape, hb.output, hb.size, fun k hk _ => hb.block k hk⟩ (by cases hv : v.ownBlock <;> simp)
theorem box_grown {w1 w2 : World} {o : Obj} {c : Array Value} {t : TypeId} {row : Option Nat} {B : Nat} (h : w1.heap[B]? = some (.cells c t (0, 0))) (hg : (w1.alloc o).grownBy w2 row) (hne : some B ≠ row) : w2.heap[B]? = some (.cells c t (0, 0)) := by
  have hlt := (Array.getElem?_eq_some_iff.1 h).1
  exact (hg.block B (by simp; omega) hne).trans ((Below.heap_alloc _ _ _ hlt).trans h)
theorem own_ne {W : World} {B e size n b : Nat} {v : Value} {xs : List Value} (h : W.ownsRow B e size v n xs) (hb : b < B) : some b ≠ v.ownBlock := fun hh => by
  have := (h.lt b hh.symm).1
  omega
theorem frozen_of' {W : World} {B : Nat} {c : Array Value} {t : TypeId} (h : W.heap[B]? = some (.cells c t (0, 0))) (i : Nat) : W.frozen? ⟨B, i, none⟩ = false := by
  simp [World.frozen?, h]
/-- A row that is owned is a slice that lies in its own block. -/
theorem own_slOn {W : World} {B n : Nat} {v : Value} {ks : List Ex} (h : W.ownsRow B 33 6 v n (ks.flatMap Ex.cells)) (hk : ks.length = n) : ∃ ad cap, v = .slice ad ks.length cap ∧ SlOn 6 Ex.cells (fun b => B ≤ b ∧ b < W.heap.size) W ad cap ks := by
  subst hk
  obtain ⟨_, ⟨rfl, h2⟩ | ⟨g, cap, cur, rfl, hB, hh, hc, hm, hcs, hx⟩⟩ := h
  · exact ⟨none, 0, by rw [h2], by omega, by unfold maxLen; omega, .inl (List.eq_nil_of_length_eq_zero h2)⟩
  · refine ⟨some ⟨g, 0, none⟩, cap, rfl, hc, hm, .inr ⟨g, 0, rfl, ⟨hB, (Array.getElem?_eq_some_iff.1 hh).1⟩, fun j hj i hi => ?_⟩⟩
    rw [cell_of' hh, Nat.zero_add]
    have h1 := flat_get Ex.cells 6 exCells_len ks j i hj hi
    rw [← hx, List.getElem?_take, if_pos (by omega), Array.getElem?_toList] at h1
    exact h1
theorem set_other {W : World} {B b i : Nat} {v : Value} (h : b ≠ B) : (W.setCell ⟨B, i, none⟩ v).heap[b]? = W.heap[b]? := heap_setCell_other W ⟨B, i, none⟩ b v h
/-- What stands behind a round. -/
theorem moved_next {w wr w1 w2 : World} {j g gcap : Nat} {ks : List Ex} {v c0 c1 c2 c3 c5 : Value} {f : Ex} {o oe oz : Obj}
    (HE : wr.heap[w.heap.size]? = some oe) (HZ : wr.heap[w.heap.size + 1]? = some oz) (HF : w2.heap[w.heap.size + 1 + 1]? = some (.cells #[c0, c1, c2, c3, v, c5] 33 (0, 0)))
    (HO : wr.ownsRow (w.heap.size + 3) 33 6 v j (ks.flatMap Ex.cells)) (HN : ∀ x ∈ ks, x.On (fun b => w.heap.size + 3 ≤ b ∧ b < wr.heap.size ∧ some b ≠ v.ownBlock) wr) (HB : Below w.heap.size w wr)
    (hsz : w.heap.size + 3 ≤ wr.heap.size) (hb1 : Below wr.heap.size wr w1) (HY : f.On (fun b => wr.heap.size ≤ b ∧ b < w1.heap.size) w1)
    (hown2 : w2.ownsRow (w.heap.size + 3) 33 6 (.slice (some ⟨g, 0, none⟩) (j + 1) gcap) (j + 1) (ks.flatMap Ex.cells ++ f.cells)) (hgrow : (w1.alloc o).grownBy w2 v.ownBlock) (hat : v.ownBlock = some g ∨ g = w1.heap.size + 1) :
    let W := w2.setCell ⟨w.heap.size + 1 + 1, 4, none⟩ (.slice (some ⟨g, 0, none⟩) (j + 1) gcap)
    W.heap[w.heap.size]? = some oe ∧ W.heap[w.heap.size + 1]? = some oz ∧ W.heap[w.heap.size + 1 + 1]? = some (.cells #[c0, c1, c2, c3, .slice (some ⟨g, 0, none⟩) (j + 1) gcap, c5] 33 (0, 0)) ∧
    W.ownsRow (w.heap.size + 3) 33 6 (.slice (some ⟨g, 0, none⟩) (j + 1) gcap) (j + 1) ((ks ++ [f]).flatMap Ex.cells) ∧
    (∀ x ∈ ks ++ [f], x.On (fun b => w.heap.size + 3 ≤ b ∧ b < W.heap.size ∧ some b ≠ (Value.slice (some ⟨g, 0, none⟩) (j + 1) gcap).ownBlock) W) ∧ Below w.heap.size w W := by
  intro W
  have hs1 := hb1.size
  have hs2 := hgrow.size
  simp at hs2
  have hWs : W.heap.size = w2.heap.size := by simp [W]
  have old : ∀ b, b < w1.heap.size → b ≠ w.heap.size + 1 + 1 → some b ≠ v.ownBlock → W.heap[b]? = w1.heap[b]? := fun b h1 h2 h3 =>
    (heap_setCell_other w2 ⟨w.heap.size + 1 + 1, 4, none⟩ b _ h2).trans ((hgrow.block b (by simp; omega) h3).trans (Below.heap_alloc _ _ _ h1))
  have low : ∀ b, b < w.heap.size + 3 → b ≠ w.heap.size + 1 + 1 → W.heap[b]? = wr.heap[b]? := fun b h1 h2 => (old b (by omega) h2 (own_ne HO h1)).trans (hb1.block b (by omega))
  have hg3 : w.heap.size + 3 ≤ g := (hown2.lt g rfl).1
  have gne : ∀ b, (b < w1.heap.size) → some b ≠ v.ownBlock → some b ≠ some g := fun b h1 h2 h3 => by
    have : b = g := by simpa using h3
    subst this
    rcases hat with h | h
    · exact h2 h.symm
    · omega
  refine ⟨(low _ (by omega) (by omega)).trans HE, (low _ (by omega) (by omega)).trans HZ, (heap_setCell_same w2 _ 4 _ 33 _ HF).trans rfl, ?_, ?_, ?_⟩
  · rw [List.flatMap_append, List.flatMap_cons, List.flatMap_nil, List.append_nil]
    exact hown2.kept (row := some (w.heap.size + 1 + 1)) ⟨rfl, rfl, rfl, by rw [hWs]; exact Nat.le_refl _, fun k _ hk => heap_setCell_other w2 ⟨w.heap.size + 1 + 1, 4, none⟩ k _ (fun e => hk (by rw [e]))⟩ (.inr (by simp [Value.ownBlock]; omega))
  · intro x hx
    rcases List.mem_append.1 hx with hx | hx
    · exact (HN x hx).keep (fun b hb => ⟨hb.1, by rw [hWs]; omega, gne b (by omega) hb.2.2⟩) (fun b hb => (old b (by omega) (by omega) hb.2.2).trans (hb1.block b hb.2.1))
    · rw [List.mem_singleton.1 hx]
      have vne : ∀ b, wr.heap.size ≤ b → some b ≠ v.ownBlock := fun b hb h => by have := (HO.lt b h.symm).2; omega
      exact HY.keep (fun b hb => ⟨by omega, by rw [hWs]; omega, gne b hb.2 (vne b hb.1)⟩) (fun b hb => old b hb.2 (by omega) (vne b hb.1))
  · exact ((((HB.trans (hb1.mono (by omega))).al (Nat.le_refl _) o).grown hgrow (by simp; omega) (fun k hk => by have := (HO.lt k hk).1; omega)).setCell (by simp; omega) _)
set_option maxRecDepth 100000 in
set_option maxHeartbeats 4000000 in
theorem moved_any (n₀ : Nat) (by' : Int) (hby : I64 by') (e : Ex) : ∀ (w : World), n₀ ≤ w.heap.size → e.Is n₀ w → e.subs.length ≤ 1000 →
    Calls Tryd.prog 26 #[e.val, .int .i64 by'] w fun r w' => ∃ f : Ex, r = .returned f.val ∧ e.same f = true ∧ f.On (fun b => w.heap.size ≤ b ∧ b < w'.heap.size) w' ∧ Below w.heap.size w w' := by
  obtain ⟨i0, hi, hz0, hz1, hz2⟩ := info_parts info33
  induction e using Ex.ind with
  | h op mon name k ad cap kids pos ih =>
    intro w hn he hc
    have hkl := kids_len (op := op) (mon := mon) (name := name) (n := k) (ad := ad) (cap := cap) (kids := kids) (pos := pos)
    have hd := he.down
    have hl1 := hd.2.1.1; have hl2 := hd.2.1.2.1
    unfold maxLen at hl2
    simp only [Ex.val, Ex.cells]
    go_enter Tryd.func26, Tryd.ntmps26
    go_wp2
    go_loopw [6] (fun i wr => ∃ (j : Nat) (ks : List Ex) (v : Value), j ≤ kids.length ∧ i = .int .i64 j ∧ Hid (ks.length = j) ∧ Hid (all2 Ex.same (kids.take j) ks = true) ∧
        Hid (wr.heap[w.heap.size]? = some (.cells #[.int .i64 op, .string mon, .string name, .int .i64 k, .slice ad kids.length cap, .int .i64 pos] 33 (0, 0))) ∧
        Hid (wr.heap[w.heap.size + 1]? = some (.cells #[.int .i64 0, .string ⟨#[]⟩, .string ⟨#[]⟩, .int .i64 0, .slice none 0 0, .int .i64 0] 33 (0, 0))) ∧
        Hid (wr.heap[w.heap.size + 1 + 1]? = some (.cells #[.int .i64 op, .string mon, .string name, .int .i64 k, v, .int .i64 by'] 33 (0, 0))) ∧
        Hid (wr.ownsRow (w.heap.size + 3) 33 6 v j (ks.flatMap Ex.cells)) ∧ Hid (∀ x ∈ ks, x.On (fun b => w.heap.size + 3 ≤ b ∧ b < wr.heap.size ∧ some b ≠ v.ownBlock) wr) ∧ Hid (Below w.heap.size w wr))
      (fun i _ => kids.length - (intOf i).toNat)
    case atStart =>
      refine ⟨0, [], .slice none 0 0, by omega, rfl, rfl, by simp [Hid, all2], ?_, ?_, ?_, World.ownsRow_nil _ _ _ _, fun x hx => (by cases hx), ((((Below.refl _ w).al le_rfl' _).al le_rfl' _).al le_rfl' _)⟩
      · show _ = _
        rw [Below.heap_alloc _ _ _ (by simp; omega), Below.heap_alloc _ _ _ (by simp)]; exact heapAt _ rfl
      · show _ = _
        rw [Below.heap_alloc _ _ _ (by simp)]; exact heapAt _ (by simp)
      · exact heapAt _ (by simp)
    case round =>
      obtain ⟨j, ks, v, hj, rfl, HK, HA, HE, HZ, HF, HO, HN, HB⟩ := hrel
      have ce := cell_of' HE.out 4
      have cf := cell_of' HF.out 4
      simp at ce cf
      have lf := (Array.getElem?_eq_some_iff.1 HF.out).1
      by_cases hlt : j < kids.length
      · rcases hd.2.1.2.2 with h | ⟨b, off, rfl, hbn, hrow⟩
        · subst h; simp at hlt
        have hb0 : Below n₀ w wr := HB.out.mono hn
        have hbn2 : b < wr.heap.size := by omega
        have hr := hrow.below hb0 hbn
        have hkj := kid_len (op := op) (mon := mon) (name := name) (n := k) (ad := some ⟨b, off, none⟩) (cap := cap) (pos := pos) (List.getElem_mem hlt)
        have hq : ∀ W, Below wr.heap.size wr W → Calls Tryd.prog 26 #[kids[j].val, .int .i64 by'] W fun r w' => ∃ op' mon' name' n' ad' cap' kids' pos',
            r = .returned (.agg #[.int .i64 op', .string mon', .string name', .int .i64 n', .slice ad' (List.length kids') cap', .int .i64 pos']) ∧
            Hid (kids[j].same (.mk op' mon' name' n' ad' cap' kids' pos') = true) ∧ Hid (Ex.On (fun b => wr.heap.size ≤ b ∧ b < w'.heap.size) w' (.mk op' mon' name' n' ad' cap' kids' pos')) ∧ Below wr.heap.size wr w' := fun W hW => by
          have hzW := hW.size
          refine (ih _ (List.getElem_mem hlt) W (by omega) ((hd.2.2 _ (List.getElem_mem hlt)).below (hb0.trans (hW.mono (by omega)))) (by omega)).mono ?_
          rintro r w' ⟨f, rfl, h1, h2, h3⟩
          rcases f with ⟨op', mon', name', n', ad', cap', kids', pos'⟩
          exact ⟨op', mon', name', n', ad', cap', kids', pos', rfl, h1, h2.keep (fun b hb => ⟨by omega, hb.2⟩) (fun _ _ => rfl), hW.tr le_rfl' h3⟩
        clear ih
        rcases he' : kids[j] with ⟨op1, mon1, name1, n1, ad1, cp1, kids1, pos1⟩
        obtain ⟨c0, c1, c2, c3, c4, c5⟩ := row6 hr j hlt (by rw [he']; rfl)
        simp only [he', Ex.val, Ex.cells] at hq
        have HE' := hid he'
        clear he'
        have hj0 : (0 : Int) ≤ (j : Int) := Int.natCast_nonneg _
        have hj1 : (j : Int) < (kids.length : Int) := by omega
        have lw : w.heap.size < wr.heap.size := by omega
        have hB3 : w.heap.size + 3 ≤ wr.heap.size := by omega
        go_wp2_with fail
        go_region_law (first
            | (refine step_append_lies _ (by rfl) _ _ _ (by rfl) (w.heap.size + 3) 33 i0 _ 6 80 Tryd.underlying31 hi hz0 hz1 hz2 rfl (by omega) v j (ks.flatMap Ex.cells) (by rfl) ((owns_drewBelow HO.out hb1).alloc _)
                ⟨w1.heap.size, 0, none⟩ 1 1 [.int .i64 op', .string mon', .string name', .int .i64 n', .slice ad' kids'.length cap', .int .i64 pos'] (by rfl) (by rfl) (World.news_of_block (cs := #[.int .i64 op', .string mon', .string name', .int .i64 n', .slice ad' kids'.length cap', .int .i64 pos']) (t := 33) (fr := (0, 0)) (heap_alloc_new w1 _)) (by simp [Value.oneCell'])
                (by omega) (by unfold maxLen; omega) (by omega) (by simp; omega) (w1.heap.size + 1) (by simp) ?_; intro g gcap w2 hown2 hgrow hat hlt2; have hF2 := box_grown ((hb1.block _ lf).trans HF.out) hgrow (own_ne HO.out (by omega)); have cf2 : w2.cell? ⟨w.heap.size + 1 + 1, 4, none⟩ = some v := cell_of' hF2 4; have ff2 := frozen_of' hF2 4; have HF2 := hid hF2; clear hF2; have HG := hid hgrow; clear hgrow; have HW2 := hid hown2; clear hown2)
            | (rw [if_pos (show Region.wanted _ _ = true from rfl)]; go_wp2_with (go_at_call 26; refine (hq _ (below_drew (Below.refl _ _))).mono ?_; rintro r w1 ⟨op', mon', name', n', ad', cap', kids', pos', rfl, HX, HY, hb1⟩; have cf1 : w1.cell? ⟨w.heap.size + 1 + 1, 4, none⟩ = some v := ((bcell' hb1).1 _ _ lf).trans cf; have hs1 := hb1.size; have lf1 : w.heap.size + 1 + 1 < w1.heap.size := Nat.lt_of_lt_of_le lf hs1)))
        all_goals
          obtain ⟨r1, r2, r3, r4, r5, r6⟩ := moved_next HE.out HZ.out HF2.out HO.out HN.out HB.out hB3 hb1 HY.out HW2.out HG.out hat
          have R1 := hid r1; have R2 := hid r2; have R3 := hid r3; have R4 := hid r4; have R5 := hid r5; have R6 := hid r6
          clear r1 r2 r3 r4 r5 r6
          go_wp2
          go_roundw
          case rel =>
            refine ⟨j + 1, ks ++ [Ex.mk op' mon' name' n' ad' cap' kids' pos'], _, by omega, by go_num, by show _ = _; rw [List.length_append, HK.out]; rfl, ?_, R1.out, R2.out, R3.out, R4.out, R5.out, R6.out⟩
            show _ = _
            have h1 := all2_snoc Ex.same kids (ks ++ [Ex.mk op' mon' name' n' ad' cap' kids' pos']) j hlt (by rw [List.length_append, HK.out]; simp)
            have hK := HK.out
            rw [List.take_of_length_le (l := ks ++ _) (by simp; omega)] at h1
            rw [h1, List.take_left' hK, HA.out, List.getElem_append_right (by omega)]
            simp only [hK, Nat.sub_self, List.getElem_cons_zero, Bool.true_and]
            rw [HE'.out]; exact HX.out
          case measure => simp [intOf]; omega
      · have hjd : decide ((j : Int) < (kids.length : Int)) = false := by simp; omega
        have hjk : j = kids.length := by omega
        subst hjk
        have hKL := HK.out
        obtain ⟨ad', cp', rfl, hsl⟩ := own_slOn HO.out hKL
        have hF0 := HF.out
        have d0 := cell_of' hF0 0; have d1 := cell_of' hF0 1; have d2 := cell_of' hF0 2; have d3 := cell_of' hF0 3; have d5 := cell_of' hF0 5
        have hZ0 := HZ.out
        have z0 := cell_of' hZ0 0; have z1 := cell_of' hZ0 1; have z2 := cell_of' hZ0 2; have z3 := cell_of' hZ0 3; have z4 := cell_of' hZ0 4; have z5 := cell_of' hZ0 5
        have y0 := frozen_of' hZ0 0; have y1 := frozen_of' hZ0 1; have y2 := frozen_of' hZ0 2; have y3 := frozen_of' hZ0 3; have y4 := frozen_of' hZ0 4; have y5 := frozen_of' hZ0 5
        simp at d0 d1 d2 d3 d5 z0 z1 z2 z3 z4 z5
        have HSL := hid hsl
        have HKL := hid hKL
        clear hF0 hZ0 hsl hKL
        go_wp2
        refine bodyPost_ret (v := .agg #[.int .i64 op, .string mon, .string name, .int .i64 k, .slice ad' ks.length cp', .int .i64 by']) (by simp [results, Tryd.results26, go_sem, z0, z1, z2, z3, z4, z5]) rfl ⟨.mk op mon name k ad' cp' ks by', rfl, ?_, ?_, ?_⟩
        · rw [same_mk]
          have h1 := HA.out
          rw [List.take_of_length_le (Nat.le_refl _)] at h1
          simp [h1]
        · have hk2 : ∀ b, w.heap.size + 3 ≤ b → ((((((wr.setCell ⟨w.heap.size + 1, 0, none⟩ (.int .i64 op)).setCell ⟨w.heap.size + 1, 1, none⟩ (.string mon)).setCell ⟨w.heap.size + 1, 2, none⟩ (.string name)).setCell ⟨w.heap.size + 1, 3, none⟩ (.int .i64 k)).setCell ⟨w.heap.size + 1, 4, none⟩ (.slice ad' ks.length cp')).setCell ⟨w.heap.size + 1, 5, none⟩ (.int .i64 by')).heap[b]? = wr.heap[b]? := fun b hb => by
            rw [set_other (by omega), set_other (by omega), set_other (by omega), set_other (by omega), set_other (by omega), set_other (by omega)]
          refine Ex.On.up (Q := fun b => w.heap.size ≤ b ∧ b < _) ⟨hd.1.1, hd.1.2.1, hby, hd.1.2.2.2.1, hd.1.2.2.2.2⟩ ?_ (fun x hx => (HN.out x hx).keep (fun b hb => ⟨by omega, by simp; exact hb.2.1⟩) (fun b hb => hk2 b hb.1))
          obtain ⟨q1, q2, q3⟩ := HSL.out
          refine ⟨q1, q2, ?_⟩
          rcases q3 with q3 | ⟨b, off, q4, q5, q6⟩
          · exact .inl q3
          · exact .inr ⟨b, off, q4, ⟨by omega, by simp; exact q5.2⟩, fun j hj i hi => (World.cell?_of_block (a := ⟨b, _, none⟩) (hk2 b q5.1)).trans (q6 j hj i hi)⟩
        · exact (((((HB.out.setCell (by simp) _).setCell (by simp) _).setCell (by simp) _).setCell (by simp) _).setCell (by simp) _).setCell (by simp) _
end Go.Proofs.YtjgomkkmmhkpdaaDoor
