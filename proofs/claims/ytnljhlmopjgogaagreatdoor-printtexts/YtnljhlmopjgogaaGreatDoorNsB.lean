/-
  nestBlock of package print: how many levels lie within one another in a block.
-/
import Derived.Test.YtnljhlmopjgogaaGreatDoorNsA
import Derived.Test.YtnljhlmopjgogaaGreatDoorPnB
namespace Go.Proofs.YtnljhlmopjgogaaGreatDoor
open Go.RowKit Px
/-- nestBlock tells how deep a block is. -/
def NestLays (x : Bl) : Prop := ∀ (n₀ m o : Nat) (w : World), n₀ ≤ w.heap.size → x.Is n₀ w → SignsAt w m → o + x.sz ≤ 1000000 →
  Calls Tryz.prog 33 #[.map (some m), x.slice, .int .i64 (o : Int)] w fun r w' => r = .returned (.int .i64 ((x.nst o : Nat) : Int)) ∧ Below w.heap.size w w'
set_option maxRecDepth 100000 in
set_option maxHeartbeats 2000000 in
theorem nestBlock_step (ad : Option Addr) (cap : Nat) (body : List St) (ih : ∀ s ∈ body, ∀ x ∈ s.blocks, NestLays x) : NestLays (.mk ad cap body) := by
  intro n₀ m o w hn hI hs ho
  have hml := hs.lt
  have hsl := hI.down.1
  have hIs := hI.down.2
  have hl1 := hsl.1; have hl2 := hsl.2.1
  unfold maxLen at hl2
  have HN := hid (Bl.nst_mk ad cap body o)
  rw [Bl.sz_mk] at ho
  simp only [Bl.slice]
  go_enter Tryz.func33, Tryz.ntmps33
  go_wp2
  go_loopw [7, 15] (fun v i wr => ∃ (k a : Nat), k ≤ body.length ∧ v = .int .i64 (a : Int) ∧ i = .int .i64 (k : Int) ∧ Hid (a = max o (maxL (fun s => s.nst o) (body.take k))) ∧ a ≤ 4000000 ∧ Below w.heap.size w wr) (fun _ i _ => body.length - (intOf i).toNat)
  case atStart => exact ⟨0, o, by omega, rfl, rfl, by simp [Hid, maxL], by omega, Below.refl _ _⟩
  case round =>
    obtain ⟨k, a, hk, rfl, rfl, HA, ha, hbw⟩ := hrel
    have hzw := hbw.size
    obtain ⟨wo, hwo⟩ : ∃ wo : World, wo = wr := ⟨_, rfl⟩
    subst hwo
    by_cases hlt : k < body.length
    · rcases hsl.2.2 with h | ⟨b, off, rfl, hbn, hrow⟩
      · subst h; simp at hlt
      have hr := hrow.below (hbw.mono hn) hbn
      have hbl : b < wo.heap.size := by omega
      have HS := hid (maxL_snoc (fun s : St => s.nst o) body k hlt)
      have hIj := (hIs _ (List.getElem_mem hlt)).below (hbw.mono hn)
      have hij := ih _ (List.getElem_mem hlt)
      have htot := sum_ge St.tot body _ (List.getElem_mem hlt)
      have hsn := stnst_le body[k] o
      rcases he' : body[k] with ⟨kind, mon, name, n, e, ad', cap', blocks, pos⟩
      have HX := hid (St.nst_mk kind mon name n e ad' cap' blocks pos o)
      rw [he'] at hIj hij htot HS hsn
      rw [St.tot_mk] at htot
      have hen := exnest_le e
      have hsub : e.subs.length ≤ 1000000 := by
        cases hno : e.none
        · rw [hno] at htot; simp at htot; omega
        · have := (none_nest hno).2; omega
      have hnst := fun W (h : Below wo.heap.size wo W) => nest_any e n₀ m 1 W (by have := h.size; omega) (hIj.down.2.1.below (h.mono (by omega))) ((hs.below hbw hml).below h (by omega)) hsub
      obtain ⟨y, hy⟩ : ∃ y, e.nest 1 = y := ⟨_, rfl⟩
      rw [hy] at hen HX
      simp only [hy] at hnst
      clear hy
      rcases hee : e with ⟨eop, emon, ename, en, ead, ecap, ekids, epos⟩
      obtain ⟨c0, c1, c2, c3, c4, c5, c6, c7, c8, c9, c10, c11⟩ := row12 hr k hlt (by rw [he', hee]; rfl)
      have hIb := hIj.down.2.2
      have hlb1 := hIb.1.1; have hlb2 := hIb.1.2.1
      unfold maxLen at hlb2
      rw [show e.val = Value.agg #[.int .i64 eop, .string emon, .string ename, .int .i64 en, .slice ead ekids.length ecap, .int .i64 epos] by rw [hee]; rfl] at hnst
      have HTOT := hid htot
      have hyb : y ≤ 2000000 := by
        have := HTOT.out
        split at hen <;> simp_all <;> omega
      have hB1 : Below wo.heap.size wo (wo.alloc (.cells #[.int .i64 kind, .string mon, .string name, .int .i64 n, .int .i64 eop, .string emon, .string ename, .int .i64 en, .slice ead ekids.length ecap, .int .i64 epos, .slice ad' blocks.length cap', .int .i64 pos] 55)) := (Below.refl _ _).al le_rfl' _
      have bX : (wo.alloc (.cells #[.int .i64 kind, .string mon, .string name, .int .i64 n, .int .i64 eop, .string emon, .string ename, .int .i64 en, .slice ead ekids.length ecap, .int .i64 epos, .slice ad' blocks.length cap', .int .i64 pos] 55)).heap[wo.heap.size]? = some (.cells #[.int .i64 kind, .string mon, .string name, .int .i64 n, .int .i64 eop, .string emon, .string ename, .int .i64 en, .slice ead ekids.length ecap, .int .i64 epos, .slice ad' blocks.length cap', .int .i64 pos] 55 (0, 0)) := heap_alloc_new wo _
      have hnst1 := hnst _ hB1
      have hao : IntKind.i64.wrap ((o : Int) + (y : Int)) = ((o + y : Nat) : Int) := by rw [wrap_id _ (by omega) (by omega)]; omega
      have HIJ := hid hij
      clear hnst he' hee hen htot hij hIj hsub
      go_wp2_with (go_at_call 28; refine hnst1.mono ?_; rintro r w2 ⟨rfl, bb2⟩; have c10b : w2.cell? ⟨wo.heap.size, 10, none⟩ = some (.slice ad' blocks.length cap') := cell_of' ((bb2.block _ (by simp)).trans bX) 10)
      have hz2 := bb2.size
      simp at hz2
      have hbN : Below n₀ wo w2 := (hB1.mono (by omega)).trans (bb2.mono (by simp; omega))
      have hbF : Below w.heap.size w w2 := hbw.trans ((hB1.mono (by omega)).trans (bb2.mono (by simp; omega)))
      have hsm := hs.below hbF hml
      clear c0 c1 c2 c3 c4 c5 c6 c7 c8 c9 c10 c11 c10b bX hnst1 hB1 bb2
      go_loopw [7, 30] (fun v i wr => ∃ (j d : Nat), j ≤ blocks.length ∧ v = .int .i64 (d : Int) ∧ i = .int .i64 (j : Int) ∧ Hid (d = max a (max (o + y) (maxL (fun b => b.nst (o + 1)) (blocks.take j)))) ∧ d ≤ 4000000 ∧ Below w2.heap.size w2 wr) (fun _ i _ => blocks.length - (intOf i).toNat)
      case atStart => exact ⟨0, max a (o + y), by omega, by congr 1; omega, rfl, by simp [Hid, maxL], by omega, Below.refl _ _⟩
      case round =>
        obtain ⟨j, d, hj, rfl, rfl, HD, hd, hbj⟩ := hrel
        have hzj := hbj.size
        by_cases hlt2 : j < blocks.length
        · rcases hIb.1.2.2 with h | ⟨b3, off3, rfl, hbn3, hrow3⟩
          · subst h; simp at hlt2
          have hr3 := (hrow3.below hbN hbn3).below (hbj.mono (by omega)) hbn3
          have hb3l : b3 < wr.heap.size := by omega
          have hszj := sum_ge Bl.sz blocks _ (List.getElem_mem hlt2)
          have hnl := blnst_le blocks[j] (o + 1)
          have hq := HIJ.out blocks[j] (List.getElem_mem hlt2) n₀ m (o + 1) wr (by omega) ((hIb.2 _ (List.getElem_mem hlt2)).below (hbN.trans (hbj.mono (by omega)))) (hsm.below hbj (by omega)) (by have := HTOT.out; omega)
          have HS2 := hid (maxL_snoc (fun b : Bl => b.nst (o + 1)) blocks j hlt2)
          obtain ⟨z, hz⟩ : ∃ z, blocks[j].nst (o + 1) = z := ⟨_, rfl⟩
          have hzb : z ≤ 4000000 := by have := HTOT.out; omega
          rw [hz] at hq HS2
          clear hz
          rcases he2 : blocks[j] with ⟨bad, bcap, bbody⟩
          have d0 := row1 hr3 j hlt2 (by rw [he2]; rfl)
          simp only [he2, Bl.slice] at hq d0
          have hcast : ((o + 1 : Nat) : Int) = (o : Int) + 1 := by omega
          rw [hcast] at hq
          clear he2 hcast
          go_wp2_with (go_at_call 33; refine hq.mono ?_; rintro r w5 ⟨rfl, bb5⟩)
          go_roundw
          case rel =>
            refine ⟨j + 1, max d z, by omega, by congr 1; omega, by go_num, ?_, by omega, hbj.tr le_rfl' bb5⟩
            show _ = _
            rw [HS2.out, HD.out]; omega
          case measure => simp [intOf]; omega
        · have hmb : j = blocks.length := by omega
          have hmd : decide ((j : Int) < (blocks.length : Int)) = false := by simp; omega
          go_wp2
          go_roundw
          case rel =>
            refine ⟨k + 1, d, by omega, rfl, by go_num, ?_, hd, hbF.trans (hbj.mono (by omega))⟩
            show _ = _
            rw [HS.out, HX.out, HD.out, HA.out, hmb, List.take_length]; omega
          case measure => simp [intOf]; omega
    · have hkb : k = body.length := by omega
      have hkd : decide ((k : Int) < (body.length : Int)) = false := by simp; omega
      go_wp2
      go_ret
      refine ⟨?_, hbw⟩
      rw [HN.out, ← List.take_length (l := body), ← hkb, ← HA.out]
      rfl
theorem nestBlock_any (x : Bl) : NestLays x :=
  Bl.ind (P := fun s => ∀ x ∈ s.blocks, NestLays x) (Q := NestLays) (fun _ _ _ _ _ _ _ _ _ ih b hb => ih b hb) (fun ad cap body ih => nestBlock_step ad cap body ih) x
end Go.Proofs.YtnljhlmopjgogaaGreatDoor
