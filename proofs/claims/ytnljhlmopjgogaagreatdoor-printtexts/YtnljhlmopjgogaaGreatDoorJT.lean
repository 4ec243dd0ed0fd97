/-
  stmts of the document's print tells the text of every block.
-/
import Derived.Test.YtnljhlmopjgogaaGreatDoorJS
import Derived.Deep.RegionHeld3
import Derived.Deep.Cut
import Derived.Test.YtnljhlmopjgogaaGreatDoorStD
namespace Go.Proofs.YtnljhlmopjgogaaGreatDoor
open Go.RowKit Px
set_option maxRecDepth 100000 in
set_option maxHeartbeats 2000000 in
theorem stR_3 (s : St) (hok : s.ok1 = true) (hoks : ∀ x ∈ s.blocks, x.okb) (hx : ∀ x ∈ s.blocks, BlTxt x) (hkk : s.kind = 3) : StTxt s := by
  intro n₀ o w hn hI ho
  rcases s with ⟨kind, mon, name, n, ⟨eop, emon, ename, en, ead, ecap, ekids, epos⟩, ad, cap, blocks, pos⟩
  simp only [St.kind] at hkk
  subst hkk
  obtain ⟨⟨hk1, hk2⟩, hfm, hfn, hfu, hfe, hlo, hhi⟩ := St.ok_parts hok
  have hmon : mon.size ≤ 32 := by have := fits_len hfm; simpa using this
  have hname : name.size ≤ 32 := by have := fits_len hfn; simpa using this
  have hnum : I64 n := hI.down.1.2.1
  have hIe := hI.down.2.1
  have hIb := hI.down.2.2
  have hcap := hIb.1.1
  have hcap2 := hIb.1.2.1
  unfold maxLen at hcap2
  have hb8 : blocks.length ≤ 8 := by have := stMost_le (Int.toNat 3); omega
  rw [St.tot_mk] at ho
  have htot := hid ho
  have ho1 : o + 1 + (blocks.map Bl.sz).sum ≤ 1000 := by omega
  have HT := hid (St.txt_mk 3 mon name n (Ex.mk eop emon ename en ead ecap ekids epos) ad cap blocks pos o)
  have bS : (w.alloc (.cells #[.int .i64 3, .string mon, .string name, .int .i64 n, .int .i64 eop, .string emon, .string ename, .int .i64 en, .slice ead ekids.length ecap, .int .i64 epos, .slice ad blocks.length cap, .int .i64 pos] 55)).heap[w.heap.size]? = some (.cells #[.int .i64 3, .string mon, .string name, .int .i64 n, .int .i64 eop, .string emon, .string ename, .int .i64 en, .slice ead ekids.length ecap, .int .i64 epos, .slice ad blocks.length cap, .int .i64 pos] 55 (0, 0)) := heap_alloc_new w _
  have hB0 : Below w.heap.size w (w.alloc (.cells #[.int .i64 3, .string mon, .string name, .int .i64 n, .int .i64 eop, .string emon, .string ename, .int .i64 en, .slice ead ekids.length ecap, .int .i64 epos, .slice ad blocks.length cap, .int .i64 pos] 55)) := (Below.refl _ w).al le_rfl' _
  have hL : Hid (∀ (s : ByteArray) (W : World), s.size ≤ 1000000000 → Calls Tryz.prog 21 #[.int .i64 (o : Int), .string s] W fun r w' => r = .returned (.string ⟨(lin o s.data.toList).toArray⟩) ∧ w' = W) := fun s W h => line_ref o s W (by omega) (by omega)
  obtain ⟨ET, hET⟩ : ∃ s : ByteArray, s = ⟨((Ex.mk eop emon ename en ead ecap ekids epos).txt 1).toArray⟩ := ⟨_, rfl⟩
  have HET : Hid (ET.data.toList = (Ex.mk eop emon ename en ead ecap ekids epos).txt 1) := by show _ = _; rw [hET]
  have hexp : (Ex.mk eop emon ename en ead ecap ekids epos).ok = true → ET.size ≤ 200000 ∧ ∀ W, Below w.heap.size w W → Calls Tryz.prog 72 #[.agg #[.int .i64 eop, .string emon, .string ename, .int .i64 en, .slice ead ekids.length ecap, .int .i64 epos], .int .i64 1] W fun r w' => r = .returned (.string ET) ∧ Below W.heap.size W w' := fun hk => by
    have hsb : (Ex.mk eop emon ename en ead ecap ekids epos).subs.length ≤ 1000 := by
      have h1 := htot.out
      rw [ok_none hk] at h1
      simp only [Bool.false_eq_true, if_false] at h1
      omega
    refine ⟨?_, fun W h => ?_⟩
    · have h3 := bare_len _ n₀ w hIe hk
      have h4 := atL_len 1 (Ex.mk eop emon ename en ead ecap ekids epos).opOf (Ex.mk eop emon ename en ead ecap ekids epos).bare
      rw [ba_size HET.out]
      unfold Ex.txt; omega
    · have := refExpr_any _ hk n₀ W 1 (by have := h.size; omega) (hIe.below (h.mono hn)) (by omega)
      rw [hET]
      exact this
  simp only [St.val, St.cells, Ex.cells, List.cons_append, List.nil_append]
  obtain ⟨R, hR⟩ : ∃ R : ByteArray, (⟨((St.mk 3 mon name n (Ex.mk eop emon ename en ead ecap ekids epos) ad cap blocks pos).txt o).toArray⟩ : ByteArray) = R := ⟨_, rfl⟩
  rw [hR]
  have HRR := hid hR
  clear hET ho hR
  go_enter Tryz.func43, Tryz.ntmps43
  go_upto_region 2 with fail
  obtain ⟨W0, hW0⟩ : ∃ W0, w.alloc (.cells #[.int .i64 3, .string mon, .string name, .int .i64 n, .int .i64 eop, .string emon, .string ename, .int .i64 en, .slice ead ekids.length ecap, .int .i64 epos, .slice ad blocks.length cap, .int .i64 pos] 55) = W0 := ⟨_, rfl⟩
  rw [hW0] at bS hB0 ⊢
  have hlt0 : w.heap.size < W0.heap.size := (Array.getElem?_eq_some_iff.1 bS).1
  have HBX : Hid (∀ W, Below W0.heap.size W0 W → W.heap[w.heap.size]? = some (.cells #[.int .i64 3, .string mon, .string name, .int .i64 n, .int .i64 eop, .string emon, .string ename, .int .i64 en, .slice ead ekids.length ecap, .int .i64 epos, .slice ad blocks.length cap, .int .i64 pos] 55 (0, 0))) := fun W hW => (hW.block _ hlt0).trans bS
  have d0 : W0.cell? ⟨w.heap.size, 0, none⟩ = some (.int .i64 3) := cell_of' bS 0
  have d1 : W0.cell? ⟨w.heap.size, 1, none⟩ = some (.string mon) := cell_of' bS 1
  have d2 : W0.cell? ⟨w.heap.size, 2, none⟩ = some (.string name) := cell_of' bS 2
  have d3 : W0.cell? ⟨w.heap.size, 3, none⟩ = some (.int .i64 n) := cell_of' bS 3
  have d4 : W0.cell? ⟨w.heap.size, 4, none⟩ = some (.int .i64 eop) := cell_of' bS 4
  have d5 : W0.cell? ⟨w.heap.size, 5, none⟩ = some (.string emon) := cell_of' bS 5
  have d6 : W0.cell? ⟨w.heap.size, 6, none⟩ = some (.string ename) := cell_of' bS 6
  have d7 : W0.cell? ⟨w.heap.size, 7, none⟩ = some (.int .i64 en) := cell_of' bS 7
  have d8 : W0.cell? ⟨w.heap.size, 8, none⟩ = some (.slice ead ekids.length ecap) := cell_of' bS 8
  have d9 : W0.cell? ⟨w.heap.size, 9, none⟩ = some (.int .i64 epos) := cell_of' bS 9
  have d10 : W0.cell? ⟨w.heap.size, 10, none⟩ = some (.slice ad blocks.length cap) := cell_of' bS 10
  clear hW0 hfm hfn hI
  obtain ⟨hez, hxx⟩ := hexp (ex_of_fits hfe (by decide))
  clear hexp
  have hone : 1 ≤ blocks.length := Nat.le_trans (by decide) hlo
  have HTX : Hid ((St.mk 3 mon name n (Ex.mk eop emon ename en ead ecap ekids epos) ad cap blocks pos).txt o = lin o ((⟨#[105, 102, 32]⟩ : ByteArray) ++ ET ++ ⟨#[32, 123]⟩).data.toList ++ (docB o (⟨#[125, 32, 101, 108, 115, 101, 32, 123]⟩ : ByteArray).data.toList (blocks.map fun b => b.txt (o + 1)) 0 ++ lin o [125])) := by
    show _ = _
    have := docB_any o [101, 108, 115, 101] ([105, 102, 32] ++ (Ex.mk eop emon ename en ead ecap ekids epos).txt 1) (blocks.map fun b => b.txt (o + 1)) (by rw [List.length_map]; exact hone)
    rw [HT.out]
    simp only [stOf, ByteArray.data_append, Array.toList_append, HET.out] at this ⊢
    simpa using this
  obtain ⟨L0, hL0⟩ : ∃ s : ByteArray, s = ⟨(lin o ((⟨#[105, 102, 32]⟩ : ByteArray) ++ ET ++ ⟨#[32, 123]⟩).data.toList).toArray⟩ := ⟨_, rfl⟩
  have hl0 : ∀ W, Calls Tryz.prog 21 #[.int .i64 (o : Int), .string ((⟨#[105, 102, 32]⟩ : ByteArray) ++ ET ++ ⟨#[32, 123]⟩)] W fun r w' => r = .returned (.string L0) ∧ w' = W := fun W => by
    have := hL.out ((⟨#[105, 102, 32]⟩ : ByteArray) ++ ET ++ ⟨#[32, 123]⟩) W (by simp only [ByteArray.size_append']; show 3 + ET.size + 2 ≤ 1000000000; omega)
    rw [← hL0] at this
    exact this
  have HL0 : Hid (L0.data.toList = lin o ((⟨#[105, 102, 32]⟩ : ByteArray) ++ ET ++ ⟨#[32, 123]⟩).data.toList) := by show _ = _; rw [hL0]
  have hl0z : L0.size ≤ 300000 := by rw [ba_size HL0.out]; unfold lin; simp only [List.length_append, ind_len, List.length_cons, List.length_nil, Array.length_toList]; show 2 * o + ByteArray.size ((⟨#[105, 102, 32]⟩ : ByteArray) ++ ET ++ ⟨#[32, 123]⟩) + (0 + 1) ≤ 300000; (try simp only [ByteArray.size_append']); first | omega | (show 2 * o + (3 + ET.size + 2) + (0 + 1) ≤ 300000; omega)
  obtain ⟨LE, hLE⟩ : ∃ s : ByteArray, s = ⟨(lin o [125]).toArray⟩ := ⟨_, rfl⟩
  have hle : ∀ W, Calls Tryz.prog 21 #[.int .i64 (o : Int), .string ⟨#[125]⟩] W fun r w' => r = .returned (.string LE) ∧ w' = W := fun W => by
    have := hL.out ⟨#[125]⟩ W (by show 1 ≤ 1000000000; omega)
    rw [hLE]
    exact this
  have HLE : Hid (LE.data.toList = lin o [125]) := by show _ = _; rw [hLE]
  have hlez : LE.size ≤ 3000 := by rw [ba_size HLE.out]; unfold lin; simp only [List.length_append, ind_len, List.length_cons, List.length_nil]; omega
  obtain ⟨LM, hLM⟩ : ∃ s : ByteArray, s = ⟨(lin o (⟨#[125, 32, 101, 108, 115, 101, 32, 123]⟩ : ByteArray).data.toList).toArray⟩ := ⟨_, rfl⟩
  have hlm : ∀ W, Calls Tryz.prog 21 #[.int .i64 (o : Int), .string ⟨#[125, 32, 101, 108, 115, 101, 32, 123]⟩] W fun r w' => r = .returned (.string LM) ∧ w' = W := fun W => by
    have := hL.out ⟨#[125, 32, 101, 108, 115, 101, 32, 123]⟩ W (by show 8 ≤ 1000000000; omega)
    rw [hLM]
    exact this
  have HLM : Hid (LM.data.toList = lin o (⟨#[125, 32, 101, 108, 115, 101, 32, 123]⟩ : ByteArray).data.toList) := by show _ = _; rw [hLM]
  have hlmz : LM.size ≤ 3000 := by rw [ba_size HLM.out]; unfold lin; simp only [List.length_append, ind_len, List.length_cons, List.length_nil]; omega
  have g0 : ¬ (9223372036854775807 < 3 + ET.size) := by omega
  have g1 : ¬ (9223372036854775807 < 3 + ET.size + 2) := by omega
  clear HT hL hL0 hLE hLM
  have hx0 := hxx W0 hB0
  clear hxx
  go_wp2_with (first
    | (go_at_call 72; refine hx0.mono ?_; rintro r W2 ⟨rfl, bb2⟩)
    | (go_at_call 21; (with_reducible refine (hl0 _).mono ?_); rintro r w' ⟨rfl, hw'⟩; have hw2 := hw'.symm; subst hw2))
  have hz2 := bb2.size
  clear d0 d1 d2 d3 d4 d5 d6 d7 d8 d9 d10
  go_loopw [7, 8] (fun t i wr => ∃ (j : Nat) (S : ByteArray), j ≤ blocks.length ∧ t = .string S ∧ i = .int .i64 (j : Int) ∧ Hid (S.data.toList = L0.data.toList ++ docB o (⟨#[125, 32, 101, 108, 115, 101, 32, 123]⟩ : ByteArray).data.toList ((blocks.map fun b => b.txt (o + 1)).take j) 0) ∧ S.size ≤ 1000000 + j * 30000000 ∧ Below W2.heap.size W2 wr) (fun _ i _ => blocks.length - (intOf i).toNat)
  case atStart => exact ⟨0, L0, by omega, rfl, rfl, by simp [Hid, docB], by omega, Below.refl _ _⟩
  case round =>
    obtain ⟨j, S, hj, rfl, rfl, HS, hsz, hbj⟩ := hrel
    have hzj := hbj.size
    have hbW : Below W0.heap.size W0 wr := bb2.trans (hbj.mono hz2)
    have hbw : Below w.heap.size w wr := hB0.trans (hbW.mono (by omega))
    have hltw : w.heap.size < wr.heap.size := by omega
    have c10 : wr.cell? ⟨w.heap.size, 10, none⟩ = some (.slice ad blocks.length cap) := cell_of' (HBX.out wr hbW) 10
    by_cases hlt : j < blocks.length
    · rcases hIb.1.2.2 with h | ⟨b3, off3, rfl, hbn3, hrow3⟩
      · subst h; simp at hlt
      have hr3 := hrow3.below (hbw.mono hn) hbn3
      have hb3l : b3 < wr.heap.size := by omega
      have hszj := sum_ge Bl.sz blocks _ (List.getElem_mem hlt)
      have hIj := (hIb.2 _ (List.getElem_mem hlt)).below (hbw.mono hn)
      have hq := hx blocks[j] (List.getElem_mem hlt) (hoks _ (List.getElem_mem hlt)) n₀ (o + 1) wr (by omega) hIj (by omega)
      have htl := bltxt_len n₀ wr blocks[j] hIj (hoks _ (List.getElem_mem hlt)) (o + 1) (by omega)
      have HSN := hid (docB_snoc o (⟨#[125, 32, 101, 108, 115, 101, 32, 123]⟩ : ByteArray).data.toList (blocks.map fun b => b.txt (o + 1)) j (by rw [List.length_map]; exact hlt))
      simp only [List.getElem_map] at HSN
      obtain ⟨TX, hTX⟩ : ∃ s : ByteArray, s = ⟨(blocks[j].txt (o + 1)).toArray⟩ := ⟨_, rfl⟩
      have HTXx : Hid (TX.data.toList = blocks[j].txt (o + 1)) := by show _ = _; rw [hTX]
      have htz : TX.size ≤ 23000000 := by rw [ba_size HTXx.out]; omega
      rw [← hTX] at hq
      clear hTX htl hIj hszj
      rcases he2 : blocks[j] with ⟨bad, bcap, bbody⟩
      have e0 := row1 hr3 j hlt (by rw [he2]; rfl)
      simp only [he2, Bl.slice] at hq e0
      have hcast : ((o + 1 : Nat) : Int) = (o : Int) + 1 := by omega
      rw [hcast] at hq
      have hj8 : j ≤ 8 := by omega
      clear he2 hcast
      by_cases hj0 : j = 0
      · subst hj0
        have e0 : wr.cell? ⟨b3, off3, none⟩ = some (.slice bad bbody.length bcap) := by simpa using e0
        have g8 : ¬ (9223372036854775807 < S.size + TX.size) := by omega
        go_wp2_with (go_at_call 23; refine hq.mono ?_; rintro r w5 ⟨rfl, bb5⟩)
        go_roundw
        case rel =>
          refine ⟨1, S ++ TX, by omega, rfl, rfl, ?_, by rw [ByteArray.size_append']; omega, hbj.tr le_rfl' bb5⟩
          have h := HSN.out
          simp only [if_true, List.nil_append, Nat.zero_add] at h
          show _ = _
          rw [h, ByteArray.data_append, Array.toList_append, HS.out, HTXx.out]
          simp
        case measure => simp [intOf]; omega
      · have hjp : (0 : Int) < (j : Int) := by omega
        have hjd : decide ((0 : Int) < (j : Int)) = true := by simpa using hjp
        have g8 : ¬ (9223372036854775807 < S.size + LM.size) := by omega
        have g9 : ¬ (9223372036854775807 < S.size + LM.size + TX.size) := by omega
        go_wp2_with (first
          | (go_at_call 23; refine hq.mono ?_; rintro r w5 ⟨rfl, bb5⟩)
          | (go_at_call 21; (with_reducible refine (hlm _).mono ?_); rintro r w' ⟨rfl, hw'⟩; have hw2 := hw'.symm; subst hw2))
        go_roundw
        case rel =>
          refine ⟨j + 1, S ++ LM ++ TX, by omega, rfl, by go_num, ?_, by rw [ByteArray.size_append', ByteArray.size_append']; omega, hbj.tr le_rfl' bb5⟩
          show _ = _
          rw [HSN.out, if_neg hj0, ByteArray.data_append, ByteArray.data_append, Array.toList_append, Array.toList_append, HS.out, HTXx.out, HLM.out]
          simp only [List.append_assoc]
        case measure => simp [intOf]; omega
    · have hmb : j = blocks.length := by omega
      have hmd : decide ((j : Int) < (blocks.length : Int)) = false := by simp; omega
      have hj8 : j ≤ 8 := by omega
      have g8 : ¬ (9223372036854775807 < S.size + LE.size) := by omega
      have HR : Hid ((S ++ LE).data.toList = (St.mk 3 mon name n (Ex.mk eop emon ename en ead ecap ekids epos) ad cap blocks pos).txt o) := by
        have h1 : (blocks.map fun b => b.txt (o + 1)).take j = blocks.map fun b => b.txt (o + 1) := by rw [hmb, ← List.length_map (fun b : Bl => b.txt (o + 1)), List.take_length]
        show _ = _
        rw [HTX.out, ByteArray.data_append, Array.toList_append, HS.out, h1, HLE.out, HL0.out, List.append_assoc]
      clear hmb
      go_wp2_with (go_at_call 21; (with_reducible refine (hle _).mono ?_); rintro r w' ⟨rfl, hw'⟩; have hw2 := hw'.symm; subst hw2)
      go_ret
      refine ⟨?_, hbw⟩
      rw [← HRR.out]
      exact ret_str HR.out
end Go.Proofs.YtnljhlmopjgogaaGreatDoor
namespace Go.Proofs.YtnljhlmopjgogaaGreatDoor
open Go.RowKit Px
set_option maxRecDepth 100000 in
set_option maxHeartbeats 2000000 in
theorem stR_4 (s : St) (hok : s.ok1 = true) (hoks : ∀ x ∈ s.blocks, x.okb) (hx : ∀ x ∈ s.blocks, BlTxt x) (hkk : s.kind = 4) : StTxt s := by
  intro n₀ o w hn hI ho
  rcases s with ⟨kind, mon, name, n, ⟨eop, emon, ename, en, ead, ecap, ekids, epos⟩, ad, cap, blocks, pos⟩
  simp only [St.kind] at hkk
  subst hkk
  obtain ⟨⟨hk1, hk2⟩, hfm, hfn, hfu, hfe, hlo, hhi⟩ := St.ok_parts hok
  have hmon : mon.size ≤ 32 := by have := fits_len hfm; simpa using this
  have hname : name.size ≤ 32 := by have := fits_len hfn; simpa using this
  have hnum : I64 n := hI.down.1.2.1
  have hIe := hI.down.2.1
  have hIb := hI.down.2.2
  have hcap := hIb.1.1
  have hcap2 := hIb.1.2.1
  unfold maxLen at hcap2
  have hb8 : blocks.length ≤ 8 := by have := stMost_le (Int.toNat 4); omega
  rw [St.tot_mk] at ho
  have htot := hid ho
  have ho1 : o + 1 + (blocks.map Bl.sz).sum ≤ 1000 := by omega
  have HT := hid (St.txt_mk 4 mon name n (Ex.mk eop emon ename en ead ecap ekids epos) ad cap blocks pos o)
  have bS : (w.alloc (.cells #[.int .i64 4, .string mon, .string name, .int .i64 n, .int .i64 eop, .string emon, .string ename, .int .i64 en, .slice ead ekids.length ecap, .int .i64 epos, .slice ad blocks.length cap, .int .i64 pos] 55)).heap[w.heap.size]? = some (.cells #[.int .i64 4, .string mon, .string name, .int .i64 n, .int .i64 eop, .string emon, .string ename, .int .i64 en, .slice ead ekids.length ecap, .int .i64 epos, .slice ad blocks.length cap, .int .i64 pos] 55 (0, 0)) := heap_alloc_new w _
  have hB0 : Below w.heap.size w (w.alloc (.cells #[.int .i64 4, .string mon, .string name, .int .i64 n, .int .i64 eop, .string emon, .string ename, .int .i64 en, .slice ead ekids.length ecap, .int .i64 epos, .slice ad blocks.length cap, .int .i64 pos] 55)) := (Below.refl _ w).al le_rfl' _
  have hL : Hid (∀ (s : ByteArray) (W : World), s.size ≤ 1000000000 → Calls Tryz.prog 21 #[.int .i64 (o : Int), .string s] W fun r w' => r = .returned (.string ⟨(lin o s.data.toList).toArray⟩) ∧ w' = W) := fun s W h => line_ref o s W (by omega) (by omega)
  obtain ⟨ET, hET⟩ : ∃ s : ByteArray, s = ⟨((Ex.mk eop emon ename en ead ecap ekids epos).txt 1).toArray⟩ := ⟨_, rfl⟩
  have HET : Hid (ET.data.toList = (Ex.mk eop emon ename en ead ecap ekids epos).txt 1) := by show _ = _; rw [hET]
  have hexp : (Ex.mk eop emon ename en ead ecap ekids epos).ok = true → ET.size ≤ 200000 ∧ ∀ W, Below w.heap.size w W → Calls Tryz.prog 72 #[.agg #[.int .i64 eop, .string emon, .string ename, .int .i64 en, .slice ead ekids.length ecap, .int .i64 epos], .int .i64 1] W fun r w' => r = .returned (.string ET) ∧ Below W.heap.size W w' := fun hk => by
    have hsb : (Ex.mk eop emon ename en ead ecap ekids epos).subs.length ≤ 1000 := by
      have h1 := htot.out
      rw [ok_none hk] at h1
      simp only [Bool.false_eq_true, if_false] at h1
      omega
    refine ⟨?_, fun W h => ?_⟩
    · have h3 := bare_len _ n₀ w hIe hk
      have h4 := atL_len 1 (Ex.mk eop emon ename en ead ecap ekids epos).opOf (Ex.mk eop emon ename en ead ecap ekids epos).bare
      rw [ba_size HET.out]
      unfold Ex.txt; omega
    · have := refExpr_any _ hk n₀ W 1 (by have := h.size; omega) (hIe.below (h.mono hn)) (by omega)
      rw [hET]
      exact this
  simp only [St.val, St.cells, Ex.cells, List.cons_append, List.nil_append]
  obtain ⟨R, hR⟩ : ∃ R : ByteArray, (⟨((St.mk 4 mon name n (Ex.mk eop emon ename en ead ecap ekids epos) ad cap blocks pos).txt o).toArray⟩ : ByteArray) = R := ⟨_, rfl⟩
  rw [hR]
  have HRR := hid hR
  clear hET ho hR
  go_enter Tryz.func43, Tryz.ntmps43
  go_upto_region 2 with fail
  obtain ⟨W0, hW0⟩ : ∃ W0, w.alloc (.cells #[.int .i64 4, .string mon, .string name, .int .i64 n, .int .i64 eop, .string emon, .string ename, .int .i64 en, .slice ead ekids.length ecap, .int .i64 epos, .slice ad blocks.length cap, .int .i64 pos] 55) = W0 := ⟨_, rfl⟩
  rw [hW0] at bS hB0 ⊢
  have hlt0 : w.heap.size < W0.heap.size := (Array.getElem?_eq_some_iff.1 bS).1
  have HBX : Hid (∀ W, Below W0.heap.size W0 W → W.heap[w.heap.size]? = some (.cells #[.int .i64 4, .string mon, .string name, .int .i64 n, .int .i64 eop, .string emon, .string ename, .int .i64 en, .slice ead ekids.length ecap, .int .i64 epos, .slice ad blocks.length cap, .int .i64 pos] 55 (0, 0))) := fun W hW => (hW.block _ hlt0).trans bS
  have d0 : W0.cell? ⟨w.heap.size, 0, none⟩ = some (.int .i64 4) := cell_of' bS 0
  have d1 : W0.cell? ⟨w.heap.size, 1, none⟩ = some (.string mon) := cell_of' bS 1
  have d2 : W0.cell? ⟨w.heap.size, 2, none⟩ = some (.string name) := cell_of' bS 2
  have d3 : W0.cell? ⟨w.heap.size, 3, none⟩ = some (.int .i64 n) := cell_of' bS 3
  have d4 : W0.cell? ⟨w.heap.size, 4, none⟩ = some (.int .i64 eop) := cell_of' bS 4
  have d5 : W0.cell? ⟨w.heap.size, 5, none⟩ = some (.string emon) := cell_of' bS 5
  have d6 : W0.cell? ⟨w.heap.size, 6, none⟩ = some (.string ename) := cell_of' bS 6
  have d7 : W0.cell? ⟨w.heap.size, 7, none⟩ = some (.int .i64 en) := cell_of' bS 7
  have d8 : W0.cell? ⟨w.heap.size, 8, none⟩ = some (.slice ead ekids.length ecap) := cell_of' bS 8
  have d9 : W0.cell? ⟨w.heap.size, 9, none⟩ = some (.int .i64 epos) := cell_of' bS 9
  have d10 : W0.cell? ⟨w.heap.size, 10, none⟩ = some (.slice ad blocks.length cap) := cell_of' bS 10
  clear hW0 hfm hfn hI
  obtain ⟨hez, hxx⟩ := hexp (ex_of_fits hfe (by decide))
  clear hexp
  have hone : blocks.length = 1 := by have h1 : 1 ≤ blocks.length := hlo; have h2 : blocks.length ≤ 1 := hhi; omega
  have HTX : Hid ((St.mk 4 mon name n (Ex.mk eop emon ename en ead ecap ekids epos) ad cap blocks pos).txt o = lin o ((⟨#[119, 104, 105, 108, 101, 32]⟩ : ByteArray) ++ ET ++ ⟨#[32, 123]⟩).data.toList ++ (docB o (⟨#[]⟩ : ByteArray).data.toList (blocks.map fun b => b.txt (o + 1)) 0 ++ lin o [125])) := by
    show _ = _
    have := docB_sole o ([119, 104, 105, 108, 101, 32] ++ (Ex.mk eop emon ename en ead ecap ekids epos).txt 1) (⟨#[]⟩ : ByteArray).data.toList (blocks.map fun b => b.txt (o + 1)) (by rw [List.length_map]; exact hone)
    rw [HT.out]
    simp only [stOf, ByteArray.data_append, Array.toList_append, HET.out] at this ⊢
    simpa using this
  obtain ⟨L0, hL0⟩ : ∃ s : ByteArray, s = ⟨(lin o ((⟨#[119, 104, 105, 108, 101, 32]⟩ : ByteArray) ++ ET ++ ⟨#[32, 123]⟩).data.toList).toArray⟩ := ⟨_, rfl⟩
  have hl0 : ∀ W, Calls Tryz.prog 21 #[.int .i64 (o : Int), .string ((⟨#[119, 104, 105, 108, 101, 32]⟩ : ByteArray) ++ ET ++ ⟨#[32, 123]⟩)] W fun r w' => r = .returned (.string L0) ∧ w' = W := fun W => by
    have := hL.out ((⟨#[119, 104, 105, 108, 101, 32]⟩ : ByteArray) ++ ET ++ ⟨#[32, 123]⟩) W (by simp only [ByteArray.size_append']; show 6 + ET.size + 2 ≤ 1000000000; omega)
    rw [← hL0] at this
    exact this
  have HL0 : Hid (L0.data.toList = lin o ((⟨#[119, 104, 105, 108, 101, 32]⟩ : ByteArray) ++ ET ++ ⟨#[32, 123]⟩).data.toList) := by show _ = _; rw [hL0]
  have hl0z : L0.size ≤ 300000 := by rw [ba_size HL0.out]; unfold lin; simp only [List.length_append, ind_len, List.length_cons, List.length_nil, Array.length_toList]; show 2 * o + ByteArray.size ((⟨#[119, 104, 105, 108, 101, 32]⟩ : ByteArray) ++ ET ++ ⟨#[32, 123]⟩) + (0 + 1) ≤ 300000; (try simp only [ByteArray.size_append']); first | omega | (show 2 * o + (6 + ET.size + 2) + (0 + 1) ≤ 300000; omega)
  obtain ⟨LE, hLE⟩ : ∃ s : ByteArray, s = ⟨(lin o [125]).toArray⟩ := ⟨_, rfl⟩
  have hle : ∀ W, Calls Tryz.prog 21 #[.int .i64 (o : Int), .string ⟨#[125]⟩] W fun r w' => r = .returned (.string LE) ∧ w' = W := fun W => by
    have := hL.out ⟨#[125]⟩ W (by show 1 ≤ 1000000000; omega)
    rw [hLE]
    exact this
  have HLE : Hid (LE.data.toList = lin o [125]) := by show _ = _; rw [hLE]
  have hlez : LE.size ≤ 3000 := by rw [ba_size HLE.out]; unfold lin; simp only [List.length_append, ind_len, List.length_cons, List.length_nil]; omega
  have g0 : ¬ (9223372036854775807 < 6 + ET.size) := by omega
  have g1 : ¬ (9223372036854775807 < 6 + ET.size + 2) := by omega
  clear HT hL hL0 hLE
  have hx0 := hxx W0 hB0
  clear hxx
  go_wp2_with (first
    | (go_at_call 72; refine hx0.mono ?_; rintro r W2 ⟨rfl, bb2⟩)
    | (go_at_call 21; (with_reducible refine (hl0 _).mono ?_); rintro r w' ⟨rfl, hw'⟩; have hw2 := hw'.symm; subst hw2))
  have hz2 := bb2.size
  clear d0 d1 d2 d3 d4 d5 d6 d7 d8 d9 d10
  go_loopw [7, 8] (fun t i wr => ∃ (j : Nat) (S : ByteArray), j ≤ blocks.length ∧ t = .string S ∧ i = .int .i64 (j : Int) ∧ Hid (S.data.toList = L0.data.toList ++ docB o (⟨#[]⟩ : ByteArray).data.toList ((blocks.map fun b => b.txt (o + 1)).take j) 0) ∧ S.size ≤ 1000000 + j * 30000000 ∧ Below W2.heap.size W2 wr) (fun _ i _ => blocks.length - (intOf i).toNat)
  case atStart => exact ⟨0, L0, by omega, rfl, rfl, by simp [Hid, docB], by omega, Below.refl _ _⟩
  case round =>
    obtain ⟨j, S, hj, rfl, rfl, HS, hsz, hbj⟩ := hrel
    have hzj := hbj.size
    have hbW : Below W0.heap.size W0 wr := bb2.trans (hbj.mono hz2)
    have hbw : Below w.heap.size w wr := hB0.trans (hbW.mono (by omega))
    have hltw : w.heap.size < wr.heap.size := by omega
    have c10 : wr.cell? ⟨w.heap.size, 10, none⟩ = some (.slice ad blocks.length cap) := cell_of' (HBX.out wr hbW) 10
    by_cases hlt : j < blocks.length
    · rcases hIb.1.2.2 with h | ⟨b3, off3, rfl, hbn3, hrow3⟩
      · subst h; simp at hlt
      have hr3 := hrow3.below (hbw.mono hn) hbn3
      have hb3l : b3 < wr.heap.size := by omega
      have hszj := sum_ge Bl.sz blocks _ (List.getElem_mem hlt)
      have hIj := (hIb.2 _ (List.getElem_mem hlt)).below (hbw.mono hn)
      have hq := hx blocks[j] (List.getElem_mem hlt) (hoks _ (List.getElem_mem hlt)) n₀ (o + 1) wr (by omega) hIj (by omega)
      have htl := bltxt_len n₀ wr blocks[j] hIj (hoks _ (List.getElem_mem hlt)) (o + 1) (by omega)
      have HSN := hid (docB_snoc o (⟨#[]⟩ : ByteArray).data.toList (blocks.map fun b => b.txt (o + 1)) j (by rw [List.length_map]; exact hlt))
      simp only [List.getElem_map] at HSN
      obtain ⟨TX, hTX⟩ : ∃ s : ByteArray, s = ⟨(blocks[j].txt (o + 1)).toArray⟩ := ⟨_, rfl⟩
      have HTXx : Hid (TX.data.toList = blocks[j].txt (o + 1)) := by show _ = _; rw [hTX]
      have htz : TX.size ≤ 23000000 := by rw [ba_size HTXx.out]; omega
      rw [← hTX] at hq
      clear hTX htl hIj hszj
      rcases he2 : blocks[j] with ⟨bad, bcap, bbody⟩
      have e0 := row1 hr3 j hlt (by rw [he2]; rfl)
      simp only [he2, Bl.slice] at hq e0
      have hcast : ((o + 1 : Nat) : Int) = (o : Int) + 1 := by omega
      rw [hcast] at hq
      have hj8 : j ≤ 8 := by omega
      clear he2 hcast
      by_cases hj0 : j = 0
      · subst hj0
        have e0 : wr.cell? ⟨b3, off3, none⟩ = some (.slice bad bbody.length bcap) := by simpa using e0
        have g8 : ¬ (9223372036854775807 < S.size + TX.size) := by omega
        go_wp2_with (go_at_call 23; refine hq.mono ?_; rintro r w5 ⟨rfl, bb5⟩)
        go_roundw
        case rel =>
          refine ⟨1, S ++ TX, by omega, rfl, rfl, ?_, by rw [ByteArray.size_append']; omega, hbj.tr le_rfl' bb5⟩
          have h := HSN.out
          simp only [if_true, List.nil_append, Nat.zero_add] at h
          show _ = _
          rw [h, ByteArray.data_append, Array.toList_append, HS.out, HTXx.out]
          simp
        case measure => simp [intOf]; omega
      · omega
    · have hmb : j = blocks.length := by omega
      have hmd : decide ((j : Int) < (blocks.length : Int)) = false := by simp; omega
      have hj8 : j ≤ 8 := by omega
      have g8 : ¬ (9223372036854775807 < S.size + LE.size) := by omega
      have HR : Hid ((S ++ LE).data.toList = (St.mk 4 mon name n (Ex.mk eop emon ename en ead ecap ekids epos) ad cap blocks pos).txt o) := by
        have h1 : (blocks.map fun b => b.txt (o + 1)).take j = blocks.map fun b => b.txt (o + 1) := by rw [hmb, ← List.length_map (fun b : Bl => b.txt (o + 1)), List.take_length]
        show _ = _
        rw [HTX.out, ByteArray.data_append, Array.toList_append, HS.out, h1, HLE.out, HL0.out, List.append_assoc]
      clear hmb
      go_wp2_with (go_at_call 21; (with_reducible refine (hle _).mono ?_); rintro r w' ⟨rfl, hw'⟩; have hw2 := hw'.symm; subst hw2)
      go_ret
      refine ⟨?_, hbw⟩
      rw [← HRR.out]
      exact ret_str HR.out
end Go.Proofs.YtnljhlmopjgogaaGreatDoor
namespace Go.Proofs.YtnljhlmopjgogaaGreatDoor
open Go.RowKit Px
set_option maxRecDepth 100000 in
set_option maxHeartbeats 2000000 in
theorem stR_5 (s : St) (hok : s.ok1 = true) (hoks : ∀ x ∈ s.blocks, x.okb) (hx : ∀ x ∈ s.blocks, BlTxt x) (hkk : s.kind = 5) : StTxt s := by
  intro n₀ o w hn hI ho
  rcases s with ⟨kind, mon, name, n, ⟨eop, emon, ename, en, ead, ecap, ekids, epos⟩, ad, cap, blocks, pos⟩
  simp only [St.kind] at hkk
  subst hkk
  obtain ⟨⟨hk1, hk2⟩, hfm, hfn, hfu, hfe, hlo, hhi⟩ := St.ok_parts hok
  have hmon : mon.size ≤ 32 := by have := fits_len hfm; simpa using this
  have hname : name.size ≤ 32 := by have := fits_len hfn; simpa using this
  have hnum : I64 n := hI.down.1.2.1
  have hIe := hI.down.2.1
  have hIb := hI.down.2.2
  have hcap := hIb.1.1
  have hcap2 := hIb.1.2.1
  unfold maxLen at hcap2
  have hb8 : blocks.length ≤ 8 := by have := stMost_le (Int.toNat 5); omega
  rw [St.tot_mk] at ho
  have htot := hid ho
  have ho1 : o + 1 + (blocks.map Bl.sz).sum ≤ 1000 := by omega
  have HT := hid (St.txt_mk 5 mon name n (Ex.mk eop emon ename en ead ecap ekids epos) ad cap blocks pos o)
  have bS : (w.alloc (.cells #[.int .i64 5, .string mon, .string name, .int .i64 n, .int .i64 eop, .string emon, .string ename, .int .i64 en, .slice ead ekids.length ecap, .int .i64 epos, .slice ad blocks.length cap, .int .i64 pos] 55)).heap[w.heap.size]? = some (.cells #[.int .i64 5, .string mon, .string name, .int .i64 n, .int .i64 eop, .string emon, .string ename, .int .i64 en, .slice ead ekids.length ecap, .int .i64 epos, .slice ad blocks.length cap, .int .i64 pos] 55 (0, 0)) := heap_alloc_new w _
  have hB0 : Below w.heap.size w (w.alloc (.cells #[.int .i64 5, .string mon, .string name, .int .i64 n, .int .i64 eop, .string emon, .string ename, .int .i64 en, .slice ead ekids.length ecap, .int .i64 epos, .slice ad blocks.length cap, .int .i64 pos] 55)) := (Below.refl _ w).al le_rfl' _
  have hL : Hid (∀ (s : ByteArray) (W : World), s.size ≤ 1000000000 → Calls Tryz.prog 21 #[.int .i64 (o : Int), .string s] W fun r w' => r = .returned (.string ⟨(lin o s.data.toList).toArray⟩) ∧ w' = W) := fun s W h => line_ref o s W (by omega) (by omega)
  obtain ⟨ET, hET⟩ : ∃ s : ByteArray, s = ⟨((Ex.mk eop emon ename en ead ecap ekids epos).txt 1).toArray⟩ := ⟨_, rfl⟩
  have HET : Hid (ET.data.toList = (Ex.mk eop emon ename en ead ecap ekids epos).txt 1) := by show _ = _; rw [hET]
  have hexp : (Ex.mk eop emon ename en ead ecap ekids epos).ok = true → ET.size ≤ 200000 ∧ ∀ W, Below w.heap.size w W → Calls Tryz.prog 72 #[.agg #[.int .i64 eop, .string emon, .string ename, .int .i64 en, .slice ead ekids.length ecap, .int .i64 epos], .int .i64 1] W fun r w' => r = .returned (.string ET) ∧ Below W.heap.size W w' := fun hk => by
    have hsb : (Ex.mk eop emon ename en ead ecap ekids epos).subs.length ≤ 1000 := by
      have h1 := htot.out
      rw [ok_none hk] at h1
      simp only [Bool.false_eq_true, if_false] at h1
      omega
    refine ⟨?_, fun W h => ?_⟩
    · have h3 := bare_len _ n₀ w hIe hk
      have h4 := atL_len 1 (Ex.mk eop emon ename en ead ecap ekids epos).opOf (Ex.mk eop emon ename en ead ecap ekids epos).bare
      rw [ba_size HET.out]
      unfold Ex.txt; omega
    · have := refExpr_any _ hk n₀ W 1 (by have := h.size; omega) (hIe.below (h.mono hn)) (by omega)
      rw [hET]
      exact this
  simp only [St.val, St.cells, Ex.cells, List.cons_append, List.nil_append]
  obtain ⟨R, hR⟩ : ∃ R : ByteArray, (⟨((St.mk 5 mon name n (Ex.mk eop emon ename en ead ecap ekids epos) ad cap blocks pos).txt o).toArray⟩ : ByteArray) = R := ⟨_, rfl⟩
  rw [hR]
  have HRR := hid hR
  clear hET ho hR
  go_enter Tryz.func43, Tryz.ntmps43
  go_upto_region 2 with fail
  obtain ⟨W0, hW0⟩ : ∃ W0, w.alloc (.cells #[.int .i64 5, .string mon, .string name, .int .i64 n, .int .i64 eop, .string emon, .string ename, .int .i64 en, .slice ead ekids.length ecap, .int .i64 epos, .slice ad blocks.length cap, .int .i64 pos] 55) = W0 := ⟨_, rfl⟩
  rw [hW0] at bS hB0 ⊢
  have hlt0 : w.heap.size < W0.heap.size := (Array.getElem?_eq_some_iff.1 bS).1
  have HBX : Hid (∀ W, Below W0.heap.size W0 W → W.heap[w.heap.size]? = some (.cells #[.int .i64 5, .string mon, .string name, .int .i64 n, .int .i64 eop, .string emon, .string ename, .int .i64 en, .slice ead ekids.length ecap, .int .i64 epos, .slice ad blocks.length cap, .int .i64 pos] 55 (0, 0))) := fun W hW => (hW.block _ hlt0).trans bS
  have d0 : W0.cell? ⟨w.heap.size, 0, none⟩ = some (.int .i64 5) := cell_of' bS 0
  have d1 : W0.cell? ⟨w.heap.size, 1, none⟩ = some (.string mon) := cell_of' bS 1
  have d2 : W0.cell? ⟨w.heap.size, 2, none⟩ = some (.string name) := cell_of' bS 2
  have d3 : W0.cell? ⟨w.heap.size, 3, none⟩ = some (.int .i64 n) := cell_of' bS 3
  have d4 : W0.cell? ⟨w.heap.size, 4, none⟩ = some (.int .i64 eop) := cell_of' bS 4
  have d5 : W0.cell? ⟨w.heap.size, 5, none⟩ = some (.string emon) := cell_of' bS 5
  have d6 : W0.cell? ⟨w.heap.size, 6, none⟩ = some (.string ename) := cell_of' bS 6
  have d7 : W0.cell? ⟨w.heap.size, 7, none⟩ = some (.int .i64 en) := cell_of' bS 7
  have d8 : W0.cell? ⟨w.heap.size, 8, none⟩ = some (.slice ead ekids.length ecap) := cell_of' bS 8
  have d9 : W0.cell? ⟨w.heap.size, 9, none⟩ = some (.int .i64 epos) := cell_of' bS 9
  have d10 : W0.cell? ⟨w.heap.size, 10, none⟩ = some (.slice ad blocks.length cap) := cell_of' bS 10
  clear hW0 hfm hfn hI
  clear hexp
  have hone : blocks.length = 1 := by have h1 : 1 ≤ blocks.length := hlo; have h2 : blocks.length ≤ 1 := hhi; omega
  have HTX : Hid ((St.mk 5 mon name n (Ex.mk eop emon ename en ead ecap ekids epos) ad cap blocks pos).txt o = lin o ((⟨#[108, 111, 111, 112, 32, 123]⟩ : ByteArray)).data.toList ++ (docB o (⟨#[]⟩ : ByteArray).data.toList (blocks.map fun b => b.txt (o + 1)) 0 ++ lin o [125])) := by
    show _ = _
    have := docB_sole o [108, 111, 111, 112] (⟨#[]⟩ : ByteArray).data.toList (blocks.map fun b => b.txt (o + 1)) (by rw [List.length_map]; exact hone)
    rw [HT.out]
    simp only [stOf] at this ⊢
    simpa using this
  obtain ⟨L0, hL0⟩ : ∃ s : ByteArray, s = ⟨(lin o ((⟨#[108, 111, 111, 112, 32, 123]⟩ : ByteArray)).data.toList).toArray⟩ := ⟨_, rfl⟩
  have hl0 : ∀ W, Calls Tryz.prog 21 #[.int .i64 (o : Int), .string ((⟨#[108, 111, 111, 112, 32, 123]⟩ : ByteArray))] W fun r w' => r = .returned (.string L0) ∧ w' = W := fun W => by
    have := hL.out ((⟨#[108, 111, 111, 112, 32, 123]⟩ : ByteArray)) W (by show 6 ≤ 1000000000; omega)
    rw [← hL0] at this
    exact this
  have HL0 : Hid (L0.data.toList = lin o ((⟨#[108, 111, 111, 112, 32, 123]⟩ : ByteArray)).data.toList) := by show _ = _; rw [hL0]
  have hl0z : L0.size ≤ 300000 := by rw [ba_size HL0.out]; unfold lin; simp only [List.length_append, ind_len, List.length_cons, List.length_nil]; show 2 * o + ByteArray.size ((⟨#[108, 111, 111, 112, 32, 123]⟩ : ByteArray)) + (0 + 1) ≤ 300000; (try simp only [ByteArray.size_append']); first | omega | (show 2 * o + (6) + (0 + 1) ≤ 300000; omega)
  obtain ⟨LE, hLE⟩ : ∃ s : ByteArray, s = ⟨(lin o [125]).toArray⟩ := ⟨_, rfl⟩
  have hle : ∀ W, Calls Tryz.prog 21 #[.int .i64 (o : Int), .string ⟨#[125]⟩] W fun r w' => r = .returned (.string LE) ∧ w' = W := fun W => by
    have := hL.out ⟨#[125]⟩ W (by show 1 ≤ 1000000000; omega)
    rw [hLE]
    exact this
  have HLE : Hid (LE.data.toList = lin o [125]) := by show _ = _; rw [hLE]
  have hlez : LE.size ≤ 3000 := by rw [ba_size HLE.out]; unfold lin; simp only [List.length_append, ind_len, List.length_cons, List.length_nil]; omega
  clear HT hL hL0 hLE
  have bb2 := Below.refl W0.heap.size W0
  go_wp2_with (go_at_call 21; (with_reducible refine (hl0 _).mono ?_); rintro r w' ⟨rfl, hw'⟩; have hw2 := hw'.symm; subst hw2)
  obtain ⟨W2, hW2⟩ : ∃ W2, W0 = W2 := ⟨_, rfl⟩
  have bb2 : Below W0.heap.size W0 W2 := by rw [← hW2]; exact bb2
  rw [hW2]
  clear hW2
  have hz2 := bb2.size
  clear d0 d1 d2 d3 d4 d5 d6 d7 d8 d9 d10
  go_loopw [7, 8] (fun t i wr => ∃ (j : Nat) (S : ByteArray), j ≤ blocks.length ∧ t = .string S ∧ i = .int .i64 (j : Int) ∧ Hid (S.data.toList = L0.data.toList ++ docB o (⟨#[]⟩ : ByteArray).data.toList ((blocks.map fun b => b.txt (o + 1)).take j) 0) ∧ S.size ≤ 1000000 + j * 30000000 ∧ Below W2.heap.size W2 wr) (fun _ i _ => blocks.length - (intOf i).toNat)
  case atStart => exact ⟨0, L0, by omega, rfl, rfl, by simp [Hid, docB], by omega, Below.refl _ _⟩
  case round =>
    obtain ⟨j, S, hj, rfl, rfl, HS, hsz, hbj⟩ := hrel
    have hzj := hbj.size
    have hbW : Below W0.heap.size W0 wr := bb2.trans (hbj.mono hz2)
    have hbw : Below w.heap.size w wr := hB0.trans (hbW.mono (by omega))
    have hltw : w.heap.size < wr.heap.size := by omega
    have c10 : wr.cell? ⟨w.heap.size, 10, none⟩ = some (.slice ad blocks.length cap) := cell_of' (HBX.out wr hbW) 10
    by_cases hlt : j < blocks.length
    · rcases hIb.1.2.2 with h | ⟨b3, off3, rfl, hbn3, hrow3⟩
      · subst h; simp at hlt
      have hr3 := hrow3.below (hbw.mono hn) hbn3
      have hb3l : b3 < wr.heap.size := by omega
      have hszj := sum_ge Bl.sz blocks _ (List.getElem_mem hlt)
      have hIj := (hIb.2 _ (List.getElem_mem hlt)).below (hbw.mono hn)
      have hq := hx blocks[j] (List.getElem_mem hlt) (hoks _ (List.getElem_mem hlt)) n₀ (o + 1) wr (by omega) hIj (by omega)
      have htl := bltxt_len n₀ wr blocks[j] hIj (hoks _ (List.getElem_mem hlt)) (o + 1) (by omega)
      have HSN := hid (docB_snoc o (⟨#[]⟩ : ByteArray).data.toList (blocks.map fun b => b.txt (o + 1)) j (by rw [List.length_map]; exact hlt))
      simp only [List.getElem_map] at HSN
      obtain ⟨TX, hTX⟩ : ∃ s : ByteArray, s = ⟨(blocks[j].txt (o + 1)).toArray⟩ := ⟨_, rfl⟩
      have HTXx : Hid (TX.data.toList = blocks[j].txt (o + 1)) := by show _ = _; rw [hTX]
      have htz : TX.size ≤ 23000000 := by rw [ba_size HTXx.out]; omega
      rw [← hTX] at hq
      clear hTX htl hIj hszj
      rcases he2 : blocks[j] with ⟨bad, bcap, bbody⟩
      have e0 := row1 hr3 j hlt (by rw [he2]; rfl)
      simp only [he2, Bl.slice] at hq e0
      have hcast : ((o + 1 : Nat) : Int) = (o : Int) + 1 := by omega
      rw [hcast] at hq
      have hj8 : j ≤ 8 := by omega
      clear he2 hcast
      by_cases hj0 : j = 0
      · subst hj0
        have e0 : wr.cell? ⟨b3, off3, none⟩ = some (.slice bad bbody.length bcap) := by simpa using e0
        have g8 : ¬ (9223372036854775807 < S.size + TX.size) := by omega
        go_wp2_with (go_at_call 23; refine hq.mono ?_; rintro r w5 ⟨rfl, bb5⟩)
        go_roundw
        case rel =>
          refine ⟨1, S ++ TX, by omega, rfl, rfl, ?_, by rw [ByteArray.size_append']; omega, hbj.tr le_rfl' bb5⟩
          have h := HSN.out
          simp only [if_true, List.nil_append, Nat.zero_add] at h
          show _ = _
          rw [h, ByteArray.data_append, Array.toList_append, HS.out, HTXx.out]
          simp
        case measure => simp [intOf]; omega
      · omega
    · have hmb : j = blocks.length := by omega
      have hmd : decide ((j : Int) < (blocks.length : Int)) = false := by simp; omega
      have hj8 : j ≤ 8 := by omega
      have g8 : ¬ (9223372036854775807 < S.size + LE.size) := by omega
      have HR : Hid ((S ++ LE).data.toList = (St.mk 5 mon name n (Ex.mk eop emon ename en ead ecap ekids epos) ad cap blocks pos).txt o) := by
        have h1 : (blocks.map fun b => b.txt (o + 1)).take j = blocks.map fun b => b.txt (o + 1) := by rw [hmb, ← List.length_map (fun b : Bl => b.txt (o + 1)), List.take_length]
        show _ = _
        rw [HTX.out, ByteArray.data_append, Array.toList_append, HS.out, h1, HLE.out, HL0.out, List.append_assoc]
      clear hmb
      go_wp2_with (go_at_call 21; (with_reducible refine (hle _).mono ?_); rintro r w' ⟨rfl, hw'⟩; have hw2 := hw'.symm; subst hw2)
      go_ret
      refine ⟨?_, hbw⟩
      rw [← HRR.out]
      exact ret_str HR.out
end Go.Proofs.YtnljhlmopjgogaaGreatDoor
namespace Go.Proofs.YtnljhlmopjgogaaGreatDoor
open Go.RowKit Px
set_option maxRecDepth 100000 in
set_option maxHeartbeats 2000000 in
theorem stR_6 (s : St) (hok : s.ok1 = true) (hoks : ∀ x ∈ s.blocks, x.okb) (hx : ∀ x ∈ s.blocks, BlTxt x) (hkk : s.kind = 6) : StTxt s := by
  intro n₀ o w hn hI ho
  rcases s with ⟨kind, mon, name, n, ⟨eop, emon, ename, en, ead, ecap, ekids, epos⟩, ad, cap, blocks, pos⟩
  simp only [St.kind] at hkk
  subst hkk
  obtain ⟨⟨hk1, hk2⟩, hfm, hfn, hfu, hfe, hlo, hhi⟩ := St.ok_parts hok
  have hmon : mon.size ≤ 32 := by have := fits_len hfm; simpa using this
  have hname : name.size ≤ 32 := by have := fits_len hfn; simpa using this
  have hnum : I64 n := hI.down.1.2.1
  have hIe := hI.down.2.1
  have hIb := hI.down.2.2
  have hcap := hIb.1.1
  have hcap2 := hIb.1.2.1
  unfold maxLen at hcap2
  have hb8 : blocks.length ≤ 8 := by have := stMost_le (Int.toNat 6); omega
  rw [St.tot_mk] at ho
  have htot := hid ho
  have ho1 : o + 1 + (blocks.map Bl.sz).sum ≤ 1000 := by omega
  have HT := hid (St.txt_mk 6 mon name n (Ex.mk eop emon ename en ead ecap ekids epos) ad cap blocks pos o)
  have bS : (w.alloc (.cells #[.int .i64 6, .string mon, .string name, .int .i64 n, .int .i64 eop, .string emon, .string ename, .int .i64 en, .slice ead ekids.length ecap, .int .i64 epos, .slice ad blocks.length cap, .int .i64 pos] 55)).heap[w.heap.size]? = some (.cells #[.int .i64 6, .string mon, .string name, .int .i64 n, .int .i64 eop, .string emon, .string ename, .int .i64 en, .slice ead ekids.length ecap, .int .i64 epos, .slice ad blocks.length cap, .int .i64 pos] 55 (0, 0)) := heap_alloc_new w _
  have hB0 : Below w.heap.size w (w.alloc (.cells #[.int .i64 6, .string mon, .string name, .int .i64 n, .int .i64 eop, .string emon, .string ename, .int .i64 en, .slice ead ekids.length ecap, .int .i64 epos, .slice ad blocks.length cap, .int .i64 pos] 55)) := (Below.refl _ w).al le_rfl' _
  have hL : Hid (∀ (s : ByteArray) (W : World), s.size ≤ 1000000000 → Calls Tryz.prog 21 #[.int .i64 (o : Int), .string s] W fun r w' => r = .returned (.string ⟨(lin o s.data.toList).toArray⟩) ∧ w' = W) := fun s W h => line_ref o s W (by omega) (by omega)
  obtain ⟨ET, hET⟩ : ∃ s : ByteArray, s = ⟨((Ex.mk eop emon ename en ead ecap ekids epos).txt 1).toArray⟩ := ⟨_, rfl⟩
  have HET : Hid (ET.data.toList = (Ex.mk eop emon ename en ead ecap ekids epos).txt 1) := by show _ = _; rw [hET]
  have hexp : (Ex.mk eop emon ename en ead ecap ekids epos).ok = true → ET.size ≤ 200000 ∧ ∀ W, Below w.heap.size w W → Calls Tryz.prog 72 #[.agg #[.int .i64 eop, .string emon, .string ename, .int .i64 en, .slice ead ekids.length ecap, .int .i64 epos], .int .i64 1] W fun r w' => r = .returned (.string ET) ∧ Below W.heap.size W w' := fun hk => by
    have hsb : (Ex.mk eop emon ename en ead ecap ekids epos).subs.length ≤ 1000 := by
      have h1 := htot.out
      rw [ok_none hk] at h1
      simp only [Bool.false_eq_true, if_false] at h1
      omega
    refine ⟨?_, fun W h => ?_⟩
    · have h3 := bare_len _ n₀ w hIe hk
      have h4 := atL_len 1 (Ex.mk eop emon ename en ead ecap ekids epos).opOf (Ex.mk eop emon ename en ead ecap ekids epos).bare
      rw [ba_size HET.out]
      unfold Ex.txt; omega
    · have := refExpr_any _ hk n₀ W 1 (by have := h.size; omega) (hIe.below (h.mono hn)) (by omega)
      rw [hET]
      exact this
  simp only [St.val, St.cells, Ex.cells, List.cons_append, List.nil_append]
  obtain ⟨R, hR⟩ : ∃ R : ByteArray, (⟨((St.mk 6 mon name n (Ex.mk eop emon ename en ead ecap ekids epos) ad cap blocks pos).txt o).toArray⟩ : ByteArray) = R := ⟨_, rfl⟩
  rw [hR]
  have HRR := hid hR
  clear hET ho hR
  go_enter Tryz.func43, Tryz.ntmps43
  go_upto_region 2 with fail
  obtain ⟨W0, hW0⟩ : ∃ W0, w.alloc (.cells #[.int .i64 6, .string mon, .string name, .int .i64 n, .int .i64 eop, .string emon, .string ename, .int .i64 en, .slice ead ekids.length ecap, .int .i64 epos, .slice ad blocks.length cap, .int .i64 pos] 55) = W0 := ⟨_, rfl⟩
  rw [hW0] at bS hB0 ⊢
  have hlt0 : w.heap.size < W0.heap.size := (Array.getElem?_eq_some_iff.1 bS).1
  have HBX : Hid (∀ W, Below W0.heap.size W0 W → W.heap[w.heap.size]? = some (.cells #[.int .i64 6, .string mon, .string name, .int .i64 n, .int .i64 eop, .string emon, .string ename, .int .i64 en, .slice ead ekids.length ecap, .int .i64 epos, .slice ad blocks.length cap, .int .i64 pos] 55 (0, 0))) := fun W hW => (hW.block _ hlt0).trans bS
  have d0 : W0.cell? ⟨w.heap.size, 0, none⟩ = some (.int .i64 6) := cell_of' bS 0
  have d1 : W0.cell? ⟨w.heap.size, 1, none⟩ = some (.string mon) := cell_of' bS 1
  have d2 : W0.cell? ⟨w.heap.size, 2, none⟩ = some (.string name) := cell_of' bS 2
  have d3 : W0.cell? ⟨w.heap.size, 3, none⟩ = some (.int .i64 n) := cell_of' bS 3
  have d4 : W0.cell? ⟨w.heap.size, 4, none⟩ = some (.int .i64 eop) := cell_of' bS 4
  have d5 : W0.cell? ⟨w.heap.size, 5, none⟩ = some (.string emon) := cell_of' bS 5
  have d6 : W0.cell? ⟨w.heap.size, 6, none⟩ = some (.string ename) := cell_of' bS 6
  have d7 : W0.cell? ⟨w.heap.size, 7, none⟩ = some (.int .i64 en) := cell_of' bS 7
  have d8 : W0.cell? ⟨w.heap.size, 8, none⟩ = some (.slice ead ekids.length ecap) := cell_of' bS 8
  have d9 : W0.cell? ⟨w.heap.size, 9, none⟩ = some (.int .i64 epos) := cell_of' bS 9
  have d10 : W0.cell? ⟨w.heap.size, 10, none⟩ = some (.slice ad blocks.length cap) := cell_of' bS 10
  clear hW0 hfm hfn hI
  clear hexp
  have hone : 1 ≤ blocks.length := Nat.le_trans (by decide) hlo
  have HTX : Hid ((St.mk 6 mon name n (Ex.mk eop emon ename en ead ecap ekids epos) ad cap blocks pos).txt o = lin o ((⟨#[99, 104, 111, 111, 115, 101, 32, 123]⟩ : ByteArray)).data.toList ++ (docB o (⟨#[125, 32, 111, 114, 32, 123]⟩ : ByteArray).data.toList (blocks.map fun b => b.txt (o + 1)) 0 ++ lin o [125])) := by
    show _ = _
    have := docB_any o [111, 114] [99, 104, 111, 111, 115, 101] (blocks.map fun b => b.txt (o + 1)) (by rw [List.length_map]; exact hone)
    rw [HT.out]
    simp only [stOf] at this ⊢
    simpa using this
  obtain ⟨L0, hL0⟩ : ∃ s : ByteArray, s = ⟨(lin o ((⟨#[99, 104, 111, 111, 115, 101, 32, 123]⟩ : ByteArray)).data.toList).toArray⟩ := ⟨_, rfl⟩
  have hl0 : ∀ W, Calls Tryz.prog 21 #[.int .i64 (o : Int), .string ((⟨#[99, 104, 111, 111, 115, 101, 32, 123]⟩ : ByteArray))] W fun r w' => r = .returned (.string L0) ∧ w' = W := fun W => by
    have := hL.out ((⟨#[99, 104, 111, 111, 115, 101, 32, 123]⟩ : ByteArray)) W (by show 8 ≤ 1000000000; omega)
    rw [← hL0] at this
    exact this
  have HL0 : Hid (L0.data.toList = lin o ((⟨#[99, 104, 111, 111, 115, 101, 32, 123]⟩ : ByteArray)).data.toList) := by show _ = _; rw [hL0]
  have hl0z : L0.size ≤ 300000 := by rw [ba_size HL0.out]; unfold lin; simp only [List.length_append, ind_len, List.length_cons, List.length_nil]; show 2 * o + ByteArray.size ((⟨#[99, 104, 111, 111, 115, 101, 32, 123]⟩ : ByteArray)) + (0 + 1) ≤ 300000; (try simp only [ByteArray.size_append']); first | omega | (show 2 * o + (8) + (0 + 1) ≤ 300000; omega)
  obtain ⟨LE, hLE⟩ : ∃ s : ByteArray, s = ⟨(lin o [125]).toArray⟩ := ⟨_, rfl⟩
  have hle : ∀ W, Calls Tryz.prog 21 #[.int .i64 (o : Int), .string ⟨#[125]⟩] W fun r w' => r = .returned (.string LE) ∧ w' = W := fun W => by
    have := hL.out ⟨#[125]⟩ W (by show 1 ≤ 1000000000; omega)
    rw [hLE]
    exact this
  have HLE : Hid (LE.data.toList = lin o [125]) := by show _ = _; rw [hLE]
  have hlez : LE.size ≤ 3000 := by rw [ba_size HLE.out]; unfold lin; simp only [List.length_append, ind_len, List.length_cons, List.length_nil]; omega
  obtain ⟨LM, hLM⟩ : ∃ s : ByteArray, s = ⟨(lin o (⟨#[125, 32, 111, 114, 32, 123]⟩ : ByteArray).data.toList).toArray⟩ := ⟨_, rfl⟩
  have hlm : ∀ W, Calls Tryz.prog 21 #[.int .i64 (o : Int), .string ⟨#[125, 32, 111, 114, 32, 123]⟩] W fun r w' => r = .returned (.string LM) ∧ w' = W := fun W => by
    have := hL.out ⟨#[125, 32, 111, 114, 32, 123]⟩ W (by show 6 ≤ 1000000000; omega)
    rw [hLM]
    exact this
  have HLM : Hid (LM.data.toList = lin o (⟨#[125, 32, 111, 114, 32, 123]⟩ : ByteArray).data.toList) := by show _ = _; rw [hLM]
  have hlmz : LM.size ≤ 3000 := by rw [ba_size HLM.out]; unfold lin; simp only [List.length_append, ind_len, List.length_cons, List.length_nil]; omega
  clear HT hL hL0 hLE hLM
  have bb2 := Below.refl W0.heap.size W0
  go_wp2_with (go_at_call 21; (with_reducible refine (hl0 _).mono ?_); rintro r w' ⟨rfl, hw'⟩; have hw2 := hw'.symm; subst hw2)
  obtain ⟨W2, hW2⟩ : ∃ W2, W0 = W2 := ⟨_, rfl⟩
  have bb2 : Below W0.heap.size W0 W2 := by rw [← hW2]; exact bb2
  rw [hW2]
  clear hW2
  have hz2 := bb2.size
  clear d0 d1 d2 d3 d4 d5 d6 d7 d8 d9 d10
  go_loopw [7, 8] (fun t i wr => ∃ (j : Nat) (S : ByteArray), j ≤ blocks.length ∧ t = .string S ∧ i = .int .i64 (j : Int) ∧ Hid (S.data.toList = L0.data.toList ++ docB o (⟨#[125, 32, 111, 114, 32, 123]⟩ : ByteArray).data.toList ((blocks.map fun b => b.txt (o + 1)).take j) 0) ∧ S.size ≤ 1000000 + j * 30000000 ∧ Below W2.heap.size W2 wr) (fun _ i _ => blocks.length - (intOf i).toNat)
  case atStart => exact ⟨0, L0, by omega, rfl, rfl, by simp [Hid, docB], by omega, Below.refl _ _⟩
  case round =>
    obtain ⟨j, S, hj, rfl, rfl, HS, hsz, hbj⟩ := hrel
    have hzj := hbj.size
    have hbW : Below W0.heap.size W0 wr := bb2.trans (hbj.mono hz2)
    have hbw : Below w.heap.size w wr := hB0.trans (hbW.mono (by omega))
    have hltw : w.heap.size < wr.heap.size := by omega
    have c10 : wr.cell? ⟨w.heap.size, 10, none⟩ = some (.slice ad blocks.length cap) := cell_of' (HBX.out wr hbW) 10
    by_cases hlt : j < blocks.length
    · rcases hIb.1.2.2 with h | ⟨b3, off3, rfl, hbn3, hrow3⟩
      · subst h; simp at hlt
      have hr3 := hrow3.below (hbw.mono hn) hbn3
      have hb3l : b3 < wr.heap.size := by omega
      have hszj := sum_ge Bl.sz blocks _ (List.getElem_mem hlt)
      have hIj := (hIb.2 _ (List.getElem_mem hlt)).below (hbw.mono hn)
      have hq := hx blocks[j] (List.getElem_mem hlt) (hoks _ (List.getElem_mem hlt)) n₀ (o + 1) wr (by omega) hIj (by omega)
      have htl := bltxt_len n₀ wr blocks[j] hIj (hoks _ (List.getElem_mem hlt)) (o + 1) (by omega)
      have HSN := hid (docB_snoc o (⟨#[125, 32, 111, 114, 32, 123]⟩ : ByteArray).data.toList (blocks.map fun b => b.txt (o + 1)) j (by rw [List.length_map]; exact hlt))
      simp only [List.getElem_map] at HSN
      obtain ⟨TX, hTX⟩ : ∃ s : ByteArray, s = ⟨(blocks[j].txt (o + 1)).toArray⟩ := ⟨_, rfl⟩
      have HTXx : Hid (TX.data.toList = blocks[j].txt (o + 1)) := by show _ = _; rw [hTX]
      have htz : TX.size ≤ 23000000 := by rw [ba_size HTXx.out]; omega
      rw [← hTX] at hq
      clear hTX htl hIj hszj
      rcases he2 : blocks[j] with ⟨bad, bcap, bbody⟩
      have e0 := row1 hr3 j hlt (by rw [he2]; rfl)
      simp only [he2, Bl.slice] at hq e0
      have hcast : ((o + 1 : Nat) : Int) = (o : Int) + 1 := by omega
      rw [hcast] at hq
      have hj8 : j ≤ 8 := by omega
      clear he2 hcast
      by_cases hj0 : j = 0
      · subst hj0
        have e0 : wr.cell? ⟨b3, off3, none⟩ = some (.slice bad bbody.length bcap) := by simpa using e0
        have g8 : ¬ (9223372036854775807 < S.size + TX.size) := by omega
        go_wp2_with (go_at_call 23; refine hq.mono ?_; rintro r w5 ⟨rfl, bb5⟩)
        go_roundw
        case rel =>
          refine ⟨1, S ++ TX, by omega, rfl, rfl, ?_, by rw [ByteArray.size_append']; omega, hbj.tr le_rfl' bb5⟩
          have h := HSN.out
          simp only [if_true, List.nil_append, Nat.zero_add] at h
          show _ = _
          rw [h, ByteArray.data_append, Array.toList_append, HS.out, HTXx.out]
          simp
        case measure => simp [intOf]; omega
      · have hjp : (0 : Int) < (j : Int) := by omega
        have hjd : decide ((0 : Int) < (j : Int)) = true := by simpa using hjp
        have g8 : ¬ (9223372036854775807 < S.size + LM.size) := by omega
        have g9 : ¬ (9223372036854775807 < S.size + LM.size + TX.size) := by omega
        go_wp2_with (first
          | (go_at_call 23; refine hq.mono ?_; rintro r w5 ⟨rfl, bb5⟩)
          | (go_at_call 21; (with_reducible refine (hlm _).mono ?_); rintro r w' ⟨rfl, hw'⟩; have hw2 := hw'.symm; subst hw2))
        go_roundw
        case rel =>
          refine ⟨j + 1, S ++ LM ++ TX, by omega, rfl, by go_num, ?_, by rw [ByteArray.size_append', ByteArray.size_append']; omega, hbj.tr le_rfl' bb5⟩
          show _ = _
          rw [HSN.out, if_neg hj0, ByteArray.data_append, ByteArray.data_append, Array.toList_append, Array.toList_append, HS.out, HTXx.out, HLM.out]
          simp only [List.append_assoc]
        case measure => simp [intOf]; omega
    · have hmb : j = blocks.length := by omega
      have hmd : decide ((j : Int) < (blocks.length : Int)) = false := by simp; omega
      have hj8 : j ≤ 8 := by omega
      have g8 : ¬ (9223372036854775807 < S.size + LE.size) := by omega
      have HR : Hid ((S ++ LE).data.toList = (St.mk 6 mon name n (Ex.mk eop emon ename en ead ecap ekids epos) ad cap blocks pos).txt o) := by
        have h1 : (blocks.map fun b => b.txt (o + 1)).take j = blocks.map fun b => b.txt (o + 1) := by rw [hmb, ← List.length_map (fun b : Bl => b.txt (o + 1)), List.take_length]
        show _ = _
        rw [HTX.out, ByteArray.data_append, Array.toList_append, HS.out, h1, HLE.out, HL0.out, List.append_assoc]
      clear hmb
      go_wp2_with (go_at_call 21; (with_reducible refine (hle _).mono ?_); rintro r w' ⟨rfl, hw'⟩; have hw2 := hw'.symm; subst hw2)
      go_ret
      refine ⟨?_, hbw⟩
      rw [← HRR.out]
      exact ret_str HR.out
end Go.Proofs.YtnljhlmopjgogaaGreatDoor
namespace Go.Proofs.YtnljhlmopjgogaaGreatDoor
open Go.RowKit Px
set_option maxRecDepth 100000 in
set_option maxHeartbeats 2000000 in
theorem stR_7 (s : St) (hok : s.ok1 = true) (hoks : ∀ x ∈ s.blocks, x.okb) (hx : ∀ x ∈ s.blocks, BlTxt x) (hkk : s.kind = 7) : StTxt s := by
  intro n₀ o w hn hI ho
  rcases s with ⟨kind, mon, name, n, ⟨eop, emon, ename, en, ead, ecap, ekids, epos⟩, ad, cap, blocks, pos⟩
  simp only [St.kind] at hkk
  subst hkk
  obtain ⟨⟨hk1, hk2⟩, hfm, hfn, hfu, hfe, hlo, hhi⟩ := St.ok_parts hok
  have hmon : mon.size ≤ 32 := by have := fits_len hfm; simpa using this
  have hname : name.size ≤ 32 := by have := fits_len hfn; simpa using this
  have hnum : I64 n := hI.down.1.2.1
  have hIe := hI.down.2.1
  have hIb := hI.down.2.2
  have hcap := hIb.1.1
  have hcap2 := hIb.1.2.1
  unfold maxLen at hcap2
  have hb8 : blocks.length ≤ 8 := by have := stMost_le (Int.toNat 7); omega
  rw [St.tot_mk] at ho
  have htot := hid ho
  have ho1 : o + 1 + (blocks.map Bl.sz).sum ≤ 1000 := by omega
  have HT := hid (St.txt_mk 7 mon name n (Ex.mk eop emon ename en ead ecap ekids epos) ad cap blocks pos o)
  have bS : (w.alloc (.cells #[.int .i64 7, .string mon, .string name, .int .i64 n, .int .i64 eop, .string emon, .string ename, .int .i64 en, .slice ead ekids.length ecap, .int .i64 epos, .slice ad blocks.length cap, .int .i64 pos] 55)).heap[w.heap.size]? = some (.cells #[.int .i64 7, .string mon, .string name, .int .i64 n, .int .i64 eop, .string emon, .string ename, .int .i64 en, .slice ead ekids.length ecap, .int .i64 epos, .slice ad blocks.length cap, .int .i64 pos] 55 (0, 0)) := heap_alloc_new w _
  have hB0 : Below w.heap.size w (w.alloc (.cells #[.int .i64 7, .string mon, .string name, .int .i64 n, .int .i64 eop, .string emon, .string ename, .int .i64 en, .slice ead ekids.length ecap, .int .i64 epos, .slice ad blocks.length cap, .int .i64 pos] 55)) := (Below.refl _ w).al le_rfl' _
  have hL : Hid (∀ (s : ByteArray) (W : World), s.size ≤ 1000000000 → Calls Tryz.prog 21 #[.int .i64 (o : Int), .string s] W fun r w' => r = .returned (.string ⟨(lin o s.data.toList).toArray⟩) ∧ w' = W) := fun s W h => line_ref o s W (by omega) (by omega)
  obtain ⟨ET, hET⟩ : ∃ s : ByteArray, s = ⟨((Ex.mk eop emon ename en ead ecap ekids epos).txt 1).toArray⟩ := ⟨_, rfl⟩
  have HET : Hid (ET.data.toList = (Ex.mk eop emon ename en ead ecap ekids epos).txt 1) := by show _ = _; rw [hET]
  have hexp : (Ex.mk eop emon ename en ead ecap ekids epos).ok = true → ET.size ≤ 200000 ∧ ∀ W, Below w.heap.size w W → Calls Tryz.prog 72 #[.agg #[.int .i64 eop, .string emon, .string ename, .int .i64 en, .slice ead ekids.length ecap, .int .i64 epos], .int .i64 1] W fun r w' => r = .returned (.string ET) ∧ Below W.heap.size W w' := fun hk => by
    have hsb : (Ex.mk eop emon ename en ead ecap ekids epos).subs.length ≤ 1000 := by
      have h1 := htot.out
      rw [ok_none hk] at h1
      simp only [Bool.false_eq_true, if_false] at h1
      omega
    refine ⟨?_, fun W h => ?_⟩
    · have h3 := bare_len _ n₀ w hIe hk
      have h4 := atL_len 1 (Ex.mk eop emon ename en ead ecap ekids epos).opOf (Ex.mk eop emon ename en ead ecap ekids epos).bare
      rw [ba_size HET.out]
      unfold Ex.txt; omega
    · have := refExpr_any _ hk n₀ W 1 (by have := h.size; omega) (hIe.below (h.mono hn)) (by omega)
      rw [hET]
      exact this
  simp only [St.val, St.cells, Ex.cells, List.cons_append, List.nil_append]
  obtain ⟨R, hR⟩ : ∃ R : ByteArray, (⟨((St.mk 7 mon name n (Ex.mk eop emon ename en ead ecap ekids epos) ad cap blocks pos).txt o).toArray⟩ : ByteArray) = R := ⟨_, rfl⟩
  rw [hR]
  have HRR := hid hR
  clear hET ho hR
  go_enter Tryz.func43, Tryz.ntmps43
  go_upto_region 2 with fail
  obtain ⟨W0, hW0⟩ : ∃ W0, w.alloc (.cells #[.int .i64 7, .string mon, .string name, .int .i64 n, .int .i64 eop, .string emon, .string ename, .int .i64 en, .slice ead ekids.length ecap, .int .i64 epos, .slice ad blocks.length cap, .int .i64 pos] 55) = W0 := ⟨_, rfl⟩
  rw [hW0] at bS hB0 ⊢
  have hlt0 : w.heap.size < W0.heap.size := (Array.getElem?_eq_some_iff.1 bS).1
  have HBX : Hid (∀ W, Below W0.heap.size W0 W → W.heap[w.heap.size]? = some (.cells #[.int .i64 7, .string mon, .string name, .int .i64 n, .int .i64 eop, .string emon, .string ename, .int .i64 en, .slice ead ekids.length ecap, .int .i64 epos, .slice ad blocks.length cap, .int .i64 pos] 55 (0, 0))) := fun W hW => (hW.block _ hlt0).trans bS
  have d0 : W0.cell? ⟨w.heap.size, 0, none⟩ = some (.int .i64 7) := cell_of' bS 0
  have d1 : W0.cell? ⟨w.heap.size, 1, none⟩ = some (.string mon) := cell_of' bS 1
  have d2 : W0.cell? ⟨w.heap.size, 2, none⟩ = some (.string name) := cell_of' bS 2
  have d3 : W0.cell? ⟨w.heap.size, 3, none⟩ = some (.int .i64 n) := cell_of' bS 3
  have d4 : W0.cell? ⟨w.heap.size, 4, none⟩ = some (.int .i64 eop) := cell_of' bS 4
  have d5 : W0.cell? ⟨w.heap.size, 5, none⟩ = some (.string emon) := cell_of' bS 5
  have d6 : W0.cell? ⟨w.heap.size, 6, none⟩ = some (.string ename) := cell_of' bS 6
  have d7 : W0.cell? ⟨w.heap.size, 7, none⟩ = some (.int .i64 en) := cell_of' bS 7
  have d8 : W0.cell? ⟨w.heap.size, 8, none⟩ = some (.slice ead ekids.length ecap) := cell_of' bS 8
  have d9 : W0.cell? ⟨w.heap.size, 9, none⟩ = some (.int .i64 epos) := cell_of' bS 9
  have d10 : W0.cell? ⟨w.heap.size, 10, none⟩ = some (.slice ad blocks.length cap) := cell_of' bS 10
  clear hW0 hfm hfn hI
  clear hexp
  have hone : blocks.length = 1 := by have h1 : 1 ≤ blocks.length := hlo; have h2 : blocks.length ≤ 1 := hhi; omega
  have HTX : Hid ((St.mk 7 mon name n (Ex.mk eop emon ename en ead ecap ekids epos) ad cap blocks pos).txt o = lin o ((⟨#[115, 121, 110, 99, 32]⟩ : ByteArray) ++ mon ++ ⟨#[32, 123]⟩).data.toList ++ (docB o (⟨#[]⟩ : ByteArray).data.toList (blocks.map fun b => b.txt (o + 1)) 0 ++ lin o [125])) := by
    show _ = _
    have := docB_sole o ([115, 121, 110, 99, 32] ++ mon.data.toList) (⟨#[]⟩ : ByteArray).data.toList (blocks.map fun b => b.txt (o + 1)) (by rw [List.length_map]; exact hone)
    rw [HT.out]
    simp only [stOf, ByteArray.data_append, Array.toList_append] at this ⊢
    simpa using this
  obtain ⟨L0, hL0⟩ : ∃ s : ByteArray, s = ⟨(lin o ((⟨#[115, 121, 110, 99, 32]⟩ : ByteArray) ++ mon ++ ⟨#[32, 123]⟩).data.toList).toArray⟩ := ⟨_, rfl⟩
  have hl0 : ∀ W, Calls Tryz.prog 21 #[.int .i64 (o : Int), .string ((⟨#[115, 121, 110, 99, 32]⟩ : ByteArray) ++ mon ++ ⟨#[32, 123]⟩)] W fun r w' => r = .returned (.string L0) ∧ w' = W := fun W => by
    have := hL.out ((⟨#[115, 121, 110, 99, 32]⟩ : ByteArray) ++ mon ++ ⟨#[32, 123]⟩) W (by simp only [ByteArray.size_append']; show 5 + mon.size + 2 ≤ 1000000000; omega)
    rw [← hL0] at this
    exact this
  have HL0 : Hid (L0.data.toList = lin o ((⟨#[115, 121, 110, 99, 32]⟩ : ByteArray) ++ mon ++ ⟨#[32, 123]⟩).data.toList) := by show _ = _; rw [hL0]
  have hl0z : L0.size ≤ 300000 := by rw [ba_size HL0.out]; unfold lin; simp only [List.length_append, ind_len, List.length_cons, List.length_nil, Array.length_toList]; show 2 * o + ByteArray.size ((⟨#[115, 121, 110, 99, 32]⟩ : ByteArray) ++ mon ++ ⟨#[32, 123]⟩) + (0 + 1) ≤ 300000; (try simp only [ByteArray.size_append']); first | omega | (show 2 * o + (5 + mon.size + 2) + (0 + 1) ≤ 300000; omega)
  obtain ⟨LE, hLE⟩ : ∃ s : ByteArray, s = ⟨(lin o [125]).toArray⟩ := ⟨_, rfl⟩
  have hle : ∀ W, Calls Tryz.prog 21 #[.int .i64 (o : Int), .string ⟨#[125]⟩] W fun r w' => r = .returned (.string LE) ∧ w' = W := fun W => by
    have := hL.out ⟨#[125]⟩ W (by show 1 ≤ 1000000000; omega)
    rw [hLE]
    exact this
  have HLE : Hid (LE.data.toList = lin o [125]) := by show _ = _; rw [hLE]
  have hlez : LE.size ≤ 3000 := by rw [ba_size HLE.out]; unfold lin; simp only [List.length_append, ind_len, List.length_cons, List.length_nil]; omega
  have g0 : ¬ (9223372036854775807 < 5 + mon.size) := by omega
  have g1 : ¬ (9223372036854775807 < 5 + mon.size + 2) := by omega
  clear HT hL hL0 hLE
  have bb2 := Below.refl W0.heap.size W0
  go_wp2_with (go_at_call 21; (with_reducible refine (hl0 _).mono ?_); rintro r w' ⟨rfl, hw'⟩; have hw2 := hw'.symm; subst hw2)
  obtain ⟨W2, hW2⟩ : ∃ W2, W0 = W2 := ⟨_, rfl⟩
  have bb2 : Below W0.heap.size W0 W2 := by rw [← hW2]; exact bb2
  rw [hW2]
  clear hW2
  have hz2 := bb2.size
  clear d0 d1 d2 d3 d4 d5 d6 d7 d8 d9 d10
  go_loopw [7, 8] (fun t i wr => ∃ (j : Nat) (S : ByteArray), j ≤ blocks.length ∧ t = .string S ∧ i = .int .i64 (j : Int) ∧ Hid (S.data.toList = L0.data.toList ++ docB o (⟨#[]⟩ : ByteArray).data.toList ((blocks.map fun b => b.txt (o + 1)).take j) 0) ∧ S.size ≤ 1000000 + j * 30000000 ∧ Below W2.heap.size W2 wr) (fun _ i _ => blocks.length - (intOf i).toNat)
  case atStart => exact ⟨0, L0, by omega, rfl, rfl, by simp [Hid, docB], by omega, Below.refl _ _⟩
  case round =>
    obtain ⟨j, S, hj, rfl, rfl, HS, hsz, hbj⟩ := hrel
    have hzj := hbj.size
    have hbW : Below W0.heap.size W0 wr := bb2.trans (hbj.mono hz2)
    have hbw : Below w.heap.size w wr := hB0.trans (hbW.mono (by omega))
    have hltw : w.heap.size < wr.heap.size := by omega
    have c10 : wr.cell? ⟨w.heap.size, 10, none⟩ = some (.slice ad blocks.length cap) := cell_of' (HBX.out wr hbW) 10
    by_cases hlt : j < blocks.length
    · rcases hIb.1.2.2 with h | ⟨b3, off3, rfl, hbn3, hrow3⟩
      · subst h; simp at hlt
      have hr3 := hrow3.below (hbw.mono hn) hbn3
      have hb3l : b3 < wr.heap.size := by omega
      have hszj := sum_ge Bl.sz blocks _ (List.getElem_mem hlt)
      have hIj := (hIb.2 _ (List.getElem_mem hlt)).below (hbw.mono hn)
      have hq := hx blocks[j] (List.getElem_mem hlt) (hoks _ (List.getElem_mem hlt)) n₀ (o + 1) wr (by omega) hIj (by omega)
      have htl := bltxt_len n₀ wr blocks[j] hIj (hoks _ (List.getElem_mem hlt)) (o + 1) (by omega)
      have HSN := hid (docB_snoc o (⟨#[]⟩ : ByteArray).data.toList (blocks.map fun b => b.txt (o + 1)) j (by rw [List.length_map]; exact hlt))
      simp only [List.getElem_map] at HSN
      obtain ⟨TX, hTX⟩ : ∃ s : ByteArray, s = ⟨(blocks[j].txt (o + 1)).toArray⟩ := ⟨_, rfl⟩
      have HTXx : Hid (TX.data.toList = blocks[j].txt (o + 1)) := by show _ = _; rw [hTX]
      have htz : TX.size ≤ 23000000 := by rw [ba_size HTXx.out]; omega
      rw [← hTX] at hq
      clear hTX htl hIj hszj
      rcases he2 : blocks[j] with ⟨bad, bcap, bbody⟩
      have e0 := row1 hr3 j hlt (by rw [he2]; rfl)
      simp only [he2, Bl.slice] at hq e0
      have hcast : ((o + 1 : Nat) : Int) = (o : Int) + 1 := by omega
      rw [hcast] at hq
      have hj8 : j ≤ 8 := by omega
      clear he2 hcast
      by_cases hj0 : j = 0
      · subst hj0
        have e0 : wr.cell? ⟨b3, off3, none⟩ = some (.slice bad bbody.length bcap) := by simpa using e0
        have g8 : ¬ (9223372036854775807 < S.size + TX.size) := by omega
        go_wp2_with (go_at_call 23; refine hq.mono ?_; rintro r w5 ⟨rfl, bb5⟩)
        go_roundw
        case rel =>
          refine ⟨1, S ++ TX, by omega, rfl, rfl, ?_, by rw [ByteArray.size_append']; omega, hbj.tr le_rfl' bb5⟩
          have h := HSN.out
          simp only [if_true, List.nil_append, Nat.zero_add] at h
          show _ = _
          rw [h, ByteArray.data_append, Array.toList_append, HS.out, HTXx.out]
          simp
        case measure => simp [intOf]; omega
      · omega
    · have hmb : j = blocks.length := by omega
      have hmd : decide ((j : Int) < (blocks.length : Int)) = false := by simp; omega
      have hj8 : j ≤ 8 := by omega
      have g8 : ¬ (9223372036854775807 < S.size + LE.size) := by omega
      have HR : Hid ((S ++ LE).data.toList = (St.mk 7 mon name n (Ex.mk eop emon ename en ead ecap ekids epos) ad cap blocks pos).txt o) := by
        have h1 : (blocks.map fun b => b.txt (o + 1)).take j = blocks.map fun b => b.txt (o + 1) := by rw [hmb, ← List.length_map (fun b : Bl => b.txt (o + 1)), List.take_length]
        show _ = _
        rw [HTX.out, ByteArray.data_append, Array.toList_append, HS.out, h1, HLE.out, HL0.out, List.append_assoc]
      clear hmb
      go_wp2_with (go_at_call 21; (with_reducible refine (hle _).mono ?_); rintro r w' ⟨rfl, hw'⟩; have hw2 := hw'.symm; subst hw2)
      go_ret
      refine ⟨?_, hbw⟩
      rw [← HRR.out]
      exact ret_str HR.out
end Go.Proofs.YtnljhlmopjgogaaGreatDoor
namespace Go.Proofs.YtnljhlmopjgogaaGreatDoor
open Go.RowKit Px
theorem stR_any (s : St) (hok : s.ok1 = true) (hoks : ∀ x ∈ s.blocks, x.okb) (hx : ∀ x ∈ s.blocks, BlTxt x) : StTxt s := by
  have hk : 1 ≤ s.kind ∧ s.kind ≤ 11 := by
    rcases s with ⟨kind, mon, name, n, e, ad, cap, blocks, pos⟩
    exact (St.ok_parts hok).1
  by_cases h3 : s.kind = 3
  · exact stR_3 s hok hoks hx h3
  by_cases h4 : s.kind = 4
  · exact stR_4 s hok hoks hx h4
  by_cases h5 : s.kind = 5
  · exact stR_5 s hok hoks hx h5
  by_cases h6 : s.kind = 6
  · exact stR_6 s hok hoks hx h6
  by_cases h7 : s.kind = 7
  · exact stR_7 s hok hoks hx h7
  exact stR_simple s hok hoks hx (by omega)
set_option maxRecDepth 100000 in
set_option maxHeartbeats 1000000 in
theorem blR_step (ad : Option Addr) (cap : Nat) (body : List St) (hst0 : (Bl.mk ad cap body).okb → ∀ s ∈ body, StTxt s) : BlTxt (.mk ad cap body) := by
  intro hok n₀ o w hn hI ho
  have hstx := hst0 hok
  have hsl := hI.down.1
  have hIs := hI.down.2
  have hl1 := hsl.1; have hl2 := hsl.2.1
  unfold maxLen at hl2
  have HT := hid (Bl.txt_mk ad cap body o)
  rw [Bl.sz_mk] at ho
  have htl : ∀ k, ((body.take k).flatMap fun s => s.txt o).length ≤ 23000 * ((body.take k).map St.tot).sum := fun k => by
    rw [flat_len]
    have h3 : ((body.take k).map fun x => (x.txt o).length).sum ≤ ((body.take k).map fun x => 23000 * x.tot).sum := map_sum_le _ _ _ (fun x hx' => by
      have hm := List.mem_of_mem_take hx'
      exact sttxt_len n₀ w x (hIs x hm) (Bl.okb_stmt hok x hm).1 (Bl.okb_stmt hok x hm).2 o (by have := sum_ge St.tot body x hm; omega))
    have h4 : ((body.take k).map fun x => 23000 * x.tot).sum = 23000 * ((body.take k).map St.tot).sum := by rw [← sum_mul, List.map_map]; rfl
    omega
  have hsk : ∀ k, ((body.take k).map St.tot).sum ≤ (body.map St.tot).sum := fun k => by
    have e : body.map St.tot = (body.take k).map St.tot ++ (body.drop k).map St.tot := by rw [← List.map_append, List.take_append_drop]
    rw [e, List.sum_append_nat]; omega
  have HLK : Hid (∀ (k : Nat) (S : ByteArray), S.data.toList = ((body.take k).flatMap fun s => s.txt o) → S.size ≤ 30000000) := fun k S h => by
    have h1 := htl k; have h2 := hsk k
    rw [ba_size h]
    omega
  simp only [Bl.slice]
  clear htl hsk
  go_enter Tryz.func23, Tryz.ntmps23
  go_wp2
  go_loopw [5, 6] (fun t i wr => ∃ (k : Nat) (S : ByteArray), k ≤ body.length ∧ t = .string S ∧ i = .int .i64 (k : Int) ∧ Hid (S.data.toList = ((body.take k).flatMap fun s => s.txt o)) ∧ Below w.heap.size w wr) (fun _ i _ => body.length - (intOf i).toNat)
  case atStart => exact ⟨0, ⟨#[]⟩, by omega, rfl, rfl, by simp [Hid], Below.refl _ _⟩
  case round =>
    obtain ⟨k, S, hk, rfl, rfl, HS, hbw⟩ := hrel
    have hzw := hbw.size
    have hsz := HLK.out k S HS.out
    by_cases hlt : k < body.length
    · rcases hsl.2.2 with h | ⟨g, off, rfl, hg, hrow⟩
      · subst h; simp at hlt
      have hr := hrow.below (hbw.mono hn) hg
      have hgl : g < wr.heap.size := by omega
      have HSN := hid (flatMap_snoc (fun s : St => s.txt o) body k hlt)
      have htot := sum_ge St.tot body _ (List.getElem_mem hlt)
      have hIk := (hIs _ (List.getElem_mem hlt)).below (hbw.mono hn)
      have hq := hstx _ (List.getElem_mem hlt) n₀ o wr (by omega) hIk (by omega)
      have htl := sttxt_len n₀ wr body[k] hIk (Bl.okb_stmt hok _ (List.getElem_mem hlt)).1 (Bl.okb_stmt hok _ (List.getElem_mem hlt)).2 o (by omega)
      obtain ⟨TX, hTX⟩ : ∃ s : ByteArray, s = ⟨(body[k].txt o).toArray⟩ := ⟨_, rfl⟩
      have HTX : Hid (TX.data.toList = body[k].txt o) := by show _ = _; rw [hTX]
      have htz : TX.size ≤ 23000000 := by rw [ba_size HTX.out]; omega
      rw [← hTX] at hq
      clear hTX htl hIk htot
      rcases he' : body[k] with ⟨kind, mon, name, n, ⟨eop, emon, ename, en, ead, ecap, ekids, epos⟩, ad', cap', blocks, pos⟩
      obtain ⟨c0, c1, c2, c3, c4, c5, c6, c7, c8, c9, c10, c11⟩ := row12 hr k hlt (by rw [he']; rfl)
      simp only [he', St.val, St.cells, Ex.cells, List.cons_append, List.nil_append] at hq
      have g8 : ¬ (9223372036854775807 < S.size + TX.size) := by omega
      clear he'
      go_wp2_with (go_at_call 43; (with_reducible refine hq.mono ?_); rintro r w2 ⟨rfl, bb2⟩)
      go_roundw
      case rel =>
        refine ⟨k + 1, S ++ TX, by omega, rfl, by go_num, ?_, hbw.tr le_rfl' bb2⟩
        show _ = _
        rw [HSN.out, ByteArray.data_append, Array.toList_append, HS.out, HTX.out]
      case measure => simp [intOf]; omega
    · have hkb : k = body.length := by omega
      have hkd : decide ((k : Int) < (body.length : Int)) = false := by simp; omega
      have HR : Hid (S.data.toList = (Bl.mk ad cap body).txt o) := by show _ = _; rw [HS.out, HT.out, hkb, List.take_length]
      clear hkb
      go_wp2
      go_ret
      exact ⟨ret_str HR.out, hbw⟩
theorem blR_any (x : Bl) : BlTxt x :=
  Bl.ind (P := fun s => s.ok1 = true → (∀ x ∈ s.blocks, x.okb) → StTxt s) (Q := BlTxt)
    (fun _ _ _ _ _ _ _ _ _ ih hok hoks => stR_any _ hok hoks ih)
    (fun ad cap body ih => blR_step ad cap body (fun hok s hs => ih s hs (Bl.okb_stmt hok s hs).1 (Bl.okb_stmt hok s hs).2)) x
end Go.Proofs.YtnljhlmopjgogaaGreatDoor
