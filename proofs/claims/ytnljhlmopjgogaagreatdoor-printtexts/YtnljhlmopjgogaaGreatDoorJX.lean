/-
  Text of the document's print.
-/
import Derived.Test.YtnljhlmopjgogaaGreatDoorJV
import Derived.Test.YtnljhlmopjgogaaGreatDoorPxA
import Derived.Test.YtnljhlmopjgogaaGreatDoorJB
import Derived.Test.YtnljhlmopjgogaaGreatDoorJT
namespace Go.Proofs.YtnljhlmopjgogaaGreatDoor
open Go.RowKit Px
set_option maxRecDepth 100000 in
set_option maxHeartbeats 2000000 in
theorem refNestP_any (p : Pr) (n₀ : Nat) (w : World) (hn : n₀ ≤ w.heap.size) (hI : p.Is n₀ w) (hsz : p.size ≤ 900) :
    Calls Tryz.prog 10 #[p.val] w fun r w' => r = .returned (.int .i64 ((pnestOut p : Nat) : Int)) ∧ Below w.heap.size w w' := by
  have hms := fun x (hx : x ∈ p.mons) y (hy : y ∈ x.meths) => meth_sz hx hy
  have hrs := fun x (hx : x ∈ p.roles) => role_sz hx
  have HFI : Hid (p.ok = true → p.fine n₀ w) := fun h => Pr.fine_of hI h hsz
  have HOUT : Hid (pnestOut p = if p.ok then p.nst else 0) := rfl
  have hq0 := fun W (h : Below w.heap.size w W) => refIs_any n₀ p W (by have := h.size; omega) (hI.below (h.mono hn))
  cases hok : p.ok
  · rw [hok] at hq0
    have e0 : pnestOut p = 0 := by rw [HOUT.out, hok]; rfl
    rw [e0]
    rcases p with ⟨mad, mcap, mons, rad, rcap, roles⟩
    simp only [Pr.val] at hq0 ⊢
    have hB0 : Below w.heap.size w (w.alloc (.cells #[.slice mad mons.length mcap, .slice rad roles.length rcap] 25)) := (Below.refl _ w).al le_rfl' _
    have hqq := hq0 _ hB0
    clear hok e0 hq0 HOUT HFI hms hrs
    go_enter Tryz.func10, Tryz.ntmps10
    go_wp2_with (go_at_call 20; refine hqq.mono ?_; rintro r w2 ⟨rfl, bb2⟩)
    go_ret
    exact ⟨rfl, hB0.tr (by simp) bb2⟩
  rw [hok] at hq0
  have HF := hid (HFI.out hok)
  have e0 : pnestOut p = p.nst := by rw [HOUT.out, hok]; rfl
  rw [e0]
  rcases hp : p with ⟨mad, mcap, mons, rad, rcap, roles⟩
  rw [hp] at hI hms hrs hsz hq0 HF
  have HSZ := hid hsz
  have HN : Hid ((Pr.mk mad mcap mons rad rcap roles).nst = max (maxL Mo.nst mons) (maxL (fun r : Ro => r.body.nst 1) roles)) := rfl
  have hsl := hI.1.1
  have hsr := hI.2.1
  have hl1 := hsl.1; have hl2 := hsl.2.1; have hl3 := hsr.1; have hl4 := hsr.2.1
  unfold maxLen at hl2 hl4
  simp only at hms hrs hl1 hl3
  simp only [Pr.val] at hq0 ⊢
  have hB0 : Below w.heap.size w (w.alloc (.cells #[.slice mad mons.length mcap, .slice rad roles.length rcap] 25)) := (Below.refl _ w).al le_rfl' _
  have bP : (w.alloc (.cells #[.slice mad mons.length mcap, .slice rad roles.length rcap] 25)).heap[w.heap.size]? = some (.cells #[.slice mad mons.length mcap, .slice rad roles.length rcap] 25 (0, 0)) := heap_alloc_new w _
  have hz0 : (w.alloc (.cells #[.slice mad mons.length mcap, .slice rad roles.length rcap] 25)).heap.size = w.heap.size + 1 := by simp
  have hqq := hq0 _ hB0
  clear hp hsz hq0 e0 HOUT HFI hok
  go_enter Tryz.func10, Tryz.ntmps10
  go_wp2_with (go_at_call 20; refine hqq.mono ?_; rintro r w2 ⟨rfl, bb2⟩)
  have bP := (bb2.block _ (by rw [hz0]; omega)).trans bP
  have hB0 : Below w.heap.size w w2 := hB0.trans (bb2.mono (by rw [hz0]; omega))
  have hz0 : w.heap.size + 1 ≤ w2.heap.size := by have := bb2.size; omega
  have HZ0 := hid hz0
  clear hz0 hqq bb2
  obtain ⟨W0, hW0⟩ : ∃ W0, w2 = W0 := ⟨_, rfl⟩
  subst hW0
  go_loopw [3, 4] (fun v i wr => ∃ (k a : Nat), k ≤ mons.length ∧ v = .int .i64 (a : Int) ∧ i = .int .i64 (k : Int) ∧ Hid (a = maxL Mo.nst (mons.take k)) ∧ a ≤ 4000000 ∧ Below w2.heap.size w2 wr) (fun _ i _ => mons.length - (intOf i).toNat)
  case atStart => exact ⟨0, 0, by omega, rfl, rfl, by simp [Hid, maxL], by omega, Below.refl _ _⟩
  case round =>
    obtain ⟨k, a, hk, rfl, rfl, HA, ha, hbw⟩ := hrel
    have hzw := hbw.size
    have hzz := HZ0.out
    obtain ⟨wo, hwo⟩ : ∃ wo : World, wo = wr := ⟨_, rfl⟩
    subst hwo
    have hbN : Below n₀ w wo := (hB0.trans (hbw.mono (by omega))).mono hn
    have hn1 : n₀ ≤ wo.heap.size := by omega
    have hw1 : w.heap.size < wo.heap.size := by omega
    have bP1 := (hbw.block _ (by omega)).trans bP
    have p0 : wo.cell? ⟨w.heap.size, 0, none⟩ = some (.slice mad mons.length mcap) := cell_of' bP1 0
    by_cases hlt : k < mons.length
    · rcases hsl.2.2 with h | ⟨b, off, rfl, hbn, hrow⟩
      · subst h; simp at hlt
      have hr := hrow.below hbN hbn
      have hbl : b < wo.heap.size := by omega
      have HS := hid (maxL_snoc Mo.nst mons k hlt)
      have hIm := (hI.1.2 _ (List.getElem_mem hlt)).below hbN
      have hmk := hms _ (List.getElem_mem hlt)
      have HFM := hid (HF.out.mons _ (List.getElem_mem hlt))
      rcases he' : mons[k] with ⟨mname, vad, vcap, vars, tad, tcap, meths, pos⟩
      have HCE : Hid (mons[k].cells = [.string mname, .slice vad vars.length vcap, .slice tad meths.length tcap, .int .i64 pos]) := by show _ = _; rw [he']; rfl
      rw [he'] at hIm hmk HS HFM
      have HX : Hid ((Mo.mk mname vad vcap vars tad tcap meths pos).nst = max 1 (maxL (fun x : Me => x.body.nst 2) meths)) := rfl
      have hst := hIm.2.2.1
      have hlt1 := hst.1; have hlt2 := hst.2.1
      unfold maxLen at hlt2
      simp only at hlt1 hlt2 hmk
      clear he' hzz
      go_wp2
      go_loopw [3, 5] (fun v i wr => ∃ (j d : Nat), j ≤ meths.length ∧ v = .int .i64 (d : Int) ∧ i = .int .i64 (j : Int) ∧ Hid (d = max a (max 1 (maxL (fun x : Me => x.body.nst 2) (meths.take j)))) ∧ d ≤ 4000000 ∧ Below wo.heap.size wo wr) (fun _ i _ => meths.length - (intOf i).toNat)
      case atStart => exact ⟨0, max a 1, by omega, by congr 1; omega, rfl, by simp [Hid, maxL], by omega, Below.refl _ _⟩
      case round =>
        obtain ⟨j, d, hj, rfl, rfl, HD, hd, hbj⟩ := hrel
        have hzj := hbj.size
        have hbl3 : b < wr.heap.size := by omega
        have hw3 : w.heap.size < wr.heap.size := by omega
        obtain ⟨-, -, c2, -⟩ := row4 (hr.below (hbj.mono hn1) hbn) k hlt HCE.out
        have p0 : wr.cell? ⟨w.heap.size, 0, none⟩ = some (.slice (some ⟨b, off, none⟩) mons.length mcap) := cell_of' ((hbj.block _ hw1).trans bP1) 0
        by_cases hlt3 : j < meths.length
        · rcases hst.2.2 with h | ⟨b3, off3, rfl, hbn3, hrow3⟩
          · subst h; simp at hlt3
          have hr3 := hrow3.below (hbj.mono (by omega)) hbn3
          have hb3l : b3 < wr.heap.size := by omega
          have hszj := hmk _ (List.getElem_mem hlt3)
          have hnl := blnst_le meths[j].body 2
          have hIx := (hIm.2.2.2 _ (List.getElem_mem hlt3)).below (hbj.mono (by omega))
          have hfx := (HFM.out.mok _ (List.getElem_mem hlt3)).2.2.1
          have HS2 := hid (maxL_snoc (fun x : Me => x.body.nst 2) meths j hlt3)
          rcases he2 : meths[j] with ⟨xname, xbody, xpos⟩
          rw [he2] at HS2 hIx hnl hszj hfx
          simp only at HS2 hnl hszj hfx
          have hq := refNst_any xbody hfx n₀ 2 wr (by omega) hIx.2.2 (by have := HSZ.out; omega)
          obtain ⟨z, hz⟩ : ∃ z, xbody.nst 2 = z := ⟨_, rfl⟩
          have hzb : z ≤ 4000000 := by have := HSZ.out; omega
          rw [hz] at HS2
          simp only [hz] at hq
          rcases xbody with ⟨bad, bcap, bbody⟩
          obtain ⟨d0, d1, d2⟩ := row3 hr3 j hlt3 (by rw [he2]; rfl)
          simp only [Bl.slice] at hq d1
          clear he2 hz hnl hfx hIx hszj
          go_wp2_with (go_at_call 25; refine hq.mono ?_; rintro r w5 ⟨rfl, bb5⟩)
          go_roundw
          case rel =>
            refine ⟨j + 1, max d z, by omega, by congr 1; omega, by go_num, ?_, by omega, hbj.tr le_rfl' bb5⟩
            show _ = _
            rw [HS2.out, HD.out]; omega
          case measure => simp [intOf]; omega
        · have hmb : j = meths.length := by omega
          have hmd : decide ((j : Int) < (meths.length : Int)) = false := by simp; omega
          go_wp2
          go_roundw
          case rel =>
            refine ⟨k + 1, d, by omega, rfl, by go_num, ?_, hd, hbw.tr le_rfl' hbj⟩
            show _ = _
            rw [HS.out, HX.out, HD.out, HA.out, hmb, List.take_length]
          case measure => simp [intOf]; omega
    · have hkb : k = mons.length := by omega
      have hkd : decide ((k : Int) < (mons.length : Int)) = false := by simp; omega
      have HA2 : Hid (a = maxL Mo.nst mons) := by show _ = _; rw [HA.out, hkb, List.take_length]
      clear HA hkb hzz
      go_wp2
      go_loopw [3, 6] (fun v i wr => ∃ (j d : Nat), j ≤ roles.length ∧ v = .int .i64 (d : Int) ∧ i = .int .i64 (j : Int) ∧ Hid (d = max a (maxL (fun r : Ro => r.body.nst 1) (roles.take j))) ∧ d ≤ 4000000 ∧ Below wo.heap.size wo wr) (fun _ i _ => roles.length - (intOf i).toNat)
      case atStart => exact ⟨0, a, by omega, rfl, rfl, by simp [Hid, maxL], by omega, Below.refl _ _⟩
      case round =>
        obtain ⟨j, d, hj, rfl, rfl, HD, hd, hbj⟩ := hrel
        have hzj := hbj.size
        have hzz := HZ0.out
        have hbj0 : Below n₀ w wr := hbN.trans (hbj.mono (by omega))
        have hw3 : w.heap.size < wr.heap.size := by omega
        have p1 : wr.cell? ⟨w.heap.size, 1, none⟩ = some (.slice rad roles.length rcap) := cell_of' ((hbj.block _ hw1).trans bP1) 1
        by_cases hlt3 : j < roles.length
        · rcases hsr.2.2 with h | ⟨b3, off3, rfl, hbn3, hrow3⟩
          · subst h; simp at hlt3
          have hr3 := hrow3.below hbj0 hbn3
          have hb3l : b3 < wr.heap.size := by omega
          have hszj := hrs _ (List.getElem_mem hlt3)
          have hnl := blnst_le roles[j].body 1
          have hIx := (hI.2.2 _ (List.getElem_mem hlt3)).below hbj0
          have hfx := (HF.out.roles _ (List.getElem_mem hlt3)).2.2.1
          have HS2 := hid (maxL_snoc (fun x : Ro => x.body.nst 1) roles j hlt3)
          rcases he2 : roles[j] with ⟨xname, xstar, xcount, xbody, xpos⟩
          simp only [he2] at HS2 hIx hnl hszj hfx
          have hq := refNst_any xbody hfx n₀ 1 wr (by omega) hIx.2.2.2 (by have := HSZ.out; omega)
          obtain ⟨z, hz⟩ : ∃ z, xbody.nst 1 = z := ⟨_, rfl⟩
          have hzb : z ≤ 4000000 := by have := HSZ.out; omega
          rw [hz] at HS2
          simp only [hz] at hq
          rcases xbody with ⟨bad, bcap, bbody⟩
          obtain ⟨d0, d1, d2, d3, d4⟩ := row5 hr3 j hlt3 (by rw [he2]; rfl)
          simp only [Bl.slice] at hq d3
          clear he2 hz hnl hzz hfx hIx hszj
          go_wp2_with (go_at_call 25; refine hq.mono ?_; rintro r w5 ⟨rfl, bb5⟩)
          go_roundw
          case rel =>
            refine ⟨j + 1, max d z, by omega, by congr 1; omega, by go_num, ?_, by omega, hbj.tr le_rfl' bb5⟩
            show _ = _
            rw [HS2.out, HD.out]; omega
          case measure => simp [intOf]; omega
        · have hmb : j = roles.length := by omega
          have hmd : decide ((j : Int) < (roles.length : Int)) = false := by simp; omega
          clear hzz
          go_wp2
          go_ret
          refine ⟨?_, ?_⟩
          · rw [HN.out, ← HA2.out, ← List.take_length (l := roles), ← hmb, ← HD.out]
            rfl
          · exact hB0.trans (((hbw.mono (by have := HZ0.out; omega)).trans (hbj.mono (by have := HZ0.out; omega))))
end Go.Proofs.YtnljhlmopjgogaaGreatDoor
namespace Go.Proofs.YtnljhlmopjgogaaGreatDoor
open Go.RowKit Px
namespace Px
theorem meT_doc (o : Nat) (x : Me) : meT o x = lin o ((⟨#[109, 101, 116, 104, 111, 100, 32]⟩ : ByteArray) ++ x.name ++ ⟨#[32, 123]⟩).data.toList ++ (x.body.txt (o + 1) ++ lin o [125]) := by
  have h := docB_sole o ([109, 101, 116, 104, 111, 100, 32] ++ x.name.data.toList) [] [x.body.txt (o + 1)] rfl
  rw [docB_one] at h
  simp only [meT, ByteArray.data_append, Array.toList_append]
  simpa using h
theorem roT_doc (o : Nat) (r : Ro) (cn : ByteArray) (hc : cn.data.toList = roCount r) : roT o r = lin o ((⟨#[116, 104, 114, 101, 97, 100, 32]⟩ : ByteArray) ++ r.name ++ ⟨#[32]⟩ ++ cn ++ ⟨#[32, 123]⟩).data.toList ++ (r.body.txt (o + 1) ++ lin o [125]) := by
  have h := docB_sole o ([116, 104, 114, 101, 97, 100, 32] ++ (r.name.data.toList ++ ([32] ++ roCount r))) [] [r.body.txt (o + 1)] rfl
  rw [docB_one] at h
  simp only [roT, ByteArray.data_append, Array.toList_append, hc]
  simpa using h
theorem moT_doc (m : Mo) : moT 0 m = lin 0 ((⟨#[109, 111, 110, 105, 116, 111, 114, 32]⟩ : ByteArray) ++ m.name ++ ⟨#[32, 123]⟩).data.toList ++ (m.vars.flatMap (vaT 1) ++ (m.meths.flatMap (meT 1) ++ lin 0 [125])) := by
  simp [moT, moIn, lin, ByteArray.data_append]
end Px
set_option maxRecDepth 100000 in
set_option maxHeartbeats 4000000 in
theorem refText_any (p : Pr) (n₀ : Nat) (w : World) (hn : n₀ ≤ w.heap.size) (hI : p.Is n₀ w) (hsz : p.size ≤ 900) :
    Calls Tryz.prog 7 #[p.val] w fun r w' => r = .returned (textOut p) ∧ Below w.heap.size w w' := by
  have HFI : Hid (p.ok = true → p.fine n₀ w) := fun h => Pr.fine_of hI h hsz
  have HOUT : Hid (textOut p = if p.ok then (if 64 < p.nst then .tuple #[.string ⟨#[]⟩, .int .i64 41] else toldOf p.txt) else .tuple #[.string ⟨#[]⟩, .int .i64 20]) := rfl
  have hq0 := fun W (h : Below w.heap.size w W) => refIs_any n₀ p W (by have := h.size; omega) (hI.below (h.mono hn))
  have hq1 := fun W (h : Below w.heap.size w W) => refNestP_any p n₀ W (by have := h.size; omega) (hI.below (h.mono hn)) hsz
  have hB0 : Below w.heap.size w (w.alloc (.cells #[.slice p.mad p.mons.length p.mcap, .slice p.rad p.roles.length p.rcap] 25)) := (Below.refl _ w).al le_rfl' _
  have hz0 : (w.alloc (.cells #[.slice p.mad p.mons.length p.mcap, .slice p.rad p.roles.length p.rcap] 25)).heap.size = w.heap.size + 1 := by simp
  have hqq := hq0 _ hB0
  clear hq0
  cases hok : p.ok
  · rw [hok] at hqq
    have e0 : textOut p = .tuple #[.string ⟨#[]⟩, .int .i64 20] := by rw [HOUT.out, hok]; rfl
    rw [e0]
    rcases p with ⟨mad, mcap, mons, rad, rcap, roles⟩
    simp only [Pr.val] at hqq ⊢
    clear hok e0 HOUT HFI hq1
    go_enter Tryz.func7, Tryz.ntmps7
    go_wp2_with (go_at_call 20; refine hqq.mono ?_; rintro r w2 ⟨rfl, bb2⟩)
    go_ret2
    exact ⟨rfl, hB0.tr (by simp) bb2⟩
  rw [hok] at hqq
  have HF := hid (HFI.out hok)
  have HO2 : Hid (textOut p = if 64 < p.nst then .tuple #[.string ⟨#[]⟩, .int .i64 41] else toldOf p.txt) := by show _ = _; rw [HOUT.out, hok]; rfl
  have e1 : pnestOut p = p.nst := by rw [pnestOut, hok]; rfl
  simp only [e1] at hq1
  obtain ⟨R, hR⟩ : ∃ R, textOut p = R := ⟨_, rfl⟩
  rw [hR]
  rw [hR] at HO2
  obtain ⟨y, hy⟩ : ∃ y, p.nst = y := ⟨_, rfl⟩
  have HY := hid hy
  simp only [hy] at hq1
  rw [hy] at HO2
  clear hy e1 HOUT HFI hok hR
  have HTX : Hid (p.txt = p.mons.flatMap (moT 0) ++ p.roles.flatMap (roT 0)) := rfl
  have bP : (w.alloc (.cells #[.slice p.mad p.mons.length p.mcap, .slice p.rad p.roles.length p.rcap] 25)).heap[w.heap.size]? = some (.cells #[.slice p.mad p.mons.length p.mcap, .slice p.rad p.roles.length p.rcap] 25 (0, 0)) := heap_alloc_new w _
  by_cases hd : 64 < y
  · rw [if_pos hd] at HO2
    rw [HO2.out]
    have hdd : (64 : Int) < (y : Int) := by omega
    rcases p with ⟨mad, mcap, mons, rad, rcap, roles⟩
    simp only [Pr.val] at hqq hq1 ⊢
    go_enter Tryz.func7, Tryz.ntmps7
    go_wp2_with (first
      | (go_at_call 20; refine hqq.mono ?_; rintro r w2 ⟨rfl, bb2⟩; have bP := (bb2.block _ (by rw [hz0]; omega)).trans bP; have p0 := cell_of' bP 0; have p1 := cell_of' bP 1; have hB0 := hB0.trans (bb2.mono (by rw [hz0]; omega)))
      | (go_at_call 10; refine (hq1 _ hB0).mono ?_; rintro r w3 ⟨rfl, bb3⟩))
    go_ret2
    exact ⟨rfl, hB0.trans (bb3.mono (by have := hB0.size; omega))⟩
  rw [if_neg hd] at HO2
  have hdd : ¬ (64 : Int) < (y : Int) := by omega
  rcases p with ⟨mad, mcap, mons, rad, rcap, roles⟩
  simp only [Pr.val] at hqq hq1 HTX hB0 hz0 bP ⊢
  have hsl := hI.1.1
  have hsr := hI.2.1
  have hl1 := hsl.1; have hl2 := hsl.2.1; have hl3 := hsr.1; have hl4 := hsr.2.1
  unfold maxLen at hl2 hl4
  simp only at hl1 hl3
  have hm8 : mons.length ≤ 8 := HF.out.mlen
  have hr8 : roles.length ≤ 8 := HF.out.rlen
  have HLK : Hid (∀ (k : Nat) (S : ByteArray), S.data.toList = ((mons.take k).flatMap (moT 0)) → S.size ≤ 4000000000) := fun k S h => by
    have := flat_take_len (moT 0) mons k 500000000 (fun x hx => moT_len (HF.out.mons x hx) 0 (by omega))
    rw [ba_size h]
    omega
  have HL : Hid (∀ (o : Nat) (s : ByteArray) (W : World), o ≤ 1000 → s.size ≤ 1000000000 → Calls Tryz.prog 21 #[.int .i64 (o : Int), .string s] W fun r w' => r = .returned (.string ⟨(lin o s.data.toList).toArray⟩) ∧ w' = W) := fun o s W h1 h2 => line_ref o s W (by omega) (by omega)
  obtain ⟨E0, hE0⟩ : ∃ s : ByteArray, s = ⟨(lin 0 [125]).toArray⟩ := ⟨_, rfl⟩
  obtain ⟨E1, hE1⟩ : ∃ s : ByteArray, s = ⟨(lin 1 [125]).toArray⟩ := ⟨_, rfl⟩
  have HE0 : Hid (E0.data.toList = lin 0 [125]) := by show _ = _; rw [hE0]
  have HE1 : Hid (E1.data.toList = lin 1 [125]) := by show _ = _; rw [hE1]
  have he0z : E0.size ≤ 10 := by rw [hE0]; decide
  have he1z : E1.size ≤ 10 := by rw [hE1]; decide
  have he0 : ∀ W, Calls Tryz.prog 21 #[.int .i64 0, .string ⟨#[125]⟩] W fun r w' => r = .returned (.string E0) ∧ w' = W := fun W => by rw [hE0]; exact HL.out 0 ⟨#[125]⟩ W (by omega) (by decide)
  have he1 : ∀ W, Calls Tryz.prog 21 #[.int .i64 1, .string ⟨#[125]⟩] W fun r w' => r = .returned (.string E1) ∧ w' = W := fun W => by rw [hE1]; exact HL.out 1 ⟨#[125]⟩ W (by omega) (by decide)
  clear hE0 hE1 hsz
  go_enter Tryz.func7, Tryz.ntmps7
  go_wp2_with (first
    | (go_at_call 20; refine hqq.mono ?_; rintro r w2 ⟨rfl, bb2⟩; have bP := (bb2.block _ (by rw [hz0]; omega)).trans bP; have p0 := cell_of' bP 0; have p1 := cell_of' bP 1; have hB0 := hB0.trans (bb2.mono (by rw [hz0]; omega)); have hz0 : w.heap.size + 1 ≤ w2.heap.size := by have := bb2.size; omega)
    | (go_at_call 10; refine (hq1 _ hB0).mono ?_; rintro r w3 ⟨rfl, bb3⟩; have bP := (bb3.block _ (by omega)).trans bP; have p0 := cell_of' bP 0; have p1 := cell_of' bP 1; have hB0 := hB0.trans (bb3.mono (by omega)); have hz0 : w.heap.size + 1 ≤ w3.heap.size := by have := bb3.size; omega))
  have HZ0 := hid hz0
  clear hz0 hqq hq1 p0 p1 bb2 bb3
  go_loopw [4, 5] (fun t i wr => ∃ (k : Nat) (S : ByteArray), k ≤ mons.length ∧ t = .string S ∧ i = .int .i64 (k : Int) ∧ Hid (S.data.toList = ((mons.take k).flatMap (moT 0))) ∧ Below w3.heap.size w3 wr) (fun _ i _ => mons.length - (intOf i).toNat)
  case atStart => exact ⟨0, ⟨#[]⟩, by omega, rfl, rfl, by simp [Hid], Below.refl _ _⟩
  case round =>
    obtain ⟨k, S, hk, rfl, rfl, HS, hbw⟩ := hrel
    have hzw := hbw.size
    have hzz := HZ0.out
    obtain ⟨wo, hwo⟩ : ∃ wo : World, wo = wr := ⟨_, rfl⟩
    subst hwo
    have hbN : Below n₀ w wo := (hB0.trans (hbw.mono (by omega))).mono hn
    have hn1 : n₀ ≤ wo.heap.size := by omega
    have hw1 : w.heap.size < wo.heap.size := by omega
    have bP1 := (hbw.block _ (by omega)).trans bP
    have p0 : wo.cell? ⟨w.heap.size, 0, none⟩ = some (.slice mad mons.length mcap) := cell_of' bP1 0
    have hss := HLK.out k S HS.out
    by_cases hlt : k < mons.length
    · rcases hsl.2.2 with h | ⟨b, off, rfl, hbn, hrow⟩
      · subst h; simp at hlt
      have hr := hrow.below hbN hbn
      have hbl : b < wo.heap.size := by omega
      have HSN := hid (flatMap_snoc (moT 0) mons k hlt)
      have hIm := (hI.1.2 _ (List.getElem_mem hlt)).below hbN
      have HFM := hid (HF.out.mons _ (List.getElem_mem hlt))
      have HMD := hid (moT_doc mons[k])
      rcases he' : mons[k] with ⟨mname, vad, vcap, vars, tad, tcap, meths, pos⟩
      rw [he'] at hIm HSN HFM HMD
      obtain ⟨c0, c1, c2, c3⟩ := row4 hr k hlt (by rw [he']; rfl)
      have hsv := hIm.2.1.1
      have hst := hIm.2.2.1
      have hlv1 := hsv.1; have hlv2 := hsv.2.1
      have hlt1 := hst.1; have hlt2 := hst.2.1
      unfold maxLen at hlt2 hlv2
      have hnm : mname.size ≤ 32 := by have := name_len HFM.out.name; simpa using this
      have hv16 : vars.length ≤ 16 := HFM.out.vars
      have ht16 : meths.length ≤ 16 := HFM.out.meths
      simp only at hlt1 hlt2 hlv1 hlv2
      obtain ⟨L0, hL0⟩ : ∃ s : ByteArray, s = ⟨(lin 0 ((⟨#[109, 111, 110, 105, 116, 111, 114, 32]⟩ : ByteArray) ++ mname ++ ⟨#[32, 123]⟩).data.toList).toArray⟩ := ⟨_, rfl⟩
      have hl0 : ∀ W, Calls Tryz.prog 21 #[.int .i64 0, .string ((⟨#[109, 111, 110, 105, 116, 111, 114, 32]⟩ : ByteArray) ++ mname ++ ⟨#[32, 123]⟩)] W fun r w' => r = .returned (.string L0) ∧ w' = W := fun W => by
        rw [hL0]
        exact HL.out 0 ((⟨#[109, 111, 110, 105, 116, 111, 114, 32]⟩ : ByteArray) ++ mname ++ ⟨#[32, 123]⟩) W (by omega) (by simp only [ByteArray.size_append']; show 8 + mname.size + 2 ≤ 1000000000; omega)
      have HL0 : Hid (L0.data.toList = lin 0 ((⟨#[109, 111, 110, 105, 116, 111, 114, 32]⟩ : ByteArray) ++ mname ++ ⟨#[32, 123]⟩).data.toList) := by show _ = _; rw [hL0]
      have hl0z : L0.size ≤ 100 := by
        rw [ba_size HL0.out]; unfold lin
        simp only [List.length_append, ind_len, List.length_cons, List.length_nil, Array.length_toList]
        show 2 * 0 + ByteArray.size ((⟨#[109, 111, 110, 105, 116, 111, 114, 32]⟩ : ByteArray) ++ mname ++ ⟨#[32, 123]⟩) + (0 + 1) ≤ 100
        simp only [ByteArray.size_append']
        show 2 * 0 + (8 + mname.size + 2) + (0 + 1) ≤ 100
        omega
      have g0 : ¬ (9223372036854775807 < 8 + mname.size) := by omega
      have g1 : ¬ (9223372036854775807 < 8 + mname.size + 2) := by omega
      have g2 : ¬ (9223372036854775807 < S.size + L0.size) := by omega
      clear he' hzz hL0
      go_wp2_with (go_at_call 21; (with_reducible refine (hl0 _).mono ?_); rintro r w' ⟨rfl, hw'⟩; have hw2 := hw'.symm; subst hw2)
      have hB1 : Below wo.heap.size wo (wo.alloc (.cells #[.string mname, .slice vad vars.length vcap, .slice tad meths.length tcap, .int .i64 pos] 39)) := (Below.refl _ _).al le_rfl' _
      have bM : (wo.alloc (.cells #[.string mname, .slice vad vars.length vcap, .slice tad meths.length tcap, .int .i64 pos] 39)).heap[wo.heap.size]? = some (.cells #[.string mname, .slice vad vars.length vcap, .slice tad meths.length tcap, .int .i64 pos] 39 (0, 0)) := heap_alloc_new wo _
      obtain ⟨W1, hW1⟩ : ∃ W1, wo.alloc (.cells #[.string mname, .slice vad vars.length vcap, .slice tad meths.length tcap, .int .i64 pos] 39) = W1 := ⟨_, rfl⟩
      rw [hW1] at hB1 bM ⊢
      have hz1 : wo.heap.size + 1 ≤ W1.heap.size := by have := (Array.getElem?_eq_some_iff.1 bM).1; omega
      obtain ⟨SL, hSL⟩ : ∃ s : ByteArray, S ++ L0 = s := ⟨_, rfl⟩
      rw [hSL]
      have HSL : Hid (SL.data.toList = S.data.toList ++ L0.data.toList) := by show _ = _; rw [← hSL]; simp [ByteArray.data_append]
      have hslz : SL.size ≤ 4000001000 := by rw [← hSL, ByteArray.size_append']; omega
      clear hW1 c0 c1 c2 c3 hSL g0 g1 g2 hl0
      go_loopw [4, 7] (fun t i wr => ∃ (j : Nat) (S' : ByteArray), j ≤ vars.length ∧ t = .string S' ∧ i = .int .i64 (j : Int) ∧ Hid (S'.data.toList = SL.data.toList ++ (vars.take j).flatMap (vaT 1)) ∧ S'.size ≤ 4000001000 + j * 3000 ∧ Below W1.heap.size W1 wr) (fun _ i _ => vars.length - (intOf i).toNat)
      case atStart => exact ⟨0, SL, by omega, rfl, rfl, by simp [Hid], by omega, Below.refl _ _⟩
      case round =>
        obtain ⟨j, S', hj, rfl, rfl, HV, hvz, hbj⟩ := hrel
        have hzj := hbj.size
        obtain ⟨wv, hwv⟩ : ∃ wv : World, wv = wr := ⟨_, rfl⟩
        subst hwv
        have hbo : Below wo.heap.size wo wv := hB1.trans (hbj.mono (by omega))
        have hm3 : wo.heap.size < wv.heap.size := by omega
        have bMr := (hbj.block _ (by omega)).trans bM
        have m1 : wv.cell? ⟨wo.heap.size, 1, none⟩ = some (.slice vad vars.length vcap) := cell_of' bMr 1
        by_cases hlt2 : j < vars.length
        · rcases hsv.2.2 with h | ⟨b3, off3, rfl, hbn3, hrow3⟩
          · subst h; simp at hlt2
          have hr3 := hrow3.below (hbo.mono hn1) hbn3
          have hb3l : b3 < wv.heap.size := by omega
          have hIv := hIm.2.1.2 _ (List.getElem_mem hlt2)
          have hvo := HFM.out.vok _ (List.getElem_mem hlt2)
          have hq := variable_ref vars[j] wv hIv hvo
          have hvl := vaT_len 1 vars[j] hIv hvo (by omega)
          have HSN2 := hid (flatMap_snoc (vaT 1) vars j hlt2)
          obtain ⟨TX, hTX⟩ : ∃ s : ByteArray, s = ⟨(vaT 1 vars[j]).toArray⟩ := ⟨_, rfl⟩
          have HTV : Hid (TX.data.toList = vaT 1 vars[j]) := by show _ = _; rw [hTX]
          have htz : TX.size ≤ 3000 := by rw [ba_size HTV.out]; exact hvl
          rw [← hTX] at hq
          clear hTX hvl hIv hvo
          rcases he2 : vars[j] with ⟨xname, xtype, xlo, xhi, xinit, xpos⟩
          obtain ⟨e0, e1, e2, e3, e4, e5⟩ := row6 hr3 j hlt2 (by rw [he2]; rfl)
          simp only [he2, Va.val, Va.cells] at hq
          have g8 : ¬ (9223372036854775807 < S'.size + TX.size) := by omega
          clear he2
          go_wp2_with (go_at_call 22; (with_reducible refine hq.mono ?_); rintro r w5 ⟨rfl, bb5⟩)
          go_roundw
          case rel =>
            refine ⟨j + 1, S' ++ TX, by omega, rfl, by go_num, ?_, by rw [ByteArray.size_append']; omega, hbj.tr le_rfl' bb5⟩
            show _ = _
            rw [HSN2.out, ByteArray.data_append, Array.toList_append, HV.out, HTV.out, List.append_assoc]
          case measure => simp [intOf]; omega
        · have hmb : j = vars.length := by omega
          have hmd : decide ((j : Int) < (vars.length : Int)) = false := by simp; omega
          have HV2 : Hid (S'.data.toList = SL.data.toList ++ vars.flatMap (vaT 1)) := by show _ = _; rw [HV.out, hmb, List.take_length]
          have hvz2 : S'.size ≤ 4000100000 := by omega
          clear hmb HV
          go_wp2
          clear hvz
          go_loopw [4, 8] (fun t i wr => ∃ (i' : Nat) (S2 : ByteArray), i' ≤ meths.length ∧ t = .string S2 ∧ i = .int .i64 (i' : Int) ∧ Hid (S2.data.toList = S'.data.toList ++ (meths.take i').flatMap (meT 1)) ∧ S2.size ≤ 4000100000 + i' * 30000000 ∧ Below wv.heap.size wv wr) (fun _ i _ => meths.length - (intOf i).toNat)
          case atStart => exact ⟨0, S', by omega, rfl, rfl, by simp [Hid], by omega, Below.refl _ _⟩
          case round =>
            obtain ⟨i, S2, hi, rfl, rfl, HM, hmz, hbi⟩ := hrel
            have hzi := hbi.size
            have hbo2 : Below wo.heap.size wo wr := hbo.trans (hbi.mono (by omega))
            have bMi := (hbi.block _ (by omega)).trans bMr
            have hm4 : wo.heap.size < wr.heap.size := by omega
            have m2 : wr.cell? ⟨wo.heap.size, 2, none⟩ = some (.slice tad meths.length tcap) := cell_of' bMi 2
            by_cases hlt3 : i < meths.length
            · rcases hst.2.2 with h | ⟨b4, off4, rfl, hbn4, hrow4⟩
              · subst h; simp at hlt3
              have hr4 := hrow4.below (hbo2.mono hn1) hbn4
              have hb4l : b4 < wr.heap.size := by omega
              have hIx := (hIm.2.2.2 _ (List.getElem_mem hlt3)).below (hbo2.mono hn1)
              have hfx := HFM.out.mok _ (List.getElem_mem hlt3)
              have HSN3 := hid (flatMap_snoc (meT 1) meths i hlt3)
              have HMX := hid (meT_doc 1 meths[i])
              rcases he2 : meths[i] with ⟨xname, xbody, xpos⟩
              rw [he2] at HSN3 hIx hfx HMX
              simp only at HMX
              have hxn : xname.size ≤ 32 := by have := name_len hfx.2.1; simpa using this
              have hx9 : xbody.sz ≤ 900 := hfx.2.2.2
              have hq := fun W (h : Below wr.heap.size wr W) => blR_any xbody hfx.2.2.1 n₀ 2 W (by have := h.size; omega) (hIx.2.2.below (h.mono (by omega))) (by omega)
              have htl := bltxt_len n₀ wr xbody hIx.2.2 hfx.2.2.1 2 (by omega)
              obtain ⟨TX, hTX⟩ : ∃ s : ByteArray, s = ⟨(xbody.txt 2).toArray⟩ := ⟨_, rfl⟩
              have HTB : Hid (TX.data.toList = xbody.txt 2) := by show _ = _; rw [hTX]
              have htz : TX.size ≤ 23000000 := by rw [ba_size HTB.out]; omega
              simp only [← hTX] at hq
              obtain ⟨L1, hL1⟩ : ∃ s : ByteArray, s = ⟨(lin 1 ((⟨#[109, 101, 116, 104, 111, 100, 32]⟩ : ByteArray) ++ xname ++ ⟨#[32, 123]⟩).data.toList).toArray⟩ := ⟨_, rfl⟩
              have hl1 : ∀ W, Calls Tryz.prog 21 #[.int .i64 1, .string ((⟨#[109, 101, 116, 104, 111, 100, 32]⟩ : ByteArray) ++ xname ++ ⟨#[32, 123]⟩)] W fun r w' => r = .returned (.string L1) ∧ w' = W := fun W => by
                rw [hL1]
                exact HL.out 1 ((⟨#[109, 101, 116, 104, 111, 100, 32]⟩ : ByteArray) ++ xname ++ ⟨#[32, 123]⟩) W (by omega) (by simp only [ByteArray.size_append']; show 7 + xname.size + 2 ≤ 1000000000; omega)
              have HL1 : Hid (L1.data.toList = lin 1 ((⟨#[109, 101, 116, 104, 111, 100, 32]⟩ : ByteArray) ++ xname ++ ⟨#[32, 123]⟩).data.toList) := by show _ = _; rw [hL1]
              have hl1z : L1.size ≤ 100 := by
                rw [ba_size HL1.out]; unfold lin
                simp only [List.length_append, ind_len, List.length_cons, List.length_nil, Array.length_toList]
                show 2 * 1 + ByteArray.size ((⟨#[109, 101, 116, 104, 111, 100, 32]⟩ : ByteArray) ++ xname ++ ⟨#[32, 123]⟩) + (0 + 1) ≤ 100
                simp only [ByteArray.size_append']
                show 2 * 1 + (7 + xname.size + 2) + (0 + 1) ≤ 100
                omega
              rcases xbody with ⟨bad, bcap, bbody⟩
              have hce : meths[i].cells = [.string xname, .slice bad bbody.length bcap, .int .i64 xpos] := by rw [he2]; rfl
              simp only [Bl.slice] at hq
              have hq : ∀ W, Below wr.heap.size wr W → Calls Tryz.prog 23 #[.slice bad bbody.length bcap, .int .i64 2] W fun r w' => r = .returned (.string TX) ∧ Below W.heap.size W w' := hq
              have HK : Hid (∀ W, Below wr.heap.size wr W → W.cell? ⟨wo.heap.size, 2, none⟩ = some (.slice (some ⟨b4, off4, none⟩) meths.length tcap) ∧ W.cell? ⟨b4, off4 + i * 3, none⟩ = some (.string xname) ∧ W.cell? ⟨b4, off4 + i * 3 + 1, none⟩ = some (.slice bad bbody.length bcap)) := fun W h => by
                obtain ⟨d0, d1, d2⟩ := row3 (hr4.below (h.mono (by omega)) hbn4) i hlt3 hce
                exact ⟨cell_of' ((h.block _ hm4).trans bMi) 2, d0, d1⟩
              have g0 : ¬ (9223372036854775807 < 7 + xname.size) := by omega
              have g1 : ¬ (9223372036854775807 < 7 + xname.size + 2) := by omega
              have g2 : ¬ (9223372036854775807 < S2.size + L1.size) := by omega
              have g3 : ¬ (9223372036854775807 < S2.size + L1.size + TX.size) := by omega
              have g4 : ¬ (9223372036854775807 < S2.size + L1.size + TX.size + E1.size) := by omega
              have B := below_drewE (Below.refl wr.heap.size wr)
              clear he2 hTX hL1 hIx hfx htl hce
              go_wp2_with fail
              go_region_held3 (fun W => W.cell? ⟨wo.heap.size, 2, none⟩ = some (.slice (some ⟨b4, off4, none⟩) meths.length tcap) ∧ W.cell? ⟨b4, off4 + i * 3, none⟩ = some (.string xname) ∧ W.cell? ⟨b4, off4 + i * 3 + 1, none⟩ = some (.slice bad bbody.length bcap)) (exact HK.out _ B)
                (first
                  | (go_at_call 21; (with_reducible refine (hl1 _).mono ?_); rintro r w' ⟨rfl, hw'⟩; have hw2 := hw'.symm; subst hw2)
                  | (go_at_call 23; (with_reducible refine (hq _ B).mono ?_); rintro r w5 ⟨rfl, bb5⟩; have B := B.tr le_rfl' bb5)
                  | (go_at_call 21; (with_reducible refine (he1 _).mono ?_); rintro r w' ⟨rfl, hw'⟩; have hw2 := hw'.symm; subst hw2))
              go_wp2
              go_roundw
              case rel =>
                refine ⟨i + 1, S2 ++ L1 ++ TX ++ E1, by omega, rfl, by go_num, ?_, by simp only [ByteArray.size_append']; omega, hbi.tr le_rfl' B⟩
                show _ = _
                rw [HSN3.out, HMX.out]
                simp only [ByteArray.data_append, Array.toList_append, HM.out, HTB.out, HE1.out, List.append_assoc]
                rw [HL1.out]
                simp only [ByteArray.data_append, Array.toList_append, List.append_assoc]
              case measure => simp [intOf]; omega
            · have hmi : i = meths.length := by omega
              have hmid : decide ((i : Int) < (meths.length : Int)) = false := by simp; omega
              have HM2 : Hid (S2.data.toList = S'.data.toList ++ meths.flatMap (meT 1)) := by show _ = _; rw [HM.out, hmi, List.take_length]
              have g8 : ¬ (9223372036854775807 < S2.size + E0.size) := by omega
              clear hmi HM
              go_wp2_with (go_at_call 21; (with_reducible refine (he0 _).mono ?_); rintro r w' ⟨rfl, hw'⟩; have hw2 := hw'.symm; subst hw2)
              go_roundw
              case rel =>
                refine ⟨k + 1, S2 ++ E0, by omega, rfl, by go_num, ?_, hbw.tr le_rfl' hbo2⟩
                show _ = _
                rw [HSN.out, HMD.out, ByteArray.data_append, Array.toList_append, HM2.out, HV2.out, HSL.out, HS.out, HE0.out, HL0.out]
                simp only [List.append_assoc]
              case measure => simp [intOf]; omega
    · have hkb : k = mons.length := by omega
      have hkd : decide ((k : Int) < (mons.length : Int)) = false := by simp; omega
      have HS2 : Hid (S.data.toList = mons.flatMap (moT 0)) := by show _ = _; rw [HS.out, hkb, List.take_length]
      clear HS hkb hzz
      go_wp2
      clear p0 hl1 hsl
      go_loopw [4, 9] (fun t i wr => ∃ (j : Nat) (S2 : ByteArray), j ≤ roles.length ∧ t = .string S2 ∧ i = .int .i64 (j : Int) ∧ Hid (S2.data.toList = S.data.toList ++ (roles.take j).flatMap (roT 0)) ∧ S2.size ≤ 4000000000 + j * 30000000 ∧ Below wo.heap.size wo wr) (fun _ i _ => roles.length - (intOf i).toNat)
      case atStart => exact ⟨0, S, by omega, rfl, rfl, by simp [Hid], by omega, Below.refl _ _⟩
      case round =>
        obtain ⟨j, S2, hj, rfl, rfl, HD, hdz, hbj⟩ := hrel
        have hzj := hbj.size
        have hbj0 : Below n₀ w wr := hbN.trans (hbj.mono (by omega))
        have hw3 : w.heap.size < wr.heap.size := by omega
        have p1 : wr.cell? ⟨w.heap.size, 1, none⟩ = some (.slice rad roles.length rcap) := cell_of' ((hbj.block _ hw1).trans bP1) 1
        by_cases hlt3 : j < roles.length
        · rcases hsr.2.2 with h | ⟨b3, off3, rfl, hbn3, hrow3⟩
          · subst h; simp at hlt3
          have hr3 := hrow3.below hbj0 hbn3
          have hb3l : b3 < wr.heap.size := by omega
          have hIx := (hI.2.2 _ (List.getElem_mem hlt3)).below hbj0
          have hfx := HF.out.roles _ (List.getElem_mem hlt3)
          have HSN3 := hid (flatMap_snoc (roT 0) roles j hlt3)
          have HRX0 := hid (roT_doc 0 roles[j])
          rcases he2 : roles[j] with ⟨xname, xstar, xcount, xbody, xpos⟩
          simp only [he2] at HSN3 hIx hfx HRX0
          have hxn : xname.size ≤ 32 := by have := name_len hfx.2.1; simpa using this
          have hx9 : xbody.sz ≤ 900 := hfx.2.2.2
          have hic : I64 xcount := hIx.2.1
          have hq := fun W (h : Below wr.heap.size wr W) => blR_any xbody hfx.2.2.1 n₀ 1 W (by have := h.size; omega) (hIx.2.2.2.below (h.mono (by omega))) (by omega)
          have htl := bltxt_len n₀ wr xbody hIx.2.2.2 hfx.2.2.1 1 (by omega)
          obtain ⟨TX, hTX⟩ : ∃ s : ByteArray, s = ⟨(xbody.txt 1).toArray⟩ := ⟨_, rfl⟩
          have HTB : Hid (TX.data.toList = xbody.txt 1) := by show _ = _; rw [hTX]
          have htz : TX.size ≤ 23000000 := by rw [ba_size HTB.out]; omega
          simp only [← hTX] at hq
          rcases xbody with ⟨bad, bcap, bbody⟩
          obtain ⟨d0, d1, d2, d3, d4⟩ := row5 hr3 j hlt3 (by rw [he2]; rfl)
          simp only [Bl.slice] at hq d3
          have hq : ∀ W, Below wr.heap.size wr W → Calls Tryz.prog 23 #[.slice bad bbody.length bcap, .int .i64 1] W fun r w' => r = .returned (.string TX) ∧ Below W.heap.size W w' := hq
          clear he2 hTX hIx hfx htl
          cases xstar
          · obtain ⟨CN, hCN⟩ : ∃ s : ByteArray, s = ⟨(Lib.itoa xcount).toArray⟩ := ⟨_, rfl⟩
            have HRX := hid (HRX0.out CN (by rw [hCN]; simp [roCount]))
            have hcz : CN.size ≤ 20 := by have := itoa_len xcount hic; rw [hCN]; show (Lib.itoa xcount).toArray.size ≤ 20; rw [List.size_toArray]; exact this
            have hdg : ∀ W, Calls Tryz.prog 24 #[.int .i64 xcount] W fun r w' => r = .returned (.string CN) ∧ w' = W := fun W => by rw [hCN]; exact digits_any xcount W hic
            clear hCN HRX0
            obtain ⟨L1, hL1⟩ : ∃ s : ByteArray, s = ⟨(lin 0 ((⟨#[116, 104, 114, 101, 97, 100, 32]⟩ : ByteArray) ++ xname ++ ⟨#[32]⟩ ++ CN ++ ⟨#[32, 123]⟩).data.toList).toArray⟩ := ⟨_, rfl⟩
            have hl1 : ∀ W, Calls Tryz.prog 21 #[.int .i64 0, .string ((⟨#[116, 104, 114, 101, 97, 100, 32]⟩ : ByteArray) ++ xname ++ ⟨#[32]⟩ ++ CN ++ ⟨#[32, 123]⟩)] W fun r w' => r = .returned (.string L1) ∧ w' = W := fun W => by
              rw [hL1]
              exact HL.out 0 ((⟨#[116, 104, 114, 101, 97, 100, 32]⟩ : ByteArray) ++ xname ++ ⟨#[32]⟩ ++ CN ++ ⟨#[32, 123]⟩) W (by omega) (by simp only [ByteArray.size_append']; show 7 + xname.size + 1 + CN.size + 2 ≤ 1000000000; omega)
            have HL1 : Hid (L1.data.toList = lin 0 ((⟨#[116, 104, 114, 101, 97, 100, 32]⟩ : ByteArray) ++ xname ++ ⟨#[32]⟩ ++ CN ++ ⟨#[32, 123]⟩).data.toList) := by show _ = _; rw [hL1]
            have hl1z : L1.size ≤ 100 := by
              rw [ba_size HL1.out]; unfold lin
              simp only [List.length_append, ind_len, List.length_cons, List.length_nil, Array.length_toList]
              show 2 * 0 + ByteArray.size ((⟨#[116, 104, 114, 101, 97, 100, 32]⟩ : ByteArray) ++ xname ++ ⟨#[32]⟩ ++ CN ++ ⟨#[32, 123]⟩) + (0 + 1) ≤ 100
              simp only [ByteArray.size_append']
              show 2 * 0 + (7 + xname.size + 1 + CN.size + 2) + (0 + 1) ≤ 100
              omega
            have g0 : ¬ (9223372036854775807 < 7 + xname.size) := by omega
            have g1 : ¬ (9223372036854775807 < 7 + xname.size + 1) := by omega
            have g2 : ¬ (9223372036854775807 < 7 + xname.size + 1 + CN.size) := by omega
            have g3 : ¬ (9223372036854775807 < 7 + xname.size + 1 + CN.size + 2) := by omega
            have g4 : ¬ (9223372036854775807 < S2.size + L1.size) := by omega
            have g5 : ¬ (9223372036854775807 < S2.size + L1.size + TX.size) := by omega
            have g6 : ¬ (9223372036854775807 < S2.size + L1.size + TX.size + E0.size) := by omega
            clear hL1
            obtain ⟨W1, hW1⟩ : ∃ W1, wr.alloc (.cells #[.string xname, .bool false, .int .i64 xcount, .slice bad bbody.length bcap, .int .i64 xpos] 47) = W1 := ⟨_, rfl⟩
            have hB1 : Below wr.heap.size wr W1 := by rw [← hW1]; exact (Below.refl _ _).al le_rfl' _
            have bM : W1.heap[wr.heap.size]? = some (.cells #[.string xname, .bool false, .int .i64 xcount, .slice bad bbody.length bcap, .int .i64 xpos] 47 (0, 0)) := by rw [← hW1]; exact heap_alloc_new wr _
            have hz1 : wr.heap.size + 1 ≤ W1.heap.size := by have := (Array.getElem?_eq_some_iff.1 bM).1; omega
            have HK : Hid (∀ W, Below W1.heap.size W1 W → W.cell? ⟨wr.heap.size, 0, none⟩ = some (.string xname) ∧ W.cell? ⟨wr.heap.size, 3, none⟩ = some (.slice bad bbody.length bcap)) := fun W h => by
              have g := (h.block _ (by omega)).trans bM
              exact ⟨cell_of' g 0, cell_of' g 3⟩
            have hq := fun W (h : Below W1.heap.size W1 W) => hq W (hB1.trans (h.mono (by omega)))
            have k1 : W1.cell? ⟨wr.heap.size, 1, none⟩ = some (.bool false) := cell_of' bM 1
            have k2 : W1.cell? ⟨wr.heap.size, 2, none⟩ = some (.int .i64 xcount) := cell_of' bM 2
            go_upto_region 27 with (go_at_call 24; (with_reducible refine (hdg _).mono ?_); rintro r w' ⟨rfl, hw'⟩; have hw2 := hw'.symm; subst hw2)
            (try simp only [hW1])
            clear hW1
            have B := below_drewE (Below.refl W1.heap.size W1)
            go_wp2_with fail
            go_region_held3 (fun W => W.cell? ⟨wr.heap.size, 0, none⟩ = some (.string xname) ∧ W.cell? ⟨wr.heap.size, 3, none⟩ = some (.slice bad bbody.length bcap)) (exact HK.out _ B)
              (first
                | (go_at_call 21; (with_reducible refine (hl1 _).mono ?_); rintro r w' ⟨rfl, hw'⟩; have hw2 := hw'.symm; subst hw2)
                | (go_at_call 23; (with_reducible refine (hq _ B).mono ?_); rintro r w5 ⟨rfl, bb5⟩; have B := B.tr le_rfl' bb5)
                | (go_at_call 21; (with_reducible refine (he0 _).mono ?_); rintro r w' ⟨rfl, hw'⟩; have hw2 := hw'.symm; subst hw2))
            go_wp2
            go_roundw
            case rel =>
              refine ⟨j + 1, S2 ++ L1 ++ TX ++ E0, by omega, rfl, by go_num, ?_, by simp only [ByteArray.size_append']; omega, hbj.trans (hB1.trans (B.mono (by omega)) |>.mono (by omega))⟩
              show _ = _
              rw [HSN3.out, HRX.out]
              simp only [ByteArray.data_append, Array.toList_append, HD.out, HTB.out, HE0.out, List.append_assoc]
              rw [HL1.out]
              simp only [ByteArray.data_append, Array.toList_append, List.append_assoc]
            case measure => simp [intOf]; omega
          · have HRX := hid (HRX0.out ⟨#[42]⟩ (by simp [roCount]))
            clear HRX0
            obtain ⟨L1, hL1⟩ : ∃ s : ByteArray, s = ⟨(lin 0 ((⟨#[116, 104, 114, 101, 97, 100, 32]⟩ : ByteArray) ++ xname ++ ⟨#[32]⟩ ++ ⟨#[42]⟩ ++ ⟨#[32, 123]⟩).data.toList).toArray⟩ := ⟨_, rfl⟩
            have hl1 : ∀ W, Calls Tryz.prog 21 #[.int .i64 0, .string ((⟨#[116, 104, 114, 101, 97, 100, 32]⟩ : ByteArray) ++ xname ++ ⟨#[32]⟩ ++ ⟨#[42]⟩ ++ ⟨#[32, 123]⟩)] W fun r w' => r = .returned (.string L1) ∧ w' = W := fun W => by
              rw [hL1]
              exact HL.out 0 ((⟨#[116, 104, 114, 101, 97, 100, 32]⟩ : ByteArray) ++ xname ++ ⟨#[32]⟩ ++ ⟨#[42]⟩ ++ ⟨#[32, 123]⟩) W (by omega) (by simp only [ByteArray.size_append']; show 7 + xname.size + 1 + 1 + 2 ≤ 1000000000; omega)
            have HL1 : Hid (L1.data.toList = lin 0 ((⟨#[116, 104, 114, 101, 97, 100, 32]⟩ : ByteArray) ++ xname ++ ⟨#[32]⟩ ++ ⟨#[42]⟩ ++ ⟨#[32, 123]⟩).data.toList) := by show _ = _; rw [hL1]
            have hl1z : L1.size ≤ 100 := by
              rw [ba_size HL1.out]; unfold lin
              simp only [List.length_append, ind_len, List.length_cons, List.length_nil, Array.length_toList]
              show 2 * 0 + ByteArray.size ((⟨#[116, 104, 114, 101, 97, 100, 32]⟩ : ByteArray) ++ xname ++ ⟨#[32]⟩ ++ ⟨#[42]⟩ ++ ⟨#[32, 123]⟩) + (0 + 1) ≤ 100
              simp only [ByteArray.size_append']
              show 2 * 0 + (7 + xname.size + 1 + 1 + 2) + (0 + 1) ≤ 100
              omega
            have g0 : ¬ (9223372036854775807 < 7 + xname.size) := by omega
            have g1 : ¬ (9223372036854775807 < 7 + xname.size + 1) := by omega
            have g2 : ¬ (9223372036854775807 < 7 + xname.size + 1 + 1) := by omega
            have g3 : ¬ (9223372036854775807 < 7 + xname.size + 1 + 1 + 2) := by omega
            have g4 : ¬ (9223372036854775807 < S2.size + L1.size) := by omega
            have g5 : ¬ (9223372036854775807 < S2.size + L1.size + TX.size) := by omega
            have g6 : ¬ (9223372036854775807 < S2.size + L1.size + TX.size + E0.size) := by omega
            clear hL1
            obtain ⟨W1, hW1⟩ : ∃ W1, wr.alloc (.cells #[.string xname, .bool true, .int .i64 xcount, .slice bad bbody.length bcap, .int .i64 xpos] 47) = W1 := ⟨_, rfl⟩
            have hB1 : Below wr.heap.size wr W1 := by rw [← hW1]; exact (Below.refl _ _).al le_rfl' _
            have bM : W1.heap[wr.heap.size]? = some (.cells #[.string xname, .bool true, .int .i64 xcount, .slice bad bbody.length bcap, .int .i64 xpos] 47 (0, 0)) := by rw [← hW1]; exact heap_alloc_new wr _
            have hz1 : wr.heap.size + 1 ≤ W1.heap.size := by have := (Array.getElem?_eq_some_iff.1 bM).1; omega
            have HK : Hid (∀ W, Below W1.heap.size W1 W → W.cell? ⟨wr.heap.size, 0, none⟩ = some (.string xname) ∧ W.cell? ⟨wr.heap.size, 3, none⟩ = some (.slice bad bbody.length bcap)) := fun W h => by
              have g := (h.block _ (by omega)).trans bM
              exact ⟨cell_of' g 0, cell_of' g 3⟩
            have hq := fun W (h : Below W1.heap.size W1 W) => hq W (hB1.trans (h.mono (by omega)))
            have k1 : W1.cell? ⟨wr.heap.size, 1, none⟩ = some (.bool true) := cell_of' bM 1
            have k2 : W1.cell? ⟨wr.heap.size, 2, none⟩ = some (.int .i64 xcount) := cell_of' bM 2
            go_upto_region 27 with fail
            (try simp only [hW1])
            clear hW1
            have B := below_drewE (Below.refl W1.heap.size W1)
            go_wp2_with fail
            go_region_held3 (fun W => W.cell? ⟨wr.heap.size, 0, none⟩ = some (.string xname) ∧ W.cell? ⟨wr.heap.size, 3, none⟩ = some (.slice bad bbody.length bcap)) (exact HK.out _ B)
              (first
                | (go_at_call 21; (with_reducible refine (hl1 _).mono ?_); rintro r w' ⟨rfl, hw'⟩; have hw2 := hw'.symm; subst hw2)
                | (go_at_call 23; (with_reducible refine (hq _ B).mono ?_); rintro r w5 ⟨rfl, bb5⟩; have B := B.tr le_rfl' bb5)
                | (go_at_call 21; (with_reducible refine (he0 _).mono ?_); rintro r w' ⟨rfl, hw'⟩; have hw2 := hw'.symm; subst hw2))
            go_wp2
            go_roundw
            case rel =>
              refine ⟨j + 1, S2 ++ L1 ++ TX ++ E0, by omega, rfl, by go_num, ?_, by simp only [ByteArray.size_append']; omega, hbj.trans (hB1.trans (B.mono (by omega)) |>.mono (by omega))⟩
              show _ = _
              rw [HSN3.out, HRX.out]
              simp only [ByteArray.data_append, Array.toList_append, HD.out, HTB.out, HE0.out, List.append_assoc]
              rw [HL1.out]
              simp only [ByteArray.data_append, Array.toList_append, List.append_assoc]
            case measure => simp [intOf]; omega
        · have hmb : j = roles.length := by omega
          have hmd : decide ((j : Int) < (roles.length : Int)) = false := by simp; omega
          have HD2 : Hid (S2.data.toList = (Pr.mk mad mcap mons rad rcap roles).txt) := by show _ = _; rw [HD.out, HS2.out, HTX.out, hmb, List.take_length]
          have hlen : S2.size = (Pr.mk mad mcap mons rad rcap roles).txt.length := ba_size HD2.out
          have HFB : Hid (Below w.heap.size w wr) := (hB0.trans (hbw.mono (by have := HZ0.out; omega))).trans (hbj.mono (by omega))
          clear HD hmb
          by_cases hlong : 20000 < S2.size
          · have hlg : (20000 : Int) < (S2.size : Int) := by omega
            have HO3 : Hid (R = .tuple #[.string ⟨#[]⟩, .int .i64 1]) := by show _ = _; rw [HO2.out, toldOf, if_pos (by omega)]
            clear hlen hdz
            go_wp2
            go_ret2
            exact ⟨by rw [HO3.out]; rfl, HFB.out⟩
          · have hlg : ¬ (20000 : Int) < (S2.size : Int) := by omega
            have HO3 : Hid (R = .tuple #[.string S2, .int .i64 0]) := by
              show _ = _
              rw [HO2.out, toldOf, if_neg (by omega), ba_eq (a := S2) (b := ⟨(Pr.mk mad mcap mons rad rcap roles).txt.toArray⟩) (by rw [HD2.out])]
            clear hlen hdz
            go_wp2
            go_ret2
            exact ⟨by rw [HO3.out]; rfl, HFB.out⟩
end Go.Proofs.YtnljhlmopjgogaaGreatDoor
