/-
  Own texts joined by program: IsB.
-/
import Derived.Test.YtpbjikncobnkjaaGreatDoorIbi
import Derived.Test.YtpbjikncobnkjaaGreatDoorIbl
import Derived.Deep.Cut
namespace Go.Proofs.YtpbjikncobnkjaaGreatDoor
open Go.RowKit
theorem below_drew' {B:Nat} {w w':World} (h:Below B w w'):Below B w w'.drew:=⟨h.os,h.tape,h.output,h.size,h.block⟩
theorem StBox.keep {W W':World} {b:Nat} {s:St} (h:StBox W b s) (hb:Below W.heap.size W W'):StBox W' b s:=(hb.block b h.lt).trans h
theorem four_keep {W W':World} {b:Nat} {c0 c1 c2 c3:Bool} (h:W.heap[b]?=some (.cells #[.bool c0,.bool c1,.bool c2,.bool c3] 4 (0,0))) (hb:Below W.heap.size W W'):W'.heap[b]?=some (.cells #[.bool c0,.bool c1,.bool c2,.bool c3] 4 (0,0)):=
 (hb.block b (Array.getElem?_eq_some_iff.1 h).1).trans h
theorem four_cells {W:World} {b:Nat} {c0 c1 c2 c3:Bool} (h:W.heap[b]?=some (.cells #[.bool c0,.bool c1,.bool c2,.bool c3] 4 (0,0))):W.cell? ⟨b,0,none⟩=some (.bool c0)∧W.cell? ⟨b,1,none⟩=some (.bool c1)∧W.cell? ⟨b,2,none⟩=some (.bool c2)∧W.cell? ⟨b,3,none⟩=some (.bool c3):=
 ⟨cell_of' h 0,cell_of' h 1,cell_of' h 2,cell_of' h 3⟩
set_option maxRecDepth 100000 in
set_option maxHeartbeats 16000000 in
theorem isStmts_step (n₀:Nat) (ad:Option Addr) (cap:Nat) (body:List St)
  (ih:∀ s∈body,∀ b∈s.blocks,∀ w:World,n₀≤w.heap.size→b.Is n₀ w→Calls Tryz.prog 29 #[b.slice] w fun r w'=>r=.returned (.bool b.ok)∧Below w.heap.size w w')
  (w:World) (hn:n₀≤w.heap.size) (hI:(Bl.mk ad cap body).Is n₀ w):Calls Tryz.prog 29 #[.slice ad body.length cap] w fun r w'=>r=.returned (.bool (Bl.mk ad cap body).ok)∧Below w.heap.size w w':=by
 have HR:=hid (Bl.ok_mk ad cap body)
 have hd:=hI.down
 have hl1:=hd.1.1;have hl2:=hd.1.2.1
 unfold maxLen at hl2
 go_enter Tryz.func29,Tryz.ntmps29
 go_wp2
 go_loopw [3] (fun i wr=>∃ j:Nat,j≤body.length∧i=.int .i64 j∧Hid ((body.take j).all (fun s=>s.subs.all St.ok1)=true)∧Below w.heap.size w wr)
  (fun i _=>body.length-(intOf i).toNat)
 case atStart=>exact⟨0,by omega,rfl,rfl,Below.refl _ _⟩
 case round =>
  obtain⟨wo,hwo⟩:∃ wo:World,wo=wr:=⟨_,rfl⟩
  subst hwo
  obtain⟨j,hj,rfl,HA,hbw⟩:=hrel
  have hz:=hbw.size
  by_cases hlt:j<body.length
  ·rcases hd.1.2.2 with h|⟨b,off,rfl,hbn,hrow⟩
   ·subst h;simp at hlt
   have hb0:=hbw.mono hn
   have hbn2:b<wo.heap.size:=by omega
   have hr:=hrow.below hb0 hbn
   have hIj:=(hd.2 _ (List.getElem_mem hlt)).below hb0
   have hih:=ih _ (List.getElem_mem hlt)
   have HX:Hid (body[j].subs.all St.ok1=false→(Bl.mk (some ⟨b,off,none⟩) cap body).ok=false):=fun h=>by
    rw[HR.out];exact allL_cut (fun s:St=>s.subs.all St.ok1) body j hlt h
   have HY:Hid (body[j].subs.all St.ok1=true→(body.take (j+1)).all (fun s=>s.subs.all St.ok1)=true):=fun h=>by
    rw[allL_snoc (fun s:St=>s.subs.all St.ok1) body j hlt,HA.out,Bool.true_and];exact h
   clear ih
   rcases he':body[j] with ⟨kind,mon,name,n,e,ad',cap',blocks,pos⟩
   rcases hee:e with ⟨eop,emon,ename,en,ead,ecap,ekids,epos⟩
   obtain⟨c0,c1,c2,c3,c4,c5,c6,c7,c8,c9,c10,c11⟩:=row12 hr j hlt (by rw[he',hee];rfl)
   rw[he'] at hIj hih HX HY
   have hIs:=hIj.down
   have hsm:=hIs.1.2.2.2.1;have hsn:=hIs.1.2.2.2.2
   unfold Len at hsm hsn
   have hlb1:=hIs.2.2.1.1;have hlb2:=hIs.2.2.1.2.1
   unfold maxLen at hlb2
   clear he' hIj
   have hih:∀ b∈blocks,∀ w:World,n₀≤w.heap.size→b.Is n₀ w→Calls Tryz.prog 29 #[b.slice] w fun r w'=>r=.returned (.bool b.ok)∧Below w.heap.size w w':=hih
   by_cases hkr:1≤kind∧kind≤11
   ·obtain⟨k,rfl⟩:∃ k:Nat,kind=(k:Int):=⟨kind.toNat,by omega⟩
    have hk1:1≤k:=by omega
    have hk2:k≤11:=by omega
    have HD:=hid (stok_doc k mon name n e ad' cap' blocks pos hk1 hk2)
    have HO:=hid (St.sok_mk (k:Int) mon name n e ad' cap' blocks pos)
    have hform:=fun W=>form_yes k W hk1 hk2
    obtain⟨fm,hfm⟩:∃ fm,stMon k=fm:=⟨_,rfl⟩
    obtain⟨fn,hfn⟩:∃ fn,stName k=fn:=⟨_,rfl⟩
    obtain⟨fu,hfu⟩:∃ fu,stNumber k=fu:=⟨_,rfl⟩
    obtain⟨fe,hfe⟩:∃ fe,stExpr k=fe:=⟨_,rfl⟩
    obtain⟨ll,hll⟩:∃ ll,stLeast k=ll:=⟨_,rfl⟩
    obtain⟨mm,hmm⟩:∃ mm,stMost k=mm:=⟨_,rfl⟩
    rw[hfm,hfn,hfu,hfe,hll,hmm] at HD
    simp only[hfm,hfn,hfu,hfe,hll,hmm] at hform
    clear hfm hfn hfu hfe hll hmm hkr
    go_upto_region 6 with (go_at_call 54;refine (hform _).mono ?_;rintro r w' ⟨rfl,hw'⟩;subst hw')
    have hBx:StBox ((wo.alloc (.cells #[.int .i64 (k:Int),.string mon,.string name,.int .i64 n,.int .i64 eop,.string emon,.string ename,.int .i64 en,.slice ead ekids.length ecap,.int .i64 epos,.slice ad' blocks.length cap',.int .i64 pos] 64)).alloc (.cells #[.bool fm,.bool fn,.bool fu,.bool fe] 4)) wo.heap.size (St.mk (k:Int) mon name n (.mk eop emon ename en ead ecap ekids epos) ad' cap' blocks pos):=
     StBox.keep (StBox.new wo (St.mk (k:Int) mon name n (.mk eop emon ename en ead ecap ekids epos) ad' cap' blocks pos)) ((Below.refl _ _).al le_rfl' _)
    have hFx:((wo.alloc (.cells #[.int .i64 (k:Int),.string mon,.string name,.int .i64 n,.int .i64 eop,.string emon,.string ename,.int .i64 en,.slice ead ekids.length ecap,.int .i64 epos,.slice ad' blocks.length cap',.int .i64 pos] 64)).alloc (.cells #[.bool fm,.bool fn,.bool fu,.bool fe] 4)).heap[wo.heap.size+1]?=some (.cells #[.bool fm,.bool fn,.bool fu,.bool fe] 4 (0,0)):=heapAt _ (by simp)
    have hB2:=(hbw.al le_rfl' (.cells #[.int .i64 (k:Int),.string mon,.string name,.int .i64 n,.int .i64 eop,.string emon,.string ename,.int .i64 en,.slice ead ekids.length ecap,.int .i64 epos,.slice ad' blocks.length cap',.int .i64 pos] 64)).al le_rfl' (.cells #[.bool fm,.bool fn,.bool fu,.bool fe] 4)
    have hBn:=((Below.refl wo.heap.size wo).al le_rfl' (.cells #[.int .i64 (k:Int),.string mon,.string name,.int .i64 n,.int .i64 eop,.string emon,.string ename,.int .i64 en,.slice ead ekids.length ecap,.int .i64 epos,.slice ad' blocks.length cap',.int .i64 pos] 64)).al le_rfl' (.cells #[.bool fm,.bool fn,.bool fu,.bool fe] 4)
    obtain⟨W2,hW2⟩:∃ W2,(wo.alloc (.cells #[.int .i64 (k:Int),.string mon,.string name,.int .i64 n,.int .i64 eop,.string emon,.string ename,.int .i64 en,.slice ead ekids.length ecap,.int .i64 epos,.slice ad' blocks.length cap',.int .i64 pos] 64)).alloc (.cells #[.bool fm,.bool fn,.bool fu,.bool fe] 4)=W2:=⟨_,rfl⟩
    rw[hW2] at hBx hFx hB2 hBn ⊢
    clear hW2 c0 c1 c2 c3 c4 c5 c6 c7 c8 c9 c10 c11 hform
    have hz2:=hBn.size
    obtain⟨⟨b0,b1,b2,b3⟩,-,b10,-⟩:=hBx.cells
    obtain⟨f0,f1,f2,f3⟩:=four_cells hFx
    refine reg6 _ _ _ _ _ _ _ _ _ _ _ _ _ _ _ _ _ _ _ _ _ _ _ _ _ _ _ _ _ _ _ _ _ _ _ _ _ _ _ _ _ _ _ _ _ _ _ _ _ _ _ _ _ _ _ _ _ _ _ _ _ _ _ _ _ _ _ _ _ _ _ _ _ _ _ _ _ _ _ _ _ _ _ _ _ _ _ _ _ _ _ _ _ _ _ _ _ _ _ _ _ _ _ _ _ _ _ _ _ _ _ _ _ _ _ _ _ _ _ _ _ _ _ _ _ _ _ _ _ _ wo.heap.size (wo.heap.size+1) ll mm blocks.length cap' ad' mon name n fm fn fu W2 hsm hsn ⟨b1,b2,b3,b10,f0,f1,f2⟩ (fun _ _ d _ _ h=>by cases d <;> exact h) ?_
    intro v28 v29 v30 v31 v32 v33 v34 v35 v36 v37 v38 v39 v40 v41 v42 v43 v44 v45 v46 v47 v48 v49 v50 v51 v52 v53 v54 v55 v56 v57 v58 v59 v60 v61 v62 v63 v64 v65 v66 v67 v68 v69 v70 v71 v72 v73 v74 v75 v76 v77 v78 v79 v80 v81 v82 v83 v84 v85 v86 v87 v88 v89 v90 v91 v92 v93 v94 v95 v96 v97 v98 T W3 hT B3
    have HP:Hid ((St.mk (k:Int) mon name n e ad' cap' blocks pos).ok1=(!T&&!(fe&&!e.ok || !fe&&!e.none))):=by
     show _=_
     rw[HD.out,← hT]
     simp only[Bool.not_or,Bool.and_assoc]
    clear hT HD b0 b1 b2 b3 b10 f0 f1 f2 f3
    have hE:=(hIs.2.1.below (hBn.mono (by omega):Below n₀ wo W2)).below (B3.mono (by omega))
    have hz3:=B3.size
    have h14:=refIsExpr_any n₀ e W3 (by omega) hE
    have h60:=empty_any n₀ e W3 hE
    obtain⟨eo,heo⟩:∃ eo,e.ok=eo:=⟨_,rfl⟩
    obtain⟨ez,hez⟩:∃ ez,e.none=ez:=⟨_,rfl⟩
    rw[heo] at HP h14
    rw[hez] at HP h60
    clear heo hez hE
    rw[hee] at HP HO h14 h60 HX HY
    simp only[Ex.val,Ex.cells] at h14 h60
    obtain⟨-,⟨g0,g1,g2,g3,g4,g5⟩,b10,-⟩:=(hBx.keep B3).cells
    obtain⟨-,-,-,f3⟩:=four_cells (four_keep hFx B3)
    have HX:=HX.out
    cases T
    ·cases fe
     ·cases ez
      ·go_wp2_with (go_at_call 56;refine h60.mono ?_;rintro r w4 ⟨rfl,bb4⟩)
       go_ret
       exact⟨ret_bool (HX (by rw[HO.out,HP.out];rfl)).symm,hB2.tr le_rfl' (B3.tr le_rfl' bb4)⟩
      ·go_wp2_with (go_at_call 56;refine h60.mono ?_;rintro r w4 ⟨rfl,bb4⟩)
       have BE:=B3.tr le_rfl' bb4
       go_loopw [9] (fun i wr=>∃ m:Nat,m≤blocks.length∧i=.int .i64 m∧Hid ((blocks.take m).all Bl.ok=true)∧Below W2.heap.size W2 wr)
        (fun i _=>blocks.length-(intOf i).toNat)
       case atStart=>exact⟨0,by omega,rfl,rfl,BE⟩
       case round =>
        obtain⟨m,hm,rfl,HM,hbm⟩:=hrel
        obtain⟨-,-,b10,-⟩:=(hBx.keep hbm).cells
        have hzm:=hbm.size
        by_cases hlt2:m<blocks.length
        ·rcases hIs.2.2.1.2.2 with h|⟨b3,off3,rfl,hbn3,hrow3⟩
         ·subst h;simp at hlt2
         have hB3:Below n₀ wo wr:=(hBn.mono (by omega)).trans (hbm.mono (by omega))
         have hr3:=hrow3.below hB3 hbn3
         have hb3l:b3<wr.heap.size:=by omega
         have hq:=hih blocks[m] (by exact List.getElem_mem hlt2) wr (by omega) ((hIs.2.2.2 _ (List.getElem_mem hlt2)).below hB3)
         have HS2:=hid (allL_snoc Bl.ok blocks m hlt2)
         have HC2:=hid (fun h=>allL_cut Bl.ok blocks m hlt2 h)
         obtain⟨okb,hokb⟩:∃ okb,blocks[m].ok=okb:=⟨_,rfl⟩
         rw[hokb] at hq HS2
         have HB2:=hid hokb
         clear hokb
         rcases he2:blocks[m] with ⟨bad,bcap,bbody⟩
         have d0:=row1 hr3 m hlt2 (by rw[he2];rfl)
         simp only[he2,Bl.slice] at hq d0
         clear he2
         cases okb
         ·go_wp2_with (go_at_call 29;refine hq.mono ?_;rintro r w5 ⟨rfl,bb5⟩)
          go_ret
          exact⟨ret_bool (HX (by rw[HO.out,HC2.out HB2.out,Bool.and_false])).symm,hB2.tr le_rfl' (hbm.tr le_rfl' bb5)⟩
         ·go_wp2_with (go_at_call 29;refine hq.mono ?_;rintro r w5 ⟨rfl,bb5⟩)
          go_roundw
          case rel=>exact⟨m+1,by omega,by go_num,by show _=_;rw[HS2.out,HM.out];rfl,hbm.tr le_rfl' bb5⟩
          case measure=>simp[intOf];omega
        ·have hmb:m=blocks.length:=by omega
         have hmd:decide ((m:Int)<(blocks.length:Int))=false:=by simp;omega
         go_wp2
         go_roundw
         case rel =>
          refine⟨j+1,by omega,by go_num,HY.out ?_,hB2.tr le_rfl' hbm⟩
          have h1:=HM.out
          rw[hmb,List.take_length] at h1
          rw[HO.out,h1,Bool.and_true,HP.out]
          rfl
         case measure=>simp[intOf];omega
     ·cases eo
      ·go_wp2_with (go_at_call 55;refine h14.mono ?_;rintro r w4 ⟨rfl,bb4⟩)
       go_ret
       exact⟨ret_bool (HX (by rw[HO.out,HP.out];rfl)).symm,hB2.tr le_rfl' (B3.tr le_rfl' bb4)⟩
      ·go_wp2_with (go_at_call 55;refine h14.mono ?_;rintro r w4 ⟨rfl,bb4⟩;have BE:=B3.tr le_rfl' bb4;obtain⟨-,-,-,f3⟩:=four_cells (four_keep hFx BE))
       go_loopw [9] (fun i wr=>∃ m:Nat,m≤blocks.length∧i=.int .i64 m∧Hid ((blocks.take m).all Bl.ok=true)∧Below W2.heap.size W2 wr)
        (fun i _=>blocks.length-(intOf i).toNat)
       case atStart=>exact⟨0,by omega,rfl,rfl,BE⟩
       case round =>
        obtain⟨m,hm,rfl,HM,hbm⟩:=hrel
        obtain⟨-,-,b10,-⟩:=(hBx.keep hbm).cells
        have hzm:=hbm.size
        by_cases hlt2:m<blocks.length
        ·rcases hIs.2.2.1.2.2 with h|⟨b3,off3,rfl,hbn3,hrow3⟩
         ·subst h;simp at hlt2
         have hB3:Below n₀ wo wr:=(hBn.mono (by omega)).trans (hbm.mono (by omega))
         have hr3:=hrow3.below hB3 hbn3
         have hb3l:b3<wr.heap.size:=by omega
         have hq:=hih blocks[m] (by exact List.getElem_mem hlt2) wr (by omega) ((hIs.2.2.2 _ (List.getElem_mem hlt2)).below hB3)
         have HS2:=hid (allL_snoc Bl.ok blocks m hlt2)
         have HC2:=hid (fun h=>allL_cut Bl.ok blocks m hlt2 h)
         obtain⟨okb,hokb⟩:∃ okb,blocks[m].ok=okb:=⟨_,rfl⟩
         rw[hokb] at hq HS2
         have HB2:=hid hokb
         clear hokb
         rcases he2:blocks[m] with ⟨bad,bcap,bbody⟩
         have d0:=row1 hr3 m hlt2 (by rw[he2];rfl)
         simp only[he2,Bl.slice] at hq d0
         clear he2
         cases okb
         ·go_wp2_with (go_at_call 29;refine hq.mono ?_;rintro r w5 ⟨rfl,bb5⟩)
          go_ret
          exact⟨ret_bool (HX (by rw[HO.out,HC2.out HB2.out,Bool.and_false])).symm,hB2.tr le_rfl' (hbm.tr le_rfl' bb5)⟩
         ·go_wp2_with (go_at_call 29;refine hq.mono ?_;rintro r w5 ⟨rfl,bb5⟩)
          go_roundw
          case rel=>exact⟨m+1,by omega,by go_num,by show _=_;rw[HS2.out,HM.out];rfl,hbm.tr le_rfl' bb5⟩
          case measure=>simp[intOf];omega
        ·have hmb:m=blocks.length:=by omega
         have hmd:decide ((m:Int)<(blocks.length:Int))=false:=by simp;omega
         go_wp2
         go_roundw
         case rel =>
          refine⟨j+1,by omega,by go_num,HY.out ?_,hB2.tr le_rfl' hbm⟩
          have h1:=HM.out
          rw[hmb,List.take_length] at h1
          rw[HO.out,h1,Bool.and_true,HP.out]
          rfl
         case measure=>simp[intOf];omega
    ·go_wp2
     go_ret
     exact⟨ret_bool (HX (by rw[HO.out,HP.out];rfl)).symm,hB2.tr le_rfl' B3⟩
   ·have HN:=hid (stok_no kind mon name n e ad' cap' blocks pos hkr)
    have HO:=hid (St.sok_mk kind mon name n e ad' cap' blocks pos)
    have hform:=fun W=>form_no kind W hkr
    go_upto_region 6 with (go_at_call 54;refine (hform _).mono ?_;rintro r w' ⟨rfl,hw'⟩;subst hw')
    refine reg6n _ _ _ _ _ _ _ _ _ _ _ _ _ _ _ _ _ _ _ _ _ _ _ _ _ _ _ _ _ _ _ _ _ _ _ _ _ _ _ _ _ _ _ _ _ _ _ _ _ _ _ _ _ _ _ _ _ _ _ _ _ _ _ _ _ _ _ _ _ _ _ _ _ _ _ _ _ _ _ _ _ _ _ _ _ _ _ _ _ _ _ _ _ _ _ _ _ _ _ _ _ _ _ _ _ _ _ _ _ _ _ _ _ _ _ _ _ _ _ _ _ _ _ _ _ _ _ _ _ _ _ _ _ _ _ (fun _ _ d _ _ h=>by cases d <;> exact h) ?_
    intro v28 v29 v30 v31 v32 v33 v34 v35 v36 v37 v38 v39 v40 v41 v42 v43 v44 v45 v46 v47 v48 v49 v50 v51 v52 v53 v54 v55 v56 v57 v58 v59 v60 v61 v62 v63 v64 v65 v66 v67 v68 v69 v70 v71 v72 v73 v74 v75 v76 v77 v78 v79 v80 v81 v82 v83 v84 v85 v86 v87 v88 v89 v90 v91 v92 v93 v94 v95 v96 v97 v98
    go_wp2
    go_ret
    exact⟨ret_bool (HX.out (by rw[HO.out,HN.out];rfl)).symm,below_drew' (hbw.al le_rfl' _)⟩
  ·have hjd:decide ((j:Int)<(body.length:Int))=false:=by simp;omega
   go_wp2
   go_ret
   refine⟨ret_bool ?_,hbw⟩
   have h1:=HA.out
   rw[List.take_of_length_le (by omega)] at h1
   rw[HR.out,h1]
theorem refIsStmts_any (n₀:Nat) (b:Bl):∀ w:World,n₀≤w.heap.size→b.Is n₀ w→Calls Tryz.prog 29 #[b.slice] w fun r w'=>r=.returned (.bool b.ok)∧Below w.heap.size w w':=
 Bl.ind (P:=fun s=>∀ b∈s.blocks,∀ w:World,n₀≤w.heap.size→b.Is n₀ w→Calls Tryz.prog 29 #[b.slice] w fun r w'=>r=.returned (.bool b.ok)∧Below w.heap.size w w')
  (Q:=fun b=>∀ w:World,n₀≤w.heap.size→b.Is n₀ w→Calls Tryz.prog 29 #[b.slice] w fun r w'=>r=.returned (.bool b.ok)∧Below w.heap.size w w')
  (fun _ _ _ _ _ _ _ _ _ ih b hb=>ih b hb) (fun ad cap body ih w h1 h2=>isStmts_step n₀ ad cap body ih w h1 h2) b
end Go.Proofs.YtpbjikncobnkjaaGreatDoor
