/-
  Own texts joined by program: CmF.
-/
import Derived.Test.YtpbjikncobnkjaaGreatDoorQbf
namespace Go.Proofs.YtpbjikncobnkjaaGreatDoor
open Go.RowKit
set_option maxRecDepth 100000 in
set_option maxHeartbeats 32000000 in
theorem check_doc (p:Pr) (hF:p.tchk.1=0→Fine p) (n₀:Nat) (w:World) (hn:n₀≤w.heap.size) (hp:p.Is n₀ w)
  (hy:∀ W,Below w.heap.size w W→Calls Tryz.prog 24 #[p.val] W fun r w'=>ChkBack p.tchk W w' r)
  (hcnt:p.tchk.1=0→∀ x∈p.roles,∀ W,Below w.heap.size w W→Calls Tryz.prog 12 #[p.val,x.body.slice] W fun r w'=>CntBack (cntOf p x.body) W w' r) :
  Calls Tryz.prog 8 #[p.val] w fun r w'=>ChkBack p.cchk w w' r:=by
 have hcyc:p.tchk.1=0→∀ (a c:ByteArray) (W:World),VLen (a,c)→Below w.heap.size w W→Calls Tryz.prog 25 #[p.val,.agg #[.string a,.string c]] W fun e w'=>e=.returned (.bool (goesR p (a,c)))∧Below W.heap.size W w':=fun h0 a c W hr hW=>cyclic_doc p (hF h0) a c n₀ W (by have:=hW.size;omega) (hp.below (hW.mono hn)) hr
 have HCC:=hid (show p.cchk=if p.tchk.1=0 then ((fstOf (Mo.cyc p) p.mons).or (fstOf (Ro.big p) p.roles)).getD (0,0) else p.tchk from rfl)
 obtain⟨cc,hcc⟩:∃ cc,p.cchk=cc:=⟨_,rfl⟩
 rw[hcc] at HCC ⊢
 obtain⟨tc,htc⟩:∃ tc,p.tchk=tc:=⟨_,rfl⟩
 rw[htc] at HCC hcnt hcyc
 simp only[htc] at hy
 clear htc hcc
 obtain⟨tc1,tc2⟩:=tc
 obtain⟨P,hP⟩:∃ P:Pr,P=p:=⟨_,rfl⟩
 rw[← hP] at HCC
 clear hF
 have hcyc2:tc1=0→∀ (a c:ByteArray) (W:World),VLen (a,c)→Below w.heap.size w W→Calls Tryz.prog 25 #[p.val,.agg #[.string a,.string c]] W fun e w'=>e=.returned (.bool (goesR P (a,c)))∧Below W.heap.size W w':=by rw[hP];exact hcyc
 have hcnt2:tc1=0→∀ x∈p.roles,∀ W,Below w.heap.size w W→Calls Tryz.prog 12 #[p.val,x.body.slice] W fun r w'=>CntBack (cntOf P x.body) W w' r:=by rw[hP];exact hcnt
 have hPm:P.mons=p.mons:=by rw[hP]
 have hPr:P.roles=p.roles:=by rw[hP]
 rw[hPm,hPr] at HCC
 clear hcyc hcnt hP hPm hPr
 rcases p with ⟨mad,mcap,mons,rad,rcap,roles⟩
 obtain⟨⟨h3,h4⟩,h5,h6⟩:=hp
 simp only[Pr.val] at hy hcyc2 hcnt2 h3 h4 h5 h6 HCC ⊢
 simp only[ChkBack] at hy
 have hl1:=h3.1;have hl2:=h3.2.1
 unfold maxLen at hl2
 have hr1:=h5.1;have hr2:=h5.2.1
 unfold maxLen at hr2
 have hB:=(Below.refl w.heap.size w).al le_rfl' (.cells #[.slice mad mons.length mcap,.slice rad roles.length rcap] 25)
 have b1:=heapNew w (.cells #[.slice mad mons.length mcap,.slice rad roles.length rcap] 25)
 cases hte:(tc1 != 0:Bool)
 ·have ht0:tc1=0:=by simpa using hte
  subst ht0
  rw[if_pos rfl] at HCC
  have hcn:=hcnt2 rfl
  have hcyz:=hcyc2 rfl
  go_enter Tryz.func8,Tryz.ntmps8
  go_upto_region 4 with (go_at_call 24;(with_reducible refine (hy _ hB).mono ?_);rintro r wB ⟨rfl,bb1⟩)
  have hB2:=hB.tr le_rfl' bb1
  have b3:=(bb1.block w.heap.size (by simp)).trans b1
  have hwB:w.heap.size<wB.heap.size:=(Array.getElem?_eq_some_iff.1 b3).1
  have HP:Hid (∀ W,Below wB.heap.size wB W→W.cell? ⟨w.heap.size,0,none⟩=some (.slice mad mons.length mcap)∧W.cell? ⟨w.heap.size,1,none⟩=some (.slice rad roles.length rcap)):=fun W hW=>by
   have hb:=(hW.block w.heap.size hwB).trans b3
   exact⟨by rw[cellOf hb];rfl,by rw[cellOf hb];rfl⟩
  clear hy b1 b3 bb1 hte hB hcnt2 hcyc2
  have hz2:=hB2.size
  go_wp2
  go_loopw [6] (fun i wr=>∃ j:Nat,j≤mons.length∧i=.int .i64 j∧Hid (fstOf (Mo.cyc P) mons=fstOf (Mo.cyc P) (mons.drop j))∧Below wB.heap.size wB wr)
   (fun i _=>mons.length-(intOf i).toNat)
  case atStart=>exact⟨0,by omega,rfl,rfl,Below.refl _ _⟩
  case round =>
   obtain⟨j,hj,rfl,HQ,hbw⟩:=hrel
   have hz1:=hbw.size
   have hbF:Below w.heap.size w wr:=hB2.tr le_rfl' hbw
   obtain⟨q0,q1⟩:=HP.out wr hbw
   have hww:w.heap.size<wr.heap.size:=by omega
   by_cases hlt:j<mons.length
   ·rcases h3.2.2 with h|⟨kb,koff,rfl,hbn,hrow⟩
    ·subst h;simp at hlt
    have HD:=hid (fstOf_drop (Mo.cyc P) mons j hlt)
    have HMU:Hid (Mo.cyc P mons[j]=fstOf (Me.cyc P mons[j].name) mons[j].meths):=rfl
    have hmj:=h4 _ (List.getElem_mem hlt)
    rcases he':mons[j] with ⟨mname,vad,vcap,vars,fad,fcap,meths,mpos⟩
    have HR4:Hid (∀ W,Below n₀ w W→W.cell? ⟨kb,koff+j*4,none⟩=some (.string mname)∧W.cell? ⟨kb,koff+j*4+2,none⟩=some (.slice fad meths.length fcap)):=fun W hW=>⟨(row4 (hrow.below hW hbn) j hlt (by rw[he'];rfl)).1,(row4 (hrow.below hW hbn) j hlt (by rw[he'];rfl)).2.2.1⟩
    rw[he'] at hmj HMU
    rw[he'] at HD
    simp only at HMU
    have hkw:kb<wr.heap.size:=by omega
    obtain⟨⟨hml,-⟩,-,hfs,hfI⟩:=hmj
    simp only at hfs hfI hml
    have hf1:=hfs.1;have hf2:=hfs.2.1
    unfold maxLen at hf2
    clear he'
    obtain⟨wo,hwo⟩:∃ wo:World,wo=wr:=⟨_,rfl⟩
    subst hwo
    go_wp2
    clear q0 q1
    go_loopw [7] (fun i wx=>∃ k:Nat,k≤meths.length∧i=.int .i64 k∧Hid (fstOf (Me.cyc P mname) meths=fstOf (Me.cyc P mname) (meths.drop k))∧Below wo.heap.size wo wx)
     (fun i _=>meths.length-(intOf i).toNat)
    case atStart=>exact⟨0,by omega,rfl,rfl,Below.refl _ _⟩
    case round =>
     obtain⟨k,hk,rfl,HQ2,hbx⟩:=hrel
     have hzx:=hbx.size
     have hbx2:Below wB.heap.size wB wr:=hbw.tr le_rfl' hbx
     have hbF2:Below w.heap.size w wr:=hB2.tr le_rfl' hbx2
     obtain⟨q0,q1⟩:=HP.out wr hbx2
     obtain⟨c0,c2⟩:=HR4.out wr (hbF2.mono hn)
     have hww2:w.heap.size<wr.heap.size:=by omega
     have hkw2:kb<wr.heap.size:=by omega
     by_cases hlk:k<meths.length
     ·rcases hfs.2.2 with h|⟨qb,qoff,rfl,hqn,hqrow⟩
      ·subst h;simp at hlk
      have HD2:=hid (fstOf_drop (Me.cyc P mname) meths k hlk)
      have HMe:Hid (Me.cyc P mname meths[k]=if goesR P (mname,meths[k].name)=true then some (80,meths[k].pos) else none):=rfl
      have hIf:=hfI _ (List.getElem_mem hlk)
      have hqrow2:=hqrow.below (hbF2.mono hn) hqn
      rcases he2:meths[k] with ⟨fname,⟨bad,bcap,bbody⟩,fpos⟩
      have hc3r:=row3 hqrow2 k hlk (by rw[he2];rfl)
      rw[he2] at HMe hIf
      rw[he2] at HD2
      simp only at HMe
      obtain⟨d0,-,d2⟩:=hc3r
      have hfl:=hIf.1
      simp only at hfl
      have hvl:VLen (mname,fname):=by unfold VLen maxLen;unfold Len at hml hfl;exact⟨by simp;omega,by simp;omega⟩
      have hqw:qb<wr.heap.size:=by have:=hbF2.size;omega
      have hcg:=fun (W:World) (hW:Below wr.heap.size wr W)=>hcyz mname fname W hvl (hbF2.tr le_rfl' hW)
      obtain⟨G,hG⟩:∃ G,goesR P (mname,fname)=G:=⟨_,rfl⟩
      rw[hG] at HMe
      simp only[hG] at hcg
      clear he2 hG hqrow2 hIf
      have HK:Hid (∀ W,Below wr.heap.size wr W→W.cell? ⟨w.heap.size,0,none⟩=some (.slice (some ⟨kb,koff,none⟩) mons.length mcap)∧W.cell? ⟨w.heap.size,1,none⟩=some (.slice rad roles.length rcap)∧W.cell? ⟨kb,koff+j*4,none⟩=some (.string mname)∧W.cell? ⟨kb,koff+j*4+2,none⟩=some (.slice (some ⟨qb,qoff,none⟩) meths.length fcap)∧W.cell? ⟨qb,qoff+k*3,none⟩=some (.string fname)):=fun W hW=>⟨(HP.out W (hbx2.tr le_rfl' hW)).1,(HP.out W (hbx2.tr le_rfl' hW)).2,(hW.cell (p:=⟨kb,_,none⟩) hkw2).trans c0,(hW.cell (p:=⟨kb,_,none⟩) hkw2).trans c2,(hW.cell (p:=⟨qb,_,none⟩) hqw).trans d0⟩
      have HK2:Hid (∀ W,Below wr.heap.size wr W→W.cell? ⟨qb,qoff+k*3+2,none⟩=some (.int .i64 fpos)):=fun W hW=>(hW.cell (p:=⟨qb,_,none⟩) hqw).trans d2
      have BB:=Below.refl wr.heap.size wr
      go_upto_region 10 with fail
      go_cut [56] (fun t wx=>t=.bool G∧Below wr.heap.size wr wx)
      case first =>
       go_region_held3 (fun W=>W.cell? ⟨w.heap.size,0,none⟩=some (.slice (some ⟨kb,koff,none⟩) mons.length mcap)∧W.cell? ⟨w.heap.size,1,none⟩=some (.slice rad roles.length rcap)∧W.cell? ⟨kb,koff+j*4,none⟩=some (.string mname)∧W.cell? ⟨kb,koff+j*4+2,none⟩=some (.slice (some ⟨qb,qoff,none⟩) meths.length fcap)∧W.cell? ⟨qb,qoff+k*3,none⟩=some (.string fname)) (exact HK.out _ (by repeat (first|exact BB|with_reducible refine below_drewV ?_|with_reducible refine below_drewN ?_ _)))
        (first|(go_at_call 25;(with_reducible refine (hcg _ (by repeat (first|exact BB|with_reducible refine below_drewV ?_|with_reducible refine below_drewN ?_ _))).mono ?_);rintro r wf ⟨rfl,bf⟩;have BB:=Below.tr (n₀:=wr.heap.size) (A:=wr) (by repeat (first|exact BB|with_reducible refine below_drewV ?_|with_reducible refine below_drewN ?_ _)) le_rfl' bf))
       all_goals go_wp2
       all_goals go_meet
       all_goals exact⟨rfl,(by repeat (first|exact BB|with_reducible refine below_drewV ?_|with_reducible refine below_drewN ?_ _))⟩
      case rest =>
       obtain⟨rfl,bz⟩:=hcut
       clear BB hcg q0 q1 c0 c2 d0 d2
       cases G
       ·simp only[Bool.false_eq_true,if_false] at HMe
        go_wp2
        go_roundw
        case rel=>exact⟨k+1,by omega,by go_num,by show _=_;rw[HQ2.out,HD2.out,HMe.out];rfl,hbx.tr le_rfl' bz⟩
        case measure=>simp[intOf];omega
       ·simp only[if_true] at HMe
        have HE:Hid (cc=(80,fpos)):=by
         show _=_
         rw[HCC.out,HQ.out,HD.out,HMU.out,HQ2.out,HD2.out,HMe.out];rfl
        obtain⟨r0,r1,r2,r3,r4⟩:=HK.out wc bz
        have r5:=HK2.out wc bz
        have hwc1:w.heap.size<wc.heap.size:=by have:=bz.size;omega
        have hwc2:kb<wc.heap.size:=by have:=bz.size;omega
        have hwc3:qb<wc.heap.size:=by have:=bz.size;omega
        go_wp2_with fail
        go_quiet (fail)
        go_wp2
        go_ret2
        exact chkBack_mk HE.out (below_drewN (hbF2.tr le_rfl' bz) _)
     ·have hkd:decide ((k:Int)<(meths.length:Int))=false:=by simp;omega
      have HE:Hid (fstOf (Mo.cyc P) mons=fstOf (Mo.cyc P) (mons.drop (j+1))):=by
       show _=_
       rw[HQ.out,HD.out,HMU.out,HQ2.out,fstOf_end _ _ _ (by omega)];rfl
      go_wp2
      go_roundw
      case rel=>exact⟨j+1,by omega,by go_num,HE,hbx2⟩
      case measure=>simp[intOf];omega
   ·have hjd:decide ((j:Int)<(mons.length:Int))=false:=by simp;omega
    have HQ3:Hid (cc=((fstOf (Ro.big P) roles)).getD (0,0)):=by
     show _=_
     rw[HCC.out,HQ.out,fstOf_end _ _ _ (by omega)];rfl
    obtain⟨w8,hw8⟩:∃ w8,wr=w8:=⟨_,rfl⟩
    rw[hw8] at hbw hz1 hbF hww q0 q1 ⊢
    clear hw8 HQ HCC
    go_wp2
    clear q0 q1
    go_loopw [8] (fun i wr=>∃ j:Nat,j≤roles.length∧i=.int .i64 j∧Hid (fstOf (Ro.big P) roles=fstOf (Ro.big P) (roles.drop j))∧Below w8.heap.size w8 wr)
     (fun i _=>roles.length-(intOf i).toNat)
    case atStart=>exact⟨0,by omega,rfl,rfl,Below.refl _ _⟩
    case round =>
     obtain⟨j,hj,rfl,HQ,hbx⟩:=hrel
     have hzx:=hbx.size
     have hbx2:Below wB.heap.size wB wr:=hbw.tr le_rfl' hbx
     have hbF2:Below w.heap.size w wr:=hB2.tr le_rfl' hbx2
     obtain⟨q0,q1⟩:=HP.out wr hbx2
     have hww2:w.heap.size<wr.heap.size:=by omega
     by_cases hlt:j<roles.length
     ·rcases h5.2.2 with h|⟨qb,qoff,rfl,hqn,hqrow⟩
      ·subst h;simp at hlt
      have HD:=hid (fstOf_drop (Ro.big P) roles j hlt)
      have HMe:Hid (Ro.big P roles[j]=if (cntOf P roles[j].body).2=81 then some (81,roles[j].pos) else none):=rfl
      have hcj:=fun (W:World) (hW:Below wr.heap.size wr W)=>hcn _ (List.getElem_mem hlt) W (hbF2.tr le_rfl' hW)
      have hqrow2:=hqrow.below (hbF2.mono hn) hqn
      have hqw:qb<wr.heap.size:=by have:=hbF2.size;omega
      rcases he2:roles[j] with ⟨rname,rstar,rcount,⟨bad,bcap,bbody⟩,rpos⟩
      obtain⟨-,-,-,d3,d4⟩:=row5 hqrow2 j hlt (by rw[he2];rfl)
      rw[he2] at HMe HD
      simp only[he2,Bl.slice] at hcj d3 HMe
      obtain⟨q,hq⟩:∃ q,cntOf P (Bl.mk bad bcap bbody)=q:=⟨_,rfl⟩
      rw[hq] at HMe
      simp only[hq] at hcj
      obtain⟨qn,qe⟩:=q
      simp only[CntBack] at hcj
      simp only at HMe
      clear he2 hq hqrow2
      have HK:Hid (∀ W,Below wr.heap.size wr W→W.cell? ⟨w.heap.size,0,none⟩=some (.slice mad mons.length mcap)∧W.cell? ⟨w.heap.size,1,none⟩=some (.slice (some ⟨qb,qoff,none⟩) roles.length rcap)∧W.cell? ⟨qb,qoff+j*5+3,none⟩=some (.slice bad bbody.length bcap)):=fun W hW=>⟨(HP.out W (hbx2.tr le_rfl' hW)).1,(HP.out W (hbx2.tr le_rfl' hW)).2,(hW.cell (p:=⟨qb,_,none⟩) hqw).trans d3⟩
      have HK2:Hid (∀ W,Below wr.heap.size wr W→W.cell? ⟨qb,qoff+j*5+4,none⟩=some (.int .i64 rpos)):=fun W hW=>(hW.cell (p:=⟨qb,_,none⟩) hqw).trans d4
      have BB:=Below.refl wr.heap.size wr
      go_upto_region 15 with fail
      go_cut [9,10] (fun t9 t10 wx=>t10=.int .i64 qe∧Below wr.heap.size wr wx)
      case first =>
       go_region_held3 (fun W=>W.cell? ⟨w.heap.size,0,none⟩=some (.slice mad mons.length mcap)∧W.cell? ⟨w.heap.size,1,none⟩=some (.slice (some ⟨qb,qoff,none⟩) roles.length rcap)∧W.cell? ⟨qb,qoff+j*5+3,none⟩=some (.slice bad bbody.length bcap)) (exact HK.out _ (by repeat (first|exact BB|with_reducible refine below_drewV ?_|with_reducible refine below_drewN ?_ _)))
        (first|(go_at_call 12;(with_reducible refine (hcj _ (by repeat (first|exact BB|with_reducible refine below_drewV ?_|with_reducible refine below_drewN ?_ _))).mono ?_);rintro r wf ⟨rfl,bf⟩;have BB:=Below.tr (n₀:=wr.heap.size) (A:=wr) (by repeat (first|exact BB|with_reducible refine below_drewV ?_|with_reducible refine below_drewN ?_ _)) le_rfl' bf))
       all_goals go_wp2
       all_goals go_meet
       all_goals exact⟨rfl,(by repeat (first|exact BB|with_reducible refine below_drewV ?_|with_reducible refine below_drewN ?_ _))⟩
      case rest =>
       obtain⟨rfl,bz⟩:=hcut
       clear BB hcj q0 q1 d3 d4
       by_cases hqe:qe=81
       ·subst hqe
        rw[if_pos rfl] at HMe
        have HE:Hid (cc=(81,rpos)):=by
         show _=_
         rw[HQ3.out,HQ.out,HD.out,HMe.out];rfl
        obtain⟨r0,r1,r2⟩:=HK.out wc bz
        have r5:=HK2.out wc bz
        have hwc1:w.heap.size<wc.heap.size:=by have:=bz.size;omega
        have hwc3:qb<wc.heap.size:=by have:=bz.size;omega
        go_wp2_with fail
        go_quiet (fail)
        go_wp2
        go_ret2
        exact chkBack_mk HE.out (below_drewN (hbF2.tr le_rfl' bz) _)
       ·rw[if_neg hqe] at HMe
        have hqb:(qe==81)=false:=by simp[hqe]
        go_wp2
        go_roundw
        case rel=>exact⟨j+1,by omega,by go_num,by show _=_;rw[HQ.out,HD.out,HMe.out];rfl,hbx.tr le_rfl' bz⟩
        case measure=>simp[intOf];omega
     ·have hjd:decide ((j:Int)<(roles.length:Int))=false:=by simp;omega
      have HE:Hid (cc=(0,0)):=by
       show _=_
       rw[HQ3.out,HQ.out,fstOf_end _ _ _ (by omega)];rfl
      go_wp2
      go_ret2
      exact chkBack_mk HE.out hbF2
 ·have ht0:¬ tc1=0:=by simpa using hte
  rw[if_neg ht0] at HCC
  go_enter Tryz.func8,Tryz.ntmps8
  go_wp2_with (go_at_call 24;(with_reducible refine (hy _ hB).mono ?_);rintro r wB ⟨rfl,bb1⟩)
  go_ret2
  exact chkBack_mk HCC.out (hB.tr le_rfl' bb1)
end Go.Proofs.YtpbjikncobnkjaaGreatDoor
