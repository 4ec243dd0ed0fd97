/-
  Own texts joined by program: CmG.
-/
import Derived.Test.YtfkabkbnfeiggaaGreatDoorQaz
import Derived.Test.YtfkabkbnfeiggaaGreatDoorQbf
namespace Go.Proofs.YtfkabkbnfeiggaaGreatDoor
open Go.RowKit
set_option maxRecDepth 100000 in
set_option maxHeartbeats 32000000 in
theorem ownDoc_check (p:Pr) (n₀:Nat) (w:World) (hn:n₀≤w.heap.size) (hp:p.Is n₀ w)
  (hM:∀ m∈p.mons,∀ f∈m.meths,f.body.subs.length≤400000∧∀ s∈f.body.subs,s.e.subs.length≤1000000)
  (hR:∀ r∈p.roles,r.body.subs.length≤400000∧∀ s∈r.body.subs,s.e.subs.length≤1000000)
  (hy:∀ W,Below w.heap.size w W→Calls Tryz.prog 12 #[p.val] W fun r w'=>ChkBack p.cchk W w' r) :
  Calls Tryz.prog 7 #[p.val] w fun r w'=>ChkBack p.ochk w w' r:=by
 have HCC:=hid (show p.ochk=if p.cchk.1=0 then fstE (firE Mo.osc p.mons) (firE Ro.osc p.roles) else p.cchk from rfl)
 obtain⟨cc,hcc⟩:∃ cc,p.ochk=cc:=⟨_,rfl⟩
 rw[hcc] at HCC ⊢
 obtain⟨tc,htc⟩:∃ tc,p.cchk=tc:=⟨_,rfl⟩
 rw[htc] at HCC
 simp only[htc] at hy
 clear htc hcc
 obtain⟨tc1,tc2⟩:=tc
 rcases p with ⟨mad,mcap,mons,rad,rcap,roles⟩
 obtain⟨⟨h3,h4⟩,h5,h6⟩:=hp
 simp only[Pr.val] at hy h3 h4 h5 h6 HCC hM hR ⊢
 simp only[ChkBack] at hy
 have hl1:=h3.1;have hl2:=h3.2.1
 unfold maxLen at hl2
 have hr1:=h5.1;have hr2:=h5.2.1
 unfold maxLen at hr2
 have hB:=(Below.refl w.heap.size w).al le_rfl' (.cells #[.slice mad mons.length mcap,.slice rad roles.length rcap] 25)
 have b1:=heapNew w (.cells #[.slice mad mons.length mcap,.slice rad roles.length rcap] 25)
 cases hte:(tc1 != 0:Bool)
 ·have ht0:tc1=0:=by simpa using hte
  subst ht0
  rw[if_pos rfl] at HCC
  go_enter Tryz.func7,Tryz.ntmps7
  go_upto_region 4 with (go_at_call 12;(with_reducible refine (hy _ hB).mono ?_);rintro r wB ⟨rfl,bb1⟩)
  have hB2:=hB.tr le_rfl' bb1
  have b3:=(bb1.block w.heap.size (by simp)).trans b1
  have hwB:w.heap.size<wB.heap.size:=(Array.getElem?_eq_some_iff.1 b3).1
  have HP:Hid (∀ W,Below wB.heap.size wB W→W.cell? ⟨w.heap.size,0,none⟩=some (.slice mad mons.length mcap)∧W.cell? ⟨w.heap.size,1,none⟩=some (.slice rad roles.length rcap)):=fun W hW=>by
   have hb:=(hW.block w.heap.size hwB).trans b3
   exact⟨by rw[cellOf hb];rfl,by rw[cellOf hb];rfl⟩
  clear hy b1 b3 bb1 hte hB
  have hz2:=hB2.size
  go_wp2
  go_loopw [6] (fun i wr=>∃ j:Nat,j≤mons.length∧i=.int .i64 j∧Hid (firE Mo.osc mons=firE Mo.osc (mons.drop j))∧Below wB.heap.size wB wr)
   (fun i _=>mons.length-(intOf i).toNat)
  case atStart=>exact⟨0,by omega,rfl,rfl,Below.refl _ _⟩
  case round =>
   obtain⟨j,hj,rfl,HQ,hbw⟩:=hrel
   have hz1:=hbw.size
   have hbF:Below w.heap.size w wr:=hB2.tr le_rfl' hbw
   obtain⟨q0,q1⟩:=HP.out wr hbw
   have hww:w.heap.size<wr.heap.size:=by omega
   by_cases hlt:j<mons.length
   ·rcases h3.2.2 with h|⟨kb,koff,rfl,hbn,hrow⟩
    ·subst h;simp at hlt
    have HD:=hid (firE_drop Mo.osc mons j hlt)
    have HMU:Hid (Mo.osc mons[j]=firE (Me.osc mons[j].name) mons[j].meths):=rfl
    have hmj:=h4 _ (List.getElem_mem hlt)
    have hMj:=hM _ (List.getElem_mem hlt)
    rcases he':mons[j] with ⟨mname,vad,vcap,vars,fad,fcap,meths,mpos⟩
    have HR4:Hid (∀ W,Below n₀ w W→W.cell? ⟨kb,koff+j*4,none⟩=some (.string mname)∧W.cell? ⟨kb,koff+j*4+2,none⟩=some (.slice fad meths.length fcap)):=fun W hW=>⟨(row4 (hrow.below hW hbn) j hlt (by rw[he'];rfl)).1,(row4 (hrow.below hW hbn) j hlt (by rw[he'];rfl)).2.2.1⟩
    rw[he'] at hmj HMU hMj
    rw[he'] at HD
    simp only at HMU hMj
    have hkw:kb<wr.heap.size:=by omega
    obtain⟨⟨hml,-⟩,-,hfs,hfI⟩:=hmj
    simp only at hfs hfI hml
    have hf1:=hfs.1;have hf2:=hfs.2.1
    unfold maxLen at hf2
    clear he'
    obtain⟨wo,hwo⟩:∃ wo:World,wo=wr:=⟨_,rfl⟩
    subst hwo
    go_wp2
    clear q0 q1
    go_loopw [7] (fun i wx=>∃ k:Nat,k≤meths.length∧i=.int .i64 k∧Hid (firE (Me.osc mname) meths=firE (Me.osc mname) (meths.drop k))∧Below wo.heap.size wo wx)
     (fun i _=>meths.length-(intOf i).toNat)
    case atStart=>exact⟨0,by omega,rfl,rfl,Below.refl _ _⟩
    case round =>
     obtain⟨k,hk,rfl,HQ2,hbx⟩:=hrel
     have hzx:=hbx.size
     have hbx2:Below wB.heap.size wB wr:=hbw.tr le_rfl' hbx
     have hbF2:Below w.heap.size w wr:=hB2.tr le_rfl' hbx2
     obtain⟨q0,q1⟩:=HP.out wr hbx2
     obtain⟨c0,c2⟩:=HR4.out wr (hbF2.mono hn)
     have hww2:w.heap.size<wr.heap.size:=by omega
     have hkw2:kb<wr.heap.size:=by omega
     by_cases hlk:k<meths.length
     ·rcases hfs.2.2 with h|⟨qb,qoff,rfl,hqn,hqrow⟩
      ·subst h;simp at hlk
      have HD2:=hid (firE_drop (Me.osc mname) meths k hlk)
      have HMe:Hid (Me.osc mname meths[k]=meths[k].body.sco (ownF [mname])):=rfl
      have hIf:=(hfI _ (List.getElem_mem hlk)).2.2
      have hMk:=hMj _ (List.getElem_mem hlk)
      have hqrow2:=hqrow.below (hbF2.mono hn) hqn
      have hcg:=fun (W:World) (b:Nat) (hW:Below wr.heap.size wr W) (hb:b+1≤W.heap.size) (hs:SlAt 1 ncells (b+1) W (some ⟨b,0,none⟩) 1 [mname])=>refScope_any meths[k].body n₀ (b+1) W [mname] (some ⟨b,0,none⟩) 1 (by have:=(hbF2.tr le_rfl' hW).size;omega) hb (hIf.below ((hbF2.tr le_rfl' hW).mono hn)) hs (by have:=hMk.1;simp only[List.length_cons,List.length_nil];omega) hMk.2
      have hs0:=Bl.sco_zero (f:=ownF [mname]) meths[k].body
      rcases he2:meths[k] with ⟨fname,⟨bad,bcap,bbody⟩,fpos⟩
      have hc3r:=row3 hqrow2 k hlk (by rw[he2];rfl)
      rw[he2] at HMe hs0
      rw[he2] at HD2
      simp only[he2,Bl.slice] at hcg
      simp only[Bl.slice] at hc3r
      simp only at HMe hs0
      obtain⟨-,d1,-⟩:=hc3r
      have hqw:qb<wr.heap.size:=by have:=hbF2.size;omega
      obtain⟨G,hG⟩:∃ G,(Bl.mk bad bcap bbody).sco (ownF [mname])=G:=⟨_,rfl⟩
      rw[hG] at HMe hs0
      simp only[hG,ScBack,List.length_cons,List.length_nil,Nat.zero_add] at hcg
      clear he2 hG hqrow2 hIf
      obtain⟨g1,g2⟩:=G
      simp only at hcg hs0
      have HK:Hid (∀ W,Below wr.heap.size wr W→W.cell? ⟨w.heap.size,0,none⟩=some (.slice (some ⟨kb,koff,none⟩) mons.length mcap)∧W.cell? ⟨w.heap.size,1,none⟩=some (.slice rad roles.length rcap)∧W.cell? ⟨kb,koff+j*4,none⟩=some (.string mname)∧W.cell? ⟨kb,koff+j*4+2,none⟩=some (.slice (some ⟨qb,qoff,none⟩) meths.length fcap)∧W.cell? ⟨qb,qoff+k*3+1,none⟩=some (.slice bad bbody.length bcap)):=fun W hW=>⟨(HP.out W (hbx2.tr le_rfl' hW)).1,(HP.out W (hbx2.tr le_rfl' hW)).2,(hW.cell (p:=⟨kb,_,none⟩) hkw2).trans c0,(hW.cell (p:=⟨kb,_,none⟩) hkw2).trans c2,(hW.cell (p:=⟨qb,_,none⟩) hqw).trans d1⟩
      have BB:=Below.refl wr.heap.size wr
      have hmc:(wr.alloc (.cells #[.string mname] 9)).heap[wr.heap.size]?=some (.cells #[.string mname] 9 (0,0)):=heapNew wr _
      have hmc2:(wr.alloc (.cells #[.string mname] 9)).drew.heap[wr.heap.size]?=some (.cells #[.string mname] 9 (0,0)):=heapNew wr _
      go_upto_region 10 with fail
      go_cut [8,9] (fun t8 t9 wx=>t8=.int .i64 g1∧t9=.int .i64 g2∧Below wr.heap.size wr wx)
      case first =>
       go_region_held3 (fun W=>W.cell? ⟨w.heap.size,0,none⟩=some (.slice (some ⟨kb,koff,none⟩) mons.length mcap)∧W.cell? ⟨w.heap.size,1,none⟩=some (.slice rad roles.length rcap)∧W.cell? ⟨kb,koff+j*4,none⟩=some (.string mname)∧W.cell? ⟨kb,koff+j*4+2,none⟩=some (.slice (some ⟨qb,qoff,none⟩) meths.length fcap)∧W.cell? ⟨qb,qoff+k*3+1,none⟩=some (.slice bad bbody.length bcap)) (exact HK.out _ (by repeat (first|exact BB|with_reducible refine below_drewV ?_|with_reducible refine below_drewN ?_ _|with_reducible refine Below.al ?_ le_rfl' _)))
        (first|(go_at_call 13;(with_reducible refine (hcg _ wr.heap.size (by repeat (first|exact BB|with_reducible refine below_drewV ?_|with_reducible refine below_drewN ?_ _|with_reducible refine Below.al ?_ le_rfl' _)) (by simp) (sl_at_one (T:=9) (z:=(0,0)) (by first|exact hmc|exact hmc2))).mono ?_);rintro r wf ⟨rfl,bf⟩;have BB:=Below.tr (n₀:=wr.heap.size) (A:=wr) (by repeat (first|exact BB|with_reducible refine below_drewV ?_|with_reducible refine below_drewN ?_ _|with_reducible refine Below.al ?_ le_rfl' _)) le_rfl' bf))
       all_goals go_wp2
       all_goals go_meet
       all_goals exact⟨rfl,rfl,(by repeat (first|exact BB|with_reducible refine below_drewV ?_|with_reducible refine below_drewN ?_ _|with_reducible refine Below.al ?_ le_rfl' _))⟩
      case rest =>
       obtain⟨rfl,rfl,bz⟩:=hcut
       clear BB hcg q0 q1 c0 c2 d1 hmc hmc2 HK
       by_cases hg:g1=0
       ·subst hg
        have hg2:g2=0:=congrArg Prod.snd (hs0 rfl)
        subst hg2
        clear hs0
        go_wp2
        go_roundw
        case rel=>exact⟨k+1,by omega,by go_num,by show _=_;rw[HQ2.out,HD2.out,HMe.out,fstE_zero],hbx.tr le_rfl' bz⟩
        case measure=>simp[intOf];omega
       ·have HE:Hid (cc=(g1,g2)):=by
         show _=_
         rw[HCC.out,HQ.out,HD.out,HMU.out,HQ2.out,HD2.out,HMe.out,fstE_err (a:=(g1,g2)) hg,fstE_err (a:=(g1,g2)) hg,fstE_err (a:=(g1,g2)) hg]
        have hgb:(g1==0)=false:=by simp[hg]
        have hgb2:(g1 != 0)=true:=by simp[hg]
        clear hs0
        go_wp2
        go_ret2
        exact chkBack_mk HE.out (hbF2.tr le_rfl' bz)
     ·have hkd:decide ((k:Int)<(meths.length:Int))=false:=by simp;omega
      have HE:Hid (firE Mo.osc mons=firE Mo.osc (mons.drop (j+1))):=by
       show _=_
       rw[HQ.out,HD.out,HMU.out,HQ2.out,firE_end _ _ _ (by omega),fstE_zero]
      go_wp2
      go_roundw
      case rel=>exact⟨j+1,by omega,by go_num,HE,hbx2⟩
      case measure=>simp[intOf];omega
   ·have hjd:decide ((j:Int)<(mons.length:Int))=false:=by simp;omega
    have HQ3:Hid (cc=firE Ro.osc roles):=by
     show _=_
     rw[HCC.out,HQ.out,firE_end _ _ _ (by omega),fstE_zero]
    obtain⟨w8,hw8⟩:∃ w8,wr=w8:=⟨_,rfl⟩
    rw[hw8] at hbw hz1 hbF hww q0 q1 ⊢
    clear hw8 HQ HCC
    go_wp2
    clear q0 q1
    go_loopw [10] (fun i wr=>∃ j:Nat,j≤roles.length∧i=.int .i64 j∧Hid (firE Ro.osc roles=firE Ro.osc (roles.drop j))∧Below w8.heap.size w8 wr)
     (fun i _=>roles.length-(intOf i).toNat)
    case atStart=>exact⟨0,by omega,rfl,rfl,Below.refl _ _⟩
    case round =>
     obtain⟨j,hj,rfl,HQ,hbx⟩:=hrel
     have hzx:=hbx.size
     have hbx2:Below wB.heap.size wB wr:=hbw.tr le_rfl' hbx
     have hbF2:Below w.heap.size w wr:=hB2.tr le_rfl' hbx2
     obtain⟨q0,q1⟩:=HP.out wr hbx2
     have hww2:w.heap.size<wr.heap.size:=by omega
     by_cases hlt:j<roles.length
     ·rcases h5.2.2 with h|⟨qb,qoff,rfl,hqn,hqrow⟩
      ·subst h;simp at hlt
      have HD:=hid (firE_drop Ro.osc roles j hlt)
      have HMe:Hid (Ro.osc roles[j]=roles[j].body.sco (ownF [])):=rfl
      have hRj:=hR _ (List.getElem_mem hlt)
      have hIr:=(h6 _ (List.getElem_mem hlt)).2.2.2
      have hcg:=refScope_any roles[j].body n₀ 0 wr [] none 0 (by omega) (by omega) (hIr.below (hbF2.mono hn)) ⟨by simp,by unfold maxLen;omega,.inl rfl⟩ (by have:=hRj.1;simp only[List.length_nil];omega) hRj.2
      have hs0:=Bl.sco_zero (f:=ownF []) roles[j].body
      have hqrow2:=hqrow.below (hbF2.mono hn) hqn
      have hqw:qb<wr.heap.size:=by have:=hbF2.size;omega
      rcases he2:roles[j] with ⟨rname,rstar,rcount,⟨bad,bcap,bbody⟩,rpos⟩
      obtain⟨-,-,-,d3,-⟩:=row5 hqrow2 j hlt (by rw[he2];rfl)
      rw[he2] at HMe HD hs0
      simp only[he2,Bl.slice] at hcg d3 HMe hs0
      obtain⟨G,hG⟩:∃ G,(Bl.mk bad bcap bbody).sco (ownF [])=G:=⟨_,rfl⟩
      rw[hG] at HMe hs0 hcg
      simp only[ScBack,List.length_nil] at hcg
      clear he2 hG hqrow2
      obtain⟨g1,g2⟩:=G
      simp only at hcg hs0
      by_cases hg:g1=0
      ·subst hg
       have hg2:g2=0:=congrArg Prod.snd (hs0 rfl)
       subst hg2
       clear hs0
       go_wp2_with (go_at_call 13;(with_reducible refine hcg.mono ?_);rintro r wf ⟨rfl,bf⟩)
       go_roundw
       case rel=>exact⟨j+1,by omega,by go_num,by show _=_;rw[HQ.out,HD.out,HMe.out,fstE_zero],hbx.tr le_rfl' bf⟩
       case measure=>simp[intOf];omega
      ·have HE:Hid (cc=(g1,g2)):=by
        show _=_
        rw[HQ3.out,HQ.out,HD.out,HMe.out,fstE_err (a:=(g1,g2)) hg]
       have hgb:(g1==0)=false:=by simp[hg]
       have hgb2:(g1 != 0)=true:=by simp[hg]
       clear hs0
       go_wp2_with (go_at_call 13;(with_reducible refine hcg.mono ?_);rintro r wf ⟨rfl,bf⟩)
       go_ret2
       exact chkBack_mk HE.out (hbF2.tr le_rfl' bf)
     ·have hjd:decide ((j:Int)<(roles.length:Int))=false:=by simp;omega
      have HE:Hid (cc=(0,0)):=by
       show _=_
       rw[HQ3.out,HQ.out,firE_end _ _ _ (by omega)]
      go_wp2
      go_ret2
      exact chkBack_mk HE.out hbF2
 ·have ht0:¬ tc1=0:=by simpa using hte
  rw[if_neg ht0] at HCC
  go_enter Tryz.func7,Tryz.ntmps7
  go_wp2_with (go_at_call 12;(with_reducible refine (hy _ hB).mono ?_);rintro r wB ⟨rfl,bb1⟩)
  go_ret2
  exact chkBack_mk HCC.out (hB.tr le_rfl' bb1)
end Go.Proofs.YtfkabkbnfeiggaaGreatDoor
