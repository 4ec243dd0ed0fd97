/-
  Own texts joined by program: TyX.
-/
import Derived.Test.YtpbjikncobnkjaaGreatDoorQbt
import Derived.Test.YtpbjikncobnkjaaGreatDoorQbu
namespace Go.Proofs.YtpbjikncobnkjaaGreatDoor
open Go.RowKit
theorem good_vars {p:Pr} (h:p.ok=true):GoodV p.mons:=by
 intro v hv
 obtain⟨m,hm,hv⟩:=List.mem_flatMap.1 hv
 simp only[Pr.ok,Pr.decl,Bool.and_eq_true] at h
 have h1:=List.all_eq_true.1 h.1.1.2 m hm
 simp only[Mo.ok,Bool.and_eq_true] at h1
 have h2:=List.all_eq_true.1 h1.1.2 v hv
 simp only[Va.ok,Bool.and_eq_true,decide_eq_true_eq] at h2
 rcases h2.2 with h3|h3|h3
 ·exact .inl h3.1
 ·exact .inr (.inl h3.1)
 ·exact .inr (.inr h3.1)
theorem unkOf_none {α:Type} (f:α→Option Int) (l:List α):unkOf f l=none↔∀ x∈l,f x=none:=by
 induction l with
 | nil=>simp[unkOf]
 | cons x l ih=>rw[unkOf,Option.or_eq_none_iff,ih];simp
theorem bodies_good {p:Pr} (h:p.nchk.1=0):GoodV p.mons∧(∀ m∈p.mons,∀ f∈m.meths,(∀ s∈f.body.subs,s.ok1=true)∧f.body.unk p.lk=none)∧∀ r∈p.roles,(∀ s∈r.body.subs,s.ok1=true)∧r.body.unk p.lk=none:=by
 obtain⟨h1,-,-,h4⟩:=chk_parts h
 have h5:∀ s∈p.stmts,s.ok1=true:=by
  have h1':=h1
  rw[Pr.ok,Bool.and_eq_true] at h1'
  exact fun s hs=>List.all_eq_true.1 h1'.2 s hs
 rw[Pr.unk,Option.or_eq_none_iff,unkOf_none,unkOf_none] at h4
 refine⟨good_vars h1,fun m hm f hf=>⟨fun s hs=>h5 s ?_,?_⟩,fun r hr=>⟨fun s hs=>h5 s ?_,h4.2 r hr⟩⟩
 ·exact List.mem_append.2 (.inl (List.mem_flatMap.2 ⟨m,hm,List.mem_flatMap.2 ⟨f,hf,hs⟩⟩))
 ·have h6:=h4.1 m hm
  rw[Mo.unk,unkOf_none] at h6
  exact h6 f hf
 ·exact List.mem_append.2 (.inr (List.mem_flatMap.2 ⟨r,hr,hs⟩))
theorem offs_flat (l:List Mo):fstOf Mo.offs l=fstOf Va.off (allV l):=by
 rw[allV,fstOf_flat];rfl
set_option maxRecDepth 100000 in
set_option maxHeartbeats 40000000 in
theorem refTypesCheck_any (p:Pr) (hvs:vsum p.mons≤1000000) (n₀:Nat) (w:World) (hn:n₀≤w.heap.size) (hI:p.Is n₀ w) :
  Calls Tryz.prog 24 #[p.val] w fun r w'=>ChkBack p.tchk w w' r:=by
 have h27:∀ W,Below w.heap.size w W→Calls Tryz.prog 48 #[p.val] W fun r w'=>r=.returned (.tuple #[.int .i64 p.nchk.1,.int .i64 p.nchk.2])∧Below W.heap.size W w':=fun W hW=>refCheck_any p n₀ W (by have:=hW.size;omega) (hI.below (hW.mono hn))
 have h28:∀ W,Below w.heap.size w W→Calls Tryz.prog 49 #[p.val] W fun r w'=>∃ ad cap,r=.returned (.slice ad (allV p.mons).length cap)∧SlAt 6 Va.cells w'.heap.size w' ad cap (allV p.mons)∧Below W.heap.size W w':=fun W hW=>slotsUni (refSlots_any p n₀ W (by have:=hW.size;omega) (hI.below (hW.mono hn)) hvs)
 have h29:GoodV p.mons→∀ x:Bl,x.Is n₀ w→((∀ s∈x.subs,s.ok1=true)∧x.unk p.lk=none)→∀ W,Below w.heap.size w W→Calls Tryz.prog 50 #[p.val,x.slice] W fun r w'=>RoleBack (x.tyc p.mons) W w' r:=fun hg x hx h1 W hW=>refStmts7_any p hvs hg x n₀ W (by have:=hW.size;omega) (hI.below (hW.mono hn)) (hx.below (hW.mono hn)) h1.1 h1.2
 have HBG:Hid (p.nchk.1=0→GoodV p.mons∧(∀ m∈p.mons,∀ f∈m.meths,(∀ s∈f.body.subs,s.ok1=true)∧f.body.unk p.lk=none)∧∀ r∈p.roles,(∀ s∈r.body.subs,s.ok1=true)∧r.body.unk p.lk=none):=fun h=>bodies_good h
 have HNA:Hid (p.nchk.1≠0→p.tchk=p.nchk):=fun h=>tchk_names h
 have HSO:Hid (p.nchk.1=0→∀ x,(fstOf Va.off (allV p.mons)).or ((fstOf (Mo.tyc p.mons) p.mons).or (fstOf (Ro.tyc p.mons) p.roles))=some x→p.tchk=x):=fun h x h2=>tchk_some h (by rw[offs_flat];exact h2)
 have HNO:Hid (p.nchk.1=0→(fstOf Va.off (allV p.mons)).or ((fstOf (Mo.tyc p.mons) p.mons).or (fstOf (Ro.tyc p.mons) p.roles))=none→p.tchk=(0,0)):=fun h h2=>tchk_none h (by rw[offs_flat];exact h2)
 have hLb:(allV p.mons).length≤1000000:=by rw[allV_len];exact hvs
 obtain⟨TC,hTC⟩:∃ TC,p.tchk=TC:=⟨_,rfl⟩
 rw[hTC]
 rw[hTC] at HNA
 simp only[hTC] at HSO
 rw[hTC] at HNO
 obtain⟨⟨c1,c2⟩,hcc⟩:∃ cc,p.nchk=cc:=⟨_,rfl⟩
 rw[hcc] at HNA HSO HNO HBG
 simp only[hcc] at h27 HNA HSO HNO HBG
 clear hTC hcc
 obtain⟨L,hL⟩:∃ L,allV p.mons=L:=⟨_,rfl⟩
 simp only[hL] at h28 HSO hLb
 rw[hL] at HNO
 clear hL
 rcases p with ⟨mad,mcap,mons,rad,rcap,roles⟩
 obtain⟨⟨h3,h4⟩,h5,h6⟩:=hI
 simp only[Pr.val] at h3 h4 h5 h6 h27 h28 h29 HSO HNO HBG hvs ⊢
 have hl1:=h3.1;have hl2:=h3.2.1;have hl3:=h5.1;have hl4:=h5.2.1
 unfold maxLen at hl2 hl4
 go_enter Tryz.func24,Tryz.ntmps24
 go_upto_region 1 with fail
 obtain⟨bX,hB,hz⟩:=one_box w #[.slice mad mons.length mcap,.slice rad roles.length rcap] 25
 obtain⟨W0,hW0⟩:∃ W0,w.alloc (.cells #[.slice mad mons.length mcap,.slice rad roles.length rcap] 25)=W0:=⟨_,rfl⟩
 rw[hW0] at bX hB hz ⊢
 clear hW0
 have s0:=cellOf bX 0
 have s1:=cellOf bX 1
 simp at s0 s1
 have HZ:=hid hz
 clear hz bX
 have hq:=h27 W0 hB
 clear h27
 by_cases hc0:c1=0
 case neg =>
  have hcb:(c1 != 0)=true:=by rw[bne_iff_ne];exact hc0
  have HT:=hid (HNA.out hc0)
  clear hc0
  go_wp2_with (go_at_call 48;(with_reducible refine hq.mono ?_);rintro r u1 ⟨rfl,bb1⟩)
  go_ret2
  exact chkBack_mk HT.out (hB.tr le_rfl' bb1)
 subst hc0
 have HSO2:=hid (HSO.out rfl)
 have HNO2:=hid (HNO.out rfl)
 obtain⟨hgv,hmg,hrg⟩:=HBG.out rfl
 have H29:=h29 hgv
 clear HSO HNO HNA HBG h29 hgv
 go_wp2_with (first
  | (go_at_call 48;(with_reducible refine hq.mono ?_);rintro r u1 ⟨rfl,bb1⟩;have hz_1:=bb1.size;have x0:=(bb1.cell (p:=⟨w.heap.size,0,none⟩) (by show w.heap.size<_;have:=HZ.out;omega)).trans s0;have x1:=(bb1.cell (p:=⟨w.heap.size,1,none⟩) (by show w.heap.size<_;have:=HZ.out;omega)).trans s1;have hF:=h28 u1 (hB.tr le_rfl' bb1))
  | (go_at_call 49;(with_reducible refine hF.mono ?_);rintro r u2 ⟨adv,cpv,rfl,hslv,bb2⟩))
 have hBu:Below W0.heap.size W0 u2:=bb1.tr le_rfl' bb2
 have hBuF:Below w.heap.size w u2:=hB.tr le_rfl' hBu
 clear h28 hq hF x0 x1
 have hlv1:=hslv.1;have hlv2:=hslv.2.1
 unfold maxLen at hlv2
 go_loopw [7] (fun i wr=>∃ j:Nat,j≤L.length∧i=.int .i64 j∧Hid (fstOf Va.off L=fstOf Va.off (L.drop j))∧Below u2.heap.size u2 wr)
  (fun i _=>L.length-(intOf i).toNat)
 case atStart=>exact⟨0,by omega,rfl,rfl,Below.refl _ _⟩
 case round =>
  obtain⟨j,hj,rfl,HQv,hbq⟩:=hrel
  have hzq:=hbq.size
  by_cases hlt:j<L.length
  ·have hji:(j:Int)<(L.length:Int):=by omega
   obtain⟨vb,voff,rfl,hvb,hvrow⟩:=slSome hslv hlt
   have hvb2:vb<wr.heap.size:=by omega
   have hvr:=hvrow.below hbq hvb
   have HDv:=hid (fstOf_drop Va.off L j hlt)
   have HVO:Hid (Va.off L[j]=if L[j].type=3∧(L[j].init<L[j].lo∨L[j].hi<L[j].init) then some (71,L[j].pos) else none):=rfl
   rcases he':L[j] with ⟨vn,vt,vlo,vhi,vin,vps⟩
   obtain⟨c0,c1,c2,c3,c4,c5⟩:=row6 hvr j hlt (by rw[he'];rfl)
   rw[he'] at HVO
   rw[he'] at HDv
   simp only at HVO
   clear he'
   by_cases ht:vt=3
   ·subst ht
    by_cases hlo:vin<vlo
    ·have HV2:=hid (HVO.out.trans (if_pos ⟨rfl,.inl hlo⟩))
     clear HVO
     go_upto_region 8 with fail
     go_quiet (fail)
     go_upto_region 9 with fail
     go_quiet (fail)
     go_wp2
     go_ret2
     have hbf:=hBuF.tr le_rfl' hbq
     exact chkBack_mk (HSO2.out (71,vps) (by rw[HQv.out,HDv.out,HV2.out];rfl)) ⟨hbf.os,hbf.tape,hbf.output,hbf.size,hbf.block⟩
    ·have hlo':decide (vin<vlo)=false:=by simp;omega
     by_cases hhi:vhi<vin
     ·have HV2:=hid (HVO.out.trans (if_pos ⟨rfl,.inr hhi⟩))
      clear HVO hlo
      go_upto_region 8 with fail
      go_quiet (fail)
      go_upto_region 9 with fail
      go_quiet (fail)
      go_wp2
      go_ret2
      have hbf:=hBuF.tr le_rfl' hbq
      exact chkBack_mk (HSO2.out (71,vps) (by rw[HQv.out,HDv.out,HV2.out];rfl)) ⟨hbf.os,hbf.tape,hbf.output,hbf.size,hbf.block⟩
     ·have hhi':decide (vhi<vin)=false:=by simp;omega
      have HV2:=hid (HVO.out.trans (if_neg (by omega)))
      clear HVO hlo hhi
      go_upto_region 8 with fail
      go_quiet (fail)
      go_wp2
      go_roundw
      case rel=>exact⟨j+1,by omega,by go_num,by show _=_;rw[HQv.out,HDv.out,HV2.out];rfl,⟨hbq.os,hbq.tape,hbq.output,hbq.size,hbq.block⟩⟩
      case measure=>simp[intOf];omega
   ·have ht':(vt==3)=false:=by rw[beq_eq_false_iff_ne];exact ht
    have HV2:=hid (HVO.out.trans (if_neg (by simp;intro h;exact absurd h ht)))
    clear HVO ht
    go_upto_region 8 with fail
    go_quiet (fail)
    go_wp2
    go_roundw
    case rel=>exact⟨j+1,by omega,by go_num,by show _=_;rw[HQv.out,HDv.out,HV2.out];rfl,⟨hbq.os,hbq.tape,hbq.output,hbq.size,hbq.block⟩⟩
    case measure=>simp[intOf];omega
  ·have hjdv:decide ((j:Int)<(L.length:Int))=false:=by simp;omega
   have HOF:Hid (fstOf Va.off L=none):=by show _=_;rw[HQv.out,fstOf_end _ _ _ (by omega)]
   have HSO3:Hid (∀ x,(fstOf (Mo.tyc mons) mons).or (fstOf (Ro.tyc mons) roles)=some x→TC=x):=fun x h=>HSO2.out x (by rw[HOF.out];exact h)
   have HNO3:Hid ((fstOf (Mo.tyc mons) mons).or (fstOf (Ro.tyc mons) roles)=none→TC=(0,0)):=fun h=>HNO2.out (by rw[HOF.out];exact h)
   have hB3:=hBu.tr le_rfl' hbq
   clear HSO2 HNO2 HOF HQv hslv
   obtain⟨wv,hwv⟩:∃ wv:World,wv=wr:=⟨_,rfl⟩
   subst hwv
   go_wp2
   go_loopw [8] (fun i wr=>∃ j:Nat,j≤mons.length∧i=.int .i64 j∧Hid (fstOf (Mo.tyc mons) mons=fstOf (Mo.tyc mons) (mons.drop j))∧Below W0.heap.size W0 wr)
    (fun i _=>mons.length-(intOf i).toNat)
   case atStart=>exact⟨0,by omega,rfl,rfl,hB3⟩
   case round =>
    obtain⟨j,hj,rfl,HQ,hbw⟩:=hrel
    have hz1:=hbw.size
    have hz0:=HZ.out
    have hbF:Below w.heap.size w wr:=hB.trans (hbw.mono (by omega))
    have y0:=(hbw.cell (p:=⟨w.heap.size,0,none⟩) (by show w.heap.size<_;omega)).trans s0
    have y1:=(hbw.cell (p:=⟨w.heap.size,1,none⟩) (by show w.heap.size<_;omega)).trans s1
    by_cases hlt:j<mons.length
    ·have hji:(j:Int)<(mons.length:Int):=by omega
     rcases h3.2.2 with h|⟨kb,koff,rfl,hbn,hrow⟩
     ·subst h;simp at hlt
     have hbn2:kb<wr.heap.size:=by omega
     have HD:=hid (fstOf_drop (Mo.tyc mons) mons j hlt)
     have HMU:Hid (Mo.tyc mons mons[j]=fstOf (Me.tyc mons) mons[j].meths):=rfl
     have hmgj:=hmg _ (List.getElem_mem hlt)
     have hIm:=(h4 _ (List.getElem_mem hlt)).2.2
     have hrw:=hrow.below (hB.mono hn) hbn
     rcases he':mons[j] with ⟨mname,mvad,mvcap,mvars,mmad,mmcap,mmeths,mpos⟩
     obtain⟨-,-,c2',-⟩:=row4 hrw j hlt (by rw[he'];rfl)
     rw[he'] at HMU hIm hmgj
     rw[he'] at HD
     simp only at HMU hIm hmgj
     clear he' hrw
     have hml1:=hIm.1.1;have hml2:=hIm.1.2.1
     unfold maxLen at hml2
     go_wp2
     obtain⟨wo,hwo⟩:∃ wo:World,wo=wr:=⟨_,rfl⟩
     subst hwo
     go_loopw [9] (fun i wr=>∃ l:Nat,l≤mmeths.length∧i=.int .i64 l∧Hid (fstOf (Me.tyc mons) mmeths=fstOf (Me.tyc mons) (mmeths.drop l))∧Below W0.heap.size W0 wr)
      (fun i _=>mmeths.length-(intOf i).toNat)
     case atStart=>exact⟨0,by omega,rfl,rfl,hbw⟩
     case round =>
      obtain⟨l,hl,rfl,HQ2,hbv⟩:=hrel
      have hzv:=hbv.size
      have hvF:Below w.heap.size w wr:=hB.trans (hbv.mono (by omega))
      have hv0:Below n₀ w wr:=hvF.mono hn
      have z0:=(hbv.cell (p:=⟨w.heap.size,0,none⟩) (by show w.heap.size<_;omega)).trans s0
      have z1:=(hbv.cell (p:=⟨w.heap.size,1,none⟩) (by show w.heap.size<_;omega)).trans s1
      have z2:=(hbv.cell (p:=⟨kb,_,none⟩) (by show kb<_;omega)).trans c2'
      by_cases hlt2:l<mmeths.length
      ·have hli:(l:Int)<(mmeths.length:Int):=by omega
       rcases hIm.1.2.2 with h|⟨mb,moff,rfl,hmn,hmrow⟩
       ·subst h;simp at hlt2
       have hmn2:mb<wr.heap.size:=by omega
       have HD2:=hid (fstOf_drop (Me.tyc mons) mmeths l hlt2)
       have hmr:=hmrow.below hv0 hmn
       have hq:∀ W,Below wr.heap.size wr W→_:=fun W hW=>H29 mmeths[l].body (hIm.2 _ (List.getElem_mem hlt2)).2.2 (hmgj _ (List.getElem_mem hlt2)) W (hvF.tr le_rfl' hW)
       have HMe:Hid (Me.tyc mons mmeths[l]=mmeths[l].body.tyc mons):=rfl
       obtain⟨u,hu⟩:∃ u,mmeths[l].body.tyc mons=u:=⟨_,rfl⟩
       simp only[hu] at hq
       rw[hu] at HMe
       clear hu
       rcases he':mmeths[l] with ⟨fname,⟨fad,fcap,fbody⟩,fpos⟩
       obtain⟨-,c1,-⟩:=row3 hmr l hlt2 (by rw[he'];rfl)
       simp only[he',Bl.slice] at hq c1
       rw[he'] at HMe
       rw[he'] at HD2
       clear he' H29
       have HK2:Hid (∀ W,Below wr.heap.size wr W→W.cell? ⟨w.heap.size,0,none⟩=some (.slice (some ⟨kb,koff,none⟩) mons.length mcap)∧W.cell? ⟨w.heap.size,1,none⟩=some (.slice rad roles.length rcap)∧W.cell? ⟨kb,koff+j*4+2,none⟩=some (.slice (some ⟨mb,moff,none⟩) mmeths.length mmcap)∧W.cell? ⟨mb,moff+l*3+1,none⟩=some (.slice fad fbody.length fcap)):=fun W hW=>⟨(hW.cell (p:=⟨w.heap.size,0,none⟩) (by show w.heap.size<_;omega)).trans z0,(hW.cell (p:=⟨w.heap.size,1,none⟩) (by show w.heap.size<_;omega)).trans z1,(hW.cell (p:=⟨kb,_,none⟩) (by show kb<_;omega)).trans z2,(hW.cell (p:=⟨mb,_,none⟩) hmn2).trans c1⟩
       have D:=below_drewV (Below.refl wr.heap.size wr)
       clear c1
       rcases u with _|⟨c,a⟩
       ·have hq:=fun W hW=>RoleBack.no (hq W hW) rfl
        go_wp2
        go_region_held3 (fun W=>W.cell? ⟨w.heap.size,0,none⟩=some (.slice (some ⟨kb,koff,none⟩) mons.length mcap)∧W.cell? ⟨w.heap.size,1,none⟩=some (.slice rad roles.length rcap)∧W.cell? ⟨kb,koff+j*4+2,none⟩=some (.slice (some ⟨mb,moff,none⟩) mmeths.length mmcap)∧W.cell? ⟨mb,moff+l*3+1,none⟩=some (.slice fad fbody.length fcap)) (exact HK2.out _ D) (first|(go_at_call 50;(with_reducible refine (hq _ D).mono ?_);rintro r w1 ⟨rfl,bb⟩;have D:=D.tr le_rfl' bb))
        all_goals go_wp2
        all_goals go_roundw
        all_goals first
         | exact⟨l+1,by omega,by go_num,by show _=_;rw[HQ2.out,HD2.out,HMe.out];rfl,hbv.tr le_rfl' D⟩
         | (simp[intOf];omega)
       ·have hq:=fun W hW=>RoleBack.yes2 (hq W hW) rfl
        go_wp2
        go_region_held3 (fun W=>W.cell? ⟨w.heap.size,0,none⟩=some (.slice (some ⟨kb,koff,none⟩) mons.length mcap)∧W.cell? ⟨w.heap.size,1,none⟩=some (.slice rad roles.length rcap)∧W.cell? ⟨kb,koff+j*4+2,none⟩=some (.slice (some ⟨mb,moff,none⟩) mmeths.length mmcap)∧W.cell? ⟨mb,moff+l*3+1,none⟩=some (.slice fad fbody.length fcap)) (exact HK2.out _ D) (first|(go_at_call 50;(with_reducible refine (hq _ D).mono ?_);rintro r w1 ⟨rfl,hcb,bb⟩;have D:=D.tr le_rfl' bb))
        all_goals go_wp2
        all_goals go_ret2
        all_goals exact chkBack_mk (HSO3.out (c,a) (by rw[HQ.out,HD.out,HMU.out,HQ2.out,HD2.out,HMe.out];rfl)) (hvF.tr le_rfl' D)
      ·have hjd:decide ((l:Int)<(mmeths.length:Int))=false:=by simp;omega
       go_wp2
       go_roundw
       case rel=>exact⟨j+1,by omega,by go_num,by show _=_;rw[HQ.out,HD.out,HMU.out,HQ2.out,fstOf_end _ _ _ (by omega)];rfl,hbv⟩
       case measure=>simp[intOf];omega
    ·have hjd:decide ((j:Int)<(mons.length:Int))=false:=by simp;omega
     have HMN:Hid (fstOf (Mo.tyc mons) mons=none):=by show _=_;rw[HQ.out,fstOf_end _ _ _ (by omega)]
     go_wp2
     obtain⟨wo,hwo⟩:∃ wo:World,wo=wr:=⟨_,rfl⟩
     subst hwo
     go_loopw [12] (fun i wr=>∃ l:Nat,l≤roles.length∧i=.int .i64 l∧Hid (fstOf (Ro.tyc mons) roles=fstOf (Ro.tyc mons) (roles.drop l))∧Below W0.heap.size W0 wr)
      (fun i _=>roles.length-(intOf i).toNat)
     case atStart=>exact⟨0,by omega,rfl,rfl,hbw⟩
     case round =>
      obtain⟨l,hl,rfl,HQ2,hbv⟩:=hrel
      have hzv:=hbv.size
      have hvF:Below w.heap.size w wr:=hB.trans (hbv.mono (by omega))
      have hv0:Below n₀ w wr:=hvF.mono hn
      have z0:=(hbv.cell (p:=⟨w.heap.size,0,none⟩) (by show w.heap.size<_;omega)).trans s0
      have z1:=(hbv.cell (p:=⟨w.heap.size,1,none⟩) (by show w.heap.size<_;omega)).trans s1
      by_cases hlt2:l<roles.length
      ·have hli:(l:Int)<(roles.length:Int):=by omega
       rcases h5.2.2 with h|⟨mb,moff,rfl,hmn,hmrow⟩
       ·subst h;simp at hlt2
       have hmn2:mb<wr.heap.size:=by omega
       have HD2:=hid (fstOf_drop (Ro.tyc mons) roles l hlt2)
       have hmr:=hmrow.below hv0 hmn
       have hq:∀ W,Below wr.heap.size wr W→_:=fun W hW=>H29 roles[l].body (h6 _ (List.getElem_mem hlt2)).2.2.2 (hrg _ (List.getElem_mem hlt2)) W (hvF.tr le_rfl' hW)
       have HMe:Hid (Ro.tyc mons roles[l]=roles[l].body.tyc mons):=rfl
       obtain⟨u,hu⟩:∃ u,roles[l].body.tyc mons=u:=⟨_,rfl⟩
       simp only[hu] at hq
       rw[hu] at HMe
       clear hu
       rcases he':roles[l] with ⟨rname,rstar,rcount,⟨fad,fcap,fbody⟩,rpos⟩
       obtain⟨-,-,-,c3,-⟩:=row5 hmr l hlt2 (by rw[he'];rfl)
       simp only[he',Bl.slice] at hq c3
       rw[he'] at HMe
       rw[he'] at HD2
       clear he' H29
       have HK2:Hid (∀ W,Below wr.heap.size wr W→W.cell? ⟨w.heap.size,0,none⟩=some (.slice mad mons.length mcap)∧W.cell? ⟨w.heap.size,1,none⟩=some (.slice (some ⟨mb,moff,none⟩) roles.length rcap)∧W.cell? ⟨mb,moff+l*5+3,none⟩=some (.slice fad fbody.length fcap)):=fun W hW=>⟨(hW.cell (p:=⟨w.heap.size,0,none⟩) (by show w.heap.size<_;omega)).trans z0,(hW.cell (p:=⟨w.heap.size,1,none⟩) (by show w.heap.size<_;omega)).trans z1,(hW.cell (p:=⟨mb,_,none⟩) hmn2).trans c3⟩
       have D:=below_drewV (Below.refl wr.heap.size wr)
       clear c3
       rcases u with _|⟨c,a⟩
       ·have hq:=fun W hW=>RoleBack.no (hq W hW) rfl
        go_wp2
        go_region_held3 (fun W=>W.cell? ⟨w.heap.size,0,none⟩=some (.slice mad mons.length mcap)∧W.cell? ⟨w.heap.size,1,none⟩=some (.slice (some ⟨mb,moff,none⟩) roles.length rcap)∧W.cell? ⟨mb,moff+l*5+3,none⟩=some (.slice fad fbody.length fcap)) (exact HK2.out _ D) (first|(go_at_call 50;(with_reducible refine (hq _ D).mono ?_);rintro r w1 ⟨rfl,bb⟩;have D:=D.tr le_rfl' bb))
        all_goals go_wp2
        all_goals go_roundw
        all_goals first
         | exact⟨l+1,by omega,by go_num,by show _=_;rw[HQ2.out,HD2.out,HMe.out];rfl,hbv.tr le_rfl' D⟩
         | (simp[intOf];omega)
       ·have hq:=fun W hW=>RoleBack.yes2 (hq W hW) rfl
        go_wp2
        go_region_held3 (fun W=>W.cell? ⟨w.heap.size,0,none⟩=some (.slice mad mons.length mcap)∧W.cell? ⟨w.heap.size,1,none⟩=some (.slice (some ⟨mb,moff,none⟩) roles.length rcap)∧W.cell? ⟨mb,moff+l*5+3,none⟩=some (.slice fad fbody.length fcap)) (exact HK2.out _ D) (first|(go_at_call 50;(with_reducible refine (hq _ D).mono ?_);rintro r w1 ⟨rfl,hcb,bb⟩;have D:=D.tr le_rfl' bb))
        all_goals go_wp2
        all_goals go_ret2
        all_goals exact chkBack_mk (HSO3.out (c,a) (by rw[HMN.out,HQ2.out,HD2.out,HMe.out];rfl)) (hvF.tr le_rfl' D)
      ·have hjd2:decide ((l:Int)<(roles.length:Int))=false:=by simp;omega
       go_wp2
       go_ret2
       exact chkBack_mk (HNO3.out (by rw[HMN.out,HQ2.out,fstOf_end _ _ _ (by omega)];rfl)) hvF
end Go.Proofs.YtpbjikncobnkjaaGreatDoor
