/-
  Own texts joined by program: IcA.
-/
import Derived.Test.YtpbjikncobnkjaaGreatDoorIbm
import Derived.Test.YtpbjikncobnkjaaGreatDoorIbn
namespace Go.Proofs.YtpbjikncobnkjaaGreatDoor
open Go.RowKit
def Me.okd (x:Me):Bool:=Lx.name x.name&&x.body.ok
def Mo.okd (m:Mo):Bool:=Lx.name m.name&&decide (m.vars.length≤16)&&decide (m.meths.length≤16)&&m.vars.all Va.ok&&m.meths.all Me.okd
def Ro.okd (r:Ro):Bool:=Lx.name r.name&&!decide (r.count<0)&&!(r.star&&(r.count != 0))&&r.body.ok
theorem all_and {α:Type} (f g:α→Bool) (l:List α):(l.all f&&l.all g)=l.all fun x=>f x&&g x:=by
 induction l with
 | nil=>rfl
 | cons a r ih=>simp only[List.all_cons,← ih];cases f a <;> cases g a <;> simp
theorem pr_ok (p:Pr):p.ok=(decide (p.mons.length≤8)&&decide (p.roles.length≤8)&&p.mons.all Mo.okd&&p.roles.all Ro.okd):=by
 have h1:∀ m:Mo,(m.ok&&(m.meths.flatMap fun x=>x.body.subs).all St.ok1)=m.okd:=fun m=>by
  have h:(m.meths.all (fun x=>Lx.name x.name)&&(m.meths.flatMap fun x=>x.body.subs).all St.ok1)=m.meths.all Me.okd:=by
   rw[List.all_flatMap,all_and];rfl
  rw[Mo.ok,Mo.okd,← h]
  simp only[Bool.and_assoc]
 have h2:∀ r:Ro,(r.ok&&r.body.subs.all St.ok1)=r.okd:=fun r=>by
  rw[Ro.ok,Ro.okd,fitsNum_doc,Bool.not_not]
  simp only[Bool.and_assoc]
  rfl
 have e1:(p.mons.all Mo.ok&&p.mons.all fun m=>(m.meths.flatMap fun x=>x.body.subs).all St.ok1)=p.mons.all Mo.okd:=by
  rw[all_and];congr 1;funext m;exact h1 m
 have e2:(p.roles.all Ro.ok&&p.roles.all fun r=>r.body.subs.all St.ok1)=p.roles.all Ro.okd:=by
  rw[all_and];congr 1;funext r;exact h2 r
 rw[Pr.ok,Pr.decl,Pr.stmts,List.all_append,List.all_flatMap,List.all_flatMap,← e1,← e2]
 simp only[Bool.and_assoc,Bool.and_left_comm]
theorem four4 {W:World} {b:Nat} {c0 c1 c2 c3:Value} {t:TypeId} {z:Nat × Nat} (h:W.heap[b]?=some (.cells #[c0,c1,c2,c3] t z)):W.cell? ⟨b,0,none⟩=some c0∧W.cell? ⟨b,1,none⟩=some c1∧W.cell? ⟨b,2,none⟩=some c2∧W.cell? ⟨b,3,none⟩=some c3:=
 ⟨cell_of' h 0,cell_of' h 1,cell_of' h 2,cell_of' h 3⟩
theorem five5 {W:World} {b:Nat} {c0 c1 c2 c3 c4:Value} {t:TypeId} {z:Nat × Nat} (h:W.heap[b]?=some (.cells #[c0,c1,c2,c3,c4] t z)):W.cell? ⟨b,0,none⟩=some c0∧W.cell? ⟨b,1,none⟩=some c1∧W.cell? ⟨b,2,none⟩=some c2∧W.cell? ⟨b,3,none⟩=some c3∧W.cell? ⟨b,4,none⟩=some c4:=
 ⟨cell_of' h 0,cell_of' h 1,cell_of' h 2,cell_of' h 3,cell_of' h 4⟩
set_option maxRecDepth 100000 in
set_option maxHeartbeats 16000000 in
theorem refIs_any (n₀:Nat) (p:Pr) (w:World) (hn:n₀≤w.heap.size) (hp:p.Is n₀ w) :
  Calls Tryz.prog 28 #[p.val] w fun r w'=>r=.returned (.bool p.ok)∧Below w.heap.size w w':=by
 have HR0:=hid (pr_ok p)
 obtain⟨res,hres⟩:∃ res,p.ok=res:=⟨_,rfl⟩
 rw[hres] at HR0 ⊢
 clear hres
 rcases p with ⟨mad,mcap,mons,rad,rcap,roles⟩
 obtain⟨⟨hM1,hM2⟩,hR1,hR2⟩:=hp
 simp only at hM1 hM2 hR1 hR2
 have HR:Hid (res=(decide (mons.length≤8)&&decide (roles.length≤8)&&mons.all Mo.okd&&roles.all Ro.okd)):=HR0
 clear HR0
 have hl1:=hM1.1;have hl2:=hM1.2.1;have hl3:=hR1.1;have hl4:=hR1.2.1
 unfold maxLen at hl2 hl4
 simp only[Pr.val]
 by_cases x1:8<mons.length
 ·have x1':(8:Int)<(mons.length:Int):=by omega
  have HF:Hid (res=false):=by
   show _=_
   rw[HR.out,decide_eq_false (by omega),Bool.false_and,Bool.false_and,Bool.false_and]
  go_enter Tryz.func28,Tryz.ntmps28
  go_wp2
  go_ret
  exact⟨ret_bool HF.out.symm,(Below.refl _ _).al le_rfl' _⟩
 by_cases x2:8<roles.length
 ·have x1':decide ((8:Int)<(mons.length:Int))=false:=by simp;omega
  have x2':(8:Int)<(roles.length:Int):=by omega
  have HF:Hid (res=false):=by
   show _=_
   rw[HR.out,decide_eq_false (show ¬ roles.length≤8 by omega),Bool.and_false,Bool.false_and,Bool.false_and]
  go_enter Tryz.func28,Tryz.ntmps28
  go_wp2
  go_ret
  exact⟨ret_bool HF.out.symm,(Below.refl _ _).al le_rfl' _⟩
 have x1':decide ((8:Int)<(mons.length:Int))=false:=by simp;omega
 have x2':decide ((8:Int)<(roles.length:Int))=false:=by simp;omega
 have HR:Hid (res=(mons.all Mo.okd&&roles.all Ro.okd)):=by
  show _=_
  rw[HR.out,decide_eq_true (by omega),decide_eq_true (by omega),Bool.true_and,Bool.true_and]
 go_enter Tryz.func28,Tryz.ntmps28
 go_wp2
 go_loopw [3] (fun i wr=>∃ j:Nat,j≤mons.length∧i=.int .i64 j∧Hid ((mons.take j).all Mo.okd=true)∧Below (w.heap.size+1) (w.alloc (.cells #[.slice mad mons.length mcap,.slice rad roles.length rcap] 25)) wr)
  (fun i _=>mons.length-(intOf i).toNat)
 case atStart=>exact⟨0,by omega,rfl,rfl,Below.refl _ _⟩
 case round =>
  obtain⟨wo,hwo⟩:∃ wo:World,wo=wr:=⟨_,rfl⟩
  subst hwo
  obtain⟨j,hj,rfl,HA,hbw⟩:=hrel
  have hz:=hbw.size
  simp at hz
  have hbF:Below w.heap.size w wo:=((Below.refl _ w).al le_rfl' _).trans (hbw.mono (by omega))
  have hb0:Below n₀ w wo:=hbF.mono hn
  have p0:wo.cell? ⟨w.heap.size,0,none⟩=some (.slice mad mons.length mcap):=(hbw.cell (p:=⟨w.heap.size,0,none⟩) (by simp)).trans (cell_of' (World.alloc_heap_new w _) 0)
  have p1:wo.cell? ⟨w.heap.size,1,none⟩=some (.slice rad roles.length rcap):=(hbw.cell (p:=⟨w.heap.size,1,none⟩) (by simp)).trans (cell_of' (World.alloc_heap_new w _) 1)
  have lw:w.heap.size<wo.heap.size:=by omega
  by_cases hlt:j<mons.length
  ·rcases hM1.2.2 with h|⟨b,off,rfl,hbn,hrow⟩
   ·subst h;simp at hlt
   have hbn2:b<wo.heap.size:=by omega
   have hr:=hrow.below hb0 hbn
   have hIj:=(hM2 _ (List.getElem_mem hlt)).below hb0
   have HX:Hid (mons[j].okd=false→res=false):=fun h=>by
    rw[HR.out,allL_cut Mo.okd mons j hlt h,Bool.false_and]
   have HY:Hid (mons[j].okd=true→(mons.take (j+1)).all Mo.okd=true):=fun h=>by
    rw[allL_snoc Mo.okd mons j hlt,HA.out,h];rfl
   rcases he:mons[j] with ⟨mname,vad,vcap,vars,xad,xcap,meths,mpos⟩
   obtain⟨c0,c1,c2,c3⟩:=row4 hr j hlt (by rw[he];rfl)
   rw[he] at hIj HX HY
   clear he
   have HO:Hid (Mo.okd ⟨mname,vad,vcap,vars,xad,xcap,meths,mpos⟩=(Lx.name mname&&decide (vars.length≤16)&&decide (meths.length≤16)&&vars.all Va.ok&&meths.all Me.okd)):=rfl
   obtain⟨⟨hI1,hI2⟩,⟨hI3,hI4⟩,hI5,hI6⟩:=hIj
   simp only at hI1 hI2 hI3 hI4 hI5 hI6
   have hv1:=hI3.1;have hv2:=hI3.2.1;have hm1:=hI5.1;have hm2:=hI5.2.1
   unfold maxLen at hv2 hm2
   unfold Len at hI1
   have hMB:(wo.alloc (.cells #[.string mname,.slice vad vars.length vcap,.slice xad meths.length xcap,.int .i64 mpos] 52)).heap[wo.heap.size]?=some (.cells #[.string mname,.slice vad vars.length vcap,.slice xad meths.length xcap,.int .i64 mpos] 52 (0,0)):=World.alloc_heap_new wo _
   have hC:=refName_any mname (wo.alloc (.cells #[.string mname,.slice vad vars.length vcap,.slice xad meths.length xcap,.int .i64 mpos] 52)) hI1
   cases hnm:Lx.name mname
   ·rw[hnm] at hC
    go_wp2_with (go_at_call 52;refine hC.mono ?_;rintro r w1 ⟨rfl,bb1⟩)
    go_ret
    exact⟨ret_bool (HX.out (by rw[HO.out,hnm];rfl)).symm,(hbF.al le_rfl' _).tr le_rfl' bb1⟩
   rw[hnm] at hC
   by_cases y1:16<vars.length
   ·have y1':(16:Int)<(vars.length:Int):=by omega
    go_wp2_with (go_at_call 52;refine hC.mono ?_;rintro r w1 ⟨rfl,bb1⟩;obtain⟨a0,a1,a2,a3⟩:=four4 ((bb1.block wo.heap.size (by simp)).trans hMB))
    go_ret
    exact⟨ret_bool (HX.out (by rw[HO.out,hnm,decide_eq_false (by omega)];rfl)).symm,(hbF.al le_rfl' _).tr le_rfl' bb1⟩
   have y1':decide ((16:Int)<(vars.length:Int))=false:=by simp;omega
   by_cases y2:16<meths.length
   ·have y2':(16:Int)<(meths.length:Int):=by omega
    go_wp2_with (go_at_call 52;refine hC.mono ?_;rintro r w1 ⟨rfl,bb1⟩;obtain⟨a0,a1,a2,a3⟩:=four4 ((bb1.block wo.heap.size (by simp)).trans hMB))
    go_ret
    exact⟨ret_bool (HX.out (by rw[HO.out,hnm,decide_eq_false (show ¬ meths.length≤16 by omega)];simp)).symm,(hbF.al le_rfl' _).tr le_rfl' bb1⟩
   have y2':decide ((16:Int)<(meths.length:Int))=false:=by simp;omega
   have HO:Hid (Mo.okd ⟨mname,vad,vcap,vars,xad,xcap,meths,mpos⟩=(vars.all Va.ok&&meths.all Me.okd)):=by
    show _=_
    rw[HO.out,hnm,decide_eq_true (by omega),decide_eq_true (by omega)];rfl
   go_wp2_with (go_at_call 52;refine hC.mono ?_;rintro r w1 ⟨rfl,bb1⟩;obtain⟨a0,a1,a2,a3⟩:=four4 ((bb1.block wo.heap.size (by simp)).trans hMB))
   clear c0 c1 c2 c3 a0 a1 a2 a3 hC
   go_loopw [5] (fun i wr=>∃ k:Nat,k≤vars.length∧i=.int .i64 k∧Hid ((vars.take k).all Va.ok=true)∧Below (wo.heap.size+1) (wo.alloc (.cells #[.string mname,.slice vad vars.length vcap,.slice xad meths.length xcap,.int .i64 mpos] 52)) wr)
    (fun i _=>vars.length-(intOf i).toNat)
   case atStart=>exact⟨0,by omega,rfl,rfl,bb1.mono (by simp)⟩
   case round =>
    obtain⟨wv,hwv⟩:∃ wv:World,wv=wr:=⟨_,rfl⟩
    subst hwv
    obtain⟨k,hk,rfl,HV,hbv⟩:=hrel
    have hzv:=hbv.size
    simp at hzv
    have hbG:Below wo.heap.size wo wv:=((Below.refl _ wo).al le_rfl' _).trans (hbv.mono (by omega))
    have lv:wo.heap.size<wv.heap.size:=by omega
    have hMv:=(hbv.block wo.heap.size (by omega)).trans hMB
    obtain⟨m0,m1,m2,m3⟩:=four4 hMv
    by_cases hltv:k<vars.length
    ·rcases hI3.2.2 with h|⟨b2,off2,rfl,hbn3,hrow2⟩
     ·subst h;simp at hltv
     have hb2:b2<wv.heap.size:=by omega
     have hr2:=hrow2.below (hbG.mono (by omega)) hbn3
     have HVS:=hid (allL_snoc Va.ok vars k hltv)
     have HVC:=hid (fun h=>allL_cut Va.ok vars k hltv h)
     have hq:=refIsVar_any vars[k] wv (hI4 _ (List.getElem_mem hltv))
     obtain⟨vo,hvo⟩:∃ vo,vars[k].ok=vo:=⟨_,rfl⟩
     rw[hvo] at hq HVS
     have HVO:=hid hvo
     clear hvo
     rcases he:vars[k] with ⟨vn,vt,vlo,vhi,vi,vp⟩
     obtain⟨d0,d1,d2,d3,d4,d5⟩:=row6 hr2 k hltv (by rw[he];rfl)
     simp only[he,Va.val,Va.cells] at hq
     clear he
     cases vo
     ·go_wp2_with (go_at_call 53;refine hq.mono ?_;rintro r w2 ⟨rfl,bb2⟩)
      go_ret
      exact⟨ret_bool (HX.out (by rw[HO.out,HVC.out HVO.out,Bool.false_and])).symm,hbF.tr le_rfl' (hbG.tr le_rfl' bb2)⟩
     ·go_wp2_with (go_at_call 53;refine hq.mono ?_;rintro r w2 ⟨rfl,bb2⟩)
      go_roundw
      case rel=>exact⟨k+1,by omega,by go_num,by show _=_;rw[HVS.out,HV.out];rfl,hbv.tr (by simp) bb2⟩
      case measure=>simp[intOf];omega
    ·have hkd:decide ((k:Int)<(vars.length:Int))=false:=by simp;omega
     have HO:Hid (Mo.okd ⟨mname,vad,vcap,vars,xad,xcap,meths,mpos⟩=meths.all Me.okd):=by
      show _=_
      have h1:=HV.out
      rw[List.take_of_length_le (by omega)] at h1
      rw[HO.out,h1,Bool.true_and]
     go_wp2
     go_loopw [6] (fun i wr=>∃ k2:Nat,k2≤meths.length∧i=.int .i64 k2∧Hid ((meths.take k2).all Me.okd=true)∧Below wv.heap.size wv wr)
      (fun i _=>meths.length-(intOf i).toNat)
     case atStart=>exact⟨0,by omega,rfl,rfl,Below.refl _ _⟩
     case round =>
      obtain⟨wm,hwm⟩:∃ wm:World,wm=wr:=⟨_,rfl⟩
      subst hwm
      obtain⟨k2,hk2,rfl,HM,hbm⟩:=hrel
      have hzm:=hbm.size
      have hMm:=(hbm.block wo.heap.size lv).trans hMv
      obtain⟨n0,n1,n2,n3⟩:=four4 hMm
      have lv2:wo.heap.size<wm.heap.size:=by omega
      have hbH:=hbG.tr le_rfl' hbm
      by_cases hltm:k2<meths.length
      ·rcases hI5.2.2 with h|⟨b2,off2,rfl,hbn3,hrow2⟩
       ·subst h;simp at hltm
       have hb2:b2<wm.heap.size:=by omega
       have hr2:=hrow2.below (hbH.mono (by omega)) hbn3
       have hMI:=(hI6 _ (List.getElem_mem hltm)).below (hbH.mono (by omega:n₀≤wo.heap.size))
       have HMS:=hid (allL_snoc Me.okd meths k2 hltm)
       have HMC:=hid (fun h=>allL_cut Me.okd meths k2 hltm h)
       rcases he:meths[k2] with ⟨xn,xb,xp⟩
       rw[he] at HMS HMC hMI
       have HQ:Hid (Me.okd ⟨xn,xb,xp⟩=(Lx.name xn&&xb.ok)):=rfl
       have hq:=fun W (hW:Below wm.heap.size wm W)=>refIsStmts_any n₀ xb W (by have:=hW.size;omega) (hMI.2.2.below (hW.mono (by omega)))
       have hL:=hMI.1
       simp only at hL
       unfold Len at hL
       obtain⟨d0,d1,d2⟩:=row3 hr2 k2 hltm (by rw[he];rfl)
       clear he hMI
       have hrm:=hr2
       obtain⟨bo,hbo⟩:∃ bo,xb.ok=bo:=⟨_,rfl⟩
       rw[hbo] at HQ
       simp only[hbo] at hq
       clear hbo
       rcases xb with ⟨bad,bcap,bbody⟩
       simp only[Bl.slice] at hq d1
       have hC:=refName_any xn wm hL
       cases hnx:Lx.name xn
       ·rw[hnx] at hC
        go_wp2_with (go_at_call 52;refine hC.mono ?_;rintro r w2 ⟨rfl,bb2⟩)
        go_ret
        exact⟨ret_bool (HX.out (by rw[HO.out,HMC.out (by rw[HQ.out,hnx];rfl)])).symm,hbF.tr le_rfl' (hbH.tr le_rfl' bb2)⟩
       ·rw[hnx] at hC
        cases bo
        ·go_wp2_with (first|(go_at_call 52;refine hC.mono ?_;rintro r w2 ⟨rfl,bb2⟩;obtain⟨s0,s1,s2,s3⟩:=four4 ((bb2.block wo.heap.size lv2).trans hMm);have e1:w2.cell? ⟨b2,off2+k2*3+1,none⟩=some (.slice bad bbody.length bcap):=(bb2.cell (p:=⟨b2,off2+k2*3+1,none⟩) hb2).trans d1;have hb3:b2<w2.heap.size:=Nat.lt_of_lt_of_le hb2 bb2.size)|(go_at_call 29;refine (hq _ bb2).mono ?_;rintro r w3 ⟨rfl,bb3⟩))
         go_ret
         exact⟨ret_bool (HX.out (by rw[HO.out,HMC.out (by rw[HQ.out,hnx];rfl)])).symm,hbF.tr le_rfl' (hbH.tr le_rfl' (bb2.tr le_rfl' bb3))⟩
        ·go_wp2_with (first|(go_at_call 52;refine hC.mono ?_;rintro r w2 ⟨rfl,bb2⟩;obtain⟨s0,s1,s2,s3⟩:=four4 ((bb2.block wo.heap.size lv2).trans hMm);have e1:w2.cell? ⟨b2,off2+k2*3+1,none⟩=some (.slice bad bbody.length bcap):=(bb2.cell (p:=⟨b2,off2+k2*3+1,none⟩) hb2).trans d1;have hb3:b2<w2.heap.size:=Nat.lt_of_lt_of_le hb2 bb2.size)|(go_at_call 29;refine (hq _ bb2).mono ?_;rintro r w3 ⟨rfl,bb3⟩))
         go_roundw
         case rel=>exact⟨k2+1,by omega,by go_num,by show _=_;rw[HMS.out,HM.out,HQ.out,hnx];rfl,hbm.tr le_rfl' (bb2.tr le_rfl' bb3)⟩
         case measure=>simp[intOf];omega
      ·have hkd2:decide ((k2:Int)<(meths.length:Int))=false:=by simp;omega
       go_wp2
       go_roundw
       case rel =>
        refine⟨j+1,by omega,by go_num,HY.out ?_,hbw.tr (by simp) hbH⟩
        have h1:=HM.out
        rw[List.take_of_length_le (by omega)] at h1
        rw[HO.out,h1]
       case measure=>simp[intOf];omega
  ·have hjd:decide ((j:Int)<(mons.length:Int))=false:=by simp;omega
   have HR:Hid (res=roles.all Ro.okd):=by
    show _=_
    have h1:=HA.out
    rw[List.take_of_length_le (by omega)] at h1
    rw[HR.out,h1,Bool.true_and]
   go_wp2
   go_loopw [7] (fun i wr=>∃ k2:Nat,k2≤roles.length∧i=.int .i64 k2∧Hid ((roles.take k2).all Ro.okd=true)∧Below wo.heap.size wo wr)
    (fun i _=>roles.length-(intOf i).toNat)
   case atStart=>exact⟨0,by omega,rfl,rfl,Below.refl _ _⟩
   case round =>
    obtain⟨wm,hwm⟩:∃ wm:World,wm=wr:=⟨_,rfl⟩
    subst hwm
    obtain⟨k2,hk2,rfl,HM,hbm⟩:=hrel
    have hzm:=hbm.size
    have p1':wm.cell? ⟨w.heap.size,1,none⟩=some (.slice rad roles.length rcap):=(hbm.cell (p:=⟨w.heap.size,1,none⟩) lw).trans p1
    have lw2:w.heap.size<wm.heap.size:=by omega
    have hbH:=hbF.tr le_rfl' hbm
    by_cases hltm:k2<roles.length
    ·rcases hR1.2.2 with h|⟨b2,off2,rfl,hbn3,hrow2⟩
     ·subst h;simp at hltm
     have hb2:b2<wm.heap.size:=by omega
     have hr2:=hrow2.below (hbH.mono hn) hbn3
     have hMI:=(hR2 _ (List.getElem_mem hltm)).below (hbH.mono hn)
     have HMS:=hid (allL_snoc Ro.okd roles k2 hltm)
     have HMC:Hid (roles[k2].okd=false→res=false):=fun h=>by rw[HR.out];exact allL_cut Ro.okd roles k2 hltm h
     rcases he:roles[k2] with ⟨xn,xs,xc,xb,xp⟩
     rw[he] at HMS HMC hMI
     have HQ:Hid (Ro.okd ⟨xn,xs,xc,xb,xp⟩=(Lx.name xn&&!decide (xc<0)&&!(xs&&(xc != 0))&&xb.ok)):=rfl
     have hL:=hMI.1
     have hbI:=hMI.2.2.2
     simp only at hL hbI
     unfold Len at hL
     have hq:=fun W (hW:Below (wm.heap.size+1) (wm.alloc (.cells #[.string xn,.bool xs,.int .i64 xc,xb.slice,.int .i64 xp] 58)) W)=>refIsStmts_any n₀ xb W (by have:=hW.size;simp at this;omega) (hbI.below (((Below.refl n₀ wm).al (by omega) _).trans (hW.mono (by omega))))
     obtain⟨d0,d1,d2,d3,d4⟩:=row5 hr2 k2 hltm (by rw[he];rfl)
     clear he hMI hbI
     obtain⟨bo,hbo⟩:∃ bo,xb.ok=bo:=⟨_,rfl⟩
     rw[hbo] at HQ
     simp only[hbo] at hq
     clear hbo
     rcases xb with ⟨bad,bcap,bbody⟩
     simp only[Bl.slice] at hq d3
     have hRB:(wm.alloc (.cells #[.string xn,.bool xs,.int .i64 xc,.slice bad bbody.length bcap,.int .i64 xp] 58)).heap[wm.heap.size]?=some (.cells #[.string xn,.bool xs,.int .i64 xc,.slice bad bbody.length bcap,.int .i64 xp] 58 (0,0)):=World.alloc_heap_new wm _
     have hC:=refName_any xn (wm.alloc (.cells #[.string xn,.bool xs,.int .i64 xc,.slice bad bbody.length bcap,.int .i64 xp] 58)) hL
     have hBR:Below w.heap.size w (wm.alloc (.cells #[.string xn,.bool xs,.int .i64 xc,.slice bad bbody.length bcap,.int .i64 xp] 58)):=hbH.al le_rfl' _
     have hBM:=hbm.al le_rfl' (.cells #[.string xn,.bool xs,.int .i64 xc,.slice bad bbody.length bcap,.int .i64 xp] 58)
     cases hnx:Lx.name xn
     ·rw[hnx] at hC
      go_wp2_with (go_at_call 52;refine hC.mono ?_;rintro r w2 ⟨rfl,bb2⟩)
      go_ret
      exact⟨ret_bool (HMC.out (by rw[HQ.out,hnx];rfl)).symm,hBR.tr le_rfl' bb2⟩
     rw[hnx] at hC
     by_cases z1:xc<0
     ·go_wp2_with (go_at_call 52;refine hC.mono ?_;rintro r w2 ⟨rfl,bb2⟩;obtain⟨s0,s1,s2,s3,s4⟩:=five5 ((bb2.block wm.heap.size (by simp)).trans hRB))
      go_ret
      exact⟨ret_bool (HMC.out (by rw[HQ.out,hnx,decide_eq_true z1];rfl)).symm,hBR.tr le_rfl' bb2⟩
     have z1':decide (xc<0)=false:=by simpa using z1
     cases xs
     ·cases bo
      ·go_wp2_with (first|(go_at_call 52;refine hC.mono ?_;rintro r w2 ⟨rfl,bb2⟩;obtain⟨s0,s1,s2,s3,s4⟩:=five5 ((bb2.block wm.heap.size (by simp)).trans hRB))|(go_at_call 29;refine (hq _ (bb2.mono (by simp))).mono ?_;rintro r w3 ⟨rfl,bb3⟩))
       go_ret
       exact⟨ret_bool (HMC.out (by rw[HQ.out,Bool.and_false])).symm,hBR.tr le_rfl' (bb2.tr le_rfl' bb3)⟩
      ·go_wp2_with (first|(go_at_call 52;refine hC.mono ?_;rintro r w2 ⟨rfl,bb2⟩;obtain⟨s0,s1,s2,s3,s4⟩:=five5 ((bb2.block wm.heap.size (by simp)).trans hRB))|(go_at_call 29;refine (hq _ (bb2.mono (by simp))).mono ?_;rintro r w3 ⟨rfl,bb3⟩))
       go_roundw
       case rel=>exact⟨k2+1,by omega,by go_num,by show _=_;rw[HMS.out,HM.out,HQ.out,hnx,z1'];rfl,hBM.tr le_rfl' (bb2.tr le_rfl' bb3)⟩
       case measure=>simp[intOf];omega
     ·cases hne:(xc != 0)
      ·cases bo
       ·go_wp2_with (first|(go_at_call 52;refine hC.mono ?_;rintro r w2 ⟨rfl,bb2⟩;obtain⟨s0,s1,s2,s3,s4⟩:=five5 ((bb2.block wm.heap.size (by simp)).trans hRB))|(go_at_call 29;refine (hq _ (bb2.mono (by simp))).mono ?_;rintro r w3 ⟨rfl,bb3⟩))
        go_ret
        exact⟨ret_bool (HMC.out (by rw[HQ.out,Bool.and_false])).symm,hBR.tr le_rfl' (bb2.tr le_rfl' bb3)⟩
       ·go_wp2_with (first|(go_at_call 52;refine hC.mono ?_;rintro r w2 ⟨rfl,bb2⟩;obtain⟨s0,s1,s2,s3,s4⟩:=five5 ((bb2.block wm.heap.size (by simp)).trans hRB))|(go_at_call 29;refine (hq _ (bb2.mono (by simp))).mono ?_;rintro r w3 ⟨rfl,bb3⟩))
        go_roundw
        case rel=>exact⟨k2+1,by omega,by go_num,by show _=_;rw[HMS.out,HM.out,HQ.out,hnx,z1',hne];rfl,hBM.tr le_rfl' (bb2.tr le_rfl' bb3)⟩
        case measure=>simp[intOf];omega
      ·go_wp2_with (go_at_call 52;refine hC.mono ?_;rintro r w2 ⟨rfl,bb2⟩;obtain⟨s0,s1,s2,s3,s4⟩:=five5 ((bb2.block wm.heap.size (by simp)).trans hRB))
       go_ret
       exact⟨ret_bool (HMC.out (by rw[HQ.out,hne];simp)).symm,hBR.tr le_rfl' bb2⟩
    ·have hkd2:decide ((k2:Int)<(roles.length:Int))=false:=by simp;omega
     go_wp2
     go_ret
     refine⟨ret_bool ?_,hbH⟩
     have h1:=HM.out
     rw[List.take_of_length_le (by omega)] at h1
     rw[HR.out,h1]
end Go.Proofs.YtpbjikncobnkjaaGreatDoor
