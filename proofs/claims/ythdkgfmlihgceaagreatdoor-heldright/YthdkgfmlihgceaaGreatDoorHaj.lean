import Derived.Test.YthdkgfmlihgceaaGreatDoorHai
namespace Go.Proofs.YthdkgfmlihgceaaGreatDoor
set_option maxRecDepth 100000
set_option maxHeartbeats 16000000
open Go.RowKit
def Me.bsz (x:Me):Nat:=x.body.sz
def Ro.bsz (x:Ro):Nat:=x.body.sz
def Mo.msz (m:Mo):Nat:=(m.meths.map Me.bsz).sum
theorem qAn (p:Pr):p.size=(p.mons.map Mo.msz).sum+(p.roles.map Ro.bsz).sum:=by
 have h1:∀l:List Me,((l.flatMap λx=>x.body.subs).map St.sz).sum=(l.map Me.bsz).sum:=λl=>by
  induction l with
  | nil=>rfl
  | cons a r ih=>rw[List.flatMap_cons,List.map_append,List.sum_append,ih];rfl
 have h2:∀l:List Mo,((l.flatMap λm=>m.meths.flatMap λx=>x.body.subs).map St.sz).sum=(l.map Mo.msz).sum:=λl=>by
  induction l with
  | nil=>rfl
  | cons a r ih=>rw[List.flatMap_cons,List.map_append,List.sum_append,ih,h1];rfl
 have h3:∀l:List Ro,((l.flatMap λr=>r.body.subs).map St.sz).sum=(l.map Ro.bsz).sum:=λl=>by
  induction l with
  | nil=>rfl
  | cons a r ih=>rw[List.flatMap_cons,List.map_append,List.sum_append,ih];rfl
 rw[Pr.size,Pr.stmts,List.map_append,List.sum_append,h2,h3]
def qhh (p:Pr) (w w':World) (r:Ending):Prop:=∃c:Bool,r=.returned (.bool c)/\(c=true->p.size<=400/\p.mons.length<=20/\∀m∈p.mons,m.vars.length<=40)/\Below w.heap.size w w'
theorem qbk {p:Pr}{w w':World}(hb:Below w.heap.size w w'):qhh p w w' (.returned (.bool false)):=⟨false,rfl,(λh=>Bool.noConfusion h),hb⟩
theorem qmg {p:Pr}{w w':World}(c:Bool) (hc:c=true->p.size<=400/\p.mons.length<=20/\∀m∈p.mons,m.vars.length<=40) (h:Below w.heap.size w w'):qhh p w w' (.returned (.bool c)):=⟨c,rfl,hc,h⟩
open Go.RowKit
theorem qrh (nz:Nat) (p:Pr) (w:World) (hn:nz<=w.heap.size) (hp:p.Is nz w) :
  Calls Tryz.prog 4 #[p.val,.int .i64 400] w λr w'=>qhh p w w' r:=by
 have HR:=hid (qAn p)
 rcases p with ⟨mad,mcap,mons,rad,rcap,roles⟩
 obtain⟨⟨hM1,hM2⟩,hR1,hR2⟩:=hp
 simp only at hM1 hM2 hR1 hR2
 have hl1:=hM1.1;have hl2:=hM1.2.1;have hl3:=hR1.1;have hl4:=hR1.2.1
 unfold maxLen at hl2 hl4
 simp only[Pr.val]
 have HR:Hid (Pr.size ⟨mad,mcap,mons,rad,rcap,roles⟩=(mons.map Mo.msz).sum+(roles.map Ro.bsz).sum):=HR
 by_cases x1:20<mons.length
 ·have x1':(20:Int)<(mons.length:Int):=by omega
  go_enter Tryz.func4,Tryz.ntmps4
  go_wp2
  go_ret
  exact qbk ((Below.refl _ _).al qaa _)
 by_cases x2:20<roles.length
 ·have x1':decide ((20:Int)<(mons.length:Int))=false:=by simp;omega
  have x2':(20:Int)<(roles.length:Int):=by omega
  go_enter Tryz.func4,Tryz.ntmps4
  go_wp2
  go_ret
  exact qbk ((Below.refl _ _).al qaa _)
 have x1':decide ((20:Int)<(mons.length:Int))=false:=by simp;omega
 have x2':decide ((20:Int)<(roles.length:Int))=false:=by simp;omega
 go_enter Tryz.func4,Tryz.ntmps4
 go_wp2
 go_loopw [5,6] (λv i wr=>∃(j:Nat) (c:Int),j<=mons.length/\v=.int .i64 c/\i=.int .i64 j/\-1<=c/\c<=400/\Hid (0<=c->(((mons.take j).map Mo.msz).sum:Int)<=400-c)/\Hid (∀m∈mons.take j,m.vars.length<=40)/\Below (w.heap.size+1) (w.alloc (.cells #[.slice mad mons.length mcap,.slice rad roles.length rcap] 25)) wr)
  (λ_ i _=>mons.length-(intOf i).toNat)
 case atStart=>exact⟨0,400,by omega,rfl,rfl,by omega,by omega,λ_=>by simp,(λm hm=>by simp at hm),Below.refl _ _⟩
 case round =>
  obtain⟨wo,hwo⟩:∃wo:World,wo=wr:=⟨_,rfl⟩
  subst hwo
  obtain⟨j,c,hj,rfl,rfl,hc0,hc1,HA,HV,hbw⟩:=hrel
  have hz:=hbw.size
  simp at hz
  have hbF:Below w.heap.size w wo:=((Below.refl _ w).al qaa _).trans (hbw.mono (by omega))
  have hb0:Below nz w wo:=hbF.mono hn
  have p0:wo.cell? ⟨w.heap.size,0,none⟩=some (.slice mad mons.length mcap):=(hbw.cell (p:=⟨w.heap.size,0,none⟩) (by simp)).trans (qfj (World.alloc_heap_new w _) 0)
  have p1:wo.cell? ⟨w.heap.size,1,none⟩=some (.slice rad roles.length rcap):=(hbw.cell (p:=⟨w.heap.size,1,none⟩) (by simp)).trans (qfj (World.alloc_heap_new w _) 1)
  have lw:w.heap.size<wo.heap.size:=by omega
  by_cases hlt:j<mons.length
  ·rcases hM1.2.2 with h|⟨b,off,rfl,hbn,hrow⟩
   ·subst h;simp at hlt
   have hbn2:b<wo.heap.size:=by omega
   have hr:=hrow.below hb0 hbn
   have hIj:=(hM2 _ (List.getElem_mem hlt)).below hb0
   have HS:=hid (qf1 Mo.msz mons j hlt)
   have HX:Hid (mons[j].vars.length<=40->∀m∈mons.take (j+1),m.vars.length<=40):=λh m hm=>by
    rw[List.take_succ_eq_append_getElem hlt] at hm
    rcases List.mem_append.1 hm with hm|hm
    ·exact HV.out m hm
    ·rw[List.mem_singleton.1 hm];exact h
   rcases he:mons[j] with ⟨mname,vad,vcap,vars,xad,xcap,meths,mpos⟩
   obtain⟨c0,c1,c2,c3⟩:=qra hr j hlt (by rw[he];rfl)
   rw[he] at hIj HS
   rw[he] at HX
   simp only at HX
   clear he
   obtain⟨⟨hI1,hI2⟩,⟨hI3,hI4⟩,hI5,hI6⟩:=hIj
   simp only at hI1 hI2 hI3 hI4 hI5 hI6
   have hv1:=hI3.1;have hv2:=hI3.2.1;have hm1:=hI5.1;have hm2:=hI5.2.1
   unfold maxLen at hv2 hm2
   unfold Len at hI1
   by_cases y1:40<vars.length
   ·have y1':(40:Int)<(vars.length:Int):=by omega
    go_wp2
    go_ret
    exact qbk (hbF.al qaa _)
   by_cases y2:40<meths.length
   ·have y1':decide ((40:Int)<(vars.length:Int))=false:=by simp;omega
    have y2':(40:Int)<(meths.length:Int):=by omega
    go_wp2
    go_ret
    exact qbk (hbF.al qaa _)
   by_cases y3:200<mname.size
   ·have y1':decide ((40:Int)<(vars.length:Int))=false:=by simp;omega
    have y2':decide ((40:Int)<(meths.length:Int))=false:=by simp;omega
    have y3':(200:Int)<(mname.size:Int):=by omega
    go_wp2
    go_ret
    exact qbk (hbF.al qaa _)
   have y1':decide ((40:Int)<(vars.length:Int))=false:=by simp;omega
   have y2':decide ((40:Int)<(meths.length:Int))=false:=by simp;omega
   have y3':decide ((200:Int)<(mname.size:Int))=false:=by simp;omega
   go_wp2
   clear c0 c1 c2 c3
   go_loopw [8] (λi wr=>∃k:Nat,k<=vars.length/\i=.int .i64 k/\Below (wo.heap.size+1) (wo.alloc (.cells #[.string mname,.slice vad vars.length vcap,.slice xad meths.length xcap,.int .i64 mpos] 36)) wr)
    (λi _=>vars.length-(intOf i).toNat)
   case atStart=>exact⟨0,by omega,rfl,Below.refl _ _⟩
   case round =>
    obtain⟨wv,hwv⟩:∃wv:World,wv=wr:=⟨_,rfl⟩
    subst hwv
    obtain⟨k,hk,rfl,hbv⟩:=hrel
    have hzv:=hbv.size
    simp at hzv
    have hbG:Below wo.heap.size wo wv:=((Below.refl _ wo).al qaa _).trans (hbv.mono (by omega))
    have m1:wv.cell? ⟨wo.heap.size,1,none⟩=some (.slice vad vars.length vcap):=(hbv.cell (p:=⟨wo.heap.size,1,none⟩) (by simp)).trans (qfj (World.alloc_heap_new wo _) 1)
    have m2:wv.cell? ⟨wo.heap.size,2,none⟩=some (.slice xad meths.length xcap):=(hbv.cell (p:=⟨wo.heap.size,2,none⟩) (by simp)).trans (qfj (World.alloc_heap_new wo _) 2)
    have lv:wo.heap.size<wv.heap.size:=by omega
    by_cases hltv:k<vars.length
    ·rcases hI3.2.2 with h|⟨b2,off2,rfl,hbn3,hrow2⟩
     ·subst h;simp at hltv
     have hb2:b2<wv.heap.size:=by omega
     have hr2:=hrow2.below (hbG.mono (by omega)) hbn3
     rcases he:vars[k] with ⟨vn,vt,vlo,vhi,vi,vp⟩
     obtain⟨d0,d1,d2,d3,d4,d5⟩:=qkt hr2 k hltv (by rw[he];rfl)
     have hL:=(hI4 _ (List.getElem_mem hltv)).1
     rw[he] at hL
     simp only at hL
     unfold Len at hL
     clear he
     by_cases z1:200<vn.size
     ·have z1':(200:Int)<(vn.size:Int):=by omega
      go_wp2
      go_ret
      exact qbk (hbF.tr qaa hbG)
     ·have z1':decide ((200:Int)<(vn.size:Int))=false:=by simp;omega
      go_wp2
      go_roundw
      case rel=>exact⟨k+1,by omega,by go_num,hbv⟩
      case measure=>simp[intOf];omega
    ·have hkd:decide ((k:Int)<(vars.length:Int))=false:=by simp;omega
     go_wp2
     go_loopw [5,9] (λv i wr=>∃(k2:Nat) (d:Int),k2<=meths.length/\v=.int .i64 d/\i=.int .i64 k2/\-1<=d/\d<=400/\Hid (0<=d->(((mons.take j).map Mo.msz).sum:Int)+(((meths.take k2).map Me.bsz).sum:Int)<=400-d)/\Below wv.heap.size wv wr)
      (λ_ i _=>meths.length-(intOf i).toNat)
     case atStart=>exact⟨0,c,by omega,rfl,rfl,by omega,by omega,λh=>by have:=HA.out h;simp only[List.take_zero,List.map_nil,List.sum_nil];omega,Below.refl _ _⟩
     case round =>
      obtain⟨k2,d,hk2,rfl,rfl,hd0,hd1,HM,hbm⟩:=hrel
      have hzm:=hbm.size
      have m2':wr.cell? ⟨wo.heap.size,2,none⟩=some (.slice xad meths.length xcap):=(hbm.cell (p:=⟨wo.heap.size,2,none⟩) lv).trans m2
      have lv2:wo.heap.size<wr.heap.size:=by omega
      have hbH:=hbG.tr qaa hbm
      by_cases hltm:k2<meths.length
      ·rcases hI5.2.2 with h|⟨b2,off2,rfl,hbn3,hrow2⟩
       ·subst h;simp at hltm
       have hb2:b2<wr.heap.size:=by omega
       have hr2:=hrow2.below (hbH.mono (by omega)) hbn3
       have hMI:=(hI6 _ (List.getElem_mem hltm)).below (hbH.mono (by omega:nz<=wo.heap.size))
       have HS2:=hid (qf1 Me.bsz meths k2 hltm)
       rcases he:meths[k2] with ⟨xn,xb,xp⟩
       have hq:=qpb nz xb d wr (by omega) (by omega) (by omega) (by have:=hMI.2.2;rw[he] at this;exact this)
       rw[he] at HS2 hMI
       have hL:=hMI.1
       simp only[Me.bsz] at hL HS2
       unfold Len at hL
       obtain⟨d0,d1,d2⟩:=qun hr2 k2 hltm (by rw[he];rfl)
       clear he hMI
       rcases xb with ⟨bad,bcap,bbody⟩
       simp only[Bl.slice] at hq d1
       by_cases z1:200<xn.size
       ·have z1':(200:Int)<(xn.size:Int):=by omega
        go_wp2
        go_ret
        exact qbk (hbF.tr qaa hbH)
       ·have z1':decide ((200:Int)<(xn.size:Int))=false:=by simp;omega
        go_wp2_with (go_at_call 9;refine hq.mono ?_;rintro r w5 ⟨c5,rfl,hy0,hy1,HZ,bb5⟩)
        go_roundw
        case rel =>
         refine⟨k2+1,c5,by omega,rfl,by go_num,by omega,by omega,λh=>?_,hbm.tr qaa bb5⟩
         have h1:=HZ.out h
         have h2:=HM.out (by omega)
         rw[HS2.out]
         omega
        case measure=>simp[intOf];omega
      ·have hkd2:decide ((k2:Int)<(meths.length:Int))=false:=by simp;omega
       have HKE:=hid (show k2=meths.length by omega)
       go_wp2
       go_roundw
       case rel =>
        refine⟨j+1,d,by omega,rfl,by go_num,by omega,by omega,λh=>?_,HX.out (by omega),(hbw.tr (by simp) hbH)⟩
        have h1:=HM.out h
        rw[HKE.out,List.take_length] at h1
        rw[HS.out]
        simp only[Mo.msz]
        omega
       case measure=>simp[intOf];omega
  ·have hjd:decide ((j:Int)<(mons.length:Int))=false:=by simp;omega
   have HJE:=hid (show j=mons.length by omega)
   have HVE:Hid (∀m∈mons,m.vars.length<=40):=by
    have h:=HV.out
    rw[List.take_of_length_le (by omega)] at h
    exact h
   go_wp2
   go_loopw [5,10] (λv i wr=>∃(k2:Nat) (d:Int),k2<=roles.length/\v=.int .i64 d/\i=.int .i64 k2/\-1<=d/\d<=400/\Hid (0<=d->((mons.map Mo.msz).sum:Int)+(((roles.take k2).map Ro.bsz).sum:Int)<=400-d)/\Below wo.heap.size wo wr)
    (λ_ i _=>roles.length-(intOf i).toNat)
   case atStart =>
    refine⟨0,c,by omega,rfl,rfl,by omega,by omega,λh=>?_,Below.refl _ _⟩
    have h1:=HA.out h
    rw[HJE.out,List.take_length] at h1
    simp only[List.take_zero,List.map_nil,List.sum_nil]
    omega
   case round =>
    obtain⟨k2,d,hk2,rfl,rfl,hd0,hd1,HM,hbm⟩:=hrel
    have hzm:=hbm.size
    have p1':wr.cell? ⟨w.heap.size,1,none⟩=some (.slice rad roles.length rcap):=(hbm.cell (p:=⟨w.heap.size,1,none⟩) lw).trans p1
    have lw2:w.heap.size<wr.heap.size:=by omega
    have hbH:=hbF.tr qaa hbm
    by_cases hltm:k2<roles.length
    ·rcases hR1.2.2 with h|⟨b2,off2,rfl,hbn3,hrow2⟩
     ·subst h;simp at hltm
     have hb2:b2<wr.heap.size:=by omega
     have hr2:=hrow2.below (hbH.mono hn) hbn3
     have hMI:=(hR2 _ (List.getElem_mem hltm)).below (hbH.mono hn)
     have HS2:=hid (qf1 Ro.bsz roles k2 hltm)
     rcases he:roles[k2] with ⟨xn,xs,xc,xb,xp⟩
     have hq:=qpb nz xb d wr (by omega) (by omega) (by omega) (by have:=hMI.2.2.2;rw[he] at this;exact this)
     rw[he] at HS2 hMI
     have hL:=hMI.1
     simp only[Ro.bsz] at hL HS2
     unfold Len at hL
     obtain⟨d0,d1,d2,d3,d4⟩:=qup hr2 k2 hltm (by rw[he];rfl)
     clear he hMI
     rcases xb with ⟨bad,bcap,bbody⟩
     simp only[Bl.slice] at hq d3
     by_cases z1:200<xn.size
     ·have z1':(200:Int)<(xn.size:Int):=by omega
      go_wp2
      go_ret
      exact qbk (hbH)
     ·have z1':decide ((200:Int)<(xn.size:Int))=false:=by simp;omega
      go_wp2_with (go_at_call 9;refine hq.mono ?_;rintro r w5 ⟨c5,rfl,hy0,hy1,HZ,bb5⟩)
      go_roundw
      case rel =>
       refine⟨k2+1,c5,by omega,rfl,by go_num,by omega,by omega,λh=>?_,hbm.tr qaa bb5⟩
       have h1:=HZ.out h
       have h2:=HM.out (by omega)
       rw[HS2.out]
       omega
      case measure=>simp[intOf];omega
    ·have hkd2:decide ((k2:Int)<(roles.length:Int))=false:=by simp;omega
     have HKE:=hid (show k2=roles.length by omega)
     go_wp2
     go_ret
     refine qmg (decide (0<=d)) (λh=>?_) hbH
     have h1:=HM.out (by simpa using h)
     rw[HKE.out,List.take_length] at h1
     have h2:(0:Int)<=d:=by simpa using h
     refine⟨?_,by show mons.length<=20;omega,HVE.out⟩
     rw[HR.out]
     omega
