/-
  Own texts joined by program: SmC CmH.
-/
import Derived.Test.YtfkabkbnfeiggaaGreatDoorQay
namespace Go.Proofs.YtfkabkbnfeiggaaGreatDoor
open Go.RowKit
def Me.bco (x:Me):Nat:=x.body.cost
def Ro.bco (x:Ro):Nat:=x.body.cost
def Mo.mco (m:Mo):Nat:=(m.meths.map Me.bco).sum
theorem size_cost (p:Pr):p.size≤(p.mons.map Mo.mco).sum+(p.roles.map Ro.bco).sum:=by
 rw[pr_size]
 have h1:=sum_le_map Mo.msz Mo.mco p.mons (fun m _=>sum_le_map Me.bsz Me.bco m.meths (fun f _=>sz_cost f.body))
 have h2:=sum_le_map Ro.bsz Ro.bco p.roles (fun r _=>sz_cost r.body)
 omega
def SmallCo (p:Pr) (w w':World) (r:Ending):Prop:=∃ c:Bool,r=.returned (.bool c)∧(c=true→(p.mons.map Mo.mco).sum+(p.roles.map Ro.bco).sum≤300∧p.mons.length≤20∧∀ m∈p.mons,m.vars.length≤40)∧Below w.heap.size w w'
theorem smallCo_no {p:Pr} {w w':World} (hb:Below w.heap.size w w'):SmallCo p w w' (.returned (.bool false)):=⟨false,rfl,(fun h=>Bool.noConfusion h),hb⟩
theorem smallCo_mk {p:Pr} {w w':World} (c:Bool) (hc:c=true→(p.mons.map Mo.mco).sum+(p.roles.map Ro.bco).sum≤300∧p.mons.length≤20∧∀ m∈p.mons,m.vars.length≤40) (h:Below w.heap.size w w'):SmallCo p w w' (.returned (.bool c)):=⟨c,rfl,hc,h⟩
set_option maxRecDepth 100000 in
set_option maxHeartbeats 16000000 in
theorem smallc_any (n₀:Nat) (p:Pr) (w:World) (hn:n₀≤w.heap.size) (hp:p.Is n₀ w) :
  Calls Tryz.prog 4 #[p.val,.int .i64 300] w fun r w'=>SmallCo p w w' r:=by
 rcases p with ⟨mad,mcap,mons,rad,rcap,roles⟩
 obtain⟨⟨hM1,hM2⟩,hR1,hR2⟩:=hp
 simp only at hM1 hM2 hR1 hR2
 have hl1:=hM1.1;have hl2:=hM1.2.1;have hl3:=hR1.1;have hl4:=hR1.2.1
 unfold maxLen at hl2 hl4
 simp only[Pr.val]
 by_cases x1:20<mons.length
 ·have x1':(20:Int)<(mons.length:Int):=by omega
  go_enter Tryz.func4,Tryz.ntmps4
  go_wp2
  go_ret
  exact smallCo_no ((Below.refl _ _).al le_rfl' _)
 by_cases x2:20<roles.length
 ·have x1':decide ((20:Int)<(mons.length:Int))=false:=by simp;omega
  have x2':(20:Int)<(roles.length:Int):=by omega
  go_enter Tryz.func4,Tryz.ntmps4
  go_wp2
  go_ret
  exact smallCo_no ((Below.refl _ _).al le_rfl' _)
 have x1':decide ((20:Int)<(mons.length:Int))=false:=by simp;omega
 have x2':decide ((20:Int)<(roles.length:Int))=false:=by simp;omega
 go_enter Tryz.func4,Tryz.ntmps4
 go_wp2
 go_loopw [5,6] (fun v i wr=>∃ (j:Nat) (c:Int),j≤mons.length∧v=.int .i64 c∧i=.int .i64 j∧-1≤c∧c≤300∧Hid (0≤c→(((mons.take j).map Mo.mco).sum:Int)≤300-c)∧Hid (∀ m∈mons.take j,m.vars.length≤40)∧Below (w.heap.size+1) (w.alloc (.cells #[.slice mad mons.length mcap,.slice rad roles.length rcap] 25)) wr)
  (fun _ i _=>mons.length-(intOf i).toNat)
 case atStart=>exact⟨0,300,by omega,rfl,rfl,by omega,by omega,fun _=>by simp,(fun m hm=>by simp at hm),Below.refl _ _⟩
 case round =>
  obtain⟨wo,hwo⟩:∃ wo:World,wo=wr:=⟨_,rfl⟩
  subst hwo
  obtain⟨j,c,hj,rfl,rfl,hc0,hc1,HA,HV,hbw⟩:=hrel
  have hz:=hbw.size
  simp at hz
  have hbF:Below w.heap.size w wo:=((Below.refl _ w).al le_rfl' _).trans (hbw.mono (by omega))
  have hb0:Below n₀ w wo:=hbF.mono hn
  have p0:wo.cell? ⟨w.heap.size,0,none⟩=some (.slice mad mons.length mcap):=(hbw.cell (p:=⟨w.heap.size,0,none⟩) (by simp)).trans (cell_of' (World.alloc_heap_new w _) 0)
  have p1:wo.cell? ⟨w.heap.size,1,none⟩=some (.slice rad roles.length rcap):=(hbw.cell (p:=⟨w.heap.size,1,none⟩) (by simp)).trans (cell_of' (World.alloc_heap_new w _) 1)
  have lw:w.heap.size<wo.heap.size:=by omega
  by_cases hlt:j<mons.length
  ·rcases hM1.2.2 with h|⟨b,off,rfl,hbn,hrow⟩
   ·subst h;simp at hlt
   have hbn2:b<wo.heap.size:=by omega
   have hr:=hrow.below hb0 hbn
   have hIj:=(hM2 _ (List.getElem_mem hlt)).below hb0
   have HS:=hid (sum_snoc Mo.mco mons j hlt)
   have HX:Hid (mons[j].vars.length≤40→∀ m∈mons.take (j+1),m.vars.length≤40):=fun h m hm=>by
    rw[List.take_succ_eq_append_getElem hlt] at hm
    rcases List.mem_append.1 hm with hm|hm
    ·exact HV.out m hm
    ·rw[List.mem_singleton.1 hm];exact h
   rcases he:mons[j] with ⟨mname,vad,vcap,vars,xad,xcap,meths,mpos⟩
   obtain⟨c0,c1,c2,c3⟩:=row4 hr j hlt (by rw[he];rfl)
   rw[he] at hIj HS
   rw[he] at HX
   simp only at HX
   clear he
   obtain⟨⟨hI1,hI2⟩,⟨hI3,hI4⟩,hI5,hI6⟩:=hIj
   simp only at hI1 hI2 hI3 hI4 hI5 hI6
   have hv1:=hI3.1;have hv2:=hI3.2.1;have hm1:=hI5.1;have hm2:=hI5.2.1
   unfold maxLen at hv2 hm2
   unfold Len at hI1
   by_cases y1:40<vars.length
   ·have y1':(40:Int)<(vars.length:Int):=by omega
    go_wp2
    go_ret
    exact smallCo_no (hbF.al le_rfl' _)
   by_cases y2:40<meths.length
   ·have y1':decide ((40:Int)<(vars.length:Int))=false:=by simp;omega
    have y2':(40:Int)<(meths.length:Int):=by omega
    go_wp2
    go_ret
    exact smallCo_no (hbF.al le_rfl' _)
   by_cases y3:200<mname.size
   ·have y1':decide ((40:Int)<(vars.length:Int))=false:=by simp;omega
    have y2':decide ((40:Int)<(meths.length:Int))=false:=by simp;omega
    have y3':(200:Int)<(mname.size:Int):=by omega
    go_wp2
    go_ret
    exact smallCo_no (hbF.al le_rfl' _)
   have y1':decide ((40:Int)<(vars.length:Int))=false:=by simp;omega
   have y2':decide ((40:Int)<(meths.length:Int))=false:=by simp;omega
   have y3':decide ((200:Int)<(mname.size:Int))=false:=by simp;omega
   go_wp2
   clear c0 c1 c2 c3
   go_loopw [8] (fun i wr=>∃ k:Nat,k≤vars.length∧i=.int .i64 k∧Below (wo.heap.size+1) (wo.alloc (.cells #[.string mname,.slice vad vars.length vcap,.slice xad meths.length xcap,.int .i64 mpos] 38)) wr)
    (fun i _=>vars.length-(intOf i).toNat)
   case atStart=>exact⟨0,by omega,rfl,Below.refl _ _⟩
   case round =>
    obtain⟨wv,hwv⟩:∃ wv:World,wv=wr:=⟨_,rfl⟩
    subst hwv
    obtain⟨k,hk,rfl,hbv⟩:=hrel
    have hzv:=hbv.size
    simp at hzv
    have hbG:Below wo.heap.size wo wv:=((Below.refl _ wo).al le_rfl' _).trans (hbv.mono (by omega))
    have m1:wv.cell? ⟨wo.heap.size,1,none⟩=some (.slice vad vars.length vcap):=(hbv.cell (p:=⟨wo.heap.size,1,none⟩) (by simp)).trans (cell_of' (World.alloc_heap_new wo _) 1)
    have m2:wv.cell? ⟨wo.heap.size,2,none⟩=some (.slice xad meths.length xcap):=(hbv.cell (p:=⟨wo.heap.size,2,none⟩) (by simp)).trans (cell_of' (World.alloc_heap_new wo _) 2)
    have lv:wo.heap.size<wv.heap.size:=by omega
    by_cases hltv:k<vars.length
    ·rcases hI3.2.2 with h|⟨b2,off2,rfl,hbn3,hrow2⟩
     ·subst h;simp at hltv
     have hb2:b2<wv.heap.size:=by omega
     have hr2:=hrow2.below (hbG.mono (by omega)) hbn3
     rcases he:vars[k] with ⟨vn,vt,vlo,vhi,vi,vp⟩
     obtain⟨d0,d1,d2,d3,d4,d5⟩:=row6 hr2 k hltv (by rw[he];rfl)
     have hL:=(hI4 _ (List.getElem_mem hltv)).1
     rw[he] at hL
     simp only at hL
     unfold Len at hL
     clear he
     by_cases z1:200<vn.size
     ·have z1':(200:Int)<(vn.size:Int):=by omega
      go_wp2
      go_ret
      exact smallCo_no (hbF.tr le_rfl' hbG)
     ·have z1':decide ((200:Int)<(vn.size:Int))=false:=by simp;omega
      go_wp2
      go_roundw
      case rel=>exact⟨k+1,by omega,by go_num,hbv⟩
      case measure=>simp[intOf];omega
    ·have hkd:decide ((k:Int)<(vars.length:Int))=false:=by simp;omega
     go_wp2
     go_loopw [5,9] (fun v i wr=>∃ (k2:Nat) (d:Int),k2≤meths.length∧v=.int .i64 d∧i=.int .i64 k2∧-1≤d∧d≤300∧Hid (0≤d→(((mons.take j).map Mo.mco).sum:Int)+(((meths.take k2).map Me.bco).sum:Int)≤300-d)∧Below wv.heap.size wv wr)
      (fun _ i _=>meths.length-(intOf i).toNat)
     case atStart=>exact⟨0,c,by omega,rfl,rfl,by omega,by omega,fun h=>by have:=HA.out h;simp only[List.take_zero,List.map_nil,List.sum_nil];omega,Below.refl _ _⟩
     case round =>
      obtain⟨k2,d,hk2,rfl,rfl,hd0,hd1,HM,hbm⟩:=hrel
      have hzm:=hbm.size
      have m2':wr.cell? ⟨wo.heap.size,2,none⟩=some (.slice xad meths.length xcap):=(hbm.cell (p:=⟨wo.heap.size,2,none⟩) lv).trans m2
      have lv2:wo.heap.size<wr.heap.size:=by omega
      have hbH:=hbG.tr le_rfl' hbm
      by_cases hltm:k2<meths.length
      ·rcases hI5.2.2 with h|⟨b2,off2,rfl,hbn3,hrow2⟩
       ·subst h;simp at hltm
       have hb2:b2<wr.heap.size:=by omega
       have hr2:=hrow2.below (hbH.mono (by omega)) hbn3
       have hMI:=(hI6 _ (List.getElem_mem hltm)).below (hbH.mono (by omega:n₀≤wo.heap.size))
       have HS2:=hid (sum_snoc Me.bco meths k2 hltm)
       rcases he:meths[k2] with ⟨xn,xb,xp⟩
       have hq:=restc_any n₀ xb d wr (by omega) (by omega) (by omega) (by have:=hMI.2.2;rw[he] at this;exact this)
       rw[he] at HS2 hMI
       have hL:=hMI.1
       simp only[Me.bco] at hL HS2
       unfold Len at hL
       obtain⟨d0,d1,d2⟩:=row3 hr2 k2 hltm (by rw[he];rfl)
       clear he hMI
       rcases xb with ⟨bad,bcap,bbody⟩
       simp only[Bl.slice] at hq d1
       by_cases z1:200<xn.size
       ·have z1':(200:Int)<(xn.size:Int):=by omega
        go_wp2
        go_ret
        exact smallCo_no (hbF.tr le_rfl' hbH)
       ·have z1':decide ((200:Int)<(xn.size:Int))=false:=by simp;omega
        go_wp2_with (go_at_call 9;refine hq.mono ?_;rintro r w5 ⟨c5,rfl,hy0,hy1,HZ,bb5⟩)
        go_roundw
        case rel =>
         refine⟨k2+1,c5,by omega,rfl,by go_num,by omega,by omega,fun h=>?_,hbm.tr le_rfl' bb5⟩
         have h1:=HZ.out h
         have h2:=HM.out (by omega)
         rw[HS2.out]
         omega
        case measure=>simp[intOf];omega
      ·have hkd2:decide ((k2:Int)<(meths.length:Int))=false:=by simp;omega
       have HKE:=hid (show k2=meths.length by omega)
       go_wp2
       go_roundw
       case rel =>
        refine⟨j+1,d,by omega,rfl,by go_num,by omega,by omega,fun h=>?_,HX.out (by omega),(hbw.tr (by simp) hbH)⟩
        have h1:=HM.out h
        rw[HKE.out,List.take_length] at h1
        rw[HS.out]
        simp only[Mo.mco]
        omega
       case measure=>simp[intOf];omega
  ·have hjd:decide ((j:Int)<(mons.length:Int))=false:=by simp;omega
   have HJE:=hid (show j=mons.length by omega)
   have HVE:Hid (∀ m∈mons,m.vars.length≤40):=by
    have h:=HV.out
    rw[List.take_of_length_le (by omega)] at h
    exact h
   go_wp2
   go_loopw [5,10] (fun v i wr=>∃ (k2:Nat) (d:Int),k2≤roles.length∧v=.int .i64 d∧i=.int .i64 k2∧-1≤d∧d≤300∧Hid (0≤d→((mons.map Mo.mco).sum:Int)+(((roles.take k2).map Ro.bco).sum:Int)≤300-d)∧Below wo.heap.size wo wr)
    (fun _ i _=>roles.length-(intOf i).toNat)
   case atStart =>
    refine⟨0,c,by omega,rfl,rfl,by omega,by omega,fun h=>?_,Below.refl _ _⟩
    have h1:=HA.out h
    rw[HJE.out,List.take_length] at h1
    simp only[List.take_zero,List.map_nil,List.sum_nil]
    omega
   case round =>
    obtain⟨k2,d,hk2,rfl,rfl,hd0,hd1,HM,hbm⟩:=hrel
    have hzm:=hbm.size
    have p1':wr.cell? ⟨w.heap.size,1,none⟩=some (.slice rad roles.length rcap):=(hbm.cell (p:=⟨w.heap.size,1,none⟩) lw).trans p1
    have lw2:w.heap.size<wr.heap.size:=by omega
    have hbH:=hbF.tr le_rfl' hbm
    by_cases hltm:k2<roles.length
    ·rcases hR1.2.2 with h|⟨b2,off2,rfl,hbn3,hrow2⟩
     ·subst h;simp at hltm
     have hb2:b2<wr.heap.size:=by omega
     have hr2:=hrow2.below (hbH.mono hn) hbn3
     have hMI:=(hR2 _ (List.getElem_mem hltm)).below (hbH.mono hn)
     have HS2:=hid (sum_snoc Ro.bco roles k2 hltm)
     rcases he:roles[k2] with ⟨xn,xs,xc,xb,xp⟩
     have hq:=restc_any n₀ xb d wr (by omega) (by omega) (by omega) (by have:=hMI.2.2.2;rw[he] at this;exact this)
     rw[he] at HS2 hMI
     have hL:=hMI.1
     simp only[Ro.bco] at hL HS2
     unfold Len at hL
     obtain⟨d0,d1,d2,d3,d4⟩:=row5 hr2 k2 hltm (by rw[he];rfl)
     clear he hMI
     rcases xb with ⟨bad,bcap,bbody⟩
     simp only[Bl.slice] at hq d3
     by_cases z1:200<xn.size
     ·have z1':(200:Int)<(xn.size:Int):=by omega
      go_wp2
      go_ret
      exact smallCo_no (hbH)
     ·have z1':decide ((200:Int)<(xn.size:Int))=false:=by simp;omega
      go_wp2_with (go_at_call 9;refine hq.mono ?_;rintro r w5 ⟨c5,rfl,hy0,hy1,HZ,bb5⟩)
      go_roundw
      case rel =>
       refine⟨k2+1,c5,by omega,rfl,by go_num,by omega,by omega,fun h=>?_,hbm.tr le_rfl' bb5⟩
       have h1:=HZ.out h
       have h2:=HM.out (by omega)
       rw[HS2.out]
       omega
      case measure=>simp[intOf];omega
    ·have hkd2:decide ((k2:Int)<(roles.length:Int))=false:=by simp;omega
     have HKE:=hid (show k2=roles.length by omega)
     go_wp2
     go_ret
     refine smallCo_mk (decide (0≤d)) (fun h=>?_) hbH
     have h1:=HM.out (by simpa using h)
     rw[HKE.out,List.take_length] at h1
     have h2:(0:Int)≤d:=by simpa using h
     refine⟨?_,by show mons.length≤20;omega,HVE.out⟩
     show (mons.map Mo.mco).sum+(roles.map Ro.bco).sum≤300
     omega
open Go.RowKit
theorem methIx_both {l:List Mo} {a c:ByteArray} {f:Me} (h:methIx l a c=some f):∃ m∈l,m.name=a∧f∈m.meths∧f.name=c:=by
 unfold methIx at h
 split at h
 ·cases h
 ·rename_i i hi
  split at h
  ·cases h
  ·rename_i m hm
   split at h
   ·cases h
   ·rename_i k hk
    have h1:m.name=a:=by
     have:=(List.findIdx?_eq_some_iff_getElem.1 hi).2.1
     have e:=(List.getElem?_eq_some_iff.1 hm).2
     simpa[e] using this
    have h2:f.name=c:=by
     have:=(List.findIdx?_eq_some_iff_getElem.1 hk).2.1
     have e:=(List.getElem?_eq_some_iff.1 h).2
     simpa[e] using this
    exact⟨m,List.mem_of_getElem? hm,h1,List.mem_of_getElem? h,h2⟩
def allCo (p:Pr):List (Ref × Nat):=p.mons.flatMap fun m=>m.meths.map fun f=>((m.name,f.name),f.body.cost)
theorem allCo_sum (p:Pr):((allCo p).map Prod.snd).sum=(p.mons.map Mo.mco).sum:=by
 unfold allCo
 induction p.mons with
 | nil=>rfl
 | cons m l ih =>
  rw[List.flatMap_cons,List.map_append,List.sum_append,ih,List.map_cons,List.sum_cons,List.map_map]
  rfl
def rco (p:Pr) (r:Ref):Nat:=(bodyOf p r).cost
theorem rco_mem {p:Pr} {r:Ref} (h:methIx p.mons r.1 r.2≠none):(r,rco p r)∈allCo p:=by
 cases hm:methIx p.mons r.1 r.2 with
 | none=>exact absurd hm h
 | some f =>
  obtain⟨m,h1,h2,h3,h4⟩:=methIx_both hm
  refine List.mem_flatMap.2 ⟨m,h1,List.mem_map.2 ⟨f,h3,?_⟩⟩
  rw[h2,h4,rco,bodyOf]
  simp only[hm]
theorem sum_sub {R:List Ref} (c:Ref→Nat):∀ {A:List (Ref × Nat)},R.Nodup→(∀ r∈R,(r,c r)∈A)→(R.map c).sum≤(A.map Prod.snd).sum:=by
 induction R with
 | nil=>intro A _ _;simp
 | cons r R ih =>
  intro A hn h
  obtain⟨h1,h2⟩:=List.nodup_cons.1 hn
  obtain⟨a,b,rfl⟩:=List.append_of_mem (h r (by simp))
  have h3:=ih (A:=a++b) h2 (fun x hx=>by
   have h4:=h x (by simp[hx])
   rcases List.mem_append.1 h4 with h5|h5
   ·exact List.mem_append.2 (.inl h5)
   ·rcases List.mem_cons.1 h5 with h6|h6
    ·have:x=r:=congrArg Prod.fst h6
     exact absurd (this▸hx) h1
    ·exact List.mem_append.2 (.inr h6))
  simp only[List.map_append,List.sum_append,List.map_cons,List.sum_cons] at h3 ⊢
  omega
def Lim (V C:Nat):Prop:=(V+4000)*19 ^ C≤4000*21 ^ C
theorem Lim.mono {V C D:Nat} (h:Lim V C) (hd:C≤D):Lim V D:=by
 obtain⟨d,rfl⟩:∃ d,D=C+d:=⟨D-C,by omega⟩
 unfold Lim at h ⊢
 rw[Nat.pow_add,Nat.pow_add,← Nat.mul_assoc,← Nat.mul_assoc]
 exact Nat.mul_le_mul h (pow_le d)
def topV (C:Nat):Nat:=4000*21 ^ C / 19 ^ C-4000
theorem top_eq (C:Nat):topV C+4000=4000*21 ^ C / 19 ^ C:=by
 have h1:4000≤4000*21 ^ C / 19 ^ C:=(Nat.le_div_iff_mul_le (Nat.pow_pos (by omega))).2 (Nat.mul_le_mul_left _ (pow_le C))
 unfold topV
 omega
theorem Lim.top {V C:Nat} (h:Lim V C):V≤topV C:=by
 have h1:V+4000≤4000*21 ^ C / 19 ^ C:=(Nat.le_div_iff_mul_le (Nat.pow_pos (by omega))).2 h
 have h2:=top_eq C
 omega
theorem Lim.body {f:Ref→Nat} {x:Bl} {C:Nat} (h:∀ s∈x.subs,s.kind=8→s.blocks=[]∧f s.ref≤topV C):Lim (x.cv f) (x.cost+C):=by
 obtain⟨nb,k,h1,h2,-,h4⟩:=cv_bound x h
 have h5:=grow h1 h2 h4
 have h6:(topV C+4000)*19 ^ C≤4000*21 ^ C:=by rw[top_eq];exact Nat.div_mul_le_self _ _
 unfold Lim
 calc (x.cv f+4000)*19 ^ (x.cost+C)=(x.cv f+4000)*19 ^ x.cost*19 ^ C:=by rw[Nat.pow_add,Nat.mul_assoc]
  _≤(topV C+4000)*21 ^ x.cost*19 ^ C:=Nat.mul_le_mul_right _ h5
  _=(topV C+4000)*19 ^ C*21 ^ x.cost:=by rw[Nat.mul_assoc,Nat.mul_comm (21 ^ x.cost),← Nat.mul_assoc]
  _≤4000*21 ^ C*21 ^ x.cost:=Nat.mul_le_mul_right _ h6
  _=4000*21 ^ (x.cost+C):=by rw[Nat.mul_assoc,← Nat.pow_add,Nat.add_comm C]
def preC (p:Pr) (R:List Ref) (i:Nat):Nat:=((R.take i).map (rco p)).sum
theorem preC_mono (p:Pr) (R:List Ref) {i j:Nat} (h:i≤j):preC p R i≤preC p R j:=by
 unfold preC
 obtain⟨d,rfl⟩:∃ d,j=i+d:=⟨j-i,by omega⟩
 rw[List.take_add,List.map_append,List.sum_append]
 omega
theorem preC_at {p:Pr} {R:List Ref} {r:Ref} (h:r∈R):preC p R (rkOf R r+1)=preC p R (rkOf R r)+rco p r:=by
 have h1:rkOf R r<R.length:=rkOf_lt h
 have h2:R[rkOf R r]=r:=by
  have:=List.findIdx_getElem (xs:=R) (p:=fun y=>decide (y=r)) (w:=h1)
  exact of_decide_eq_true this
 unfold preC
 rw[List.take_succ_eq_append_getElem h1,List.map_append,List.sum_append,h2]
 simp
theorem cvR_lim {p:Pr} {x:Bl} {R:List Ref} {Z:List (Ref × Nat)} (hg:Good p x R Z) (hok:p.ok=true):∀ (n:Nat) (r:Ref),r∈R→rkOf R r<n→Lim (cvR p n r) (preC p R (rkOf R r+1))
 | 0,r,_,h=>by omega
 | n+1,r,hr,h=>by
  have hb:∀ s∈(bodyOf p r).subs,s.ok1=true:=by
   cases hm:methIx p.mons r.1 r.2 with
   | none=>exact absurd hm (hg.known r hr)
   | some f =>
    obtain⟨m,h1,h2⟩:=methIx_mem hm
    have h3:=okB_iff.1 (ok_meth hok m h1 f h2)
    rw[bodyOf];simp only[hm];exact h3
  have h1:Lim ((bodyOf p r).cv (cvR p n)) ((bodyOf p r).cost+preC p R (rkOf R r)):=Lim.body (fun s hs hk=>⟨call_blocks (hb s hs) hk,by
   have h2:=hg.leads r hr s.ref ((callsOf_mem _ _).2 ⟨s,hs,hk,rfl⟩)
   exact ((cvR_lim hg hok n s.ref h2.1 (by omega)).mono (preC_mono p R (by omega))).top⟩)
  rw[preC_at hr,Nat.add_comm (preC p R (rkOf R r))]
  exact h1
set_option exponentiation.threshold 500 in
theorem cvAll_small {p:Pr} {x:Bl} (hok:p.ok=true) (hx:x.okB=true) (hc:(p.mons.map Mo.mco).sum+x.cost≤300)
  (hk:∀ r∈reachedOf p (callsOf x),methIx p.mons r.1 r.2≠none) (hg:∀ r∈reachedOf p (callsOf x),¬ Round p r):cvAll p x≤4611686018427387904:=by
 rcases cnt_cases p x with ⟨⟨r,h1,h3⟩,-⟩|⟨-,⟨r,h1,h3⟩,-⟩|⟨-,-,Z,h3,-⟩
 ·exact absurd h3 (hk r h1)
 ·exact absurd h3 (hg r h1)
 ·have hb:=okB_iff.1 hx
  have h4:Lim (cvAll p x) (x.cost+preC p (reachedOf p (callsOf x)) (reachedOf p (callsOf x)).length):=Lim.body (fun s hs hk=>⟨call_blocks (hb s hs) hk,by
   have h5:=h3.root s.ref ((callsOf_mem _ _).2 ⟨s,hs,hk,rfl⟩)
   exact ((cvR_lim h3 hok _ s.ref h5 (rkOf_lt h5)).mono (preC_mono p _ (rkOf_lt h5))).top⟩)
  have h6:preC p (reachedOf p (callsOf x)) (reachedOf p (callsOf x)).length≤(p.mons.map Mo.mco).sum:=by
   rw[← allCo_sum]
   unfold preC
   rw[List.take_length]
   exact sum_sub (rco p) h3.nodup (fun r hr=>rco_mem (hk r hr))
  have h7:Lim (cvAll p x) 300:=h4.mono (by omega)
  have h8:4000*21 ^ 300≤4611686018427387904*19 ^ 300:=by decide
  unfold Lim at h7
  have h9:(cvAll p x+4000)*19 ^ 300≤4611686018427387904*19 ^ 300:=Nat.le_trans h7 h8
  have h10:=Nat.le_of_mul_le_mul_right h9 (Nat.pow_pos (by omega))
  omega
end Go.Proofs.YtfkabkbnfeiggaaGreatDoor
