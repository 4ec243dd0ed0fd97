/-
  Own texts joined by program: RtA SmA SmD.
-/
import Derived.Test.YtbmbchdjjfmafaaGreatDoorQaq
namespace Go.Proofs.YtbmbchdjjfmafaaGreatDoor
open Go.RowKit
def Bl.sz (b:Bl):Nat:=(b.subs.map St.sz).sum
def St.tot (s:St):Nat:=(s.subs.map St.sz).sum
theorem St.tot_mk (kind:Int) (mon name:ByteArray) (n:Int) (e:Ex) (ad:Option Addr) (cap:Nat) (blocks:List Bl) (pos:Int):(St.mk kind mon name n e ad cap blocks pos).tot=(1+if e.none then 0 else e.subs.length)+(blocks.map Bl.sz).sum:=by
 rw[St.tot,St.subs_mk,List.map_cons,List.sum_cons]
 congr 1
 induction blocks with
 | nil=>rfl
 | cons b r ih=>rw[List.flatMap_cons,List.map_append,List.sum_append,ih];rfl
theorem Bl.sz_mk (ad:Option Addr) (cap:Nat) (body:List St):(Bl.mk ad cap body).sz=(body.map St.tot).sum:=by
 rw[Bl.sz,Bl.subs_mk]
 induction body with
 | nil=>rfl
 | cons b r ih=>rw[List.flatMap_cons,List.map_append,List.sum_append,ih];rfl
theorem sum_snoc {α:Type} (f:α→Nat) (l:List α) (k:Nat) (h:k<l.length):((l.take (k+1)).map f).sum=((l.take k).map f).sum+f l[k]:=by
 rw[List.take_succ_eq_append_getElem h,List.map_append,List.sum_append];simp
set_option maxRecDepth 100000 in
set_option maxHeartbeats 8000000 in
theorem rest_step (n₀:Nat) (ad:Option Addr) (cap:Nat) (body:List St)
  (ih:∀ s∈body,∀ b∈s.blocks,∀ (n:Int) (w:World),-1≤n→n≤1000→n₀≤w.heap.size→b.Is n₀ w→Calls Tryz.prog 20 #[b.slice,.int .i64 n] w fun r w'=>∃ c:Int,r=.returned (.int .i64 c)∧-1≤c∧c≤n∧Hid (0≤c→(b.sz:Int)≤n-c)∧Below w.heap.size w w')
  (n:Int) (w:World) (hn0:-1≤n) (hn1:n≤1000) (hn:n₀≤w.heap.size) (hI:(Bl.mk ad cap body).Is n₀ w) :
  Calls Tryz.prog 20 #[.slice ad body.length cap,.int .i64 n] w fun r w'=>∃ c:Int,r=.returned (.int .i64 c)∧-1≤c∧c≤n∧Hid (0≤c→((Bl.mk ad cap body).sz:Int)≤n-c)∧Below w.heap.size w w':=by
 have HR:=hid (Bl.sz_mk ad cap body)
 have hd:=hI.down
 have hl1:=hd.1.1;have hl2:=hd.1.2.1
 unfold maxLen at hl2
 by_cases h0:n<(body.length:Int)
 ·go_enter Tryz.func20,Tryz.ntmps20
  go_wp2
  go_ret
  exact⟨-1,rfl,by omega,by omega,fun h=>by omega,Below.refl _ _⟩
 have h0':(body.length:Int)≤n:=by omega
 go_enter Tryz.func20,Tryz.ntmps20
 go_wp2
 go_loopw [1,5] (fun v i wr=>∃ (j:Nat) (c:Int),j≤body.length∧v=.int .i64 c∧i=.int .i64 j∧-1≤c∧c≤n∧Hid (0≤c→(((body.take j).map St.tot).sum:Int)≤n-c)∧Below w.heap.size w wr)
  (fun _ i _=>body.length-(intOf i).toNat)
 case atStart=>exact⟨0,n,by omega,rfl,rfl,by omega,by omega,fun _=>by simp,Below.refl _ _⟩
 case round =>
  obtain⟨wo,hwo⟩:∃ wo:World,wo=wr:=⟨_,rfl⟩
  subst hwo
  obtain⟨j,c,hj,rfl,rfl,hc0,hc1,HA,hbw⟩:=hrel
  have hz:=hbw.size
  by_cases hlt:j<body.length
  ·by_cases hcp:0≤c
   ·rcases hd.1.2.2 with h|⟨b,off,rfl,hbn,hrow⟩
    ·subst h;simp at hlt
    have hb0:=hbw.mono hn
    have hbn2:b<wo.heap.size:=by omega
    have hr:=hrow.below hb0 hbn
    have hIj:=(hd.2 _ (List.getElem_mem hlt)).below hb0
    have hih:=ih _ (List.getElem_mem hlt)
    have HS:=hid (sum_snoc St.tot body j hlt)
    clear ih
    rcases he':body[j] with ⟨kind,mon,name,k,e,ad',cap',blocks,pos⟩
    rcases hee:e with ⟨eop,emon,ename,en,ead,ecap,ekids,epos⟩
    obtain⟨c0,c1,c2,c3,c4,c5,c6,c7,c8,c9,c10,c11⟩:=row12 hr j hlt (by rw[he',hee];rfl)
    rw[he'] at hIj hih HS
    have hIs:=hIj.down
    have hsm:=hIs.1.2.2.2.1;have hsn:=hIs.1.2.2.2.2
    unfold Len at hsm hsn
    have hlb1:=hIs.2.2.1.1;have hlb2:=hIs.2.2.1.2.1
    unfold maxLen at hlb2
    clear he' hIj
    have hih:∀ b∈blocks,∀ (n:Int) (w:World),-1≤n→n≤1000→n₀≤w.heap.size→b.Is n₀ w→Calls Tryz.prog 20 #[b.slice,.int .i64 n] w fun r w'=>∃ c:Int,r=.returned (.int .i64 c)∧-1≤c∧c≤n∧Hid (0≤c→(b.sz:Int)≤n-c)∧Below w.heap.size w w':=hih
    by_cases x1:200<mon.size
    ·have x1':(200:Int)<(mon.size:Int):=by omega
     go_wp2
     go_ret
     exact⟨-1,rfl,by omega,by omega,fun h=>by omega,hbw⟩
    by_cases x2:200<name.size
    ·have x1':(mon.size:Int)≤200:=by omega
     have x2':(200:Int)<(name.size:Int):=by omega
     go_wp2
     go_ret
     exact⟨-1,rfl,by omega,by omega,fun h=>by omega,hbw⟩
    by_cases x3:40<blocks.length
    ·have x1':(mon.size:Int)≤200:=by omega
     have x2':(name.size:Int)≤200:=by omega
     have x3':(40:Int)<(blocks.length:Int):=by omega
     go_wp2
     go_ret
     exact⟨-1,rfl,by omega,by omega,fun h=>by omega,hbw⟩
    have x1':(mon.size:Int)≤200:=by omega
    have x2':(name.size:Int)≤200:=by omega
    have x3':(blocks.length:Int)≤40:=by omega
    have HT:=hid (St.tot_mk kind mon name k e ad' cap' blocks pos)
    have h12:=restExpr_any n₀ e (c-1) wo (by omega) (by omega) (by omega) hIs.2.1
    have HRC:=hid (rest_count e (c-1))
    have hrb:-1≤restE e (c-1)∧restE e (c-1)≤c-1:=by
     by_cases hc3:0≤c-1
     ·exact rest_bounds e (c-1) hc3
     ·rcases e with ⟨q1,q2,q3,q4,q5,q6,q7,q8⟩
      rw[restE_mk,if_pos (.inr (.inr (by omega)))]
      omega
    obtain⟨re,hre⟩:∃ re,restE e (c-1)=re:=⟨_,rfl⟩
    rw[hre] at h12 hrb HRC
    clear hre
    rw[hee] at h12
    simp only[Ex.val,Ex.cells] at h12
    go_wp2_with (go_at_call 34;refine h12.mono ?_;rintro r w2 ⟨rfl,bb2⟩)
    have hz2:=bb2.size
    clear c0 c1 c2 c3 c4 c5 c6 c7 c8 c9 h12
    go_loopw [1,6] (fun v i wr=>∃ (m:Nat) (d:Int),m≤blocks.length∧v=.int .i64 d∧i=.int .i64 m∧-1≤d∧d≤n∧Hid (0≤d→(((body.take j).map St.tot).sum:Int)+(1+(e.subs.length:Int))+(((blocks.take m).map Bl.sz).sum:Int)≤n-d)∧Below wo.heap.size wo wr)
     (fun _ i _=>blocks.length-(intOf i).toNat)
    case atStart =>
     refine⟨0,re,by omega,rfl,rfl,by omega,by omega,fun h=>?_,bb2⟩
     have h1:=HRC.out h
     have h2:=HA.out hcp
     simp only[List.take_zero,List.map_nil,List.sum_nil]
     omega
    case round =>
     obtain⟨m,d',hm,rfl,rfl,hd0,hd1,HM,hbm⟩:=hrel
     have hzm:=hbm.size
     have c10':wr.cell? ⟨b,off+j*12+10,none⟩=some (.slice ad' blocks.length cap'):=(hbm.cell (p:=⟨b,off+j*12+10,none⟩) hbn2).trans c10
     have hbn4:b<wr.heap.size:=by omega
     by_cases hlt2:m<blocks.length
     ·by_cases hdp:0≤d'
      ·rcases hIs.2.2.1.2.2 with h|⟨b3,off3,rfl,hbn3,hrow3⟩
       ·subst h;simp at hlt2
       have hB3:Below n₀ wo wr:=hbm.mono (by omega)
       have hr3:=hrow3.below hB3 hbn3
       have hb3l:b3<wr.heap.size:=by omega
       have hq:=hih blocks[m] (List.getElem_mem hlt2) (d' - 1) wr (by omega) (by omega) (by omega) ((hIs.2.2.2 _ (List.getElem_mem hlt2)).below hB3)
       have HS2:=hid (sum_snoc Bl.sz blocks m hlt2)
       obtain⟨bz,hbz⟩:∃ bz,blocks[m].sz=bz:=⟨_,rfl⟩
       rw[hbz] at hq HS2
       clear hbz
       rcases he2:blocks[m] with ⟨bad,bcap,bbody⟩
       have d0:=row1 hr3 m hlt2 (by rw[he2];rfl)
       simp only[he2,Bl.slice] at hq d0
       clear he2
       go_wp2_with (go_at_call 20;refine hq.mono ?_;rintro r w5 ⟨c5,rfl,hy0,hy1,HZ,bb5⟩)
       go_roundw
       case rel =>
        refine⟨m+1,c5,by omega,rfl,by go_num,by omega,by omega,fun h=>?_,hbm.tr le_rfl' bb5⟩
        have h1:=HZ.out h
        have h2:=HM.out hdp
        rw[HS2.out]
        omega
       case measure=>simp[intOf];omega
      ·have hdd:decide (0≤d')=false:=by simp;omega
       go_wp2
       go_roundw
       case rel=>exact⟨j+1,d',by omega,rfl,by go_num,by omega,by omega,fun h=>by have h':0≤d':=h;omega,hbw.tr le_rfl' hbm⟩
       case measure=>simp[intOf];omega
     ·have hmb:m=blocks.length:=by omega
      have hmd:decide ((m:Int)<(blocks.length:Int))=false:=by simp;omega
      go_wp2
      go_roundw
      case rel =>
       refine⟨j+1,d',by omega,rfl,by go_num,by omega,by omega,fun h=>?_,hbw.tr le_rfl' hbm⟩
       have h2:=HM.out h
       have h3:=HT.out
       rw[hmb,List.take_length] at h2
       rw[HS.out]
       by_cases hno:e.none=true
       ·rw[if_pos hno] at h3;omega
       ·rw[if_neg hno] at h3;omega
      case measure=>simp[intOf];omega
   ·have hcd:decide (0≤c)=false:=by simp;omega
    go_wp2
    go_ret
    exact⟨c,rfl,by omega,by omega,fun h=>by have h':0≤c:=h;omega,hbw⟩
  ·have hjb:j=body.length:=by omega
   have hjd:decide ((j:Int)<(body.length:Int))=false:=by simp;omega
   go_wp2
   go_ret
   refine⟨c,rfl,by omega,by omega,fun h=>?_,hbw⟩
   have h1:=HA.out h
   rw[hjb,List.take_length] at h1
   rw[HR.out]
   exact h1
theorem rest_any (n₀:Nat) (b:Bl):∀ (n:Int) (w:World),-1≤n→n≤1000→n₀≤w.heap.size→b.Is n₀ w→Calls Tryz.prog 20 #[b.slice,.int .i64 n] w fun r w'=>∃ c:Int,r=.returned (.int .i64 c)∧-1≤c∧c≤n∧Hid (0≤c→(b.sz:Int)≤n-c)∧Below w.heap.size w w':=
 Bl.ind (P:=fun s=>∀ b∈s.blocks,∀ (n:Int) (w:World),-1≤n→n≤1000→n₀≤w.heap.size→b.Is n₀ w→Calls Tryz.prog 20 #[b.slice,.int .i64 n] w fun r w'=>∃ c:Int,r=.returned (.int .i64 c)∧-1≤c∧c≤n∧Hid (0≤c→(b.sz:Int)≤n-c)∧Below w.heap.size w w')
  (Q:=fun b=>∀ (n:Int) (w:World),-1≤n→n≤1000→n₀≤w.heap.size→b.Is n₀ w→Calls Tryz.prog 20 #[b.slice,.int .i64 n] w fun r w'=>∃ c:Int,r=.returned (.int .i64 c)∧-1≤c∧c≤n∧Hid (0≤c→(b.sz:Int)≤n-c)∧Below w.heap.size w w')
  (fun _ _ _ _ _ _ _ _ _ ih b hb=>ih b hb) (fun ad cap body ih n w h1 h2 h3 h4=>rest_step n₀ ad cap body ih n w h1 h2 h3 h4) b
open Go.RowKit
def Me.bsz (x:Me):Nat:=x.body.sz
def Ro.bsz (x:Ro):Nat:=x.body.sz
def Mo.msz (m:Mo):Nat:=(m.meths.map Me.bsz).sum
theorem pr_size (p:Pr):p.size=(p.mons.map Mo.msz).sum+(p.roles.map Ro.bsz).sum:=by
 have h1:∀ l:List Me,((l.flatMap fun x=>x.body.subs).map St.sz).sum=(l.map Me.bsz).sum:=fun l=>by
  induction l with
  | nil=>rfl
  | cons a r ih=>rw[List.flatMap_cons,List.map_append,List.sum_append,ih];rfl
 have h2:∀ l:List Mo,((l.flatMap fun m=>m.meths.flatMap fun x=>x.body.subs).map St.sz).sum=(l.map Mo.msz).sum:=fun l=>by
  induction l with
  | nil=>rfl
  | cons a r ih=>rw[List.flatMap_cons,List.map_append,List.sum_append,ih,h1];rfl
 have h3:∀ l:List Ro,((l.flatMap fun r=>r.body.subs).map St.sz).sum=(l.map Ro.bsz).sum:=fun l=>by
  induction l with
  | nil=>rfl
  | cons a r ih=>rw[List.flatMap_cons,List.map_append,List.sum_append,ih];rfl
 rw[Pr.size,Pr.stmts,List.map_append,List.sum_append,h2,h3]
def SmallBack (p:Pr) (w w':World) (r:Ending):Prop:=∃ c:Bool,r=.returned (.bool c)∧(c=true→p.size≤400∧p.mons.length≤20∧∀ m∈p.mons,m.vars.length≤40)∧Below w.heap.size w w'
theorem smallBack_no {p:Pr} {w w':World} (hb:Below w.heap.size w w'):SmallBack p w w' (.returned (.bool false)):=⟨false,rfl,(fun h=>Bool.noConfusion h),hb⟩
theorem smallBack_mk {p:Pr} {w w':World} (c:Bool) (hc:c=true→p.size≤400∧p.mons.length≤20∧∀ m∈p.mons,m.vars.length≤40) (h:Below w.heap.size w w'):SmallBack p w w' (.returned (.bool c)):=⟨c,rfl,hc,h⟩
open Go.RowKit
set_option maxRecDepth 100000 in
set_option maxHeartbeats 16000000 in
theorem small_any4 (n₀:Nat) (p:Pr) (w:World) (hn:n₀≤w.heap.size) (hp:p.Is n₀ w) :
  Calls Tryz.prog 7 #[p.val,.int .i64 400] w fun r w'=>SmallBack p w w' r:=by
 have HR:=hid (pr_size p)
 rcases p with ⟨mad,mcap,mons,rad,rcap,roles⟩
 obtain⟨⟨hM1,hM2⟩,hR1,hR2⟩:=hp
 simp only at hM1 hM2 hR1 hR2
 have hl1:=hM1.1;have hl2:=hM1.2.1;have hl3:=hR1.1;have hl4:=hR1.2.1
 unfold maxLen at hl2 hl4
 simp only[Pr.val]
 have HR:Hid (Pr.size ⟨mad,mcap,mons,rad,rcap,roles⟩=(mons.map Mo.msz).sum+(roles.map Ro.bsz).sum):=HR
 by_cases x1:20<mons.length
 ·have x1':(20:Int)<(mons.length:Int):=by omega
  go_enter Tryz.func7,Tryz.ntmps7
  go_wp2
  go_ret
  exact smallBack_no ((Below.refl _ _).al le_rfl' _)
 by_cases x2:20<roles.length
 ·have x1':decide ((20:Int)<(mons.length:Int))=false:=by simp;omega
  have x2':(20:Int)<(roles.length:Int):=by omega
  go_enter Tryz.func7,Tryz.ntmps7
  go_wp2
  go_ret
  exact smallBack_no ((Below.refl _ _).al le_rfl' _)
 have x1':decide ((20:Int)<(mons.length:Int))=false:=by simp;omega
 have x2':decide ((20:Int)<(roles.length:Int))=false:=by simp;omega
 go_enter Tryz.func7,Tryz.ntmps7
 go_wp2
 go_loopw [5,6] (fun v i wr=>∃ (j:Nat) (c:Int),j≤mons.length∧v=.int .i64 c∧i=.int .i64 j∧-1≤c∧c≤400∧Hid (0≤c→(((mons.take j).map Mo.msz).sum:Int)≤400-c)∧Hid (∀ m∈mons.take j,m.vars.length≤40)∧Below (w.heap.size+1) (w.alloc (.cells #[.slice mad mons.length mcap,.slice rad roles.length rcap] 25)) wr)
  (fun _ i _=>mons.length-(intOf i).toNat)
 case atStart=>exact⟨0,400,by omega,rfl,rfl,by omega,by omega,fun _=>by simp,(fun m hm=>by simp at hm),Below.refl _ _⟩
 case round =>
  obtain⟨wo,hwo⟩:∃ wo:World,wo=wr:=⟨_,rfl⟩
  subst hwo
  obtain⟨j,c,hj,rfl,rfl,hc0,hc1,HA,HV,hbw⟩:=hrel
  have hz:=hbw.size
  simp at hz
  have hbF:Below w.heap.size w wo:=((Below.refl _ w).al le_rfl' _).trans (hbw.mono (by omega))
  have hb0:Below n₀ w wo:=hbF.mono hn
  have p0:wo.cell? ⟨w.heap.size,0,none⟩=some (.slice mad mons.length mcap):=(hbw.cell (p:=⟨w.heap.size,0,none⟩) (by simp)).trans (cell_of' (World.alloc_heap_new w _) 0)
  have p1:wo.cell? ⟨w.heap.size,1,none⟩=some (.slice rad roles.length rcap):=(hbw.cell (p:=⟨w.heap.size,1,none⟩) (by simp)).trans (cell_of' (World.alloc_heap_new w _) 1)
  have lw:w.heap.size<wo.heap.size:=by omega
  by_cases hlt:j<mons.length
  ·rcases hM1.2.2 with h|⟨b,off,rfl,hbn,hrow⟩
   ·subst h;simp at hlt
   have hbn2:b<wo.heap.size:=by omega
   have hr:=hrow.below hb0 hbn
   have hIj:=(hM2 _ (List.getElem_mem hlt)).below hb0
   have HS:=hid (sum_snoc Mo.msz mons j hlt)
   have HX:Hid (mons[j].vars.length≤40→∀ m∈mons.take (j+1),m.vars.length≤40):=fun h m hm=>by
    rw[List.take_succ_eq_append_getElem hlt] at hm
    rcases List.mem_append.1 hm with hm|hm
    ·exact HV.out m hm
    ·rw[List.mem_singleton.1 hm];exact h
   rcases he:mons[j] with ⟨mname,vad,vcap,vars,xad,xcap,meths,mpos⟩
   obtain⟨c0,c1,c2,c3⟩:=row4 hr j hlt (by rw[he];rfl)
   rw[he] at hIj HS
   rw[he] at HX
   simp only at HX
   clear he
   obtain⟨⟨hI1,hI2⟩,⟨hI3,hI4⟩,hI5,hI6⟩:=hIj
   simp only at hI1 hI2 hI3 hI4 hI5 hI6
   have hv1:=hI3.1;have hv2:=hI3.2.1;have hm1:=hI5.1;have hm2:=hI5.2.1
   unfold maxLen at hv2 hm2
   unfold Len at hI1
   by_cases y1:40<vars.length
   ·have y1':(40:Int)<(vars.length:Int):=by omega
    go_wp2
    go_ret
    exact smallBack_no (hbF.al le_rfl' _)
   by_cases y2:40<meths.length
   ·have y1':decide ((40:Int)<(vars.length:Int))=false:=by simp;omega
    have y2':(40:Int)<(meths.length:Int):=by omega
    go_wp2
    go_ret
    exact smallBack_no (hbF.al le_rfl' _)
   by_cases y3:200<mname.size
   ·have y1':decide ((40:Int)<(vars.length:Int))=false:=by simp;omega
    have y2':decide ((40:Int)<(meths.length:Int))=false:=by simp;omega
    have y3':(200:Int)<(mname.size:Int):=by omega
    go_wp2
    go_ret
    exact smallBack_no (hbF.al le_rfl' _)
   have y1':decide ((40:Int)<(vars.length:Int))=false:=by simp;omega
   have y2':decide ((40:Int)<(meths.length:Int))=false:=by simp;omega
   have y3':decide ((200:Int)<(mname.size:Int))=false:=by simp;omega
   go_wp2
   clear c0 c1 c2 c3
   go_loopw [8] (fun i wr=>∃ k:Nat,k≤vars.length∧i=.int .i64 k∧Below (wo.heap.size+1) (wo.alloc (.cells #[.string mname,.slice vad vars.length vcap,.slice xad meths.length xcap,.int .i64 mpos] 64)) wr)
    (fun i _=>vars.length-(intOf i).toNat)
   case atStart=>exact⟨0,by omega,rfl,Below.refl _ _⟩
   case round =>
    obtain⟨wv,hwv⟩:∃ wv:World,wv=wr:=⟨_,rfl⟩
    subst hwv
    obtain⟨k,hk,rfl,hbv⟩:=hrel
    have hzv:=hbv.size
    simp at hzv
    have hbG:Below wo.heap.size wo wv:=((Below.refl _ wo).al le_rfl' _).trans (hbv.mono (by omega))
    have m1:wv.cell? ⟨wo.heap.size,1,none⟩=some (.slice vad vars.length vcap):=(hbv.cell (p:=⟨wo.heap.size,1,none⟩) (by simp)).trans (cell_of' (World.alloc_heap_new wo _) 1)
    have m2:wv.cell? ⟨wo.heap.size,2,none⟩=some (.slice xad meths.length xcap):=(hbv.cell (p:=⟨wo.heap.size,2,none⟩) (by simp)).trans (cell_of' (World.alloc_heap_new wo _) 2)
    have lv:wo.heap.size<wv.heap.size:=by omega
    by_cases hltv:k<vars.length
    ·rcases hI3.2.2 with h|⟨b2,off2,rfl,hbn3,hrow2⟩
     ·subst h;simp at hltv
     have hb2:b2<wv.heap.size:=by omega
     have hr2:=hrow2.below (hbG.mono (by omega)) hbn3
     rcases he:vars[k] with ⟨vn,vt,vlo,vhi,vi,vp⟩
     obtain⟨d0,d1,d2,d3,d4,d5⟩:=row6 hr2 k hltv (by rw[he];rfl)
     have hL:=(hI4 _ (List.getElem_mem hltv)).1
     rw[he] at hL
     simp only at hL
     unfold Len at hL
     clear he
     by_cases z1:200<vn.size
     ·have z1':(200:Int)<(vn.size:Int):=by omega
      go_wp2
      go_ret
      exact smallBack_no (hbF.tr le_rfl' hbG)
     ·have z1':decide ((200:Int)<(vn.size:Int))=false:=by simp;omega
      go_wp2
      go_roundw
      case rel=>exact⟨k+1,by omega,by go_num,hbv⟩
      case measure=>simp[intOf];omega
    ·have hkd:decide ((k:Int)<(vars.length:Int))=false:=by simp;omega
     go_wp2
     go_loopw [5,9] (fun v i wr=>∃ (k2:Nat) (d:Int),k2≤meths.length∧v=.int .i64 d∧i=.int .i64 k2∧-1≤d∧d≤400∧Hid (0≤d→(((mons.take j).map Mo.msz).sum:Int)+(((meths.take k2).map Me.bsz).sum:Int)≤400-d)∧Below wv.heap.size wv wr)
      (fun _ i _=>meths.length-(intOf i).toNat)
     case atStart=>exact⟨0,c,by omega,rfl,rfl,by omega,by omega,fun h=>by have:=HA.out h;simp only[List.take_zero,List.map_nil,List.sum_nil];omega,Below.refl _ _⟩
     case round =>
      obtain⟨k2,d,hk2,rfl,rfl,hd0,hd1,HM,hbm⟩:=hrel
      have hzm:=hbm.size
      have m2':wr.cell? ⟨wo.heap.size,2,none⟩=some (.slice xad meths.length xcap):=(hbm.cell (p:=⟨wo.heap.size,2,none⟩) lv).trans m2
      have lv2:wo.heap.size<wr.heap.size:=by omega
      have hbH:=hbG.tr le_rfl' hbm
      by_cases hltm:k2<meths.length
      ·rcases hI5.2.2 with h|⟨b2,off2,rfl,hbn3,hrow2⟩
       ·subst h;simp at hltm
       have hb2:b2<wr.heap.size:=by omega
       have hr2:=hrow2.below (hbH.mono (by omega)) hbn3
       have hMI:=(hI6 _ (List.getElem_mem hltm)).below (hbH.mono (by omega:n₀≤wo.heap.size))
       have HS2:=hid (sum_snoc Me.bsz meths k2 hltm)
       rcases he:meths[k2] with ⟨xn,xb,xp⟩
       have hq:=rest_any n₀ xb d wr (by omega) (by omega) (by omega) (by have:=hMI.2.2;rw[he] at this;exact this)
       rw[he] at HS2 hMI
       have hL:=hMI.1
       simp only[Me.bsz] at hL HS2
       unfold Len at hL
       obtain⟨d0,d1,d2⟩:=row3 hr2 k2 hltm (by rw[he];rfl)
       clear he hMI
       rcases xb with ⟨bad,bcap,bbody⟩
       simp only[Bl.slice] at hq d1
       by_cases z1:200<xn.size
       ·have z1':(200:Int)<(xn.size:Int):=by omega
        go_wp2
        go_ret
        exact smallBack_no (hbF.tr le_rfl' hbH)
       ·have z1':decide ((200:Int)<(xn.size:Int))=false:=by simp;omega
        go_wp2_with (go_at_call 20;refine hq.mono ?_;rintro r w5 ⟨c5,rfl,hy0,hy1,HZ,bb5⟩)
        go_roundw
        case rel =>
         refine⟨k2+1,c5,by omega,rfl,by go_num,by omega,by omega,fun h=>?_,hbm.tr le_rfl' bb5⟩
         have h1:=HZ.out h
         have h2:=HM.out (by omega)
         rw[HS2.out]
         omega
        case measure=>simp[intOf];omega
      ·have hkd2:decide ((k2:Int)<(meths.length:Int))=false:=by simp;omega
       have HKE:=hid (show k2=meths.length by omega)
       go_wp2
       go_roundw
       case rel =>
        refine⟨j+1,d,by omega,rfl,by go_num,by omega,by omega,fun h=>?_,HX.out (by omega),(hbw.tr (by simp) hbH)⟩
        have h1:=HM.out h
        rw[HKE.out,List.take_length] at h1
        rw[HS.out]
        simp only[Mo.msz]
        omega
       case measure=>simp[intOf];omega
  ·have hjd:decide ((j:Int)<(mons.length:Int))=false:=by simp;omega
   have HJE:=hid (show j=mons.length by omega)
   have HVE:Hid (∀ m∈mons,m.vars.length≤40):=by
    have h:=HV.out
    rw[List.take_of_length_le (by omega)] at h
    exact h
   go_wp2
   go_loopw [5,10] (fun v i wr=>∃ (k2:Nat) (d:Int),k2≤roles.length∧v=.int .i64 d∧i=.int .i64 k2∧-1≤d∧d≤400∧Hid (0≤d→((mons.map Mo.msz).sum:Int)+(((roles.take k2).map Ro.bsz).sum:Int)≤400-d)∧Below wo.heap.size wo wr)
    (fun _ i _=>roles.length-(intOf i).toNat)
   case atStart =>
    refine⟨0,c,by omega,rfl,rfl,by omega,by omega,fun h=>?_,Below.refl _ _⟩
    have h1:=HA.out h
    rw[HJE.out,List.take_length] at h1
    simp only[List.take_zero,List.map_nil,List.sum_nil]
    omega
   case round =>
    obtain⟨k2,d,hk2,rfl,rfl,hd0,hd1,HM,hbm⟩:=hrel
    have hzm:=hbm.size
    have p1':wr.cell? ⟨w.heap.size,1,none⟩=some (.slice rad roles.length rcap):=(hbm.cell (p:=⟨w.heap.size,1,none⟩) lw).trans p1
    have lw2:w.heap.size<wr.heap.size:=by omega
    have hbH:=hbF.tr le_rfl' hbm
    by_cases hltm:k2<roles.length
    ·rcases hR1.2.2 with h|⟨b2,off2,rfl,hbn3,hrow2⟩
     ·subst h;simp at hltm
     have hb2:b2<wr.heap.size:=by omega
     have hr2:=hrow2.below (hbH.mono hn) hbn3
     have hMI:=(hR2 _ (List.getElem_mem hltm)).below (hbH.mono hn)
     have HS2:=hid (sum_snoc Ro.bsz roles k2 hltm)
     rcases he:roles[k2] with ⟨xn,xs,xc,xb,xp⟩
     have hq:=rest_any n₀ xb d wr (by omega) (by omega) (by omega) (by have:=hMI.2.2.2;rw[he] at this;exact this)
     rw[he] at HS2 hMI
     have hL:=hMI.1
     simp only[Ro.bsz] at hL HS2
     unfold Len at hL
     obtain⟨d0,d1,d2,d3,d4⟩:=row5 hr2 k2 hltm (by rw[he];rfl)
     clear he hMI
     rcases xb with ⟨bad,bcap,bbody⟩
     simp only[Bl.slice] at hq d3
     by_cases z1:200<xn.size
     ·have z1':(200:Int)<(xn.size:Int):=by omega
      go_wp2
      go_ret
      exact smallBack_no (hbH)
     ·have z1':decide ((200:Int)<(xn.size:Int))=false:=by simp;omega
      go_wp2_with (go_at_call 20;refine hq.mono ?_;rintro r w5 ⟨c5,rfl,hy0,hy1,HZ,bb5⟩)
      go_roundw
      case rel =>
       refine⟨k2+1,c5,by omega,rfl,by go_num,by omega,by omega,fun h=>?_,hbm.tr le_rfl' bb5⟩
       have h1:=HZ.out h
       have h2:=HM.out (by omega)
       rw[HS2.out]
       omega
      case measure=>simp[intOf];omega
    ·have hkd2:decide ((k2:Int)<(roles.length:Int))=false:=by simp;omega
     have HKE:=hid (show k2=roles.length by omega)
     go_wp2
     go_ret
     refine smallBack_mk (decide (0≤d)) (fun h=>?_) hbH
     have h1:=HM.out (by simpa using h)
     rw[HKE.out,List.take_length] at h1
     have h2:(0:Int)≤d:=by simpa using h
     refine⟨?_,by show mons.length≤20;omega,HVE.out⟩
     rw[HR.out]
     omega
end Go.Proofs.YtbmbchdjjfmafaaGreatDoor
