import Derived.Test.YthdkgfmlihgceaaGreatDoorHah
import Derived.Deep.QuietTactic
import Derived.BigQuiet
namespace Go.Proofs.YthdkgfmlihgceaaGreatDoor
set_option maxRecDepth 100000
set_option maxHeartbeats 8000000
open Go.RowKit
theorem qfj {W:World}{B:Nat}{c:Array Value}{t:TypeId}{z:Nat × Nat}(h:W.heap[B]?=some (.cells c t z)) (i:Nat):W.cell? ⟨B,i,none⟩=c[i]?:=by
 simp[World.cell?,h]
mutual
def qds:Ex->Int->Int
 | .mk _ mon name _ _ _ kids _,n=>if 200<mon.size\/200<name.size\/n<kids.length then -1 else qdt kids (n-1)
def qdt:List Ex->Int->Int
 | [],n=>n
 | e::es,n=>if 0<=n then qdt es (qds e n) else n
end
theorem ql8 (l:List Ex) (n:Int) (h:n<0):qdt l n=n:=by
 cases l with
 | nil=>rw[qdt]
 | cons e es=>rw[qdt,if_neg (by omega)]
theorem qhc (op:Int) (mon name:ByteArray) (k:Int) (ad:Option Addr) (cap:Nat) (kids:List Ex) (pos n:Int):qds (.mk op mon name k ad cap kids pos) n=if 200<mon.size\/200<name.size\/n<kids.length then -1 else qdt kids (n-1):=by rw[qds]
theorem qic (e:Ex):∀n:Int,0<=n->-1<=qds e n/\qds e n<=n:=by
 induction e using Ex.ind with
 | h op mon name k ad cap kids pos ih =>
  intro n hn
  rw[qhc]
  split
  ·omega
  ·have hL:∀(l:List Ex),(∀x∈l,∀n:Int,0<=n->-1<=qds x n/\qds x n<=n)->∀m:Int,-1<=m->-1<=qdt l m/\qdt l m<=m:=by
    intro l
    induction l with
    | nil=>intro _ m hm;rw[qdt];omega
    | cons x r ihr =>
     intro hx m hm
     rw[qdt]
     split
     ·have h1:=hx x (List.mem_cons_self ..) m (by omega)
      have h2:=ihr (λy hy=>hx y (List.mem_cons_of_mem _ hy)) (qds x m) h1.1
      omega
     ·omega
   have:=hL kids ih (n-1) (by omega)
   omega
theorem qq5 (l:List Ex) (k:Nat) (n:Int) (hk:k<l.length) (hn:0<=n):qdt (l.drop k) n=qdt (l.drop (k+1)) (qds l[k] n):=by
 rw[List.drop_eq_getElem_cons hk,qdt,if_pos hn]
theorem ql7 (nz:Nat) (e:Ex):∀(n:Int) (w:World),-1<=n->n<=1000->nz<=w.heap.size->e.Is nz w ->
  Calls Tryz.prog 23 #[e.val,.int .i64 n] w λr w'=>r=.returned (.int .i64 (qds e n))/\Below w.heap.size w w':=by
 induction e using Ex.ind with
 | h op mon name k ad cap kids pos ih =>
  intro n w hn0 hn1 hn he
  have HR:=hid (qhc op mon name k ad cap kids pos n)
  have hd:=he.down
  have hl1:=hd.2.1.1;have hl2:=hd.2.1.2.1
  have hs1:=hd.1.2.2.2.1;have hs2:=hd.1.2.2.2.2
  unfold maxLen at hl2
  unfold Len at hs1 hs2
  simp only[Ex.val,Ex.cells]
  by_cases h1:200<mon.size
  ·rw[if_pos (.inl h1)] at HR
   have h1':(200:Int)<(mon.size:Int):=by omega
   go_enter Tryz.func23,Tryz.ntmps23
   go_wp2
   go_ret
   exact⟨qep HR.out.symm,(Below.refl _ _).al qaa _⟩
  by_cases h2:200<name.size
  ·rw[if_pos (.inr (.inl h2))] at HR
   have h2':(200:Int)<(name.size:Int):=by omega
   have h1':(mon.size:Int)<=200:=by omega
   go_enter Tryz.func23,Tryz.ntmps23
   go_wp2
   go_ret
   exact⟨qep HR.out.symm,(Below.refl _ _).al qaa _⟩
  by_cases h3:n<(kids.length:Int)
  ·rw[if_pos (.inr (.inr h3))] at HR
   have h1':(mon.size:Int)<=200:=by omega
   have h2':(name.size:Int)<=200:=by omega
   go_enter Tryz.func23,Tryz.ntmps23
   go_wp2
   go_ret
   exact⟨qep HR.out.symm,(Below.refl _ _).al qaa _⟩
  rw[if_neg (by omega)] at HR
  have h1':(mon.size:Int)<=200:=by omega
  have h2':(name.size:Int)<=200:=by omega
  have h3':(kids.length:Int)<=n:=by omega
  go_enter Tryz.func23,Tryz.ntmps23
  go_wp2
  go_loopw [1,5] (λm i wr=>∃(j:Nat) (c:Int),j<=kids.length/\i=.int .i64 j/\m=.int .i64 c/\-1<=c/\c<=1000/\Hid (qdt kids (n-1)=qdt (kids.drop j) c)/\Below (w.heap.size+1) (w.alloc (.cells #[.int .i64 op,.string mon,.string name,.int .i64 k,.slice ad kids.length cap,.int .i64 pos] 48)) wr)
   (λ_ i _=>kids.length-(intOf i).toNat)
  case atStart=>exact⟨0,n-1,by omega,rfl,by go_num,by omega,by omega,rfl,Below.refl _ _⟩
  case round =>
   obtain⟨j,c,hj,rfl,rfl,hc0,hc1,HQ,hbw⟩:=hrel
   have hb0:Below nz w wr:=((Below.refl nz w).al hn _).trans (hbw.mono (by omega))
   have hbF:Below w.heap.size w wr:=((Below.refl _ w).al qaa _).trans (hbw.mono (by omega))
   have hz:=hbw.size
   simp at hz
   have bx:=qfj ((hbw.block w.heap.size (by omega)).trans (World.alloc_heap_new w _)) 4
   simp at bx
   by_cases hlt:j<kids.length
   ·by_cases hcp:0<=c
    ·rcases hd.2.1.2.2 with h|⟨b,off,rfl,hbn,hrow⟩
     ·subst h;simp at hlt
     have hbn2:b<wr.heap.size:=by omega
     have HD:=hid (qq5 kids j c hlt hcp)
     have hB:=qic kids[j] c hcp
     have hr:=hrow.below hb0 hbn
     have hq:=ih _ (List.getElem_mem hlt) c wr (by omega) hc1 (by omega) ((hd.2.2 _ (List.getElem_mem hlt)).below hb0)
     obtain⟨c',hc'⟩:∃c',qds kids[j] c=c':=⟨_,rfl⟩
     rw[hc'] at hq hB
     rw[hc'] at HD
     clear hc' ih
     rcases he':kids[j] with ⟨op',ai',name',n',ad',cp',am',pos'⟩
     obtain⟨c0,c1,c2,c3,c4,c5⟩:=qkt hr j hlt (by rw[he'];rfl)
     simp only[he',Ex.val,Ex.cells] at hq
     clear he'
     go_wp2_with (go_at_call 23;refine hq.mono ?_;rintro r w1 ⟨rfl,hb1⟩)
     go_roundw
     case rel=>exact⟨j+1,c',by omega,by go_num,rfl,by omega,by omega,by show _=_;rw[HQ.out,HD.out],hbw.tr (by simp) hb1⟩
     case measure=>simp[intOf];omega
    ·have HN:=hid (ql8 (kids.drop j) c (by omega))
     have hcd:decide (0<=c)=false:=by simp;omega
     go_wp2
     go_ret
     exact⟨qep (by rw[HR.out,HQ.out,HN.out]),hbF⟩
   ·have hjd:decide ((j:Int)<(kids.length:Int))=false:=by simp;omega
    go_wp2
    go_ret
    refine⟨qep ?_,hbF⟩
    rw[HR.out,HQ.out,List.drop_of_length_le (by omega),qdt]
open Go.RowKit
theorem below_drewN {B:Nat}{w w':World}(h:Below B w w') (q:Nat):Below B w (w'.drewN q):=⟨h.os,h.tape,h.output,h.size,h.block⟩
open Go.RowKit
theorem qq6 (e:Ex):∀n:Int,0<=qds e n->(e.subs.length:Int)<=n-qds e n:=by
 induction e using Ex.ind with
 | h op mon name k ad cap kids pos ih =>
  intro n h
  rw[qhc] at h ⊢
  split at h
  ·omega
  ·rename_i hc
   rw[if_neg hc]
   have hL:∀(l:List Ex),(∀x∈l,∀n:Int,0<=qds x n->(x.subs.length:Int)<=n-qds x n)->∀m:Int,0<=qdt l m->((Ex.subsL l).length:Int)<=m-qdt l m:=by
    intro l
    induction l with
    | nil=>intro _ m _;rw[qdt,Ex.subsL];simp
    | cons x r ihr =>
     intro hx m hm
     rw[qdt] at hm ⊢
     split at hm
     ·rename_i hm0
      rw[if_pos hm0]
      have h2:=ihr (λy hy=>hx y (List.mem_cons_of_mem _ hy)) (qds x m) hm
      rcases Int.lt_or_le (qds x m) 0 with hneg|hpos
      ·rw[ql8 _ _ hneg] at hm;omega
      ·have h1:=hx x (List.mem_cons_self ..) m hpos
       rw[Ex.subsL,List.length_append];omega
     ·omega
   have:=hL kids ih (n-1) h
   rw[Ex.subs_mk,List.length_cons];omega
open Go.RowKit
def Bl.sz (b:Bl):Nat:=(b.subs.map St.sz).sum
def St.tot (s:St):Nat:=(s.subs.map St.sz).sum
theorem St.tot_mk (kind:Int) (mon name:ByteArray) (n:Int) (e:Ex) (ad:Option Addr) (cap:Nat) (blocks:List Bl) (pos:Int):(St.mk kind mon name n e ad cap blocks pos).tot=(1+if e.none then 0 else e.subs.length)+(blocks.map Bl.sz).sum:=by
 rw[St.tot,St.subs_mk,List.map_cons,List.sum_cons]
 congr 1
 induction blocks with
 | nil=>rfl
 | cons b r ih=>rw[List.flatMap_cons,List.map_append,List.sum_append,ih];rfl
theorem Bl.sz_mk (ad:Option Addr) (cap:Nat) (body:List St):(Bl.mk ad cap body).sz=(body.map St.tot).sum:=by
 rw[Bl.sz,Bl.subs_mk]
 induction body with
 | nil=>rfl
 | cons b r ih=>rw[List.flatMap_cons,List.map_append,List.sum_append,ih];rfl
theorem qf1 {α:Type}(f:α->Nat) (l:List α) (k:Nat) (h:k<l.length):((l.take (k+1)).map f).sum=((l.take k).map f).sum+f l[k]:=by
 rw[List.take_succ_eq_append_getElem h,List.map_append,List.sum_append];simp
theorem rest_step (nz:Nat) (ad:Option Addr) (cap:Nat) (body:List St)
  (ih:∀s∈body,∀b∈s.blocks,∀(n:Int) (w:World),-1<=n->n<=1000->nz<=w.heap.size->b.Is nz w->Calls Tryz.prog 9 #[b.slice,.int .i64 n] w λr w'=>∃c:Int,r=.returned (.int .i64 c)/\-1<=c/\c<=n/\Hid (0<=c->(b.sz:Int)<=n-c)/\Below w.heap.size w w')
  (n:Int) (w:World) (hn0:-1<=n) (hn1:n<=1000) (hn:nz<=w.heap.size) (hI:(Bl.mk ad cap body).Is nz w) :
  Calls Tryz.prog 9 #[.slice ad body.length cap,.int .i64 n] w λr w'=>∃c:Int,r=.returned (.int .i64 c)/\-1<=c/\c<=n/\Hid (0<=c->((Bl.mk ad cap body).sz:Int)<=n-c)/\Below w.heap.size w w':=by
 have HR:=hid (Bl.sz_mk ad cap body)
 have hd:=hI.down
 have hl1:=hd.1.1;have hl2:=hd.1.2.1
 unfold maxLen at hl2
 by_cases h0:n<(body.length:Int)
 ·go_enter Tryz.func9,Tryz.ntmps9
  go_wp2
  go_ret
  exact⟨-1,rfl,by omega,by omega,λh=>by omega,Below.refl _ _⟩
 have h0':(body.length:Int)<=n:=by omega
 go_enter Tryz.func9,Tryz.ntmps9
 go_wp2
 go_loopw [1,5] (λv i wr=>∃(j:Nat) (c:Int),j<=body.length/\v=.int .i64 c/\i=.int .i64 j/\-1<=c/\c<=n/\Hid (0<=c->(((body.take j).map St.tot).sum:Int)<=n-c)/\Below w.heap.size w wr)
  (λ_ i _=>body.length-(intOf i).toNat)
 case atStart=>exact⟨0,n,by omega,rfl,rfl,by omega,by omega,λ_=>by simp,Below.refl _ _⟩
 case round =>
  obtain⟨wo,hwo⟩:∃wo:World,wo=wr:=⟨_,rfl⟩
  subst hwo
  obtain⟨j,c,hj,rfl,rfl,hc0,hc1,HA,hbw⟩:=hrel
  have hz:=hbw.size
  by_cases hlt:j<body.length
  ·by_cases hcp:0<=c
   ·rcases hd.1.2.2 with h|⟨b,off,rfl,hbn,hrow⟩
    ·subst h;simp at hlt
    have hb0:=hbw.mono hn
    have hbn2:b<wo.heap.size:=by omega
    have hr:=hrow.below hb0 hbn
    have hIj:=(hd.2 _ (List.getElem_mem hlt)).below hb0
    have hih:=ih _ (List.getElem_mem hlt)
    have HS:=hid (qf1 St.tot body j hlt)
    clear ih
    rcases he':body[j] with ⟨kind,mon,name,k,e,ad',cap',blocks,pos⟩
    rcases hee:e with ⟨eop,emon,ename,en,ead,ecap,ekids,epos⟩
    obtain⟨c0,c1,c2,c3,c4,c5,c6,c7,c8,c9,c10,c11⟩:=qiz hr j hlt (by rw[he',hee];rfl)
    rw[he'] at hIj hih HS
    have hIs:=hIj.down
    have hsm:=hIs.1.2.2.2.1;have hsn:=hIs.1.2.2.2.2
    unfold Len at hsm hsn
    have hlb1:=hIs.2.2.1.1;have hlb2:=hIs.2.2.1.2.1
    unfold maxLen at hlb2
    clear he' hIj
    have hih:∀b∈blocks,∀(n:Int) (w:World),-1<=n->n<=1000->nz<=w.heap.size->b.Is nz w->Calls Tryz.prog 9 #[b.slice,.int .i64 n] w λr w'=>∃c:Int,r=.returned (.int .i64 c)/\-1<=c/\c<=n/\Hid (0<=c->(b.sz:Int)<=n-c)/\Below w.heap.size w w':=hih
    by_cases x1:200<mon.size
    ·have x1':(200:Int)<(mon.size:Int):=by omega
     go_wp2
     go_ret
     exact⟨-1,rfl,by omega,by omega,λh=>by omega,hbw⟩
    by_cases x2:200<name.size
    ·have x1':(mon.size:Int)<=200:=by omega
     have x2':(200:Int)<(name.size:Int):=by omega
     go_wp2
     go_ret
     exact⟨-1,rfl,by omega,by omega,λh=>by omega,hbw⟩
    by_cases x3:40<blocks.length
    ·have x1':(mon.size:Int)<=200:=by omega
     have x2':(name.size:Int)<=200:=by omega
     have x3':(40:Int)<(blocks.length:Int):=by omega
     go_wp2
     go_ret
     exact⟨-1,rfl,by omega,by omega,λh=>by omega,hbw⟩
    have x1':(mon.size:Int)<=200:=by omega
    have x2':(name.size:Int)<=200:=by omega
    have x3':(blocks.length:Int)<=40:=by omega
    have HT:=hid (St.tot_mk kind mon name k e ad' cap' blocks pos)
    have h12:=ql7 nz e (c-1) wo (by omega) (by omega) (by omega) hIs.2.1
    have HRC:=hid (qq6 e (c-1))
    have hrb:-1<=qds e (c-1)/\qds e (c-1)<=c-1:=by
     by_cases hc3:0<=c-1
     ·exact qic e (c-1) hc3
     ·rcases e with ⟨q1,q2,q3,q4,q5,q6,q7,q8⟩
      rw[qhc,if_pos (.inr (.inr (by omega)))]
      omega
    obtain⟨re,hre⟩:∃re,qds e (c-1)=re:=⟨_,rfl⟩
    rw[hre] at h12 hrb HRC
    clear hre
    rw[hee] at h12
    simp only[Ex.val,Ex.cells] at h12
    go_wp2_with (go_at_call 23;refine h12.mono ?_;rintro r w2 ⟨rfl,bb2⟩)
    have hz2:=bb2.size
    clear c0 c1 c2 c3 c4 c5 c6 c7 c8 c9 h12
    go_loopw [1,6] (λv i wr=>∃(m:Nat) (d:Int),m<=blocks.length/\v=.int .i64 d/\i=.int .i64 m/\-1<=d/\d<=n/\Hid (0<=d->(((body.take j).map St.tot).sum:Int)+(1+(e.subs.length:Int))+(((blocks.take m).map Bl.sz).sum:Int)<=n-d)/\Below wo.heap.size wo wr)
     (λ_ i _=>blocks.length-(intOf i).toNat)
    case atStart =>
     refine⟨0,re,by omega,rfl,rfl,by omega,by omega,λh=>?_,bb2⟩
     have h1:=HRC.out h
     have h2:=HA.out hcp
     simp only[List.take_zero,List.map_nil,List.sum_nil]
     omega
    case round =>
     obtain⟨m,d',hm,rfl,rfl,hd0,hd1,HM,hbm⟩:=hrel
     have hzm:=hbm.size
     have c10':wr.cell? ⟨b,off+j*12+10,none⟩=some (.slice ad' blocks.length cap'):=(hbm.cell (p:=⟨b,off+j*12+10,none⟩) hbn2).trans c10
     have hbn4:b<wr.heap.size:=by omega
     by_cases hlt2:m<blocks.length
     ·by_cases hdp:0<=d'
      ·rcases hIs.2.2.1.2.2 with h|⟨b3,off3,rfl,hbn3,hrow3⟩
       ·subst h;simp at hlt2
       have hB3:Below nz wo wr:=hbm.mono (by omega)
       have hr3:=hrow3.below hB3 hbn3
       have hb3l:b3<wr.heap.size:=by omega
       have hq:=hih blocks[m] (List.getElem_mem hlt2) (d' - 1) wr (by omega) (by omega) (by omega) ((hIs.2.2.2 _ (List.getElem_mem hlt2)).below hB3)
       have HS2:=hid (qf1 Bl.sz blocks m hlt2)
       obtain⟨bz,hbz⟩:∃bz,blocks[m].sz=bz:=⟨_,rfl⟩
       rw[hbz] at hq HS2
       clear hbz
       rcases he2:blocks[m] with ⟨bad,bcap,bbody⟩
       have d0:=qru hr3 m hlt2 (by rw[he2];rfl)
       simp only[he2,Bl.slice] at hq d0
       clear he2
       go_wp2_with (go_at_call 9;refine hq.mono ?_;rintro r w5 ⟨c5,rfl,hy0,hy1,HZ,bb5⟩)
       go_roundw
       case rel =>
        refine⟨m+1,c5,by omega,rfl,by go_num,by omega,by omega,λh=>?_,hbm.tr qaa bb5⟩
        have h1:=HZ.out h
        have h2:=HM.out hdp
        rw[HS2.out]
        omega
       case measure=>simp[intOf];omega
      ·have hdd:decide (0<=d')=false:=by simp;omega
       go_wp2
       go_roundw
       case rel=>exact⟨j+1,d',by omega,rfl,by go_num,by omega,by omega,λh=>by have h':0<=d':=h;omega,hbw.tr qaa hbm⟩
       case measure=>simp[intOf];omega
     ·have hmb:m=blocks.length:=by omega
      have hmd:decide ((m:Int)<(blocks.length:Int))=false:=by simp;omega
      go_wp2
      go_roundw
      case rel =>
       refine⟨j+1,d',by omega,rfl,by go_num,by omega,by omega,λh=>?_,hbw.tr qaa hbm⟩
       have h2:=HM.out h
       have h3:=HT.out
       rw[hmb,List.take_length] at h2
       rw[HS.out]
       by_cases hno:e.none=true
       ·rw[if_pos hno] at h3;omega
       ·rw[if_neg hno] at h3;omega
      case measure=>simp[intOf];omega
   ·have hcd:decide (0<=c)=false:=by simp;omega
    go_wp2
    go_ret
    exact⟨c,rfl,by omega,by omega,λh=>by have h':0<=c:=h;omega,hbw⟩
  ·have hjb:j=body.length:=by omega
   have hjd:decide ((j:Int)<(body.length:Int))=false:=by simp;omega
   go_wp2
   go_ret
   refine⟨c,rfl,by omega,by omega,λh=>?_,hbw⟩
   have h1:=HA.out h
   rw[hjb,List.take_length] at h1
   rw[HR.out]
   exact h1
theorem qpb (nz:Nat) (b:Bl):∀(n:Int) (w:World),-1<=n->n<=1000->nz<=w.heap.size->b.Is nz w->Calls Tryz.prog 9 #[b.slice,.int .i64 n] w λr w'=>∃c:Int,r=.returned (.int .i64 c)/\-1<=c/\c<=n/\Hid (0<=c->(b.sz:Int)<=n-c)/\Below w.heap.size w w':=
 Bl.ind (P:=λs=>∀b∈s.blocks,∀(n:Int) (w:World),-1<=n->n<=1000->nz<=w.heap.size->b.Is nz w->Calls Tryz.prog 9 #[b.slice,.int .i64 n] w λr w'=>∃c:Int,r=.returned (.int .i64 c)/\-1<=c/\c<=n/\Hid (0<=c->(b.sz:Int)<=n-c)/\Below w.heap.size w w')
  (Q:=λb=>∀(n:Int) (w:World),-1<=n->n<=1000->nz<=w.heap.size->b.Is nz w->Calls Tryz.prog 9 #[b.slice,.int .i64 n] w λr w'=>∃c:Int,r=.returned (.int .i64 c)/\-1<=c/\c<=n/\Hid (0<=c->(b.sz:Int)<=n-c)/\Below w.heap.size w w')
  (λ_ _ _ _ _ _ _ _ _ ih b hb=>ih b hb) (λad cap body ih n w h1 h2 h3 h4=>rest_step nz ad cap body ih n w h1 h2 h3 h4) b
