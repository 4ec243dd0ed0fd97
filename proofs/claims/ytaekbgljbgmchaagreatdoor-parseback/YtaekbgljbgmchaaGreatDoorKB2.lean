/-
  Joined by program out of the own texts PxE RtA PnB PnC StB StC StD StE StF NsB NsC StG PxA UrA LxPu LxI LxCh PzEr PzDe PzBk PzRl PzBp; blanks and remarks are left out to keep the limit of bytes.
-/
import Derived.Test.YtaekbgljbgmchaaGreatDoorKB1
import Derived.Deep.Cut
import Derived.Deep.RegionHeld3
import Derived.Test.YtaekbgljbgmchaaGreatDoorLxH
import Derived.Test.YtaekbgljbgmchaaGreatDoorPzA
namespace Go.Proofs.YtaekbgljbgmchaaGreatDoor
open Go.RowKit Px
structure ShapesE (W:World):Prop where
 size:2≤W.heap.size
 ex:∀ k,k < 18→W.cell? ⟨1,k * 3,none⟩=some (.bool (exNames k))∧W.cell? ⟨1,k * 3+1,none⟩=some (.bool (exNumber k))∧W.cell? ⟨1,k * 3+2,none⟩=some (.int .i64 (exKids k:Nat))
theorem toldOf_form (t:List UInt8):∃ (s:ByteArray) (c:Int),toldOf t=.tuple #[.string s,.int .i64 c]:=by
 unfold toldOf;split <;> exact ⟨_,_,rfl⟩
section
open Go.Shelf
attribute [local go_sem] Oper.semAt_some
end
structure LaidE (w:World):Prop where
 shapes:ShapesE w
 tab:Tab w
 size:4≤w.heap.size
end Go.Proofs.YtaekbgljbgmchaaGreatDoor
namespace Go.Proofs.YtaekbgljbgmchaaGreatDoor
open Go.RowKit
def Bl.sz (b:Bl):Nat:=(b.subs.map St.sz).sum
def St.tot (s:St):Nat:=(s.subs.map St.sz).sum
theorem St.tot_mk (kind:Int) (mon name:ByteArray) (n:Int) (e:Ex) (ad:Option Addr) (cap:Nat) (blocks:List Bl) (pos:Int):(St.mk kind mon name n e ad cap blocks pos).tot=(1+if e.none then 0 else e.subs.length)+(blocks.map Bl.sz).sum:=by
 rw [St.tot,St.subs_mk,List.map_cons,List.sum_cons]
 congr 1
 induction blocks with
 | nil=>rfl
 | cons b r ih=>rw [List.flatMap_cons,List.map_append,List.sum_append,ih];rfl
theorem Bl.sz_mk (ad:Option Addr) (cap:Nat) (body:List St):(Bl.mk ad cap body).sz=(body.map St.tot).sum:=by
 rw [Bl.sz,Bl.subs_mk]
 induction body with
 | nil=>rfl
 | cons b r ih=>rw [List.flatMap_cons,List.map_append,List.sum_append,ih];rfl
theorem sum_snoc {α:Type} (f:α→Nat) (l:List α) (k:Nat) (h:k < l.length):((l.take (k+1)).map f).sum=((l.take k).map f).sum+f l[k]:=by
 rw [List.take_succ_eq_append_getElem h,List.map_append,List.sum_append];simp
set_option maxRecDepth 100000 in
set_option maxHeartbeats 8000000 in
theorem rest_step (n₀:Nat) (ad:Option Addr) (cap:Nat) (body:List St)
  (ih:∀ s ∈ body,∀ b ∈ s.blocks,∀ (n:Int) (w:World),-1≤n→n≤1000→n₀≤w.heap.size→b.Is n₀ w→Calls Tryz.prog 45 #[b.slice,.int .i64 n] w fun r w'=>∃ c:Int,r=.returned (.int .i64 c)∧-1≤c∧c≤n∧Hid (0≤c→(b.sz:Int)≤n - c)∧Below w.heap.size w w')
  (n:Int) (w:World) (hn0:-1≤n) (hn1:n≤1000) (hn:n₀≤w.heap.size) (hI:(Bl.mk ad cap body).Is n₀ w) :
  Calls Tryz.prog 45 #[.slice ad body.length cap,.int .i64 n] w fun r w'=>∃ c:Int,r=.returned (.int .i64 c)∧-1≤c∧c≤n∧Hid (0≤c→((Bl.mk ad cap body).sz:Int)≤n - c)∧Below w.heap.size w w':=by
 have HR:=hid (Bl.sz_mk ad cap body)
 have hd:=hI.down
 have hl1:=hd.1.1;have hl2:=hd.1.2.1
 unfold maxLen at hl2
 by_cases h0:n < (body.length:Int)
 ·go_enter Tryz.func45,Tryz.ntmps45
  go_wp2
  go_ret
  exact ⟨-1,rfl,by omega,by omega,fun h=>by omega,Below.refl _ _⟩
 have h0':(body.length:Int)≤n:=by omega
 go_enter Tryz.func45,Tryz.ntmps45
 go_wp2
 go_loopw [1,5] (fun v i wr=>∃ (j:Nat) (c:Int),j≤body.length∧v=.int .i64 c∧i=.int .i64 j∧-1≤c∧c≤n∧Hid (0≤c→(((body.take j).map St.tot).sum:Int)≤n - c)∧Below w.heap.size w wr)
  (fun _ i _=>body.length - (intOf i).toNat)
 case atStart=>exact ⟨0,n,by omega,rfl,rfl,by omega,by omega,fun _=>by simp,Below.refl _ _⟩
 case round =>
  obtain ⟨wo,hwo⟩:∃ wo:World,wo=wr:=⟨_,rfl⟩
  subst hwo
  obtain ⟨j,c,hj,rfl,rfl,hc0,hc1,HA,hbw⟩:=hrel
  have hz:=hbw.size
  by_cases hlt:j < body.length
  ·by_cases hcp:0≤c
   ·rcases hd.1.2.2 with h | ⟨b,off,rfl,hbn,hrow⟩
    ·subst h;simp at hlt
    have hb0:=hbw.mono hn
    have hbn2:b < wo.heap.size:=by omega
    have hr:=hrow.below hb0 hbn
    have hIj:=(hd.2 _ (List.getElem_mem hlt)).below hb0
    have hih:=ih _ (List.getElem_mem hlt)
    have HS:=hid (sum_snoc St.tot body j hlt)
    clear ih
    rcases he':body[j] with ⟨kind,mon,name,k,e,ad',cap',blocks,pos⟩
    rcases hee:e with ⟨eop,emon,ename,en,ead,ecap,ekids,epos⟩
    obtain ⟨c0,c1,c2,c3,c4,c5,c6,c7,c8,c9,c10,c11⟩:=row12 hr j hlt (by rw [he',hee];rfl)
    rw [he'] at hIj hih HS
    have hIs:=hIj.down
    have hsm:=hIs.1.2.2.2.1;have hsn:=hIs.1.2.2.2.2
    unfold Len at hsm hsn
    have hlb1:=hIs.2.2.1.1;have hlb2:=hIs.2.2.1.2.1
    unfold maxLen at hlb2
    clear he' hIj
    have hih:∀ b ∈ blocks,∀ (n:Int) (w:World),-1≤n→n≤1000→n₀≤w.heap.size→b.Is n₀ w→Calls Tryz.prog 45 #[b.slice,.int .i64 n] w fun r w'=>∃ c:Int,r=.returned (.int .i64 c)∧-1≤c∧c≤n∧Hid (0≤c→(b.sz:Int)≤n - c)∧Below w.heap.size w w':=hih
    by_cases x1:200 < mon.size
    ·have x1':(200:Int) < (mon.size:Int):=by omega
     go_wp2
     go_ret
     exact ⟨-1,rfl,by omega,by omega,fun h=>by omega,hbw⟩
    by_cases x2:200 < name.size
    ·have x1':(mon.size:Int)≤200:=by omega
     have x2':(200:Int) < (name.size:Int):=by omega
     go_wp2
     go_ret
     exact ⟨-1,rfl,by omega,by omega,fun h=>by omega,hbw⟩
    by_cases x3:40 < blocks.length
    ·have x1':(mon.size:Int)≤200:=by omega
     have x2':(name.size:Int)≤200:=by omega
     have x3':(40:Int) < (blocks.length:Int):=by omega
     go_wp2
     go_ret
     exact ⟨-1,rfl,by omega,by omega,fun h=>by omega,hbw⟩
    have x1':(mon.size:Int)≤200:=by omega
    have x2':(name.size:Int)≤200:=by omega
    have x3':(blocks.length:Int)≤40:=by omega
    have HT:=hid (St.tot_mk kind mon name k e ad' cap' blocks pos)
    have h12:=restExpr_any n₀ e (c - 1) wo (by omega) (by omega) (by omega) hIs.2.1
    have HRC:=hid (rest_count e (c - 1))
    have hrb:-1≤restE e (c - 1)∧restE e (c - 1)≤c - 1:=by
     by_cases hc3:0≤c - 1
     ·exact rest_bounds e (c - 1) hc3
     ·rcases e with ⟨q1,q2,q3,q4,q5,q6,q7,q8⟩
      rw [restE_mk,if_pos (.inr (.inr (by omega)))]
      omega
    obtain ⟨re,hre⟩:∃ re,restE e (c - 1)=re:=⟨_,rfl⟩
    rw [hre] at h12 hrb HRC
    clear hre
    rw [hee] at h12
    simp only [Ex.val,Ex.cells] at h12
    go_wp2_with (go_at_call 22;refine h12.mono ?_;rintro r w2 ⟨rfl,bb2⟩)
    have hz2:=bb2.size
    clear c0 c1 c2 c3 c4 c5 c6 c7 c8 c9 h12
    go_loopw [1,6] (fun v i wr=>∃ (m:Nat) (d:Int),m≤blocks.length∧v=.int .i64 d∧i=.int .i64 m∧-1≤d∧d≤n∧Hid (0≤d→(((body.take j).map St.tot).sum:Int)+(1+(e.subs.length:Int))+(((blocks.take m).map Bl.sz).sum:Int)≤n - d)∧Below wo.heap.size wo wr)
     (fun _ i _=>blocks.length - (intOf i).toNat)
    case atStart =>
     refine ⟨0,re,by omega,rfl,rfl,by omega,by omega,fun h=>?_,bb2⟩
     have h1:=HRC.out h
     have h2:=HA.out hcp
     simp only [List.take_zero,List.map_nil,List.sum_nil]
     omega
    case round =>
     obtain ⟨m,d',hm,rfl,rfl,hd0,hd1,HM,hbm⟩:=hrel
     have hzm:=hbm.size
     have c10':wr.cell? ⟨b,off+j * 12+10,none⟩=some (.slice ad' blocks.length cap'):=(hbm.cell (p:=⟨b,off+j * 12+10,none⟩) hbn2).trans c10
     have hbn4:b < wr.heap.size:=by omega
     by_cases hlt2:m < blocks.length
     ·by_cases hdp:0≤d'
      ·rcases hIs.2.2.1.2.2 with h | ⟨b3,off3,rfl,hbn3,hrow3⟩
       ·subst h;simp at hlt2
       have hB3:Below n₀ wo wr:=hbm.mono (by omega)
       have hr3:=hrow3.below hB3 hbn3
       have hb3l:b3 < wr.heap.size:=by omega
       have hq:=hih blocks[m] (List.getElem_mem hlt2) (d' - 1) wr (by omega) (by omega) (by omega) ((hIs.2.2.2 _ (List.getElem_mem hlt2)).below hB3)
       have HS2:=hid (sum_snoc Bl.sz blocks m hlt2)
       obtain ⟨bz,hbz⟩:∃ bz,blocks[m].sz=bz:=⟨_,rfl⟩
       rw [hbz] at hq HS2
       clear hbz
       rcases he2:blocks[m] with ⟨bad,bcap,bbody⟩
       have d0:=row1 hr3 m hlt2 (by rw [he2];rfl)
       simp only [he2,Bl.slice] at hq d0
       clear he2
       go_wp2_with (go_at_call 45;refine hq.mono ?_;rintro r w5 ⟨c5,rfl,hy0,hy1,HZ,bb5⟩)
       go_roundw
       case rel =>
        refine ⟨m+1,c5,by omega,rfl,by go_num,by omega,by omega,fun h=>?_,hbm.tr le_rfl' bb5⟩
        have h1:=HZ.out h
        have h2:=HM.out hdp
        rw [HS2.out]
        omega
       case measure=>simp [intOf];omega
      ·have hdd:decide (0≤d')=false:=by simp;omega
       go_wp2
       go_roundw
       case rel=>exact ⟨j+1,d',by omega,rfl,by go_num,by omega,by omega,fun h=>by have h':0≤d':=h;omega,hbw.tr le_rfl' hbm⟩
       case measure=>simp [intOf];omega
     ·have hmb:m=blocks.length:=by omega
      have hmd:decide ((m:Int) < (blocks.length:Int))=false:=by simp;omega
      go_wp2
      go_roundw
      case rel =>
       refine ⟨j+1,d',by omega,rfl,by go_num,by omega,by omega,fun h=>?_,hbw.tr le_rfl' hbm⟩
       have h2:=HM.out h
       have h3:=HT.out
       rw [hmb,List.take_length] at h2
       rw [HS.out]
       by_cases hno:e.none=true
       ·rw [if_pos hno] at h3;omega
       ·rw [if_neg hno] at h3;omega
      case measure=>simp [intOf];omega
   ·have hcd:decide (0≤c)=false:=by simp;omega
    go_wp2
    go_ret
    exact ⟨c,rfl,by omega,by omega,fun h=>by have h':0≤c:=h;omega,hbw⟩
  ·have hjb:j=body.length:=by omega
   have hjd:decide ((j:Int) < (body.length:Int))=false:=by simp;omega
   go_wp2
   go_ret
   refine ⟨c,rfl,by omega,by omega,fun h=>?_,hbw⟩
   have h1:=HA.out h
   rw [hjb,List.take_length] at h1
   rw [HR.out]
   exact h1
theorem rest_any (n₀:Nat) (b:Bl):∀ (n:Int) (w:World),-1≤n→n≤1000→n₀≤w.heap.size→b.Is n₀ w→Calls Tryz.prog 45 #[b.slice,.int .i64 n] w fun r w'=>∃ c:Int,r=.returned (.int .i64 c)∧-1≤c∧c≤n∧Hid (0≤c→(b.sz:Int)≤n - c)∧Below w.heap.size w w':=
 Bl.ind (P:=fun s=>∀ b ∈ s.blocks,∀ (n:Int) (w:World),-1≤n→n≤1000→n₀≤w.heap.size→b.Is n₀ w→Calls Tryz.prog 45 #[b.slice,.int .i64 n] w fun r w'=>∃ c:Int,r=.returned (.int .i64 c)∧-1≤c∧c≤n∧Hid (0≤c→(b.sz:Int)≤n - c)∧Below w.heap.size w w')
  (Q:=fun b=>∀ (n:Int) (w:World),-1≤n→n≤1000→n₀≤w.heap.size→b.Is n₀ w→Calls Tryz.prog 45 #[b.slice,.int .i64 n] w fun r w'=>∃ c:Int,r=.returned (.int .i64 c)∧-1≤c∧c≤n∧Hid (0≤c→(b.sz:Int)≤n - c)∧Below w.heap.size w w')
  (fun _ _ _ _ _ _ _ _ _ ih b hb=>ih b hb) (fun ad cap body ih n w h1 h2 h3 h4=>rest_step n₀ ad cap body ih n w h1 h2 h3 h4) b
end Go.Proofs.YtaekbgljbgmchaaGreatDoor
namespace Go.Proofs.YtaekbgljbgmchaaGreatDoor
open Go.RowKit Px
namespace Px
def lin (o:Nat) (s:List UInt8):List UInt8:=ind o++s++[10]
def blkT (o:Nat) (word:List UInt8) (i:Nat) (b:List UInt8):List UInt8:=(if i=0 then [] else 32 :: word)++([32,123,10]++(b++(ind o++[125])))
def blksT (o:Nat) (word:List UInt8):List (List UInt8)→Nat→List UInt8
 | [],_=>[]
 | b :: r,i=>blkT o word i b++blksT o word r (i+1)
theorem blksT_app (o:Nat) (word:List UInt8) (l r:List (List UInt8)) (i:Nat):blksT o word (l++r) i=blksT o word l i++blksT o word r (i+l.length):=by
 induction l generalizing i with
 | nil=>simp [blksT]
 | cons b l ih=>simp only [List.cons_append,blksT,ih,List.append_assoc,List.length_cons];rw [show i+1+l.length=i+(l.length+1) by omega]
theorem blksT_snoc (o:Nat) (word:List UInt8) (l:List (List UInt8)) (k:Nat) (h:k < l.length):blksT o word (l.take (k+1)) 0=blksT o word (l.take k) 0++blkT o word k l[k]:=by
 rw [List.take_succ_eq_append_getElem h,blksT_app,List.length_take]
 simp [blksT,Nat.min_eq_left (Nat.le_of_lt h)]
def stOf (o:Nat) (kind:Int) (mon name:ByteArray) (n:Int) (et:List UInt8) (bs:List (List UInt8)):List UInt8:=
 if kind=1 then lin o [115,107,105,112,59]
 else if kind=2 then ind o++(mon.data.toList++46 :: (name.data.toList++[32,61,32]))++et++[59,10]
 else if kind=3 then ind o++[105,102,32]++et++blksT o [101,108,115,101] bs 0++[10]
 else if kind=4 then ind o++[119,104,105,108,101,32]++et++blksT o [] bs 0++[10]
 else if kind=5 then ind o++[108,111,111,112]++blksT o [] bs 0++[10]
 else if kind=6 then ind o++[99,104,111,111,115,101]++blksT o [111,114] bs 0++[10]
 else if kind=7 then ind o++([115,121,110,99,32]++mon.data.toList)++blksT o [] bs 0++[10]
 else if kind=8 then lin o ([99,97,108,108,32]++(mon.data.toList++46 :: (name.data.toList++[59])))
 else if kind=9 then ind o++([119,97,105,116,32]++mon.data.toList)++(if 0 < n then 32 :: Lib.itoa n else [])++[59,10]
 else if kind=10 then lin o ([110,111,116,105,102,121,32]++(mon.data.toList++[59]))
 else lin o ([110,111,116,105,102,121,97,108,108,32]++(mon.data.toList++[59]))
end Px
mutual
def St.txt:St→Nat→List UInt8
 | .mk kind mon name n e _ _ blocks _,o=>stOf o kind mon name n (e.txt 1) (Bl.txtL blocks (o+1))
def Bl.txt:Bl→Nat→List UInt8
 | .mk _ _ body,o=>St.txtL body o
def St.txtL:List St→Nat→List UInt8
 | [],_=>[]
 | s :: r,o=>s.txt o++St.txtL r o
def Bl.txtL:List Bl→Nat→List (List UInt8)
 | [],_=>[]
 | b :: r,o=>b.txt o :: Bl.txtL r o
end
theorem St.txtL_eq (l:List St) (o:Nat):St.txtL l o=l.flatMap (fun s=>s.txt o):=by
 induction l with
 | nil=>simp [St.txtL]
 | cons a l ih=>simp [St.txtL,ih]
theorem Bl.txtL_eq (l:List Bl) (o:Nat):Bl.txtL l o=l.map (fun b=>b.txt o):=by
 induction l with
 | nil=>simp [Bl.txtL]
 | cons a l ih=>simp [Bl.txtL,ih]
theorem St.txt_mk (kind:Int) (mon name:ByteArray) (n:Int) (e:Ex) (ad:Option Addr) (cap:Nat) (blocks:List Bl) (pos:Int) (o:Nat):(St.mk kind mon name n e ad cap blocks pos).txt o=stOf o kind mon name n (e.txt 1) (blocks.map fun b=>b.txt (o+1)):=by rw [St.txt,Bl.txtL_eq]
theorem Bl.txt_mk (ad:Option Addr) (cap:Nat) (body:List St) (o:Nat):(Bl.mk ad cap body).txt o=body.flatMap (fun s=>s.txt o):=by rw [Bl.txt,St.txtL_eq]
mutual
def St.nst:St→Nat→Nat
 | .mk _ _ _ _ e _ _ blocks _,o=>max (o+e.nest 1) (Bl.nstL blocks (o+1))
def Bl.nst:Bl→Nat→Nat
 | .mk _ _ body,o=>max o (St.nstL body o)
def St.nstL:List St→Nat→Nat
 | [],_=>0
 | s :: r,o=>max (s.nst o) (St.nstL r o)
def Bl.nstL:List Bl→Nat→Nat
 | [],_=>0
 | b :: r,o=>max (b.nst o) (Bl.nstL r o)
end
def maxL {α:Type} (f:α→Nat):List α→Nat
 | []=>0
 | a :: r=>max (f a) (maxL f r)
theorem maxL_snoc {α:Type} (f:α→Nat) (l:List α) (k:Nat) (h:k < l.length):maxL f (l.take (k+1))=max (maxL f (l.take k)) (f l[k]):=by
 induction l generalizing k with
 | nil=>simp at h
 | cons a l ih =>
  cases k with
  | zero=>simp [maxL]
  | succ k=>simp only [List.take_succ_cons,maxL,List.getElem_cons_succ];rw [ih k (by simpa using h)];omega
theorem maxL_le {α:Type} (f:α→Nat) (l:List α) (n:Nat) (h:∀ a ∈ l,f a≤n):maxL f l≤n:=by
 induction l with
 | nil=>simp [maxL]
 | cons a l ih=>simp only [maxL];have:=h a (by simp);have:=ih (fun x hx=>h x (by simp [hx]));omega
theorem St.nstL_eq (l:List St) (o:Nat):St.nstL l o=maxL (fun s=>s.nst o) l:=by
 induction l with
 | nil=>simp [St.nstL,maxL]
 | cons a l ih=>simp [St.nstL,maxL,ih]
theorem Bl.nstL_eq (l:List Bl) (o:Nat):Bl.nstL l o=maxL (fun b=>b.nst o) l:=by
 induction l with
 | nil=>simp [Bl.nstL,maxL]
 | cons a l ih=>simp [Bl.nstL,maxL,ih]
theorem St.nst_mk (kind:Int) (mon name:ByteArray) (n:Int) (e:Ex) (ad:Option Addr) (cap:Nat) (blocks:List Bl) (pos:Int) (o:Nat):(St.mk kind mon name n e ad cap blocks pos).nst o=max (o+e.nest 1) (maxL (fun b=>b.nst (o+1)) blocks):=by rw [St.nst,Bl.nstL_eq]
theorem Bl.nst_mk (ad:Option Addr) (cap:Nat) (body:List St) (o:Nat):(Bl.mk ad cap body).nst o=max o (maxL (fun s=>s.nst o) body):=by rw [Bl.nst,St.nstL_eq]
theorem sum_ge {α:Type} (f:α→Nat) (l:List α) (a:α) (h:a ∈ l):f a≤(l.map f).sum:=by
 induction l with
 | nil=>cases h
 | cons b l ih =>
  rcases List.mem_cons.1 h with rfl | h
  ·simp
  ·have:=ih h;simp;omega
theorem none_nest {e:Ex} (h:e.none=true):e.nest 1=0∧e.subs.length=1:=by
 rcases e with ⟨op,mon,name,n,ad,cap,kids,pos⟩
 have hk:kids=[]∧op=0:=by
  unfold Ex.none at h
  rw [Ex.same] at h
  simp only [Bool.and_eq_true,beq_iff_eq] at h
  refine ⟨?_,h.1.1.1.1⟩
  have h2:=h.2
  cases kids with
  | nil=>rfl
  | cons a r=>simp [Ex.sameL] at h2
 obtain ⟨rfl,rfl⟩:=hk
 refine ⟨?_,by rw [Ex.subs_mk];simp [Ex.subsL]⟩
 simp [Ex.nest,nestL,Ex.nst_mk,nestOf,Ex.opOf,own,signed]
theorem exnest_le (e:Ex):e.nest 1≤2 * (if e.none then 0 else e.subs.length):=by
 cases h:e.none
 ·have h1:=nst_le e
  have h2:1≤e.subs.length:=by rcases e with ⟨⟩;rw [Ex.subs_mk,List.length_cons];omega
  simp only [Ex.nest,nestL,Bool.false_eq_true,if_false]
  split <;> omega
 ·have:=(none_nest h).1;omega
theorem blnst_le (b:Bl):∀ o,b.nst o≤o+2 * b.sz:=
 Bl.ind (P:=fun s=>∀ o,s.nst o≤o+2 * s.tot) (Q:=fun b=>∀ o,b.nst o≤o+2 * b.sz)
  (fun kind mon name n e ad cap blocks pos ih o=>by
   rw [St.nst_mk,St.tot_mk]
   have h1:=exnest_le e
   have h2:maxL (fun b:Bl=>b.nst (o+1)) blocks≤o+1+2 * (blocks.map Bl.sz).sum:=maxL_le _ _ _ (fun b hb=>by have:=ih b hb (o+1);have:=sum_ge Bl.sz blocks b hb;omega)
   omega)
  (fun ad cap body ih o=>by
   rw [Bl.nst_mk,Bl.sz_mk]
   have h2:maxL (fun s:St=>s.nst o) body≤o+2 * (body.map St.tot).sum:=maxL_le _ _ _ (fun s hs=>by have:=ih s hs o;have:=sum_ge St.tot body s hs;omega)
   omega) b
theorem stnst_le (s:St) (o:Nat):s.nst o≤o+2 * s.tot:=by
 rcases s with ⟨kind,mon,name,n,e,ad,cap,blocks,pos⟩
 rw [St.nst_mk,St.tot_mk]
 have h1:=exnest_le e
 have h2:maxL (fun b:Bl=>b.nst (o+1)) blocks≤o+1+2 * (blocks.map Bl.sz).sum:=maxL_le _ _ _ (fun b hb=>by have:=blnst_le b (o+1);have:=sum_ge Bl.sz blocks b hb;omega)
 omega
end Go.Proofs.YtaekbgljbgmchaaGreatDoor
namespace Go.Proofs.YtaekbgljbgmchaaGreatDoor
open Go.RowKit Px
theorem ind_len (o:Nat):(ind o).length=2 * o:=by simp [ind]
theorem blkT_len (o:Nat) (word:List UInt8) (i:Nat) (b:List UInt8):(blkT o word i b).length≤b.length+2 * o+5+word.length:=by
 unfold blkT
 simp only [List.length_append,List.length_cons,List.length_nil,ind_len]
 split <;> simp <;> omega
theorem blksT_len (o:Nat) (word:List UInt8) (l:List (List UInt8)) (i:Nat):(blksT o word l i).length≤(l.map List.length).sum+l.length * (2 * o+5+word.length):=by
 induction l generalizing i with
 | nil=>simp [blksT]
 | cons b l ih =>
  have h1:=blkT_len o word i b
  have h2:=ih (i+1)
  simp only [blksT,List.length_append,List.map_cons,List.sum_cons,List.length_cons,Nat.add_mul,Nat.one_mul]
  omega
theorem itoa_len' (n:Int) (h:I64 n):(if 0 < n then 32 :: Lib.itoa n else []).length≤21:=by
 have:=itoa_len n h
 split <;> simp <;> omega
theorem stOf_len (o:Nat) (kind:Int) (mon name:ByteArray) (n:Int) (et:List UInt8) (bs:List (List UInt8)) (ho:o≤6000) (hm:mon.data.toList.length≤32) (hn:name.data.toList.length≤32) (hI:I64 n) (hb:bs.length≤8) (x:Nat)
  (he:2≤kind→kind≤4→et.length≤x):(stOf o kind mon name n et bs).length≤x+(bs.map List.length).sum+110000:=by
 have hi:=ind_len o
 have hn':=itoa_len' n hI
 have b0:(blksT o [101,108,115,101] bs 0).length≤(bs.map List.length).sum+bs.length * (2 * o+9):=blksT_len o [101,108,115,101] bs 0
 have b1:(blksT o [] bs 0).length≤(bs.map List.length).sum+bs.length * (2 * o+5):=blksT_len o [] bs 0
 have b2:(blksT o [111,114] bs 0).length≤(bs.map List.length).sum+bs.length * (2 * o+7):=blksT_len o [111,114] bs 0
 have hmul:∀ k:Nat,k≤9→bs.length * (2 * o+k)≤8 * 12009:=fun k hk=>Nat.mul_le_mul hb (by omega)
 have m0:=hmul 9 (by omega)
 have m1:=hmul 5 (by omega)
 have m2:=hmul 7 (by omega)
 unfold stOf
 by_cases h1:kind=1
 ·rw [if_pos h1];(try unfold lin);simp only [List.length_append,List.length_cons,List.length_nil];omega
 rw [if_neg h1]
 by_cases h2:kind=2
 ·rw [if_pos h2];have:=he (by omega) (by omega);(try unfold lin);simp only [List.length_append,List.length_cons,List.length_nil];omega
 rw [if_neg h2]
 by_cases h3:kind=3
 ·rw [if_pos h3];have:=he (by omega) (by omega);(try unfold lin);simp only [List.length_append,List.length_cons,List.length_nil];omega
 rw [if_neg h3]
 by_cases h4:kind=4
 ·rw [if_pos h4];have:=he (by omega) (by omega);(try unfold lin);simp only [List.length_append,List.length_cons,List.length_nil];omega
 rw [if_neg h4]
 by_cases h5:kind=5
 ·rw [if_pos h5];(try unfold lin);simp only [List.length_append,List.length_cons,List.length_nil];omega
 rw [if_neg h5]
 by_cases h6:kind=6
 ·rw [if_pos h6];(try unfold lin);simp only [List.length_append,List.length_cons,List.length_nil];omega
 rw [if_neg h6]
 by_cases h7:kind=7
 ·rw [if_pos h7];(try unfold lin);simp only [List.length_append,List.length_cons,List.length_nil];omega
 rw [if_neg h7]
 by_cases h8:kind=8
 ·rw [if_pos h8];(try unfold lin);simp only [List.length_append,List.length_cons,List.length_nil];omega
 rw [if_neg h8]
 by_cases h9:kind=9
 ·rw [if_pos h9];(try unfold lin);simp only [List.length_append,List.length_cons,List.length_nil];omega
 rw [if_neg h9]
 by_cases h10:kind=10
 ·rw [if_pos h10];(try unfold lin);simp only [List.length_append,List.length_cons,List.length_nil];omega
 rw [if_neg h10]
 unfold lin;simp only [List.length_append,List.length_cons,List.length_nil];omega
theorem St.ok_parts {kind:Int} {mon name:ByteArray} {n:Int} {e:Ex} {ad:Option Addr} {cap:Nat} {blocks:List Bl} {pos:Int} (h:(St.mk kind mon name n e ad cap blocks pos).ok1=true) :
  (1≤kind∧kind≤11)∧fitsName mon (stMon kind.toNat)=true∧fitsName name (stName kind.toNat)=true∧fitsNum n (stNumber kind.toNat)=true∧fitsEx e (stExpr kind.toNat)=true∧stLeast kind.toNat≤blocks.length∧blocks.length≤stMost kind.toNat:=by
 simp only [St.ok1,Bool.and_eq_true,decide_eq_true_iff] at h
 exact ⟨⟨h.1.1,h.1.2⟩,h.2.1.1.1.1.1,h.2.1.1.1.1.2,h.2.1.1.1.2,h.2.1.1.2,h.2.1.2,h.2.2⟩
theorem stMost_le (k:Nat):stMost k≤8:=by
 unfold stMost;split
 ·omega
 split
 ·omega
 split <;> omega
def Bl.okb (b:Bl):Prop:=∀ s ∈ b.subs,s.ok1=true
theorem Bl.okb_stmt {ad:Option Addr} {cap:Nat} {body:List St} (h:(Bl.mk ad cap body).okb):∀ s ∈ body,s.ok1=true∧∀ x ∈ s.blocks,x.okb:=by
 intro s hs
 have h1:∀ y ∈ s.subs,y.ok1=true:=fun y hy=>h y (by rw [Bl.subs_mk];exact List.mem_flatMap.2 ⟨s,hs,hy⟩)
 rcases s with ⟨kind,mon,name,n,e,ad',cap',blocks,pos⟩
 rw [St.subs_mk] at h1
 exact ⟨h1 _ (by simp),fun x hx y hy=>h1 y (List.mem_cons_of_mem _ (List.mem_flatMap.2 ⟨x,hx,hy⟩))⟩
theorem ex_of_fits {e:Ex} {k:Nat} (h:fitsEx e (stExpr k)=true) (hk:stExpr k=true):e.ok=true:=by
 rw [hk] at h
 simpa [fitsEx] using h
theorem map_sum_le {α:Type} (f g:α→Nat) (l:List α) (h:∀ a ∈ l,f a≤g a):(l.map f).sum≤(l.map g).sum:=by
 induction l with
 | nil=>simp
 | cons a l ih=>have:=h a (by simp);have:=ih (fun x hx=>h x (by simp [hx]));simp;omega
theorem sum_mul (k:Nat) (l:List Nat):(l.map fun x=>k * x).sum=k * l.sum:=by
 induction l with
 | nil=>simp
 | cons a l ih=>simp [ih,Nat.mul_add]
theorem flat_len {α:Type} (f:α→List UInt8) (l:List α):(l.flatMap f).length=(l.map fun a=>(f a).length).sum:=by
 induction l with
 | nil=>simp
 | cons a l ih=>simp [ih]
theorem bltxt_len (n₀:Nat) (W:World) (b:Bl):b.Is n₀ W→b.okb→∀ o,o+b.sz≤6000→(b.txt o).length≤115000 * b.sz:=
 Bl.ind (P:=fun s=>s.Is n₀ W→s.ok1=true→(∀ x ∈ s.blocks,x.okb)→∀ o,o+s.tot≤6000→(s.txt o).length≤115000 * s.tot) (Q:=fun b=>b.Is n₀ W→b.okb→∀ o,o+b.sz≤6000→(b.txt o).length≤115000 * b.sz)
  (fun kind mon name n e ad cap blocks pos ih hI hok hbs o ho=>by
   obtain ⟨hk,hm,hn,-,he,-,hl⟩:=St.ok_parts hok
   rw [St.txt_mk]
   rw [St.tot_mk] at ho ⊢
   have hb:(blocks.map fun b=>(b.txt (o+1)).length).sum≤(blocks.map fun b=>115000 * b.sz).sum:=map_sum_le _ _ _ (fun b hb'=>ih b hb' (hI.down.2.2.2 b hb') (hbs b hb') (o+1) (by have:=sum_ge Bl.sz blocks b hb';omega))
   have hb2:(blocks.map fun b=>115000 * b.sz).sum=115000 * (blocks.map Bl.sz).sum:=by rw [← sum_mul,List.map_map];rfl
   have hx:2≤kind→kind≤4→(e.txt 1).length≤100 * (if e.none then 0 else e.subs.length)+2:=fun h1 h2=>by
    have hok:=ex_of_fits he (by simp [stExpr];omega)
    have h3:=bare_len e n₀ W hI.down.2.1 hok
    have h4:=atL_len 1 e.opOf e.bare
    rw [ok_none hok]
    simp only [Bool.false_eq_true,if_false]
    unfold Ex.txt;omega
   have:=stOf_len o kind mon name n (e.txt 1) (blocks.map fun b=>b.txt (o+1)) (by omega) (fits_len hm) (fits_len hn) hI.down.1.2.1 (by rw [List.length_map];have:=stMost_le kind.toNat;omega) _ hx
   rw [List.map_map] at this
   have e1:(blocks.map (List.length ∘ fun b=>b.txt (o+1))).sum=(blocks.map fun b=>(b.txt (o+1)).length).sum:=rfl
   rw [e1] at this
   omega)
  (fun ad cap body ih hI hok o ho=>by
   rw [Bl.txt_mk,flat_len]
   rw [Bl.sz_mk] at ho ⊢
   have h1:(body.map fun s=>(s.txt o).length).sum≤(body.map fun s=>115000 * s.tot).sum:=map_sum_le _ _ _ (fun s hs=>ih s hs (hI.down.2 s hs) (Bl.okb_stmt hok s hs).1 (Bl.okb_stmt hok s hs).2 o (by have:=sum_ge St.tot body s hs;omega))
   have h2:(body.map fun s=>115000 * s.tot).sum=115000 * (body.map St.tot).sum:=by rw [← sum_mul,List.map_map];rfl
   omega) b
theorem sttxt_len (n₀:Nat) (W:World) (s:St) (hI:s.Is n₀ W) (hok:s.ok1=true) (hbs:∀ x ∈ s.blocks,x.okb) (o:Nat) (ho:o+s.tot≤6000):(s.txt o).length≤115000 * s.tot:=by
 rcases s with ⟨kind,mon,name,n,e,ad,cap,blocks,pos⟩
 obtain ⟨hk,hm,hn,-,he,-,hl⟩:=St.ok_parts hok
 rw [St.txt_mk]
 rw [St.tot_mk] at ho ⊢
 have hb:(blocks.map fun b=>(b.txt (o+1)).length).sum≤(blocks.map fun b=>115000 * b.sz).sum:=map_sum_le _ _ _ (fun b hb'=>bltxt_len n₀ W b (hI.down.2.2.2 b hb') (hbs b hb') (o+1) (by have:=sum_ge Bl.sz blocks b hb';omega))
 have hb2:(blocks.map fun b=>115000 * b.sz).sum=115000 * (blocks.map Bl.sz).sum:=by rw [← sum_mul,List.map_map];rfl
 have hx:2≤kind→kind≤4→(e.txt 1).length≤100 * (if e.none then 0 else e.subs.length)+2:=fun h1 h2=>by
  have hok:=ex_of_fits he (by simp [stExpr];omega)
  have h3:=bare_len e n₀ W hI.down.2.1 hok
  have h4:=atL_len 1 e.opOf e.bare
  rw [ok_none hok]
  simp only [Bool.false_eq_true,if_false]
  unfold Ex.txt;omega
 have:=stOf_len o kind mon name n (e.txt 1) (blocks.map fun b=>b.txt (o+1)) (by omega) (fits_len hm) (fits_len hn) hI.down.1.2.1 (by rw [List.length_map];have:=stMost_le kind.toNat;omega) _ hx
 rw [List.map_map] at this
 have e1:(blocks.map (List.length ∘ fun b=>b.txt (o+1))).sum=(blocks.map fun b=>(b.txt (o+1)).length).sum:=rfl
 rw [e1] at this
 omega
end Go.Proofs.YtaekbgljbgmchaaGreatDoor
namespace Go.Proofs.YtaekbgljbgmchaaGreatDoor
open Go.RowKit Px
def BlockLays (x:Bl):Prop:=∀ (n₀ b m o:Nat) (t:List UInt8) (w:World),n₀≤b→x.Is n₀ w→Sh b m o t w→o+x.sz≤6000→t.length+500000 * x.sz≤999999999999 →
 Calls Tryz.prog 135 #[.pointer (some ⟨b,0,none⟩),x.slice] w fun r w'=>r=.returned (.tuple #[])∧Sh b m o (t++x.txt o) w'∧Kept b w w'
def Box1 (w:World) (k:Nat) (v:Value) (T:TypeId):Prop:=w.heap[k]?=some (.cells #[v] T (0,0))
theorem Box1.cell {w:World} {k:Nat} {v:Value} {T:TypeId} (h:Box1 w k v T):w.cell? ⟨k,0,none⟩=some v:=cell_of' h 0
theorem Sh.put {b m o:Nat} {t:List UInt8} {w:World} (h:Sh b m o t w) (o':Nat):Sh b m o' t (w.setCell ⟨b,3,none⟩ (.int .i64 (o':Int))):=by
 obtain ⟨c,hO,hS⟩:=h.sheet
 exact h.next ((Below.refl b w).setCell (p:=⟨b,3,none⟩) (Nat.le_refl _) _) hO (hS.put o')
theorem Kept.put {b:Nat} {u w:World} (h:Kept b u w) (v:Value):Kept b u (w.setCell ⟨b,3,none⟩ v):=⟨h.1.setCell (p:=⟨b,3,none⟩) (Nat.le_refl _) v,h.2.setCell ⟨b,3,none⟩ rfl v⟩
set_option maxHeartbeats 1000000 in
theorem closure_any (x:Bl) (hx:BlockLays x) (n₀ b m o Ba Bb:Nat) (t:List UInt8) (w:World) (hn:n₀≤b) (hI:x.Is n₀ w) (hs:Sh b m o t w) (hA:Box1 w Ba (.pointer (some ⟨b,0,none⟩)) 138) (hB:Box1 w Bb x.slice 60) (ho:o+x.sz≤6000) (hl:t.length+500000 * x.sz≤999999999999) :
  Calls Tryz.prog 134 #[.pointer (some ⟨Ba,0,none⟩),.pointer (some ⟨Bb,0,none⟩)] w fun r w'=>r=.returned (.tuple #[])∧Sh b m o (t++x.txt o) w'∧Kept b w w':=by
 have h1:=hx n₀ b m o t w hn hI hs ho hl
 have c1:=hA.cell
 have c2:=hB.cell
 rcases x with ⟨ad,cap,body⟩
 simp only [Bl.slice] at h1 c2
 go_enter Tryz.func134,Tryz.ntmps134
 go_wp2_with (go_at_call 135;(with_reducible refine h1.mono ?_);rintro r w1 ⟨rfl,s1,k1⟩)
 go_end0
 exact ⟨rfl,s1,k1⟩
set_option maxRecDepth 100000 in
set_option maxHeartbeats 600000 in
theorem body_any (x:Bl) (hx:BlockLays x) (hok:x.okb) (n₀ b m o Ba Bb:Nat) (t:List UInt8) (w:World) (hn:n₀≤b) (hI:x.Is n₀ w) (hs:Sh b m o t w) (hA:Box1 w Ba (.pointer (some ⟨b,0,none⟩)) 138) (hB:Box1 w Bb x.slice 60) (hAb:Ba ≠ b) (hBb:Bb ≠ b) (ho:o+1+x.sz≤6000) (hl:t.length+500000 * x.sz+20000≤999999999999) :
  Calls Tryz.prog 129 #[.pointer (some ⟨b,0,none⟩),.func (.func 134) #[] #[.pointer (some ⟨Ba,0,none⟩),.pointer (some ⟨Bb,0,none⟩)]] w fun r w'=>r=.returned (.tuple #[])∧Sh b m o (t++([32,123,10]++(x.txt (o+1)++(ind o++[125])))) w'∧Kept b w w':=by
 have hlx:=bltxt_len n₀ w x hI hok (o+1) (by omega)
 have h1:=end_any ⟨#[32,123]⟩ b m o t w hs (by show _+2+1≤_;omega)
 have h2:∀ W,Sh b m (o+1) (t++[32,123,10]) W→Kept b w W→Calls Tryz.prog 134 #[.pointer (some ⟨Ba,0,none⟩),.pointer (some ⟨Bb,0,none⟩)] W fun r w'=>r=.returned (.tuple #[])∧Sh b m (o+1) (t++[32,123,10]++x.txt (o+1)) w'∧Kept b W w':=fun W h k =>
  closure_any x hx n₀ b m (o+1) Ba Bb _ W hn (hI.below (k.1.mono hn)) h (k.box hA hAb (by decide)) (k.box hB hBb (by decide)) (by omega) (by simp;omega)
 have h3:∀ W,Sh b m o (t++[32,123,10]++x.txt (o+1)) W→Calls Tryz.prog 85 #[.pointer (some ⟨b,0,none⟩),.slice (some ⟨W.heap.size,0,none⟩) 1 1] (W.alloc (.cells #[.string ⟨#[125]⟩] 9)) fun e w'=>e=.returned (.tuple #[])∧Sh b m o (t++[32,123,10]++x.txt (o+1)++(ind o++[125])) w'∧Kept b W w':=fun W h=>by
  have:=begin_new [⟨#[125]⟩] b m o _ W h (by simp) (by omega) (by simp [cat];omega)
  simpa [cat] using this
 have hcast:((o+1:Nat):Int)=(o:Int)+1:=by omega
 go_enter Tryz.func129,Tryz.ntmps129
 go_wp2_with (go_at_call 132;(with_reducible refine h1.mono ?_);rintro r w1 ⟨rfl,s1,k1⟩;have c3:w1.cell? ⟨b,3,none⟩=some (.int .i64 (o:Int))∧w1.frozen? ⟨b,3,none⟩=false:=(by obtain ⟨c,_,h⟩:=s1.sheet;exact h.cells.2);obtain ⟨c3,f3⟩:=c3)
 have s2:Sh b m (o+1) (t++[32,123,10]) (w1.setCell ⟨b,3,none⟩ (.int .i64 ((o:Int)+1))):=by
  have:=s1.put (o+1)
  rw [hcast] at this
  simpa using this
 have k2:=k1.put (.int .i64 ((o:Int)+1))
 have k2b:=(Kept.refl b w).trans k2
 go_wp2_with (go_at_call 134;(with_reducible refine (h2 _ s2 k2b).mono ?_);rintro r w3 ⟨rfl,s3,k3⟩;have c4:w3.cell? ⟨b,3,none⟩=some (.int .i64 ((o:Int)+1))∧w3.frozen? ⟨b,3,none⟩=false:=(by obtain ⟨c,_,h⟩:=s3.sheet;rw [← hcast];exact h.cells.2);obtain ⟨c4,f4⟩:=c4;have s4:=s3.put o;have k4:=(k2b.trans k3).put (.int .i64 (o:Int));have h4:=h3 _ s4;rw [show (w3.setCell ⟨b,3,none⟩ (.int .i64 (o:Int))).heap.size=w3.heap.size by simp [World.setCell]] at h4)
 go_wp2_with (go_at_call 85;(with_reducible refine h4.mono ?_);rintro r w5 ⟨rfl,s5,k5⟩)
 go_end0
 exact ⟨rfl,by simpa using s5,k4.trans k5⟩
def bTx (bs:List Bl) (o:Nat):List (List UInt8):=bs.map fun b=>b.txt (o+1)
set_option maxRecDepth 100000 in
set_option maxHeartbeats 600000 in
theorem blocks_any (bs:List Bl) (word:ByteArray) (hx:∀ x ∈ bs,BlockLays x) (hok:∀ x ∈ bs,x.okb) (n₀ b m o g off cap:Nat) (t:List UInt8) (w:World) (hn:n₀≤b) (hI:∀ x ∈ bs,x.Is n₀ w) (hs:Sh b m o t w)
  (hrow:∀ W,Kept b w W→∀ (j:Nat) (h:j < bs.length),W.cell? ⟨g,off+j,none⟩=some (bs[j]).slice) (hlen:bs.length≤8) (hcap:bs.length≤cap) (hcap2:cap≤9223372036854775807) (hw:word.data.toList.length≤10) (ho:o+1+(bs.map Bl.sz).sum≤6000) (hl:t.length+500000 * (bs.map Bl.sz).sum+300000≤999999999999) :
  Calls Tryz.prog 86 #[.pointer (some ⟨b,0,none⟩),.string word,.slice (some ⟨g,off,none⟩) bs.length cap] w fun r w'=>r=.returned (.tuple #[])∧Sh b m o (t++(blksT o word.data.toList (bTx bs o) 0++[10])) w'∧Kept b w w':=by
 have hbl:=hs.bl
 have hK0:Kept b w (w.alloc (.cells #[.pointer (some ⟨b,0,none⟩)] 138)):=(Kept.refl b w).al (by omega) _
 have hA0:Box1 (w.alloc (.cells #[.pointer (some ⟨b,0,none⟩)] 138)) w.heap.size (.pointer (some ⟨b,0,none⟩)) 138:=heap_alloc_new w _
 have hs0:=hs.al (.cells #[.pointer (some ⟨b,0,none⟩)] 138)
 have hAb:w.heap.size ≠ b:=by omega
 have hsz1:w.heap.size < (w.alloc (.cells #[.pointer (some ⟨b,0,none⟩)] 138)).heap.size:=by simp
 have hbl0:=hs0.bl
 have htl:∀ k,k≤bs.length→(blksT o word.data.toList ((bTx bs o).take k) 0).length≤115000 * ((bs.take k).map Bl.sz).sum+110000:=fun k hk=>by
  have h1:=blksT_len o word.data.toList ((bTx bs o).take k) 0
  have h2:(((bTx bs o).take k).map List.length).sum≤115000 * ((bs.take k).map Bl.sz).sum:=by
   have e1:((bTx bs o).take k).map List.length=(bs.take k).map fun x=>(x.txt (o+1)).length:=by
    unfold bTx;rw [← List.map_take,List.map_map];rfl
   rw [e1]
   have h3:((bs.take k).map fun x=>(x.txt (o+1)).length).sum≤((bs.take k).map fun x=>115000 * x.sz).sum:=map_sum_le _ _ _ (fun x hx'=>by
    have hm:=List.mem_of_mem_take hx'
    exact bltxt_len n₀ w x (hI x hm) (hok x hm) (o+1) (by have:=sum_ge Bl.sz bs x hm;omega))
   have h4:((bs.take k).map fun x=>115000 * x.sz).sum=115000 * ((bs.take k).map Bl.sz).sum:=by rw [← sum_mul,List.map_map];rfl
   omega
  have h3:((bTx bs o).take k).length≤8:=by rw [List.length_take];unfold bTx;rw [List.length_map];omega
  have h4:((bTx bs o).take k).length * (2 * o+5+word.data.toList.length)≤8 * 12015:=Nat.mul_le_mul h3 (by omega)
  omega
 have hsk:∀ k,((bs.take k).map Bl.sz).sum≤(bs.map Bl.sz).sum:=fun k=>by
  have e:bs.map Bl.sz=(bs.take k).map Bl.sz++(bs.drop k).map Bl.sz:=by rw [← List.map_append,List.take_append_drop]
  rw [e,List.sum_append_nat];omega
 go_enter Tryz.func86,Tryz.ntmps86
 go_wp2
 obtain ⟨W0,hW0⟩:∃ W0,w.alloc (.cells #[.pointer (some ⟨b,0,none⟩)] 138)=W0:=⟨_,rfl⟩
 rw [hW0] at hK0 hA0 hs0 hbl0 hsz1 ⊢
 clear hW0
 go_loopw [10] (fun i wr=>∃ k:Nat,k≤bs.length∧i=.int .i64 (k:Int)∧Sh b m o (t++blksT o word.data.toList ((bTx bs o).take k) 0) wr∧Kept b W0 wr) (fun i _=>bs.length - (intOf i).toNat)
 case atStart=>exact ⟨0,by omega,rfl,by simpa [blksT] using hs0,Kept.refl _ _⟩
 case round =>
  obtain ⟨k,hk,rfl,hS,hK⟩:=hrel
  have hbr:=hS.bl
  have hzr:=hK.size
  have hAr:Box1 wr w.heap.size (.pointer (some ⟨b,0,none⟩)) 138:=hK.box hA0 hAb (by decide)
  have cA:=hAr.cell
  have htk:=htl k hk
  obtain ⟨tk,htk2⟩:∃ tk,t++blksT o word.data.toList ((bTx bs o).take k) 0=tk:=⟨_,rfl⟩
  have htkl:tk.length≤t.length+115000 * ((bs.take k).map Bl.sz).sum+110000:=by rw [← htk2,List.length_append];omega
  have hskk:=hsk k
  rw [htk2] at hS
  have HTK:=hid htk2
  clear htk2 htk
  by_cases hlt:k < bs.length
  ·have hc:=hrow wr (hK0.trans hK) k hlt
   have hxk:=hx _ (List.getElem_mem hlt)
   have hokk:=hok _ (List.getElem_mem hlt)
   have hIk:=(hI _ (List.getElem_mem hlt)).below ((hK0.trans hK).1.mono hn)
   have hszk:((bs.take k).map Bl.sz).sum+bs[k].sz≤(bs.map Bl.sz).sum:=by have:=hsk (k+1);rw [sum_snoc Bl.sz bs k hlt] at this;exact this
   have HSN:=hid (blksT_snoc o word.data.toList (bTx bs o) k (by unfold bTx;rw [List.length_map];exact hlt))
   have HBK:Hid ((bTx bs o)[k]'(by unfold bTx;rw [List.length_map];exact hlt)=bs[k].txt (o+1)):=by show _=_;simp [bTx]
   obtain ⟨x,hxe⟩:∃ x,bs[k]=x:=⟨_,rfl⟩
   rw [hxe] at hc hxk hokk hIk hszk HBK
   clear hxe
   have hbody:∀ t' W,Sh b m o t' W→Kept b wr W→Box1 W w.heap.size (.pointer (some ⟨b,0,none⟩)) 138→Box1 W wr.heap.size x.slice 60→t'.length≤tk.length+11→Calls Tryz.prog 129 #[.pointer (some ⟨b,0,none⟩),.func (.func 134) #[] #[.pointer (some ⟨w.heap.size,0,none⟩),.pointer (some ⟨wr.heap.size,0,none⟩)]] W fun r w'=>r=.returned (.tuple #[])∧Sh b m o (t'++([32,123,10]++(x.txt (o+1)++(ind o++[125])))) w'∧Kept b W w':=fun t' W h1 h2 h3 h4 h5 =>
    body_any x hxk hokk n₀ b m o _ _ t' W hn (hIk.below (h2.1.mono hn)) h1 h3 h4 hAb (by omega) (by omega) (by omega)
   rcases x with ⟨ad,xcap,xbody⟩
   simp only [Bl.slice] at hc hbody
   have hK1:Kept b wr (wr.alloc (.cells #[.slice ad xbody.length xcap] 60)):=(Kept.refl b wr).al (by omega) _
   have hs1:=hS.al (.cells #[.slice ad xbody.length xcap] 60)
   have hB1:Box1 (wr.alloc (.cells #[.slice ad xbody.length xcap] 60)) wr.heap.size (.slice ad xbody.length xcap) 60:=heap_alloc_new wr _
   have hA1:Box1 (wr.alloc (.cells #[.slice ad xbody.length xcap] 60)) w.heap.size (.pointer (some ⟨b,0,none⟩)) 138:=hK1.box hAr hAb (by decide)
   by_cases hk0:0 < k
   ·have hlay:=lay_new [⟨#[32]⟩,word] b m o tk _ hs1 (by simp) (by simp only [cat,List.flatMap_cons,List.flatMap_nil,List.append_nil,List.length_append,List.length_cons,List.length_nil];omega)
    simp only [List.map_cons,List.map_nil,List.length_cons,List.length_nil,Nat.zero_add,Nat.reduceAdd,cat,List.flatMap_cons,List.flatMap_nil,List.append_nil,World.size_alloc] at hlay
    have hA1c:=hA1.cell
    have hk0':(0:Int) < (k:Int):=by omega
    clear hrow
    go_wp2_with (first
     | (go_at_call 98;(with_reducible refine hlay.mono ?_);rintro r w2 ⟨rfl,s2,k2⟩;have hA2:Box1 w2 w.heap.size (.pointer (some ⟨b,0,none⟩)) 138:=k2.box hA1 hAb (by decide);have cA2:=hA2.cell;have hB2:Box1 w2 wr.heap.size (.slice ad xbody.length xcap) 60:=k2.box hB1 (by omega) (by decide))
     | (go_at_call 129;(with_reducible refine (hbody _ _ s2 (hK1.trans k2) hA2 hB2 (by simp only [List.length_append,List.length_cons,List.length_nil];omega)).mono ?_);rintro r w3 ⟨rfl,s3,k3⟩))
    go_roundw
    case rel =>
     refine ⟨k+1,by omega,by go_num,?_,((hK.trans hK1).trans k2).trans k3⟩
     rw [HSN.out,HBK.out,← List.append_assoc,HTK.out,blkT,if_neg (by omega)]
     simpa using s3
    case measure=>simp [intOf];omega
   ·have hk1:k=0:=by omega
    have hk0d:decide ((0:Int) < (k:Int))=false:=by simp;omega
    have HK1:=hid hk1
    clear hk1
    have hA1c:=hA1.cell
    clear hrow
    go_wp2_with (go_at_call 129;(with_reducible refine (hbody _ _ hs1 hK1 hA1 hB1 (by omega)).mono ?_);rintro r w3 ⟨rfl,s3,k3⟩)
    go_roundw
    case rel =>
     refine ⟨k+1,by omega,by go_num,?_,(hK.trans hK1).trans k3⟩
     rw [HSN.out,HBK.out,← List.append_assoc,HTK.out,blkT,if_pos HK1.out]
     simpa using s3
    case measure=>simp [intOf];omega
  ·have hkb:k=bs.length:=by omega
   have hkd:decide ((k:Int) < (bs.length:Int))=false:=by simp;omega
   have hend:=end_any ⟨#[]⟩ b m o tk wr hS (by show _+0+1≤_;omega)
   have HTE:Hid (t++blksT o word.data.toList (bTx bs o) 0=tk):=by
    show _=_
    rw [← HTK.out,hkb,List.take_of_length_le (by unfold bTx;rw [List.length_map];exact Nat.le_refl _)]
   clear hkb hrow
   go_wp2_with (go_at_call 132;(with_reducible refine hend.mono ?_);rintro r w2 ⟨rfl,s2,k2⟩)
   go_end0
   refine ⟨rfl,?_,(hK0.trans hK).trans k2⟩
   rw [← List.append_assoc,HTE.out]
   simpa using s2
end Go.Proofs.YtaekbgljbgmchaaGreatDoor
namespace Go.Proofs.YtaekbgljbgmchaaGreatDoor
open Go.RowKit Px
def StmtLays (s:St):Prop:=∀ (n₀ b m o:Nat) (t:List UInt8) (w:World),n₀≤b→s.Is n₀ w→Sh b m o t w→o+s.tot≤6000→t.length+500000 * s.tot≤999999999999 →
 Calls Tryz.prog 168 #[.pointer (some ⟨b,0,none⟩),s.val] w fun r w'=>r=.returned (.tuple #[])∧Sh b m o (t++s.txt o) w'∧Kept b w w'
set_option maxRecDepth 100000 in
set_option maxHeartbeats 2000000 in
theorem stmt_of (s:St) (hok:s.ok1=true) (hoks:∀ x ∈ s.blocks,x.okb) (hx:∀ x ∈ s.blocks,BlockLays x):StmtLays s:=by
 intro n₀ b m o t w hn hI hs ho hlen
 have hbl:=hs.bl
 rcases s with ⟨kind,mon,name,n,⟨eop,emon,ename,en,ead,ecap,ekids,epos⟩,ad,cap,blocks,pos⟩
 obtain ⟨⟨hk1,hk2⟩,hfm,hfn,hfu,hfe,hlo,hhi⟩:=St.ok_parts hok
 have hmon:=fits_len hfm
 have hname:=fits_len hfn
 have hnum:I64 n:=hI.down.1.2.1
 have hIe:=hI.down.2.1
 have hIb:=hI.down.2.2
 have hcap:=hIb.1.1
 have hcap2:=hIb.1.2.1
 unfold maxLen at hcap2
 have hb8:blocks.length≤8:=by have:=stMost_le kind.toNat;omega
 rw [St.tot_mk] at ho hlen
 have htot:Hid (o+((1+if (Ex.mk eop emon ename en ead ecap ekids epos).none then 0 else (Ex.mk eop emon ename en ead ecap ekids epos).subs.length)+(blocks.map Bl.sz).sum)≤6000∧t.length+500000 * ((1+if (Ex.mk eop emon ename en ead ecap ekids epos).none then 0 else (Ex.mk eop emon ename en ead ecap ekids epos).subs.length)+(blocks.map Bl.sz).sum)≤999999999999):=⟨ho,hlen⟩
 have ho1:o+1+(blocks.map Bl.sz).sum≤6000:=by omega
 have hlen1:t.length+500000+500000 * (blocks.map Bl.sz).sum≤999999999999:=by omega
 clear ho hlen
 have HT:=hid (St.txt_mk kind mon name n (Ex.mk eop emon ename en ead ecap ekids epos) ad cap blocks pos o)
 have bS:(w.alloc (.cells #[.int .i64 kind,.string mon,.string name,.int .i64 n,.int .i64 eop,.string emon,.string ename,.int .i64 en,.slice ead ekids.length ecap,.int .i64 epos,.slice ad blocks.length cap,.int .i64 pos] 108)).heap[w.heap.size]?=some (.cells #[.int .i64 kind,.string mon,.string name,.int .i64 n,.int .i64 eop,.string emon,.string ename,.int .i64 en,.slice ead ekids.length ecap,.int .i64 epos,.slice ad blocks.length cap,.int .i64 pos] 108 (0,0)):=heap_alloc_new w _
 have hK0:Kept b w (w.alloc (.cells #[.int .i64 kind,.string mon,.string name,.int .i64 n,.int .i64 eop,.string emon,.string ename,.int .i64 en,.slice ead ekids.length ecap,.int .i64 epos,.slice ad blocks.length cap,.int .i64 pos] 108)):=(Kept.refl b w).al (by omega) _
 have hs0:=hs.al (.cells #[.int .i64 kind,.string mon,.string name,.int .i64 n,.int .i64 eop,.string emon,.string ename,.int .i64 en,.slice ead ekids.length ecap,.int .i64 epos,.slice ad blocks.length cap,.int .i64 pos] 108)
 have hne:w.heap.size ≠ b:=by omega
 have hex:(Ex.mk eop emon ename en ead ecap ekids epos).ok=true→∀ W t',Sh b m o t' W→Kept b w W→t'.length+(100 * (Ex.mk eop emon ename en ead ecap ekids epos).subs.length+2)≤1000000000000→Calls Tryz.prog 55 #[.pointer (some ⟨b,0,none⟩),.agg #[.int .i64 eop,.string emon,.string ename,.int .i64 en,.slice ead ekids.length ecap,.int .i64 epos],.int .i64 1] W fun r w'=>r=.returned (.tuple #[])∧Sh b m o (t'++(Ex.mk eop emon ename en ead ecap ekids epos).txt 1) w'∧Kept b W w':=fun hk W t' h1 h2 h3 =>
  expr_any _ hk n₀ b m o 1 t' W hn (hIe.below (h2.1.mono hn)) h1 h3
 have hblk:∀ (word:ByteArray),word.data.toList.length≤10→∀ t' W,1≤blocks.length→Sh b m o t' W→Kept b w W→t'.length+500000 * (blocks.map Bl.sz).sum+300000≤999999999999→Calls Tryz.prog 86 #[.pointer (some ⟨b,0,none⟩),.string word,.slice ad blocks.length cap] W fun r w'=>r=.returned (.tuple #[])∧Sh b m o (t'++(blksT o word.data.toList (bTx blocks o) 0++[10])) w'∧Kept b W w':=fun word hw t' W hb1 h1 h2 h3=>by
  obtain ⟨g,off,rfl,hg,hrow⟩:=hIb.1.2.2.resolve_left (by intro h;rw [h] at hb1;simp at hb1)
  refine blocks_any blocks word hx hoks n₀ b m o g off cap t' W hn (fun x hx'=>(hIb.2 x hx').below (h2.1.mono hn)) h1 (fun W' h' j hj=>?_) hb8 hcap hcap2 hw ho1 h3
  exact row1 (hrow.below ((h2.trans h').1.mono hn) hg) j hj rfl
 simp only [St.val,St.cells,Ex.cells,List.cons_append,List.nil_append]
 go_enter Tryz.func168,Tryz.ntmps168
 go_upto_region 1 with fail
 clear hok hoks hx hI hfm hfn hs
 obtain ⟨W0,hW0⟩:∃ W0,w.alloc (.cells #[.int .i64 kind,.string mon,.string name,.int .i64 n,.int .i64 eop,.string emon,.string ename,.int .i64 en,.slice ead ekids.length ecap,.int .i64 epos,.slice ad blocks.length cap,.int .i64 pos] 108)=W0:=⟨_,rfl⟩
 rw [hW0] at bS hK0 hs0 ⊢
 have HBX:Hid (∀ W,Kept b W0 W→W.cell? ⟨w.heap.size,4,none⟩=some (.int .i64 eop)∧W.cell? ⟨w.heap.size,5,none⟩=some (.string emon)∧W.cell? ⟨w.heap.size,6,none⟩=some (.string ename)∧W.cell? ⟨w.heap.size,7,none⟩=some (.int .i64 en)∧W.cell? ⟨w.heap.size,8,none⟩=some (.slice ead ekids.length ecap)∧W.cell? ⟨w.heap.size,9,none⟩=some (.int .i64 epos)∧W.cell? ⟨w.heap.size,10,none⟩=some (.slice ad blocks.length cap)):=fun W hW=>by
  have g:=hW.box bS hne (by decide)
  exact ⟨cell_of' g 4,cell_of' g 5,cell_of' g 6,cell_of' g 7,cell_of' g 8,cell_of' g 9,cell_of' g 10⟩
 have d0:W0.cell? ⟨w.heap.size,0,none⟩=some (.int .i64 kind):=cell_of' bS 0
 have d1:W0.cell? ⟨w.heap.size,1,none⟩=some (.string mon):=cell_of' bS 1
 have d2:W0.cell? ⟨w.heap.size,2,none⟩=some (.string name):=cell_of' bS 2
 have HN3:Hid (∀ W,Kept b W0 W→W.cell? ⟨w.heap.size,3,none⟩=some (.int .i64 n)):=fun W hW=>cell_of' (hW.box bS hne (by decide)) 3
 clear hW0
 by_cases q1:kind=1
 ·subst q1
  have HT2:Hid ((St.mk 1 mon name n (Ex.mk eop emon ename en ead ecap ekids epos) ad cap blocks pos).txt o=ind o++([115,107,105,112,59])++[10]):=by show _=_;rw [HT.out];simp [stOf,lin]
  have hline:=line_new [⟨#[115,107,105,112,59]⟩] b m o t W0 hs0 (by simp) (by omega) (by simp only [cat,List.flatMap_cons,List.flatMap_nil,List.append_nil,List.length_cons,List.length_nil];omega)
  simp only [List.map_cons,List.map_nil,List.length_cons,List.length_nil,Nat.zero_add,cat,List.flatMap_cons,List.flatMap_nil,List.append_nil] at hline
  clear HT hblk hex
  go_wp2_with (go_at_call 166;(with_reducible refine hline.mono ?_);rintro r w1 ⟨rfl,s1,k1⟩)
  go_end0
  exact ⟨rfl,by rw [HT2.out];simpa using s1,hK0.trans k1⟩
 by_cases q2:kind=2
 ·subst q2
  have hbeg:=begin_new [mon,⟨#[46]⟩,name,⟨#[32,61,32]⟩] b m o t W0 hs0 (by simp) (by omega) (by simp only [cat,List.flatMap_cons,List.flatMap_nil,List.append_nil,List.length_append,List.length_cons,List.length_nil];omega)
  simp only [List.map_cons,List.map_nil,List.length_cons,List.length_nil,Nat.zero_add,Nat.reduceAdd,cat,List.flatMap_cons,List.flatMap_nil,List.append_nil] at hbeg
  obtain ⟨t1,ht1⟩:∃ t1,t++(ind o++(mon.data.toList++[46]++name.data.toList++[32,61,32]))=t1:=⟨_,rfl⟩
  have hl1:t1.length≤t.length+15000:=by rw [← ht1];simp only [List.length_append,List.length_cons,List.length_nil,ind_len];omega
  have hbeg2:Calls Tryz.prog 85 #[.pointer (some ⟨b,0,none⟩),.slice (some ⟨W0.heap.size,0,none⟩) 4 4] (W0.alloc (.cells #[.string mon,.string ⟨#[46]⟩,.string name,.string ⟨#[32,61,32]⟩] 9)) fun e w'=>e=.returned (.tuple #[])∧Sh b m o t1 w'∧Kept b W0 w':=by
   refine hbeg.mono ?_
   rintro r w' ⟨h1,h2,h3⟩
   exact ⟨h1,by rw [← ht1];simpa using h2,h3⟩
  have HT1:=hid ht1
  clear ht1 hbeg
  have hokE:(Ex.mk eop emon ename en ead ecap ekids epos).ok=true:=ex_of_fits hfe (by rfl)
  obtain ⟨et,het⟩:∃ et,(Ex.mk eop emon ename en ead ecap ekids epos).txt 1=et:=⟨_,rfl⟩
  have hetl:et.length≤100 * (Ex.mk eop emon ename en ead ecap ekids epos).subs.length+2:=by
   have h3:=bare_len _ n₀ w hIe hokE
   have h4:=atL_len 1 (Ex.mk eop emon ename en ead ecap ekids epos).opOf (Ex.mk eop emon ename en ead ecap ekids epos).bare
   rw [← het];unfold Ex.txt;omega
  have hno:=ok_none hokE
  rw [hno] at htot
  simp only [Bool.false_eq_true,if_false] at htot
  have hto:=htot.out
  have hex2:∀ W,Sh b m o t1 W→Kept b w W→Calls Tryz.prog 55 #[.pointer (some ⟨b,0,none⟩),.agg #[.int .i64 eop,.string emon,.string ename,.int .i64 en,.slice ead ekids.length ecap,.int .i64 epos],.int .i64 1] W fun r w'=>r=.returned (.tuple #[])∧Sh b m o (t1++et) w'∧Kept b W w':=fun W h1 h2=>by
   rw [← het]
   exact hex hokE W t1 h1 h2 (by omega)
  have hend:∀ W,Sh b m o (t1++et) W→Calls Tryz.prog 132 #[.pointer (some ⟨b,0,none⟩),.string ⟨#[59]⟩] W fun e w'=>e=.returned (.tuple #[])∧Sh b m o (t1++et++[59,10]) w'∧Kept b W w':=fun W h =>
   end_any ⟨#[59]⟩ b m o _ W h (by rw [List.length_append];show _+1+1≤_;omega)
  have HT2:Hid ((St.mk 2 mon name n (Ex.mk eop emon ename en ead ecap ekids epos) ad cap blocks pos).txt o=ind o++(mon.data.toList++[46]++name.data.toList++[32,61,32])++et++[59,10]):=by
   show _=_;rw [HT.out];simp [stOf,het]
  clear het HT hblk hex htot hto
  go_wp2_with (first
   | (go_at_call 85;(with_reducible refine hbeg2.mono ?_);rintro r w1 ⟨rfl,s1,k1⟩;have K1:=hK0.trans k1;have bs1:=HBX.out _ k1;obtain ⟨e4,e5,e6,e7,e8,e9,e10⟩:=bs1)
   | (go_at_call 55;(with_reducible refine (hex2 _ s1 K1).mono ?_);rintro r w2 ⟨rfl,s2,k2⟩)
   | (go_at_call 132;(with_reducible refine (hend _ s2).mono ?_);rintro r w3 ⟨rfl,s3,k3⟩))
  go_end0
  refine ⟨rfl,?_,(K1.trans k2).trans k3⟩
  rw [HT2.out]
  rw [← HT1.out] at s3
  simpa using s3
 by_cases q3:kind=3
 ·subst q3
  have hbeg:=begin_new [⟨#[105,102,32]⟩] b m o t W0 hs0 (by simp) (by omega) (by simp only [cat,List.flatMap_cons,List.flatMap_nil,List.append_nil,List.length_cons,List.length_nil];omega)
  simp only [List.map_cons,List.map_nil,List.length_cons,List.length_nil,Nat.zero_add,cat,List.flatMap_cons,List.flatMap_nil,List.append_nil] at hbeg
  obtain ⟨t1,ht1⟩:∃ t1,t++(ind o++([105,102,32]))=t1:=⟨_,rfl⟩
  have hl1:t1.length≤t.length+15000:=by rw [← ht1];simp only [List.length_append,List.length_cons,List.length_nil,ind_len];omega
  have hbeg2:Calls Tryz.prog 85 #[.pointer (some ⟨b,0,none⟩),.slice (some ⟨W0.heap.size,0,none⟩) 1 1] (W0.alloc (.cells #[.string ⟨#[105,102,32]⟩] 9)) fun e w'=>e=.returned (.tuple #[])∧Sh b m o t1 w'∧Kept b W0 w':=by
   refine hbeg.mono ?_
   rintro r w' ⟨h1,h2,h3⟩
   exact ⟨h1,by rw [← ht1];simpa using h2,h3⟩
  have HT1:=hid ht1
  clear ht1 hbeg
  have hokE:(Ex.mk eop emon ename en ead ecap ekids epos).ok=true:=ex_of_fits hfe (by rfl)
  obtain ⟨et,het⟩:∃ et,(Ex.mk eop emon ename en ead ecap ekids epos).txt 1=et:=⟨_,rfl⟩
  have hetl:et.length≤100 * (Ex.mk eop emon ename en ead ecap ekids epos).subs.length+2:=by
   have h3:=bare_len _ n₀ w hIe hokE
   have h4:=atL_len 1 (Ex.mk eop emon ename en ead ecap ekids epos).opOf (Ex.mk eop emon ename en ead ecap ekids epos).bare
   rw [← het];unfold Ex.txt;omega
  have hno:=ok_none hokE
  rw [hno] at htot
  simp only [Bool.false_eq_true,if_false] at htot
  have hto:=htot.out
  have hex2:∀ W,Sh b m o t1 W→Kept b w W→Calls Tryz.prog 55 #[.pointer (some ⟨b,0,none⟩),.agg #[.int .i64 eop,.string emon,.string ename,.int .i64 en,.slice ead ekids.length ecap,.int .i64 epos],.int .i64 1] W fun r w'=>r=.returned (.tuple #[])∧Sh b m o (t1++et) w'∧Kept b W w':=fun W h1 h2=>by
   rw [← het]
   exact hex hokE W t1 h1 h2 (by omega)
  have hb1:1≤blocks.length:=hlo
  have hblk2:∀ W,Sh b m o (t1++et) W→Kept b w W→Calls Tryz.prog 86 #[.pointer (some ⟨b,0,none⟩),.string ⟨#[101,108,115,101]⟩,.slice ad blocks.length cap] W fun r w'=>r=.returned (.tuple #[])∧Sh b m o ((t1++et)++(blksT o [101,108,115,101] (bTx blocks o) 0++[10])) w'∧Kept b W w':=fun W h1 h2=>hblk ⟨#[101,108,115,101]⟩ (by decide) (t1++et) W hb1 h1 h2 (by rw [List.length_append];omega)
  have HT2:Hid ((St.mk 3 mon name n (Ex.mk eop emon ename en ead ecap ekids epos) ad cap blocks pos).txt o=ind o++([105,102,32])++et++blksT o [101,108,115,101] (bTx blocks o) 0++[10]):=by
   show _=_;rw [HT.out];simp [stOf,bTx,het]
  clear het
  clear HT hblk hex htot hto
  go_wp2_with (first
   | (go_at_call 85;(with_reducible refine hbeg2.mono ?_);rintro r w1 ⟨rfl,s1,k1⟩;have K1:=hK0.trans k1;have bs1:=HBX.out _ k1;obtain ⟨e4,e5,e6,e7,e8,e9,e10⟩:=bs1)
   | (go_at_call 55;(with_reducible refine (hex2 _ s1 K1).mono ?_);rintro r w2 ⟨rfl,s2,k2⟩;have K2:=K1.trans k2;have bs2:=HBX.out _ (k1.trans k2);obtain ⟨-,-,-,-,-,-,f10⟩:=bs2)
   | (go_at_call 86;(with_reducible refine (hblk2 _ s2 K2).mono ?_);rintro r w3 ⟨rfl,s3,k3⟩))
  go_end0
  refine ⟨rfl,?_,K2.trans k3⟩
  rw [HT2.out]
  rw [← HT1.out] at s3
  simpa using s3
 by_cases q4:kind=4
 ·subst q4
  have hbeg:=begin_new [⟨#[119,104,105,108,101,32]⟩] b m o t W0 hs0 (by simp) (by omega) (by simp only [cat,List.flatMap_cons,List.flatMap_nil,List.append_nil,List.length_cons,List.length_nil];omega)
  simp only [List.map_cons,List.map_nil,List.length_cons,List.length_nil,Nat.zero_add,cat,List.flatMap_cons,List.flatMap_nil,List.append_nil] at hbeg
  obtain ⟨t1,ht1⟩:∃ t1,t++(ind o++([119,104,105,108,101,32]))=t1:=⟨_,rfl⟩
  have hl1:t1.length≤t.length+15000:=by rw [← ht1];simp only [List.length_append,List.length_cons,List.length_nil,ind_len];omega
  have hbeg2:Calls Tryz.prog 85 #[.pointer (some ⟨b,0,none⟩),.slice (some ⟨W0.heap.size,0,none⟩) 1 1] (W0.alloc (.cells #[.string ⟨#[119,104,105,108,101,32]⟩] 9)) fun e w'=>e=.returned (.tuple #[])∧Sh b m o t1 w'∧Kept b W0 w':=by
   refine hbeg.mono ?_
   rintro r w' ⟨h1,h2,h3⟩
   exact ⟨h1,by rw [← ht1];simpa using h2,h3⟩
  have HT1:=hid ht1
  clear ht1 hbeg
  have hokE:(Ex.mk eop emon ename en ead ecap ekids epos).ok=true:=ex_of_fits hfe (by rfl)
  obtain ⟨et,het⟩:∃ et,(Ex.mk eop emon ename en ead ecap ekids epos).txt 1=et:=⟨_,rfl⟩
  have hetl:et.length≤100 * (Ex.mk eop emon ename en ead ecap ekids epos).subs.length+2:=by
   have h3:=bare_len _ n₀ w hIe hokE
   have h4:=atL_len 1 (Ex.mk eop emon ename en ead ecap ekids epos).opOf (Ex.mk eop emon ename en ead ecap ekids epos).bare
   rw [← het];unfold Ex.txt;omega
  have hno:=ok_none hokE
  rw [hno] at htot
  simp only [Bool.false_eq_true,if_false] at htot
  have hto:=htot.out
  have hex2:∀ W,Sh b m o t1 W→Kept b w W→Calls Tryz.prog 55 #[.pointer (some ⟨b,0,none⟩),.agg #[.int .i64 eop,.string emon,.string ename,.int .i64 en,.slice ead ekids.length ecap,.int .i64 epos],.int .i64 1] W fun r w'=>r=.returned (.tuple #[])∧Sh b m o (t1++et) w'∧Kept b W w':=fun W h1 h2=>by
   rw [← het]
   exact hex hokE W t1 h1 h2 (by omega)
  have hb1:1≤blocks.length:=hlo
  have hblk2:∀ W,Sh b m o (t1++et) W→Kept b w W→Calls Tryz.prog 86 #[.pointer (some ⟨b,0,none⟩),.string ⟨#[]⟩,.slice ad blocks.length cap] W fun r w'=>r=.returned (.tuple #[])∧Sh b m o ((t1++et)++(blksT o [] (bTx blocks o) 0++[10])) w'∧Kept b W w':=fun W h1 h2=>hblk ⟨#[]⟩ (by decide) (t1++et) W hb1 h1 h2 (by rw [List.length_append];omega)
  have HT2:Hid ((St.mk 4 mon name n (Ex.mk eop emon ename en ead ecap ekids epos) ad cap blocks pos).txt o=ind o++([119,104,105,108,101,32])++et++blksT o [] (bTx blocks o) 0++[10]):=by
   show _=_;rw [HT.out];simp [stOf,bTx,het]
  clear het
  clear HT hblk hex htot hto
  go_wp2_with (first
   | (go_at_call 85;(with_reducible refine hbeg2.mono ?_);rintro r w1 ⟨rfl,s1,k1⟩;have K1:=hK0.trans k1;have bs1:=HBX.out _ k1;obtain ⟨e4,e5,e6,e7,e8,e9,e10⟩:=bs1)
   | (go_at_call 55;(with_reducible refine (hex2 _ s1 K1).mono ?_);rintro r w2 ⟨rfl,s2,k2⟩;have K2:=K1.trans k2;have bs2:=HBX.out _ (k1.trans k2);obtain ⟨-,-,-,-,-,-,f10⟩:=bs2)
   | (go_at_call 86;(with_reducible refine (hblk2 _ s2 K2).mono ?_);rintro r w3 ⟨rfl,s3,k3⟩))
  go_end0
  refine ⟨rfl,?_,K2.trans k3⟩
  rw [HT2.out]
  rw [← HT1.out] at s3
  simpa using s3
 by_cases q5:kind=5
 ·subst q5
  have hbeg:=begin_new [⟨#[108,111,111,112]⟩] b m o t W0 hs0 (by simp) (by omega) (by simp only [cat,List.flatMap_cons,List.flatMap_nil,List.append_nil,List.length_cons,List.length_nil];omega)
  simp only [List.map_cons,List.map_nil,List.length_cons,List.length_nil,Nat.zero_add,cat,List.flatMap_cons,List.flatMap_nil,List.append_nil] at hbeg
  obtain ⟨t1,ht1⟩:∃ t1,t++(ind o++([108,111,111,112]))=t1:=⟨_,rfl⟩
  have hl1:t1.length≤t.length+15000:=by rw [← ht1];simp only [List.length_append,List.length_cons,List.length_nil,ind_len];omega
  have hbeg2:Calls Tryz.prog 85 #[.pointer (some ⟨b,0,none⟩),.slice (some ⟨W0.heap.size,0,none⟩) 1 1] (W0.alloc (.cells #[.string ⟨#[108,111,111,112]⟩] 9)) fun e w'=>e=.returned (.tuple #[])∧Sh b m o t1 w'∧Kept b W0 w':=by
   refine hbeg.mono ?_
   rintro r w' ⟨h1,h2,h3⟩
   exact ⟨h1,by rw [← ht1];simpa using h2,h3⟩
  have HT1:=hid ht1
  clear ht1 hbeg
  have hb1:1≤blocks.length:=hlo
  have hblk2:∀ W,Sh b m o t1 W→Kept b w W→Calls Tryz.prog 86 #[.pointer (some ⟨b,0,none⟩),.string ⟨#[]⟩,.slice ad blocks.length cap] W fun r w'=>r=.returned (.tuple #[])∧Sh b m o (t1++(blksT o [] (bTx blocks o) 0++[10])) w'∧Kept b W w':=fun W h1 h2=>hblk ⟨#[]⟩ (by decide) t1 W hb1 h1 h2 (by omega)
  have HT2:Hid ((St.mk 5 mon name n (Ex.mk eop emon ename en ead ecap ekids epos) ad cap blocks pos).txt o=ind o++([108,111,111,112])++blksT o [] (bTx blocks o) 0++[10]):=by
   show _=_;rw [HT.out];simp [stOf,bTx]
  skip
  clear HT hblk hex htot
  go_wp2_with (first
   | (go_at_call 85;(with_reducible refine hbeg2.mono ?_);rintro r w1 ⟨rfl,s1,k1⟩;have K1:=hK0.trans k1;have bs1:=HBX.out _ k1;obtain ⟨e4,e5,e6,e7,e8,e9,e10⟩:=bs1)
   | (go_at_call 86;(with_reducible refine (hblk2 _ s1 K1).mono ?_);rintro r w3 ⟨rfl,s3,k3⟩))
  go_end0
  refine ⟨rfl,?_,K1.trans k3⟩
  rw [HT2.out]
  rw [← HT1.out] at s3
  simpa using s3
 by_cases q6:kind=6
 ·subst q6
  have hbeg:=begin_new [⟨#[99,104,111,111,115,101]⟩] b m o t W0 hs0 (by simp) (by omega) (by simp only [cat,List.flatMap_cons,List.flatMap_nil,List.append_nil,List.length_cons,List.length_nil];omega)
  simp only [List.map_cons,List.map_nil,List.length_cons,List.length_nil,Nat.zero_add,cat,List.flatMap_cons,List.flatMap_nil,List.append_nil] at hbeg
  obtain ⟨t1,ht1⟩:∃ t1,t++(ind o++([99,104,111,111,115,101]))=t1:=⟨_,rfl⟩
  have hl1:t1.length≤t.length+15000:=by rw [← ht1];simp only [List.length_append,List.length_cons,List.length_nil,ind_len];omega
  have hbeg2:Calls Tryz.prog 85 #[.pointer (some ⟨b,0,none⟩),.slice (some ⟨W0.heap.size,0,none⟩) 1 1] (W0.alloc (.cells #[.string ⟨#[99,104,111,111,115,101]⟩] 9)) fun e w'=>e=.returned (.tuple #[])∧Sh b m o t1 w'∧Kept b W0 w':=by
   refine hbeg.mono ?_
   rintro r w' ⟨h1,h2,h3⟩
   exact ⟨h1,by rw [← ht1];simpa using h2,h3⟩
  have HT1:=hid ht1
  clear ht1 hbeg
  have hb1:1≤blocks.length:=hlo
  have hblk2:∀ W,Sh b m o t1 W→Kept b w W→Calls Tryz.prog 86 #[.pointer (some ⟨b,0,none⟩),.string ⟨#[111,114]⟩,.slice ad blocks.length cap] W fun r w'=>r=.returned (.tuple #[])∧Sh b m o (t1++(blksT o [111,114] (bTx blocks o) 0++[10])) w'∧Kept b W w':=fun W h1 h2=>hblk ⟨#[111,114]⟩ (by decide) t1 W hb1 h1 h2 (by omega)
  have HT2:Hid ((St.mk 6 mon name n (Ex.mk eop emon ename en ead ecap ekids epos) ad cap blocks pos).txt o=ind o++([99,104,111,111,115,101])++blksT o [111,114] (bTx blocks o) 0++[10]):=by
   show _=_;rw [HT.out];simp [stOf,bTx]
  skip
  clear HT hblk hex htot
  go_wp2_with (first
   | (go_at_call 85;(with_reducible refine hbeg2.mono ?_);rintro r w1 ⟨rfl,s1,k1⟩;have K1:=hK0.trans k1;have bs1:=HBX.out _ k1;obtain ⟨e4,e5,e6,e7,e8,e9,e10⟩:=bs1)
   | (go_at_call 86;(with_reducible refine (hblk2 _ s1 K1).mono ?_);rintro r w3 ⟨rfl,s3,k3⟩))
  go_end0
  refine ⟨rfl,?_,K1.trans k3⟩
  rw [HT2.out]
  rw [← HT1.out] at s3
  simpa using s3
 by_cases q7:kind=7
 ·subst q7
  have hbeg:=begin_new [⟨#[115,121,110,99,32]⟩,mon] b m o t W0 hs0 (by simp) (by omega) (by simp only [cat,List.flatMap_cons,List.flatMap_nil,List.append_nil,List.length_append,List.length_cons,List.length_nil];omega)
  simp only [List.map_cons,List.map_nil,List.length_cons,List.length_nil,Nat.zero_add,Nat.reduceAdd,cat,List.flatMap_cons,List.flatMap_nil,List.append_nil] at hbeg
  obtain ⟨t1,ht1⟩:∃ t1,t++(ind o++([115,121,110,99,32]++mon.data.toList))=t1:=⟨_,rfl⟩
  have hl1:t1.length≤t.length+15000:=by rw [← ht1];simp only [List.length_append,List.length_cons,List.length_nil,ind_len];omega
  have hbeg2:Calls Tryz.prog 85 #[.pointer (some ⟨b,0,none⟩),.slice (some ⟨W0.heap.size,0,none⟩) 2 2] (W0.alloc (.cells #[.string ⟨#[115,121,110,99,32]⟩,.string mon] 9)) fun e w'=>e=.returned (.tuple #[])∧Sh b m o t1 w'∧Kept b W0 w':=by
   refine hbeg.mono ?_
   rintro r w' ⟨h1,h2,h3⟩
   exact ⟨h1,by rw [← ht1];simpa using h2,h3⟩
  have HT1:=hid ht1
  clear ht1 hbeg
  have hb1:1≤blocks.length:=hlo
  have hblk2:∀ W,Sh b m o t1 W→Kept b w W→Calls Tryz.prog 86 #[.pointer (some ⟨b,0,none⟩),.string ⟨#[]⟩,.slice ad blocks.length cap] W fun r w'=>r=.returned (.tuple #[])∧Sh b m o (t1++(blksT o [] (bTx blocks o) 0++[10])) w'∧Kept b W w':=fun W h1 h2=>hblk ⟨#[]⟩ (by decide) t1 W hb1 h1 h2 (by omega)
  have HT2:Hid ((St.mk 7 mon name n (Ex.mk eop emon ename en ead ecap ekids epos) ad cap blocks pos).txt o=ind o++([115,121,110,99,32]++mon.data.toList)++blksT o [] (bTx blocks o) 0++[10]):=by
   show _=_;rw [HT.out];simp [stOf,bTx]
  skip
  clear HT hblk hex htot
  go_wp2_with (first
   | (go_at_call 85;(with_reducible refine hbeg2.mono ?_);rintro r w1 ⟨rfl,s1,k1⟩;have K1:=hK0.trans k1;have bs1:=HBX.out _ k1;obtain ⟨e4,e5,e6,e7,e8,e9,e10⟩:=bs1)
   | (go_at_call 86;(with_reducible refine (hblk2 _ s1 K1).mono ?_);rintro r w3 ⟨rfl,s3,k3⟩))
  go_end0
  refine ⟨rfl,?_,K1.trans k3⟩
  rw [HT2.out]
  rw [← HT1.out] at s3
  simpa using s3
 by_cases q8:kind=8
 ·subst q8
  have HT2:Hid ((St.mk 8 mon name n (Ex.mk eop emon ename en ead ecap ekids epos) ad cap blocks pos).txt o=ind o++([99,97,108,108,32]++mon.data.toList++[46]++name.data.toList++[59])++[10]):=by show _=_;rw [HT.out];simp [stOf,lin]
  have hline:=line_new [⟨#[99,97,108,108,32]⟩,mon,⟨#[46]⟩,name,⟨#[59]⟩] b m o t W0 hs0 (by simp) (by omega) (by simp only [cat,List.flatMap_cons,List.flatMap_nil,List.append_nil,List.length_append,List.length_cons,List.length_nil];omega)
  simp only [List.map_cons,List.map_nil,List.length_cons,List.length_nil,Nat.zero_add,Nat.reduceAdd,cat,List.flatMap_cons,List.flatMap_nil,List.append_nil] at hline
  clear HT hblk hex
  go_wp2_with (go_at_call 166;(with_reducible refine hline.mono ?_);rintro r w1 ⟨rfl,s1,k1⟩)
  go_end0
  exact ⟨rfl,by rw [HT2.out];simpa using s1,hK0.trans k1⟩
 by_cases q9:kind=9
 ·subst q9
  have hbeg:=begin_new [⟨#[119,97,105,116,32]⟩,mon] b m o t W0 hs0 (by simp) (by omega) (by simp only [cat,List.flatMap_cons,List.flatMap_nil,List.append_nil,List.length_append,List.length_cons,List.length_nil];omega)
  simp only [List.map_cons,List.map_nil,List.length_cons,List.length_nil,Nat.zero_add,Nat.reduceAdd,cat,List.flatMap_cons,List.flatMap_nil,List.append_nil] at hbeg
  obtain ⟨t1,ht1⟩:∃ t1,t++(ind o++([119,97,105,116,32]++mon.data.toList))=t1:=⟨_,rfl⟩
  have hl1:t1.length≤t.length+15000:=by rw [← ht1];simp only [List.length_append,List.length_cons,List.length_nil,ind_len];omega
  have hbeg2:Calls Tryz.prog 85 #[.pointer (some ⟨b,0,none⟩),.slice (some ⟨W0.heap.size,0,none⟩) 2 2] (W0.alloc (.cells #[.string ⟨#[119,97,105,116,32]⟩,.string mon] 9)) fun e w'=>e=.returned (.tuple #[])∧Sh b m o t1 w'∧Kept b W0 w':=by
   refine hbeg.mono ?_
   rintro r w' ⟨h1,h2,h3⟩
   exact ⟨h1,by rw [← ht1];simpa using h2,h3⟩
  have HT1:=hid ht1
  clear ht1 hbeg
  by_cases hn0:0 < n
  ·have hnumc:∀ W,Sh b m o t1 W→Calls Tryz.prog 84 #[.int .i64 n] W fun e w'=>e=.returned (.string ⟨(Lib.itoa n).toArray⟩)∧Below W.heap.size W w':=fun W h=>number_any n W hnum h.tab
   have hil:=itoa_len n hnum
   have hlay:∀ W,Sh b m o t1 W→Calls Tryz.prog 98 #[.pointer (some ⟨b,0,none⟩),.slice (some ⟨W.heap.size,0,none⟩) 2 2] (W.alloc (.cells #[.string ⟨#[32]⟩,.string ⟨(Lib.itoa n).toArray⟩] 9)) fun e w'=>e=.returned (.tuple #[])∧Sh b m o (t1++(32 :: Lib.itoa n)) w'∧Kept b W w':=fun W h=>by
    have:=lay_new [⟨#[32]⟩,⟨(Lib.itoa n).toArray⟩] b m o t1 W h (by simp) (by simp [cat];omega)
    simpa [cat] using this
   have hend:∀ W,Sh b m o (t1++(32 :: Lib.itoa n)) W→Calls Tryz.prog 132 #[.pointer (some ⟨b,0,none⟩),.string ⟨#[59]⟩] W fun e w'=>e=.returned (.tuple #[])∧Sh b m o (t1++(32 :: Lib.itoa n)++[59,10]) w'∧Kept b W w':=fun W h =>
    end_any ⟨#[59]⟩ b m o _ W h (by rw [List.length_append,List.length_cons];show _+1+1≤_;omega)
   have HT2:Hid ((St.mk 9 mon name n (Ex.mk eop emon ename en ead ecap ekids epos) ad cap blocks pos).txt o=ind o++([119,97,105,116,32]++mon.data.toList)++(32 :: Lib.itoa n)++[59,10]):=by
    show _=_;rw [HT.out];simp [stOf,hn0]
   clear HT hblk hex htot
   go_wp2_with (first
    | (go_at_call 85;(with_reducible refine hbeg2.mono ?_);rintro r w1 ⟨rfl,s1,k1⟩;have K1:=hK0.trans k1;have e3:=HN3.out _ k1)
    | (go_at_call 84;(with_reducible refine (hnumc _ s1).mono ?_);rintro r w2 ⟨rfl,b2⟩;have s2:=s1.below b2;have K2:=K1.of (by omega) b2)
    | (go_at_call 98;(with_reducible refine (hlay _ s2).mono ?_);rintro r w3 ⟨rfl,s3,k3⟩)
    | (go_at_call 132;(with_reducible refine (hend _ s3).mono ?_);rintro r w4 ⟨rfl,s4,k4⟩))
   go_end0
   refine ⟨rfl,?_,(K2.trans k3).trans k4⟩
   rw [HT2.out]
   rw [← HT1.out] at s4
   simpa using s4
  ·have hn0d:decide (0 < n)=false:=by simp;omega
   have hend:∀ W,Sh b m o t1 W→Calls Tryz.prog 132 #[.pointer (some ⟨b,0,none⟩),.string ⟨#[59]⟩] W fun e w'=>e=.returned (.tuple #[])∧Sh b m o (t1++[59,10]) w'∧Kept b W w':=fun W h =>
    end_any ⟨#[59]⟩ b m o _ W h (by show _+1+1≤_;omega)
   have HT2:Hid ((St.mk 9 mon name n (Ex.mk eop emon ename en ead ecap ekids epos) ad cap blocks pos).txt o=ind o++([119,97,105,116,32]++mon.data.toList)++[59,10]):=by
    show _=_;rw [HT.out];simp [stOf,hn0]
   clear HT hblk hex htot
   go_wp2_with (first
    | (go_at_call 85;(with_reducible refine hbeg2.mono ?_);rintro r w1 ⟨rfl,s1,k1⟩;have K1:=hK0.trans k1;have e3:=HN3.out _ k1)
    | (go_at_call 132;(with_reducible refine (hend _ s1).mono ?_);rintro r w4 ⟨rfl,s4,k4⟩))
   go_end0
   refine ⟨rfl,?_,K1.trans k4⟩
   rw [HT2.out]
   rw [← HT1.out] at s4
   simpa using s4
 by_cases q10:kind=10
 ·subst q10
  have HT2:Hid ((St.mk 10 mon name n (Ex.mk eop emon ename en ead ecap ekids epos) ad cap blocks pos).txt o=ind o++([110,111,116,105,102,121,32]++mon.data.toList++[59])++[10]):=by show _=_;rw [HT.out];simp [stOf,lin]
  have hline:=line_new [⟨#[110,111,116,105,102,121,32]⟩,mon,⟨#[59]⟩] b m o t W0 hs0 (by simp) (by omega) (by simp only [cat,List.flatMap_cons,List.flatMap_nil,List.append_nil,List.length_append,List.length_cons,List.length_nil];omega)
  simp only [List.map_cons,List.map_nil,List.length_cons,List.length_nil,Nat.zero_add,Nat.reduceAdd,cat,List.flatMap_cons,List.flatMap_nil,List.append_nil] at hline
  clear HT hblk hex
  go_wp2_with (go_at_call 166;(with_reducible refine hline.mono ?_);rintro r w1 ⟨rfl,s1,k1⟩)
  go_end0
  exact ⟨rfl,by rw [HT2.out];simpa using s1,hK0.trans k1⟩
 by_cases q11:kind=11
 ·subst q11
  have HT2:Hid ((St.mk 11 mon name n (Ex.mk eop emon ename en ead ecap ekids epos) ad cap blocks pos).txt o=ind o++([110,111,116,105,102,121,97,108,108,32]++mon.data.toList++[59])++[10]):=by show _=_;rw [HT.out];simp [stOf,lin]
  have hline:=line_new [⟨#[110,111,116,105,102,121,97,108,108,32]⟩,mon,⟨#[59]⟩] b m o t W0 hs0 (by simp) (by omega) (by simp only [cat,List.flatMap_cons,List.flatMap_nil,List.append_nil,List.length_append,List.length_cons,List.length_nil];omega)
  simp only [List.map_cons,List.map_nil,List.length_cons,List.length_nil,Nat.zero_add,Nat.reduceAdd,cat,List.flatMap_cons,List.flatMap_nil,List.append_nil] at hline
  clear HT hblk hex
  go_wp2_with (go_at_call 166;(with_reducible refine hline.mono ?_);rintro r w1 ⟨rfl,s1,k1⟩)
  go_end0
  exact ⟨rfl,by rw [HT2.out];simpa using s1,hK0.trans k1⟩
 exact absurd hk2 (by omega)
end Go.Proofs.YtaekbgljbgmchaaGreatDoor
namespace Go.Proofs.YtaekbgljbgmchaaGreatDoor
open Go.RowKit Px
set_option maxRecDepth 100000 in
set_option maxHeartbeats 1000000 in
theorem p_block_step (ad:Option Addr) (cap:Nat) (body:List St) (hok:(Bl.mk ad cap body).okb) (hst:∀ s ∈ body,StmtLays s):BlockLays (.mk ad cap body):=by
 intro n₀ b m o t w hn hI hs ho hlen
 have hsl:=hI.down.1
 have hIs:=hI.down.2
 have hl1:=hsl.1;have hl2:=hsl.2.1
 unfold maxLen at hl2
 have HT:=hid (Bl.txt_mk ad cap body o)
 rw [Bl.sz_mk] at ho hlen
 have hbl:=hs.bl
 have htl:∀ k,((body.take k).flatMap fun s=>s.txt o).length≤115000 * ((body.take k).map St.tot).sum:=fun k=>by
  rw [flat_len]
  have h3:((body.take k).map fun x=>(x.txt o).length).sum≤((body.take k).map fun x=>115000 * x.tot).sum:=map_sum_le _ _ _ (fun x hx'=>by
   have hm:=List.mem_of_mem_take hx'
   exact sttxt_len n₀ w x (hIs x hm) (Bl.okb_stmt hok x hm).1 (Bl.okb_stmt hok x hm).2 o (by have:=sum_ge St.tot body x hm;omega))
  have h4:((body.take k).map fun x=>115000 * x.tot).sum=115000 * ((body.take k).map St.tot).sum:=by rw [← sum_mul,List.map_map];rfl
  omega
 have hsk:∀ k,((body.take k).map St.tot).sum≤(body.map St.tot).sum:=fun k=>by
  have e:body.map St.tot=(body.take k).map St.tot++(body.drop k).map St.tot:=by rw [← List.map_append,List.take_append_drop]
  rw [e,List.sum_append_nat];omega
 simp only [Bl.slice]
 go_enter Tryz.func135,Tryz.ntmps135
 go_wp2
 go_loopw [8] (fun i wr=>∃ k:Nat,k≤body.length∧i=.int .i64 (k:Int)∧Sh b m o (t++(body.take k).flatMap fun s=>s.txt o) wr∧Kept b w wr) (fun i _=>body.length - (intOf i).toNat)
 case atStart=>exact ⟨0,by omega,rfl,by simpa using hs,Kept.refl _ _⟩
 case round =>
  obtain ⟨k,hk,rfl,hS,hK⟩:=hrel
  have hbr:=hS.bl
  have htk:=htl k
  have hskk:=hsk k
  by_cases hlt:k < body.length
  ·rcases hsl.2.2 with h | ⟨g,off,rfl,hg,hrow⟩
   ·subst h;simp at hlt
   have hr:=hrow.below (hK.1.mono hn) hg
   have hgl:g < wr.heap.size:=by omega
   have HSN:=hid (flatMap_snoc (fun s:St=>s.txt o) body k hlt)
   have HDR:Hid (∀ u:List UInt8,body.flatMap (fun s=>s.txt o)=(body.take k).flatMap (fun s=>s.txt o)++(body.drop k).flatMap (fun s=>s.txt o)):=fun _=>by rw [← List.flatMap_append,List.take_append_drop]
   have hszk:((body.take k).map St.tot).sum+body[k].tot≤(body.map St.tot).sum:=by have:=hsk (k+1);rw [sum_snoc St.tot body k hlt] at this;exact this
   have hq:∀ W,Sh b m o (t++(body.take k).flatMap fun s=>s.txt o) W→Kept b w W→Calls Tryz.prog 168 #[.pointer (some ⟨b,0,none⟩),body[k].val] W fun r w'=>r=.returned (.tuple #[])∧Sh b m o (t++((body.take k).flatMap fun s=>s.txt o)++body[k].txt o) w'∧Kept b W w':=fun W h1 h2 =>
    hst _ (List.getElem_mem hlt) n₀ b m o _ W hn ((hIs _ (List.getElem_mem hlt)).below (h2.1.mono hn)) h1 (by omega) (by rw [List.length_append];omega)
   obtain ⟨tk,htk2⟩:∃ tk,t++(body.take k).flatMap (fun s=>s.txt o)=tk:=⟨_,rfl⟩
   rw [htk2] at hS
   simp only [htk2] at hq
   have HTK:=hid htk2
   clear htk2 htk
   obtain ⟨sx,hsx⟩:∃ sx,body[k].txt o=sx:=⟨_,rfl⟩
   simp only [hsx] at hq HSN
   clear hsx
   rcases he':body[k] with ⟨kind,mon,name,n,⟨eop,emon,ename,en,ead,ecap,ekids,epos⟩,ad',cap',blocks,pos⟩
   obtain ⟨c0,c1,c2,c3,c4,c5,c6,c7,c8,c9,c10,c11⟩:=row12 hr k hlt (by rw [he'];rfl)
   simp only [he',St.val,St.cells,Ex.cells,List.cons_append,List.nil_append] at hq
   have hs1:=hS.al (.cells #[.int .i64 kind,.string mon,.string name,.int .i64 n,.int .i64 eop,.string emon,.string ename,.int .i64 en,.slice ead ekids.length ecap,.int .i64 epos,.slice ad' blocks.length cap',.int .i64 pos] 108)
   have hK1:Kept b w (wr.alloc (.cells #[.int .i64 kind,.string mon,.string name,.int .i64 n,.int .i64 eop,.string emon,.string ename,.int .i64 en,.slice ead ekids.length ecap,.int .i64 epos,.slice ad' blocks.length cap',.int .i64 pos] 108)):=hK.al (by omega) _
   obtain ⟨c,hO,hSh⟩:=hs1.sheet
   have hf:=full_any b _ _ c _ hSh
   have hq1:=hq _ hs1 hK1
   clear he' hq
   cases hd:decide (20000 < c.length)
   ·rw [hd] at hf
    clear hd
    go_wp2_with (first
     | (go_at_call 87;(with_reducible refine hf.mono ?_);rintro r w' ⟨rfl,hw'⟩;have hw2:=hw'.symm;subst hw2)
     | (go_at_call 168;(with_reducible refine hq1.mono ?_);rintro r w2 ⟨rfl,s2,k2⟩))
    go_roundw
    case rel =>
     refine ⟨k+1,by omega,by go_num,?_,hK1.trans k2⟩
     rw [HSN.out,← List.append_assoc,HTK.out]
     exact s2
    case measure=>simp [intOf];omega
   ·rw [hd] at hf
    have hd2:=of_decide_eq_true hd
    clear hd
    go_wp2_with (go_at_call 87;(with_reducible refine hf.mono ?_);rintro r w' ⟨rfl,hw'⟩;have hw2:=hw'.symm;subst hw2)
    ((try simp only [Exit.inBlock,Exit.then]);refine bodyPost_ret (results_none rfl _ _ _) rfl ?_)
    refine ⟨rfl,?_,hK1⟩
    rw [HT.out,HDR.out [],← List.append_assoc,HTK.out]
    exact hs1.next (Below.refl _ _) (hO.full hd2 _) hSh
  ·have hkb:k=body.length:=by omega
   have hkd:decide ((k:Int) < (body.length:Int))=false:=by simp;omega
   rw [hkb,List.take_length] at hS
   clear hkb
   go_wp2
   go_end0
   exact ⟨rfl,by rw [HT.out];exact hS,hK⟩
theorem p_block_any (x:Bl):x.okb→BlockLays x:=
 Bl.ind (P:=fun s=>s.ok1=true→(∀ x ∈ s.blocks,x.okb)→StmtLays s) (Q:=fun x=>x.okb→BlockLays x)
  (fun _ _ _ _ _ _ _ _ _ ih hok hoks=>stmt_of _ hok hoks (fun x hx=>ih x hx (hoks x hx)))
  (fun ad cap body ih hok=>p_block_step ad cap body hok (fun s hs=>ih s hs (Bl.okb_stmt hok s hs).1 (Bl.okb_stmt hok s hs).2)) x
namespace Px
def vaKind (v:Va):List UInt8:=if v.type=1 then [98,111,111,108] else if v.type=3 then Lib.itoa v.lo++([46,46]++Lib.itoa v.hi) else [105,110,116]
def vaInit (v:Va):List UInt8:=if v.type=1 then (if v.init=1 then [116,114,117,101] else [102,97,108,115,101]) else Lib.itoa v.init
def vaT (o:Nat) (v:Va):List UInt8:=lin o ([118,97,114,32]++(v.name.data.toList++([32,58,32]++(vaKind v++([32,61,32]++(vaInit v++[59]))))))
end Px
theorem vaT_len (o:Nat) (v:Va) (hv:v.Is) (hok:v.ok=true) (ho:o≤1000):(vaT o v).length≤3000:=by
 have h1:v.name.data.toList.length≤32:=by
  unfold Va.ok at hok;simp only [Bool.and_eq_true] at hok;exact name_len hok.1.1
 have h2:=itoa_len v.lo hv.2.2.1
 have h3:=itoa_len v.hi hv.2.2.2.1
 have h4:=itoa_len v.init hv.2.2.2.2.1
 have h5:(vaKind v).length≤42:=by
  unfold vaKind
  by_cases q1:v.type=1
  ·rw [if_pos q1];simp
  ·rw [if_neg q1]
   by_cases q3:v.type=3
   ·rw [if_pos q3];simp only [List.length_append,List.length_cons,List.length_nil];omega
   ·rw [if_neg q3];simp
 have h6:(vaInit v).length≤20:=by
  unfold vaInit
  by_cases q1:v.type=1
  ·rw [if_pos q1];split <;> simp
  ·rw [if_neg q1];omega
 unfold vaT lin
 simp only [List.length_append,List.length_cons,List.length_nil,ind_len];omega
set_option maxRecDepth 100000 in
set_option maxHeartbeats 1000000 in
theorem variable_any (v:Va) (b m o:Nat) (t:List UInt8) (w:World) (hv:v.Is) (hok:v.ok=true) (hs:Sh b m o t w) (ho:o≤1000) (hl:t.length+10000≤999999999999) :
  Calls Tryz.prog 131 #[.pointer (some ⟨b,0,none⟩),v.val] w fun r w'=>r=.returned (.tuple #[])∧Sh b m o (t++vaT o v) w'∧Kept b w w':=by
 have hbl:=hs.bl
 have hnl:v.name.data.toList.length≤32:=by unfold Va.ok at hok;simp only [Bool.and_eq_true] at hok;exact name_len hok.1.1
 have hk5:(vaKind v).length≤42∧(vaInit v).length≤20:=by
  have h2:=itoa_len v.lo hv.2.2.1
  have h3:=itoa_len v.hi hv.2.2.2.1
  have h4:=itoa_len v.init hv.2.2.2.2.1
  constructor
  ·unfold vaKind
   by_cases q1:v.type=1
   ·rw [if_pos q1];simp
   ·rw [if_neg q1]
    by_cases q3:v.type=3
    ·rw [if_pos q3];simp only [List.length_append,List.length_cons,List.length_nil];omega
    ·rw [if_neg q3];simp
  ·unfold vaInit
   by_cases q1:v.type=1
   ·rw [if_pos q1];split <;> simp
   ·rw [if_neg q1];omega
 have HT:Hid (vaT o v=lin o ([118,97,114,32]++(v.name.data.toList++([32,58,32]++(vaKind v++([32,61,32]++(vaInit v++[59]))))))):=rfl
 have hline:∀ (W:World) (ki fi:ByteArray),Sh b m o t W→ki.data.toList=vaKind v→fi.data.toList=vaInit v→Calls Tryz.prog 166 #[.pointer (some ⟨b,0,none⟩),.slice (some ⟨W.heap.size,0,none⟩) 7 7] (W.alloc (.cells #[.string ⟨#[118,97,114,32]⟩,.string v.name,.string ⟨#[32,58,32]⟩,.string ki,.string ⟨#[32,61,32]⟩,.string fi,.string ⟨#[59]⟩] 9)) fun e w'=>e=.returned (.tuple #[])∧Sh b m o (t++vaT o v) w'∧Kept b W w':=fun W ki fi h h1 h2=>by
  have:=line_new [⟨#[118,97,114,32]⟩,v.name,⟨#[32,58,32]⟩,ki,⟨#[32,61,32]⟩,fi,⟨#[59]⟩] b m o t W h (by simp) (by omega) (by simp only [cat,List.flatMap_cons,List.flatMap_nil,List.append_nil,List.length_append,List.length_cons,List.length_nil,h1,h2];omega)
  rw [HT.out,lin]
  simpa [cat,h1,h2] using this
 have hnum:∀ n,I64 n→∀ W,Sh b m o t W→Calls Tryz.prog 84 #[.int .i64 n] W fun e w'=>e=.returned (.string ⟨(Lib.itoa n).toArray⟩)∧Below W.heap.size W w':=fun n hn W h=>number_any n W hn h.tab
 have hv1:=hv.2.2.1;have hv2:=hv.2.2.2.1;have hv3:=hv.2.2.2.2.1
 rcases hvv:v with ⟨name,type,lo,hi,init,pos⟩
 have HKI:Hid (vaKind v=if type=1 then [98,111,111,108] else if type=3 then Lib.itoa lo++([46,46]++Lib.itoa hi) else [105,110,116]):=by show _=_;rw [hvv];rfl
 have HFI:Hid (vaInit v=if type=1 then (if init=1 then [116,114,117,101] else [102,97,108,115,101]) else Lib.itoa init):=by show _=_;rw [hvv];rfl
 rw [show v.name=name by rw [hvv]] at hline
 rw [show v.lo=lo by rw [hvv]] at hv1
 rw [show v.hi=hi by rw [hvv]] at hv2
 rw [show v.init=init by rw [hvv]] at hv3
 rw [← hvv]
 rw [show v.val=Value.agg #[.string name,.int .i64 type,.int .i64 lo,.int .i64 hi,.int .i64 init,.int .i64 pos] by rw [hvv];rfl]
 obtain ⟨res,hres⟩:∃ res,vaT o v=res:=⟨_,rfl⟩
 rw [hres]
 simp only [hres] at hline
 obtain ⟨kx,hkx⟩:∃ kx,vaKind v=kx:=⟨_,rfl⟩
 obtain ⟨ix,hix⟩:∃ ix,vaInit v=ix:=⟨_,rfl⟩
 rw [hkx] at HKI
 rw [hix] at HFI
 simp only [hkx,hix] at hline
 clear hkx hix hres HT hok hv hk5 hnl hvv
 have bS:(w.alloc (.cells #[.string name,.int .i64 type,.int .i64 lo,.int .i64 hi,.int .i64 init,.int .i64 pos] 86)).heap[w.heap.size]?=some (.cells #[.string name,.int .i64 type,.int .i64 lo,.int .i64 hi,.int .i64 init,.int .i64 pos] 86 (0,0)):=heap_alloc_new w _
 have hK0:Kept b w (w.alloc (.cells #[.string name,.int .i64 type,.int .i64 lo,.int .i64 hi,.int .i64 init,.int .i64 pos] 86)):=(Kept.refl b w).al (by omega) _
 have hs0:=hs.al (.cells #[.string name,.int .i64 type,.int .i64 lo,.int .i64 hi,.int .i64 init,.int .i64 pos] 86)
 have hzz:w.heap.size < (w.alloc (.cells #[.string name,.int .i64 type,.int .i64 lo,.int .i64 hi,.int .i64 init,.int .i64 pos] 86)).heap.size:=by simp
 go_enter Tryz.func131,Tryz.ntmps131
 go_upto_region 1 with fail
 obtain ⟨W0,hW0⟩:∃ W0,w.alloc (.cells #[.string name,.int .i64 type,.int .i64 lo,.int .i64 hi,.int .i64 init,.int .i64 pos] 86)=W0:=⟨_,rfl⟩
 rw [hW0] at bS hK0 hs0 hzz ⊢
 clear hW0
 have hbW:=hs0.bl
 have d4:W0.cell? ⟨w.heap.size,4,none⟩=some (.int .i64 init):=cell_of' bS 4
 have hn1:=hnum init hv3 W0 hs0
 have HBX:Hid (∀ W,Below W0.heap.size W0 W→W.cell? ⟨w.heap.size,0,none⟩=some (.string name)∧W.cell? ⟨w.heap.size,1,none⟩=some (.int .i64 type)∧W.cell? ⟨w.heap.size,2,none⟩=some (.int .i64 lo)∧W.cell? ⟨w.heap.size,3,none⟩=some (.int .i64 hi)∧W.cell? ⟨w.heap.size,4,none⟩=some (.int .i64 init)):=fun W hW=>by
  have g:=(hW.block _ hzz).trans bS
  exact ⟨cell_of' g 0,cell_of' g 1,cell_of' g 2,cell_of' g 3,cell_of' g 4⟩
 by_cases q1:type=1
 ·subst q1
  by_cases qi:init=1
  ·subst qi
   have e1:Hid (((⟨#[98,111,111,108]⟩:ByteArray)).data.toList=kx):=by show _=_;rw [HKI.out];rfl
   have e2:Hid (((⟨#[116,114,117,101]⟩:ByteArray)).data.toList=ix):=by show _=_;rw [HFI.out];rfl
   go_wp2_with (first
    | (go_at_call 84;(with_reducible refine hn1.mono ?_);rintro r w1 ⟨rfl,b1⟩;have s1:=hs0.below b1;obtain ⟨f0,f1,f2,f3,f4⟩:=HBX.out _ b1)
    | (go_at_call 166;(with_reducible refine (hline _ ⟨#[98,111,111,108]⟩ ⟨#[116,114,117,101]⟩ s1 e1.out e2.out).mono ?_);rintro r w2 ⟨rfl,s2,k2⟩))
   go_end0
   exact ⟨rfl,s2,(hK0.of (by omega) b1).trans k2⟩
  ·have qib:(init == 1)=false:=by rw [beq_eq_false_iff_ne];exact qi
   have e1:Hid (((⟨#[98,111,111,108]⟩:ByteArray)).data.toList=kx):=by show _=_;rw [HKI.out];rfl
   have e2:Hid (((⟨#[102,97,108,115,101]⟩:ByteArray)).data.toList=ix):=by show _=_;rw [HFI.out,if_pos rfl,if_neg qi]
   go_wp2_with (first
    | (go_at_call 84;(with_reducible refine hn1.mono ?_);rintro r w1 ⟨rfl,b1⟩;have s1:=hs0.below b1;obtain ⟨f0,f1,f2,f3,f4⟩:=HBX.out _ b1)
    | (go_at_call 166;(with_reducible refine (hline _ ⟨#[98,111,111,108]⟩ ⟨#[102,97,108,115,101]⟩ s1 e1.out e2.out).mono ?_);rintro r w2 ⟨rfl,s2,k2⟩))
   go_end0
   exact ⟨rfl,s2,(hK0.of (by omega) b1).trans k2⟩
 have q1b:(type == 1)=false:=by rw [beq_eq_false_iff_ne];exact q1
 have e2:Hid (((⟨(Lib.itoa init).toArray⟩:ByteArray)).data.toList=ix):=by show _=_;rw [HFI.out,if_neg q1]
 by_cases q3:type=3
 ·have q3b:(type == 3)=true:=by rw [beq_iff_eq];exact q3
  have HK3:Hid (kx=Lib.itoa lo++([46,46]++Lib.itoa hi)):=by show _=_;rw [HKI.out,if_neg q1,if_pos q3]
  clear q3 q1
  go_wp2_with (go_at_call 84;(with_reducible refine hn1.mono ?_);rintro r w1 ⟨rfl,b1⟩;have s1:=hs0.below b1;obtain ⟨f0,f1,f2,f3,f4⟩:=HBX.out _ b1)
  have HJ:Hid (∀ W,Below w1.heap.size w1 W→W.cell? ⟨w.heap.size,2,none⟩=some (.int .i64 lo)∧W.cell? ⟨w.heap.size,3,none⟩=some (.int .i64 hi)):=fun W hW=>by
   obtain ⟨g0,g1,g2,g3,g4⟩:=HBX.out W (b1.trans (hW.mono b1.size))
   exact ⟨g2,g3⟩
  obtain ⟨nlo,hnlo⟩:∃ nlo:ByteArray,(⟨(Lib.itoa lo).toArray⟩:ByteArray)=nlo:=⟨_,rfl⟩
  obtain ⟨nhi,hnhi⟩:∃ nhi:ByteArray,(⟨(Lib.itoa hi).toArray⟩:ByteArray)=nhi:=⟨_,rfl⟩
  have hlo:∀ W,Below w1.heap.size w1 W→Calls Tryz.prog 84 #[.int .i64 lo] W fun e w'=>e=.returned (.string nlo)∧Below W.heap.size W w':=fun W h=>by rw [← hnlo];exact hnum lo hv1 W (s1.below h)
  have hhi:∀ W,Below w1.heap.size w1 W→Calls Tryz.prog 84 #[.int .i64 hi] W fun e w'=>e=.returned (.string nhi)∧Below W.heap.size W w':=fun W h=>by rw [← hnhi];exact hnum hi hv2 W (s1.below h)
  have hsl:nlo.size≤20:=by rw [← hnlo];have:=itoa_len lo hv1;show (Lib.itoa lo).toArray.size≤20;simpa using this
  have hsh:nhi.size≤20:=by rw [← hnhi];have:=itoa_len hi hv2;show (Lib.itoa hi).toArray.size≤20;simpa using this
  have HLO:Hid (nlo.data.toList=Lib.itoa lo):=by show _=_;rw [← hnlo]
  have HHI:Hid (nhi.data.toList=Lib.itoa hi):=by show _=_;rw [← hnhi]
  have g1:¬ (9223372036854775807 < nlo.size+2):=by omega
  have g2:¬ (9223372036854775807 < nlo.size+2+nhi.size):=by omega
  clear hnlo hnhi
  have B:=below_drewE (Below.refl w1.heap.size w1)
  go_region_held3 (fun W=>W.cell? ⟨w.heap.size,2,none⟩=some (.int .i64 lo)∧W.cell? ⟨w.heap.size,3,none⟩=some (.int .i64 hi)) (exact HJ.out _ B)
   (first
    | (go_at_call 84;(with_reducible refine (hlo _ B).mono ?_);rintro r u1 ⟨rfl,bb⟩;have B:=B.tr le_rfl' bb)
    | (go_at_call 84;(with_reducible refine (hhi _ B).mono ?_);rintro r u2 ⟨rfl,bb⟩;have B:=B.tr le_rfl' bb))
  all_goals have e1:Hid (((nlo++⟨#[46,46]⟩++nhi:ByteArray)).data.toList=kx):=by show _=_;rw [HK3.out];simp [ByteArray.data_append,HLO.out,HHI.out]
  all_goals have s2:=s1.below B
  all_goals obtain ⟨f0,f1,f2,f3,f4⟩:=HBX.out _ (b1.trans (B.mono b1.size))
  all_goals have hl2:=hline _ (nlo++⟨#[46,46]⟩++nhi) ⟨(Lib.itoa init).toArray⟩ s2 e1.out e2.out
  all_goals go_wp2_with (go_at_call 166;(with_reducible refine hl2.mono ?_);rintro r w2 ⟨rfl,s3,k3⟩)
  all_goals go_end0
  all_goals exact ⟨rfl,s3,(hK0.of (by omega) (b1.trans (B.mono b1.size))).trans k3⟩
 ·have q3b:(type == 3)=false:=by rw [beq_eq_false_iff_ne];exact q3
  have e1:Hid (((⟨#[105,110,116]⟩:ByteArray)).data.toList=kx):=by show _=_;rw [HKI.out,if_neg q1,if_neg q3]
  clear q3 q1
  go_wp2_with (first
   | (go_at_call 84;(with_reducible refine hn1.mono ?_);rintro r w1 ⟨rfl,b1⟩;have s1:=hs0.below b1;obtain ⟨f0,f1,f2,f3,f4⟩:=HBX.out _ b1)
   | (go_at_call 166;(with_reducible refine (hline _ ⟨#[105,110,116]⟩ ⟨(Lib.itoa init).toArray⟩ s1 e1.out e2.out).mono ?_);rintro r w2 ⟨rfl,s2,k2⟩))
  go_end0
  exact ⟨rfl,s2,(hK0.of (by omega) b1).trans k2⟩
end Go.Proofs.YtaekbgljbgmchaaGreatDoor
namespace Go.Proofs.YtaekbgljbgmchaaGreatDoor
open Go.RowKit Px
namespace Px
def meT (o:Nat) (x:Me):List UInt8:=ind o++([109,101,116,104,111,100,32]++x.name.data.toList)++(blksT o [] [x.body.txt (o+1)] 0++[10])
def moIn (o:Nat) (m:Mo):List UInt8:=m.vars.flatMap (vaT o)++m.meths.flatMap (meT o)
def moT (o:Nat) (m:Mo):List UInt8:=ind o++([109,111,110,105,116,111,114,32]++m.name.data.toList)++([32,123,10]++(moIn (o+1) m++(ind o++[125])))++[10]
end Px
def Me.fine (n₀:Nat) (W:World) (x:Me):Prop:=x.Is n₀ W∧Lx.name x.name=true∧x.body.okb∧x.body.sz≤5000
theorem Me.fine.below {n₀:Nat} {W W':World} {x:Me} (h:x.fine n₀ W) (hb:Below n₀ W W'):x.fine n₀ W':=⟨h.1.below hb,h.2⟩
theorem meT_len (n₀:Nat) (W:World) (o:Nat) (x:Me) (h:x.fine n₀ W) (ho:o≤10):(meT o x).length≤600000000:=by
 have h1:=bltxt_len n₀ W x.body h.1.2.2 h.2.2.1 (o+1) (by have:=h.2.2.2;omega)
 have h2:=blksT_len o [] [x.body.txt (o+1)] 0
 have h3:=name_len h.2.1
 have h4:=h.2.2.2
 unfold meT
 simp only [List.length_append,List.length_cons,List.length_nil,ind_len]
 simp only [List.map_cons,List.map_nil,List.sum_cons,List.sum_nil,List.length_cons,List.length_nil] at h2
 omega
theorem flat_take_len {α:Type} (f:α→List UInt8) (l:List α) (k c:Nat) (h:∀ a ∈ l,(f a).length≤c):((l.take k).flatMap f).length≤l.length * c:=by
 rw [flat_len]
 have h1:((l.take k).map fun a=>(f a).length).sum≤((l.take k).map fun _=>c).sum:=map_sum_le _ _ _ (fun a ha=>h a (List.mem_of_mem_take ha))
 have h2':∀ l':List α,(l'.map fun _=>c).sum=l'.length * c:=by
  intro l'
  induction l' with
  | nil=>simp
  | cons a l' ih=>simp only [List.map_cons,List.sum_cons,List.length_cons,ih,Nat.add_mul,Nat.one_mul];omega
 have h2:=h2' (l.take k)
 have h3:(l.take k).length≤l.length:=by rw [List.length_take];omega
 have h4:=Nat.mul_le_mul_right c h3
 omega
theorem blocks_new (x:Bl) (hok:x.okb) (n₀ b m o:Nat) (t:List UInt8) (w:World) (hn:n₀≤b) (hI:x.Is n₀ w) (hs:Sh b m o t w) (ho:o+1+x.sz≤6000) (hl:t.length+500000 * x.sz+300000≤999999999999) :
  Calls Tryz.prog 86 #[.pointer (some ⟨b,0,none⟩),.string ⟨#[]⟩,.slice (some ⟨w.heap.size,0,none⟩) 1 1] (w.alloc (.cells #[x.slice] 60)) fun r w'=>r=.returned (.tuple #[])∧Sh b m o (t++(blksT o [] [x.txt (o+1)] 0++[10])) w'∧Kept b w w':=by
 have hbl:=hs.bl
 have hK0:Kept b w (w.alloc (.cells #[x.slice] 60)):=(Kept.refl b w).al (by omega) _
 have h0:Box1 (w.alloc (.cells #[x.slice] 60)) w.heap.size x.slice 60:=heap_alloc_new w _
 refine (blocks_any [x] ⟨#[]⟩ (fun y hy=>by rw [List.mem_singleton.1 hy];exact p_block_any x hok) (fun y hy=>by rw [List.mem_singleton.1 hy];exact hok) n₀ b m o w.heap.size 0 1 t (w.alloc (.cells #[x.slice] 60)) hn (fun y hy=>by rw [List.mem_singleton.1 hy];exact hI.below (hK0.1.mono hn)) (hs.al _)
  (fun W hW j hj=>?_) (by simp) (by simp) (by omega) (by simp) (by simpa using ho) (by simpa using hl)).mono ?_
 ·have hj0:j=0:=by simp at hj;omega
  subst hj0
  exact (show Box1 W w.heap.size x.slice 60 from hW.box h0 (by omega) (by decide)).cell
 ·rintro r w' ⟨rfl,h1,h2⟩
  exact ⟨rfl,h1,hK0.trans h2⟩
set_option maxRecDepth 100000 in
set_option maxHeartbeats 1000000 in
theorem closure78 (mo:Mo) (n₀ b m o Bm Bs:Nat) (t:List UInt8) (w:World) (hn:n₀≤b) (hI:mo.Is n₀ w) (hs:Sh b m o t w) (hA:Box1 w Bs (.pointer (some ⟨b,0,none⟩)) 138) (hB:w.heap[Bm]?=some (.cells mo.cells.toArray 80 (0,0))) (hAb:Bs ≠ b) (hBb:Bm ≠ b)
  (hv:mo.vars.length≤16) (hm:mo.meths.length≤16) (hvok:∀ v ∈ mo.vars,v.ok=true) (hmok:∀ x ∈ mo.meths,x.fine n₀ w) (ho:o≤10) (hl:t.length≤100000000000) :
  Calls Tryz.prog 130 #[.pointer (some ⟨Bm,0,none⟩),.pointer (some ⟨Bs,0,none⟩)] w fun r w'=>r=.returned (.tuple #[])∧Sh b m o (t++moIn o mo) w'∧Kept b w w':=by
 rcases mo with ⟨mname,vad,vcap,vars,tad,tcap,meths,pos⟩
 have HT:Hid (moIn o (Mo.mk mname vad vcap vars tad tcap meths pos)=vars.flatMap (vaT o)++meths.flatMap (meT o)):=rfl
 have hsv:=hI.2.1.1
 have hst:=hI.2.2.1
 have hIv:=hI.2.1.2
 have hl1:=hsv.1;have hl2:=hsv.2.1;have hl3:=hst.1;have hl4:=hst.2.1
 unfold maxLen at hl2 hl4
 simp only at hl1 hl2 hl3 hl4 hv hm hvok hmok hIv
 simp only [Mo.cells] at hB
 have m1:w.cell? ⟨Bm,1,none⟩=some (.slice vad vars.length vcap):=cell_of' hB 1
 have hbl:=hs.bl
 have hvl:∀ k,((vars.take k).flatMap (vaT o)).length≤48000:=fun k=>by
  have h1:=flat_take_len (vaT o) vars k 3000 (fun v hv'=>vaT_len o v (hIv v hv') (hvok v hv') (by omega))
  omega
 have hml:∀ k,((meths.take k).flatMap (meT o)).length≤9600000000:=fun k=>by
  have h1:=flat_take_len (meT o) meths k 600000000 (fun x hx=>meT_len n₀ w o x (hmok x hx) ho)
  omega
 go_enter Tryz.func130,Tryz.ntmps130
 go_wp2
 go_loopw [9] (fun i wr=>∃ k:Nat,k≤vars.length∧i=.int .i64 (k:Int)∧Sh b m o (t++(vars.take k).flatMap (vaT o)) wr∧Kept b w wr) (fun i _=>vars.length - (intOf i).toNat)
 case atStart=>exact ⟨0,by omega,rfl,by simpa using hs,Kept.refl _ _⟩
 case round =>
  obtain ⟨k,hk,rfl,hS,hK⟩:=hrel
  have hbr:=hS.bl
  have hAr:Box1 wr Bs (.pointer (some ⟨b,0,none⟩)) 138:=hK.box hA hAb (by decide)
  have cA:=hAr.cell
  by_cases hlt:k < vars.length
  ·rcases hsv.2.2 with h | ⟨g,off,rfl,hg,hrow⟩
   ·subst h;simp at hlt
   have hr:=hrow.below (hK.1.mono hn) hg
   have hgl:g < wr.heap.size:=by omega
   have HSN:=hid (flatMap_snoc (vaT o) vars k hlt)
   have htk:=hvl k
   have hq:=fun W (h1:Sh b m o (t++(vars.take k).flatMap (vaT o)) W)=>variable_any vars[k] b m o _ W (hIv _ (List.getElem_mem hlt)) (hvok _ (List.getElem_mem hlt)) h1 (by omega) (by rw [List.length_append];omega)
   obtain ⟨tk,htk2⟩:∃ tk,t++(vars.take k).flatMap (vaT o)=tk:=⟨_,rfl⟩
   rw [htk2] at hS
   simp only [htk2] at hq
   have HTK:=hid htk2
   clear htk2
   obtain ⟨sx,hsx⟩:∃ sx,vaT o vars[k]=sx:=⟨_,rfl⟩
   simp only [hsx] at hq HSN
   clear hsx
   rcases he':vars[k] with ⟨name,type,lo,hi,init,vpos⟩
   obtain ⟨c0,c1,c2,c3,c4,c5⟩:=row6 hr k hlt (by rw [he'];rfl)
   simp only [he',Va.val,Va.cells] at hq
   have hs1:=hS.al (.cells #[.string name,.int .i64 type,.int .i64 lo,.int .i64 hi,.int .i64 init,.int .i64 vpos] 86)
   have hK1:Kept b wr (wr.alloc (.cells #[.string name,.int .i64 type,.int .i64 lo,.int .i64 hi,.int .i64 init,.int .i64 vpos] 86)):=(Kept.refl b wr).al (by omega) _
   have cA1:=(show Box1 _ Bs (.pointer (some ⟨b,0,none⟩)) 138 from hK1.box hAr hAb (by decide)).cell
   have hq1:=hq _ hs1
   clear he' hq
   go_wp2_with (go_at_call 131;(with_reducible refine hq1.mono ?_);rintro r w2 ⟨rfl,s2,k2⟩)
   go_roundw
   case rel =>
    refine ⟨k+1,by omega,by go_num,?_,(hK.trans hK1).trans k2⟩
    rw [HSN.out,← List.append_assoc,HTK.out]
    exact s2
   case measure=>simp [intOf];omega
  ·have hkb:k=vars.length:=by omega
   have hkd:decide ((k:Int) < (vars.length:Int))=false:=by simp;omega
   rw [hkb,List.take_length] at hS
   have hvt:(vars.flatMap (vaT o)).length≤48000:=by have:=hvl vars.length;rwa [List.take_length] at this
   clear hkb
   obtain ⟨wo,hwo⟩:∃ wo:World,wo=wr:=⟨_,rfl⟩
   subst hwo
   have m2:wo.cell? ⟨Bm,2,none⟩=some (.slice tad meths.length tcap):=cell_of' (hK.box hB hBb (by decide)) 2
   obtain ⟨tv,htv⟩:∃ tv,t++vars.flatMap (vaT o)=tv:=⟨_,rfl⟩
   have htvl:tv.length≤t.length+48000:=by rw [← htv,List.length_append];omega
   rw [htv] at hS
   have HTV:=hid htv
   clear htv
   go_wp2
   go_loopw [20] (fun i wr=>∃ j:Nat,j≤meths.length∧i=.int .i64 (j:Int)∧Sh b m o (tv++(meths.take j).flatMap (meT o)) wr∧Kept b w wr) (fun i _=>meths.length - (intOf i).toNat)
   case atStart=>exact ⟨0,by omega,rfl,by simpa using hS,hK⟩
   case round =>
    obtain ⟨j,hj,rfl,hS2,hK2⟩:=hrel
    have hbr2:=hS2.bl
    have hAr2:Box1 wr Bs (.pointer (some ⟨b,0,none⟩)) 138:=hK2.box hA hAb (by decide)
    have cA2:=hAr2.cell
    by_cases hlt2:j < meths.length
    ·rcases hst.2.2 with h | ⟨g,off,rfl,hg,hrow⟩
     ·subst h;simp at hlt2
     have hr:=hrow.below (hK2.1.mono hn) hg
     have hgl:g < wr.heap.size:=by omega
     have HSN:=hid (flatMap_snoc (meT o) meths j hlt2)
     have htk:=hml j
     have hxf:=(hmok _ (List.getElem_mem hlt2)).below (hK2.1.mono hn)
     obtain ⟨tk,htk2⟩:∃ tk,tv++(meths.take j).flatMap (meT o)=tk:=⟨_,rfl⟩
     have htkl:tk.length≤t.length+9610000000:=by rw [← htk2,List.length_append];omega
     rw [htk2] at hS2
     have HTK:=hid htk2
     clear htk2 htk
     rcases he':meths[j] with ⟨name,body,xpos⟩
     rw [he'] at hxf HSN
     have hnm:=name_len hxf.2.1
     have hbs:=hxf.2.2.2
     simp only at hnm hbs
     have HX:Hid (meT o (Me.mk name body xpos)=ind o++([109,101,116,104,111,100,32]++name.data.toList)++(blksT o [] [body.txt (o+1)] 0++[10])):=rfl
     have hs1:=fun z=>hS2.al z
     have hK1:∀ z,Kept b wr (wr.alloc z):=fun z=>(Kept.refl b wr).al (by omega) z
     have hblk:∀ W,Sh b m o (tk++(ind o++([109,101,116,104,111,100,32]++name.data.toList))) W→Kept b wr W→Calls Tryz.prog 86 #[.pointer (some ⟨b,0,none⟩),.string ⟨#[]⟩,.slice (some ⟨W.heap.size,0,none⟩) 1 1] (W.alloc (.cells #[body.slice] 60)) fun r w'=>r=.returned (.tuple #[])∧Sh b m o (tk++(ind o++([109,101,116,104,111,100,32]++name.data.toList))++(blksT o [] [body.txt (o+1)] 0++[10])) w'∧Kept b W w':=fun W h1 h2 =>
      blocks_new body hxf.2.2.1 n₀ b m o _ W hn (hxf.1.2.2.below (h2.1.mono hn)) h1 (by omega) (by simp only [List.length_append,List.length_cons,List.length_nil,ind_len];omega)
     rcases body with ⟨bad,bcap,bbody⟩
     obtain ⟨c0,c1,c2⟩:=row3 hr j hlt2 (by rw [he'];rfl)
     simp only [Bl.slice] at hblk c1
     have hbeg:=begin_new [⟨#[109,101,116,104,111,100,32]⟩,name] b m o tk _ (hs1 (.cells #[.string name,.slice bad bbody.length bcap,.int .i64 xpos] 88)) (by simp) (by omega) (by simp only [cat,List.flatMap_cons,List.flatMap_nil,List.append_nil,List.length_append,List.length_cons,List.length_nil];omega)
     simp only [List.map_cons,List.map_nil,List.length_cons,List.length_nil,Nat.zero_add,Nat.reduceAdd,cat,List.flatMap_cons,List.flatMap_nil,List.append_nil,World.size_alloc] at hbeg
     have hK1b:=hK1 (.cells #[.string name,.slice bad bbody.length bcap,.int .i64 xpos] 88)
     have bX:(wr.alloc (.cells #[.string name,.slice bad bbody.length bcap,.int .i64 xpos] 88)).heap[wr.heap.size]?=some (.cells #[.string name,.slice bad bbody.length bcap,.int .i64 xpos] 88 (0,0)):=heap_alloc_new wr _
     have cA3:=(show Box1 _ Bs (.pointer (some ⟨b,0,none⟩)) 138 from hK1b.box hAr2 hAb (by decide))
     have cA4:=cA3.cell
     have hwne:wr.heap.size ≠ b:=by omega
     clear he' hs1 hK1
     go_wp2_with (first
      | (go_at_call 85;(with_reducible refine hbeg.mono ?_);rintro r w2 ⟨rfl,s2,k2⟩;have cA5:=(show Box1 w2 Bs (.pointer (some ⟨b,0,none⟩)) 138 from k2.box cA3 hAb (by decide)).cell;have bX1:=cell_of' (k2.box bX hwne (by decide)) 1;have hblk2:=hblk _ s2 (hK1b.trans k2))
      | (go_at_call 86;(with_reducible refine hblk2.mono ?_);rintro r w3 ⟨rfl,s3,k3⟩))
     go_roundw
     case rel =>
      refine ⟨j+1,by omega,by go_num,?_,((hK2.trans hK1b).trans k2).trans k3⟩
      rw [HSN.out,← List.append_assoc,HTK.out,HX.out]
      simpa using s3
     case measure=>simp [intOf];omega
    ·have hjb:j=meths.length:=by omega
     have hjd:decide ((j:Int) < (meths.length:Int))=false:=by simp;omega
     rw [hjb,List.take_length] at hS2
     clear hjb
     go_wp2
     go_end0
     refine ⟨rfl,?_,hK2⟩
     rw [HT.out,← List.append_assoc,HTV.out]
     exact hS2
end Go.Proofs.YtaekbgljbgmchaaGreatDoor
namespace Go.Proofs.YtaekbgljbgmchaaGreatDoor
open Go.RowKit Px
structure Mo.fine (n₀:Nat) (W:World) (mo:Mo):Prop where
 is:mo.Is n₀ W
 name:Lx.name mo.name=true
 vars:mo.vars.length≤16
 meths:mo.meths.length≤16
 vok:∀ v ∈ mo.vars,v.ok=true
 mok:∀ x ∈ mo.meths,x.fine n₀ W
theorem Mo.fine.below {n₀:Nat} {W W':World} {mo:Mo} (h:mo.fine n₀ W) (hb:Below n₀ W W'):mo.fine n₀ W':=⟨h.is.below hb,h.name,h.vars,h.meths,h.vok,fun x hx=>(h.mok x hx).below hb⟩
theorem moIn_len {n₀:Nat} {W:World} {mo:Mo} (h:mo.fine n₀ W) (o:Nat) (ho:o≤10):(moIn o mo).length≤9700000000:=by
 have h1:=flat_take_len (vaT o) mo.vars mo.vars.length 3000 (fun v hv'=>vaT_len o v (h.is.2.1.2 v hv') (h.vok v hv') (by omega))
 have h2:=flat_take_len (meT o) mo.meths mo.meths.length 600000000 (fun x hx=>meT_len n₀ W o x (h.mok x hx) ho)
 rw [List.take_length] at h1 h2
 have:=h.vars;have:=h.meths
 unfold moIn
 rw [List.length_append];omega
theorem moT_len {n₀:Nat} {W:World} {mo:Mo} (h:mo.fine n₀ W) (o:Nat) (ho:o≤9):(moT o mo).length≤9800000000:=by
 have h1:=moIn_len h (o+1) (by omega)
 have h2:=name_len h.name
 unfold moT
 simp only [List.length_append,List.length_cons,List.length_nil,ind_len];omega
set_option maxRecDepth 100000 in
set_option maxHeartbeats 1000000 in
theorem body78 (mo:Mo) (n₀ b m o Bm Bs:Nat) (t:List UInt8) (w:World) (hn:n₀≤b) (hf:mo.fine n₀ w) (hs:Sh b m o t w) (hA:Box1 w Bs (.pointer (some ⟨b,0,none⟩)) 138) (hB:w.heap[Bm]?=some (.cells mo.cells.toArray 80 (0,0))) (hAb:Bs ≠ b) (hBb:Bm ≠ b) (ho:o≤9) (hl:t.length≤90000000000) :
  Calls Tryz.prog 129 #[.pointer (some ⟨b,0,none⟩),.func (.func 130) #[] #[.pointer (some ⟨Bm,0,none⟩),.pointer (some ⟨Bs,0,none⟩)]] w fun r w'=>r=.returned (.tuple #[])∧Sh b m o (t++([32,123,10]++(moIn (o+1) mo++(ind o++[125])))) w'∧Kept b w w':=by
 have hlx:=moIn_len hf (o+1) (by omega)
 have h1:=end_any ⟨#[32,123]⟩ b m o t w hs (by show _+2+1≤_;omega)
 have h2:∀ W,Sh b m (o+1) (t++[32,123,10]) W→Kept b w W→Calls Tryz.prog 130 #[.pointer (some ⟨Bm,0,none⟩),.pointer (some ⟨Bs,0,none⟩)] W fun r w'=>r=.returned (.tuple #[])∧Sh b m (o+1) (t++[32,123,10]++moIn (o+1) mo) w'∧Kept b W w':=fun W h k=>by
  have hf':=hf.below (k.1.mono hn)
  exact closure78 mo n₀ b m (o+1) Bm Bs _ W hn hf'.is h (k.box hA hAb (by decide)) (k.box hB hBb (by decide)) hAb hBb hf'.vars hf'.meths hf'.vok hf'.mok (by omega) (by simp;omega)
 have h3:∀ W,Sh b m o (t++[32,123,10]++moIn (o+1) mo) W→Calls Tryz.prog 85 #[.pointer (some ⟨b,0,none⟩),.slice (some ⟨W.heap.size,0,none⟩) 1 1] (W.alloc (.cells #[.string ⟨#[125]⟩] 9)) fun e w'=>e=.returned (.tuple #[])∧Sh b m o (t++[32,123,10]++moIn (o+1) mo++(ind o++[125])) w'∧Kept b W w':=fun W h=>by
  have:=begin_new [⟨#[125]⟩] b m o _ W h (by simp) (by omega) (by simp [cat];omega)
  simpa [cat] using this
 have hcast:((o+1:Nat):Int)=(o:Int)+1:=by omega
 obtain ⟨mx,hmx⟩:∃ mx,moIn (o+1) mo=mx:=⟨_,rfl⟩
 simp only [hmx] at h2 h3
 rw [hmx]
 clear hmx hlx
 go_enter Tryz.func129,Tryz.ntmps129
 go_wp2_with (go_at_call 132;(with_reducible refine h1.mono ?_);rintro r w1 ⟨rfl,s1,k1⟩;have c3:w1.cell? ⟨b,3,none⟩=some (.int .i64 (o:Int))∧w1.frozen? ⟨b,3,none⟩=false:=(by obtain ⟨c,_,h⟩:=s1.sheet;exact h.cells.2);obtain ⟨c3,f3⟩:=c3)
 have s2:Sh b m (o+1) (t++[32,123,10]) (w1.setCell ⟨b,3,none⟩ (.int .i64 ((o:Int)+1))):=by
  have:=s1.put (o+1)
  rw [hcast] at this
  simpa using this
 have k2:=k1.put (.int .i64 ((o:Int)+1))
 go_wp2_with (go_at_call 130;(with_reducible refine (h2 _ s2 k2).mono ?_);rintro r w3 ⟨rfl,s3,k3⟩;have c4:w3.cell? ⟨b,3,none⟩=some (.int .i64 ((o:Int)+1))∧w3.frozen? ⟨b,3,none⟩=false:=(by obtain ⟨c,_,h⟩:=s3.sheet;rw [← hcast];exact h.cells.2);obtain ⟨c4,f4⟩:=c4;have s4:=s3.put o;have k4:=(k2.trans k3).put (.int .i64 (o:Int));have h4:=h3 _ s4;rw [show (w3.setCell ⟨b,3,none⟩ (.int .i64 (o:Int))).heap.size=w3.heap.size by simp [World.setCell]] at h4)
 go_wp2_with (go_at_call 85;(with_reducible refine h4.mono ?_);rintro r w5 ⟨rfl,s5,k5⟩)
 go_end0
 exact ⟨rfl,by simpa using s5,k4.trans k5⟩
set_option maxRecDepth 100000 in
set_option maxHeartbeats 1000000 in
theorem p_monitor_any (mo:Mo) (n₀ b m o:Nat) (t:List UInt8) (w:World) (hn:n₀≤b) (hf:mo.fine n₀ w) (hs:Sh b m o t w) (ho:o≤9) (hl:t.length≤80000000000) :
  Calls Tryz.prog 83 #[.pointer (some ⟨b,0,none⟩),mo.val] w fun r w'=>r=.returned (.tuple #[])∧Sh b m o (t++moT o mo) w'∧Kept b w w':=by
 have hbl:=hs.bl
 have hnm:=name_len hf.name
 have hlx:=moIn_len hf (o+1) (by omega)
 have HT:Hid (moT o mo=ind o++([109,111,110,105,116,111,114,32]++mo.name.data.toList)++([32,123,10]++(moIn (o+1) mo++(ind o++[125])))++[10]):=rfl
 have hbody:∀ t' W Bm Bs,Sh b m o t' W→Kept b w W→Box1 W Bs (.pointer (some ⟨b,0,none⟩)) 138→W.heap[Bm]?=some (.cells mo.cells.toArray 80 (0,0))→Bs ≠ b→Bm ≠ b→t'.length≤90000000000→Calls Tryz.prog 129 #[.pointer (some ⟨b,0,none⟩),.func (.func 130) #[] #[.pointer (some ⟨Bm,0,none⟩),.pointer (some ⟨Bs,0,none⟩)]] W fun r w'=>r=.returned (.tuple #[])∧Sh b m o (t'++([32,123,10]++(moIn (o+1) mo++(ind o++[125])))) w'∧Kept b W w':=fun t' W Bm Bs h1 h2 h3 h4 h5 h6 h7 =>
  body78 mo n₀ b m o Bm Bs t' W hn (hf.below (h2.1.mono hn)) h1 h3 h4 h5 h6 ho h7
 obtain ⟨mx,hmx⟩:∃ mx,[32,123,10]++(moIn (o+1) mo++(ind o++[125]))=mx:=⟨_,rfl⟩
 have hmxl:mx.length≤9800000000:=by rw [← hmx];simp only [List.length_append,List.length_cons,List.length_nil,ind_len];omega
 rw [hmx] at HT
 simp only [hmx] at hbody
 obtain ⟨res,hres⟩:∃ res,moT o mo=res:=⟨_,rfl⟩
 rw [hres] at HT ⊢
 clear hmx hres hlx
 rcases mo with ⟨mname,vad,vcap,vars,tad,tcap,meths,pos⟩
 simp only [Mo.val,Mo.cells] at hbody HT hnm ⊢
 have hK1:Kept b w ((w.alloc (.cells #[.pointer (some ⟨b,0,none⟩)] 138)).alloc (.cells #[.string mname,.slice vad vars.length vcap,.slice tad meths.length tcap,.int .i64 pos] 80)):=((Kept.refl b w).al (by omega) _).al (by omega) _
 have hs1:=(hs.al (.cells #[.pointer (some ⟨b,0,none⟩)] 138)).al (.cells #[.string mname,.slice vad vars.length vcap,.slice tad meths.length tcap,.int .i64 pos] 80)
 have hA1:Box1 ((w.alloc (.cells #[.pointer (some ⟨b,0,none⟩)] 138)).alloc (.cells #[.string mname,.slice vad vars.length vcap,.slice tad meths.length tcap,.int .i64 pos] 80)) w.heap.size (.pointer (some ⟨b,0,none⟩)) 138:=(Below.heap_alloc _ _ _ (by simp)).trans (heap_alloc_new w _)
 have hB1:((w.alloc (.cells #[.pointer (some ⟨b,0,none⟩)] 138)).alloc (.cells #[.string mname,.slice vad vars.length vcap,.slice tad meths.length tcap,.int .i64 pos] 80)).heap[w.heap.size+1]?=some (.cells #[.string mname,.slice vad vars.length vcap,.slice tad meths.length tcap,.int .i64 pos] 80 (0,0)):=by
  have:=heap_alloc_new (w.alloc (.cells #[.pointer (some ⟨b,0,none⟩)] 138)) (.cells #[.string mname,.slice vad vars.length vcap,.slice tad meths.length tcap,.int .i64 pos] 80)
  rwa [World.size_alloc] at this
 have hne:w.heap.size ≠ b:=by omega
 have hne1:w.heap.size+1 ≠ b:=by omega
 go_enter Tryz.func83,Tryz.ntmps83
 go_upto_region 1 with fail
 obtain ⟨W0,hW0⟩:∃ W0,(w.alloc (.cells #[.pointer (some ⟨b,0,none⟩)] 138)).alloc (.cells #[.string mname,.slice vad vars.length vcap,.slice tad meths.length tcap,.int .i64 pos] 80)=W0:=⟨_,rfl⟩
 rw [hW0] at hK1 hs1 hA1 hB1 ⊢
 clear hW0
 have cA:=hA1.cell
 have cB:W0.cell? ⟨w.heap.size+1,0,none⟩=some (.string mname):=cell_of' hB1 0
 have hbeg:=begin_new [⟨#[109,111,110,105,116,111,114,32]⟩,mname] b m o t W0 hs1 (by simp) (by omega) (by simp only [cat,List.flatMap_cons,List.flatMap_nil,List.append_nil,List.length_append,List.length_cons,List.length_nil];omega)
 simp only [List.map_cons,List.map_nil,List.length_cons,List.length_nil,Nat.zero_add,Nat.reduceAdd,cat,List.flatMap_cons,List.flatMap_nil,List.append_nil] at hbeg
 have hend:∀ (t':List UInt8) W,Sh b m o t' W→t'.length≤99000000000→Calls Tryz.prog 132 #[.pointer (some ⟨b,0,none⟩),.string ⟨#[]⟩] W fun e w'=>e=.returned (.tuple #[])∧Sh b m o (t'++[10]) w'∧Kept b W w':=fun t' W h h2 =>
  end_any ⟨#[]⟩ b m o t' W h (by show _+0+1≤_;omega)
 go_wp2_with (first
  | (go_at_call 85;(with_reducible refine hbeg.mono ?_);rintro r w2 ⟨rfl,s2,k2⟩;have hA2:Box1 w2 w.heap.size (.pointer (some ⟨b,0,none⟩)) 138:=k2.box hA1 hne (by decide);have cA2:=hA2.cell;have hB2:=k2.box hB1 hne1 (by decide);have hb2:=hbody _ w2 (w.heap.size+1) w.heap.size s2 (hK1.trans k2) hA2 hB2 hne hne1 (by simp only [List.length_append,List.length_cons,List.length_nil,ind_len];omega))
  | (go_at_call 129;(with_reducible refine hb2.mono ?_);rintro r w3 ⟨rfl,s3,k3⟩;have hA3:Box1 w3 w.heap.size (.pointer (some ⟨b,0,none⟩)) 138:=k3.box hA2 hne (by decide);have cA3:=hA3.cell;have he3:=hend _ w3 s3 (by simp only [List.length_append,List.length_cons,List.length_nil,ind_len];omega))
  | (go_at_call 132;(with_reducible refine he3.mono ?_);rintro r w4 ⟨rfl,s4,k4⟩))
 go_end0
 refine ⟨rfl,?_,((hK1.trans k2).trans k3).trans k4⟩
 rw [HT.out]
 simpa using s4
end Go.Proofs.YtaekbgljbgmchaaGreatDoor
namespace Go.Proofs.YtaekbgljbgmchaaGreatDoor
open Go.RowKit Px
def NestLays (x:Bl):Prop:=∀ (n₀ m o:Nat) (w:World),n₀≤w.heap.size→x.Is n₀ w→SignsAt w m→o+x.sz≤1000000 →
 Calls Tryz.prog 82 #[.map (some m),x.slice,.int .i64 (o:Int)] w fun r w'=>r=.returned (.int .i64 ((x.nst o:Nat):Int))∧Below w.heap.size w w'
set_option maxRecDepth 100000 in
set_option maxHeartbeats 2000000 in
theorem nestBlock_step (ad:Option Addr) (cap:Nat) (body:List St) (ih:∀ s ∈ body,∀ x ∈ s.blocks,NestLays x):NestLays (.mk ad cap body):=by
 intro n₀ m o w hn hI hs ho
 have hml:=hs.lt
 have hsl:=hI.down.1
 have hIs:=hI.down.2
 have hl1:=hsl.1;have hl2:=hsl.2.1
 unfold maxLen at hl2
 have HN:=hid (Bl.nst_mk ad cap body o)
 rw [Bl.sz_mk] at ho
 simp only [Bl.slice]
 go_enter Tryz.func82,Tryz.ntmps82
 go_wp2
 go_loopw [7,15] (fun v i wr=>∃ (k a:Nat),k≤body.length∧v=.int .i64 (a:Int)∧i=.int .i64 (k:Int)∧Hid (a=max o (maxL (fun s=>s.nst o) (body.take k)))∧a≤4000000∧Below w.heap.size w wr) (fun _ i _=>body.length - (intOf i).toNat)
 case atStart=>exact ⟨0,o,by omega,rfl,rfl,by simp [Hid,maxL],by omega,Below.refl _ _⟩
 case round =>
  obtain ⟨k,a,hk,rfl,rfl,HA,ha,hbw⟩:=hrel
  have hzw:=hbw.size
  obtain ⟨wo,hwo⟩:∃ wo:World,wo=wr:=⟨_,rfl⟩
  subst hwo
  by_cases hlt:k < body.length
  ·rcases hsl.2.2 with h | ⟨b,off,rfl,hbn,hrow⟩
   ·subst h;simp at hlt
   have hr:=hrow.below (hbw.mono hn) hbn
   have hbl:b < wo.heap.size:=by omega
   have HS:=hid (maxL_snoc (fun s:St=>s.nst o) body k hlt)
   have hIj:=(hIs _ (List.getElem_mem hlt)).below (hbw.mono hn)
   have hij:=ih _ (List.getElem_mem hlt)
   have htot:=sum_ge St.tot body _ (List.getElem_mem hlt)
   have hsn:=stnst_le body[k] o
   rcases he':body[k] with ⟨kind,mon,name,n,e,ad',cap',blocks,pos⟩
   have HX:=hid (St.nst_mk kind mon name n e ad' cap' blocks pos o)
   rw [he'] at hIj hij htot HS hsn
   rw [St.tot_mk] at htot
   have hen:=exnest_le e
   have hsub:e.subs.length≤1000000:=by
    cases hno:e.none
    ·rw [hno] at htot;simp at htot;omega
    ·have:=(none_nest hno).2;omega
   have hnst:=fun W (h:Below wo.heap.size wo W)=>nest_any e n₀ m 1 W (by have:=h.size;omega) (hIj.down.2.1.below (h.mono (by omega))) ((hs.below hbw hml).below h (by omega)) hsub
   obtain ⟨y,hy⟩:∃ y,e.nest 1=y:=⟨_,rfl⟩
   rw [hy] at hen HX
   simp only [hy] at hnst
   clear hy
   rcases hee:e with ⟨eop,emon,ename,en,ead,ecap,ekids,epos⟩
   obtain ⟨c0,c1,c2,c3,c4,c5,c6,c7,c8,c9,c10,c11⟩:=row12 hr k hlt (by rw [he',hee];rfl)
   have hIb:=hIj.down.2.2
   have hlb1:=hIb.1.1;have hlb2:=hIb.1.2.1
   unfold maxLen at hlb2
   rw [show e.val=Value.agg #[.int .i64 eop,.string emon,.string ename,.int .i64 en,.slice ead ekids.length ecap,.int .i64 epos] by rw [hee];rfl] at hnst
   have HTOT:=hid htot
   have hyb:y≤2000000:=by
    have:=HTOT.out
    split at hen <;> simp_all <;> omega
   have hB1:Below wo.heap.size wo (wo.alloc (.cells #[.int .i64 kind,.string mon,.string name,.int .i64 n,.int .i64 eop,.string emon,.string ename,.int .i64 en,.slice ead ekids.length ecap,.int .i64 epos,.slice ad' blocks.length cap',.int .i64 pos] 108)):=(Below.refl _ _).al le_rfl' _
   have bX:(wo.alloc (.cells #[.int .i64 kind,.string mon,.string name,.int .i64 n,.int .i64 eop,.string emon,.string ename,.int .i64 en,.slice ead ekids.length ecap,.int .i64 epos,.slice ad' blocks.length cap',.int .i64 pos] 108)).heap[wo.heap.size]?=some (.cells #[.int .i64 kind,.string mon,.string name,.int .i64 n,.int .i64 eop,.string emon,.string ename,.int .i64 en,.slice ead ekids.length ecap,.int .i64 epos,.slice ad' blocks.length cap',.int .i64 pos] 108 (0,0)):=heap_alloc_new wo _
   have hnst1:=hnst _ hB1
   have hao:IntKind.i64.wrap ((o:Int)+(y:Int))=((o+y:Nat):Int):=by rw [wrap_id _ (by omega) (by omega)];omega
   have HIJ:=hid hij
   clear hnst he' hee hen htot hij hIj hsub
   go_wp2_with (go_at_call 54;refine hnst1.mono ?_;rintro r w2 ⟨rfl,bb2⟩;have c10b:w2.cell? ⟨wo.heap.size,10,none⟩=some (.slice ad' blocks.length cap'):=cell_of' ((bb2.block _ (by simp)).trans bX) 10)
   have hz2:=bb2.size
   simp at hz2
   have hbN:Below n₀ wo w2:=(hB1.mono (by omega)).trans (bb2.mono (by simp;omega))
   have hbF:Below w.heap.size w w2:=hbw.trans ((hB1.mono (by omega)).trans (bb2.mono (by simp;omega)))
   have hsm:=hs.below hbF hml
   clear c0 c1 c2 c3 c4 c5 c6 c7 c8 c9 c10 c11 c10b bX hnst1 hB1 bb2
   go_loopw [7,30] (fun v i wr=>∃ (j d:Nat),j≤blocks.length∧v=.int .i64 (d:Int)∧i=.int .i64 (j:Int)∧Hid (d=max a (max (o+y) (maxL (fun b=>b.nst (o+1)) (blocks.take j))))∧d≤4000000∧Below w2.heap.size w2 wr) (fun _ i _=>blocks.length - (intOf i).toNat)
   case atStart=>exact ⟨0,max a (o+y),by omega,by congr 1;omega,rfl,by simp [Hid,maxL],by omega,Below.refl _ _⟩
   case round =>
    obtain ⟨j,d,hj,rfl,rfl,HD,hd,hbj⟩:=hrel
    have hzj:=hbj.size
    by_cases hlt2:j < blocks.length
    ·rcases hIb.1.2.2 with h | ⟨b3,off3,rfl,hbn3,hrow3⟩
     ·subst h;simp at hlt2
     have hr3:=(hrow3.below hbN hbn3).below (hbj.mono (by omega)) hbn3
     have hb3l:b3 < wr.heap.size:=by omega
     have hszj:=sum_ge Bl.sz blocks _ (List.getElem_mem hlt2)
     have hnl:=blnst_le blocks[j] (o+1)
     have hq:=HIJ.out blocks[j] (List.getElem_mem hlt2) n₀ m (o+1) wr (by omega) ((hIb.2 _ (List.getElem_mem hlt2)).below (hbN.trans (hbj.mono (by omega)))) (hsm.below hbj (by omega)) (by have:=HTOT.out;omega)
     have HS2:=hid (maxL_snoc (fun b:Bl=>b.nst (o+1)) blocks j hlt2)
     obtain ⟨z,hz⟩:∃ z,blocks[j].nst (o+1)=z:=⟨_,rfl⟩
     have hzb:z≤4000000:=by have:=HTOT.out;omega
     rw [hz] at hq HS2
     clear hz
     rcases he2:blocks[j] with ⟨bad,bcap,bbody⟩
     have d0:=row1 hr3 j hlt2 (by rw [he2];rfl)
     simp only [he2,Bl.slice] at hq d0
     have hcast:((o+1:Nat):Int)=(o:Int)+1:=by omega
     rw [hcast] at hq
     clear he2 hcast
     go_wp2_with (go_at_call 82;refine hq.mono ?_;rintro r w5 ⟨rfl,bb5⟩)
     go_roundw
     case rel =>
      refine ⟨j+1,max d z,by omega,by congr 1;omega,by go_num,?_,by omega,hbj.tr le_rfl' bb5⟩
      show _=_
      rw [HS2.out,HD.out];omega
     case measure=>simp [intOf];omega
    ·have hmb:j=blocks.length:=by omega
     have hmd:decide ((j:Int) < (blocks.length:Int))=false:=by simp;omega
     go_wp2
     go_roundw
     case rel =>
      refine ⟨k+1,d,by omega,rfl,by go_num,?_,hd,hbF.trans (hbj.mono (by omega))⟩
      show _=_
      rw [HS.out,HX.out,HD.out,HA.out,hmb,List.take_length];omega
     case measure=>simp [intOf];omega
  ·have hkb:k=body.length:=by omega
   have hkd:decide ((k:Int) < (body.length:Int))=false:=by simp;omega
   go_wp2
   go_ret
   refine ⟨?_,hbw⟩
   rw [HN.out,← List.take_length (l:=body),← hkb,← HA.out]
   rfl
theorem nestBlock_any (x:Bl):NestLays x:=
 Bl.ind (P:=fun s=>∀ x ∈ s.blocks,NestLays x) (Q:=NestLays) (fun _ _ _ _ _ _ _ _ _ ih b hb=>ih b hb) (fun ad cap body ih=>nestBlock_step ad cap body ih) x
end Go.Proofs.YtaekbgljbgmchaaGreatDoor
namespace Go.Proofs.YtaekbgljbgmchaaGreatDoor
open Go.RowKit Px
def Mo.nst (m:Mo):Nat:=max 1 (maxL (fun x:Me=>x.body.nst 2) m.meths)
def Pr.nst (p:Pr):Nat:=max (maxL Mo.nst p.mons) (maxL (fun r:Ro=>r.body.nst 1) p.roles)
theorem sum_flat {α β:Type} (f:β→Nat) (g:α→List β) (l:List α) (a:α) (h:a ∈ l):((g a).map f).sum≤((l.flatMap g).map f).sum:=by
 induction l with
 | nil=>cases h
 | cons b l ih =>
  rw [List.flatMap_cons,List.map_append,List.sum_append_nat]
  rcases List.mem_cons.1 h with rfl | h
  ·omega
  ·have:=ih h;omega
theorem meth_sz {p:Pr} {m:Mo} {x:Me} (hm:m ∈ p.mons) (hx:x ∈ m.meths):x.body.sz≤p.size:=by
 have h1:=sum_flat St.sz (fun x:Me=>x.body.subs) m.meths x hx
 have h2:=sum_flat St.sz (fun m:Mo=>m.meths.flatMap fun x=>x.body.subs) p.mons m hm
 unfold Pr.size Pr.stmts Bl.sz
 rw [List.map_append,List.sum_append_nat]
 omega
theorem role_sz {p:Pr} {r:Ro} (hr:r ∈ p.roles):r.body.sz≤p.size:=by
 have h1:=sum_flat St.sz (fun r:Ro=>r.body.subs) p.roles r hr
 unfold Pr.size Pr.stmts Bl.sz
 rw [List.map_append,List.sum_append_nat]
 omega
set_option maxRecDepth 100000 in
set_option maxHeartbeats 2000000 in
theorem nestProgram_any (p:Pr) (n₀ m:Nat) (w:World) (hn:n₀≤w.heap.size) (hI:p.Is n₀ w) (hs:SignsAt w m) (hsz:p.size≤100000) :
  Calls Tryz.prog 47 #[.map (some m),p.val] w fun r w'=>r=.returned (.int .i64 ((p.nst:Nat):Int))∧Below w.heap.size w w':=by
 have hml:=hs.lt
 have hms:=fun x (hx:x ∈ p.mons) y (hy:y ∈ x.meths)=>meth_sz hx hy
 have hrs:=fun x (hx:x ∈ p.roles)=>role_sz hx
 rcases hp:p with ⟨mad,mcap,mons,rad,rcap,roles⟩
 rw [hp] at hI hms hrs hsz
 have HSZ:=hid hsz
 have HN:Hid ((Pr.mk mad mcap mons rad rcap roles).nst=max (maxL Mo.nst mons) (maxL (fun r:Ro=>r.body.nst 1) roles)):=rfl
 have hsl:=hI.1.1
 have hsr:=hI.2.1
 have hl1:=hsl.1;have hl2:=hsl.2.1;have hl3:=hsr.1;have hl4:=hsr.2.1
 unfold maxLen at hl2 hl4
 simp only at hms hrs hl1 hl3
 simp only [Pr.val]
 have hB0:Below w.heap.size w (w.alloc (.cells #[.slice mad mons.length mcap,.slice rad roles.length rcap] 37)):=(Below.refl _ w).al le_rfl' _
 have bP:(w.alloc (.cells #[.slice mad mons.length mcap,.slice rad roles.length rcap] 37)).heap[w.heap.size]?=some (.cells #[.slice mad mons.length mcap,.slice rad roles.length rcap] 37 (0,0)):=heap_alloc_new w _
 have hz0:(w.alloc (.cells #[.slice mad mons.length mcap,.slice rad roles.length rcap] 37)).heap.size=w.heap.size+1:=by simp
 have HZ0:=hid hz0
 clear hp hz0 hsz
 go_enter Tryz.func47,Tryz.ntmps47
 go_wp2
 obtain ⟨W0,hW0⟩:∃ W0,w.alloc (.cells #[.slice mad mons.length mcap,.slice rad roles.length rcap] 37)=W0:=⟨_,rfl⟩
 rw [hW0] at hB0 bP HZ0 ⊢
 clear hW0
 have hs0:=hs.below hB0 hml
 go_loopw [5,15] (fun v i wr=>∃ (k a:Nat),k≤mons.length∧v=.int .i64 (a:Int)∧i=.int .i64 (k:Int)∧Hid (a=maxL Mo.nst (mons.take k))∧a≤4000000∧Below W0.heap.size W0 wr) (fun _ i _=>mons.length - (intOf i).toNat)
 case atStart=>exact ⟨0,0,by omega,rfl,rfl,by simp [Hid,maxL],by omega,Below.refl _ _⟩
 case round =>
  obtain ⟨k,a,hk,rfl,rfl,HA,ha,hbw⟩:=hrel
  have hzw:=hbw.size
  have hzz:=HZ0.out
  obtain ⟨wo,hwo⟩:∃ wo:World,wo=wr:=⟨_,rfl⟩
  subst hwo
  have hbN:Below n₀ w wo:=(hB0.trans (hbw.mono (by omega))).mono hn
  have hn1:n₀≤wo.heap.size:=by omega
  have hm1:m < wo.heap.size:=by omega
  have hm2:m < W0.heap.size:=by omega
  have hw1:w.heap.size < wo.heap.size:=by omega
  have hw2:w.heap.size≤W0.heap.size:=by omega
  by_cases hlt:k < mons.length
  ·rcases hsl.2.2 with h | ⟨b,off,rfl,hbn,hrow⟩
   ·subst h;simp at hlt
   have hr:=hrow.below hbN hbn
   have hbl:b < wo.heap.size:=by omega
   have HS:=hid (maxL_snoc Mo.nst mons k hlt)
   have hIm:=(hI.1.2 _ (List.getElem_mem hlt)).below hbN
   have hmk:=hms _ (List.getElem_mem hlt)
   rcases he':mons[k] with ⟨mname,vad,vcap,vars,tad,tcap,meths,pos⟩
   rw [he'] at hIm hmk HS
   obtain ⟨c0,c1,c2,c3⟩:=row4 hr k hlt (by rw [he'];rfl)
   have HX:Hid ((Mo.mk mname vad vcap vars tad tcap meths pos).nst=max 1 (maxL (fun x:Me=>x.body.nst 2) meths)):=rfl
   have hst:=hIm.2.2.1
   have hlt1:=hst.1;have hlt2:=hst.2.1
   unfold maxLen at hlt2
   simp only at hlt1 hlt2 hmk
   clear he' hzz
   go_wp2
   have hB1:Below wo.heap.size wo (wo.alloc (.cells #[.string mname,.slice vad vars.length vcap,.slice tad meths.length tcap,.int .i64 pos] 80)):=(Below.refl _ _).al le_rfl' _
   obtain ⟨W1,hW1⟩:∃ W1,wo.alloc (.cells #[.string mname,.slice vad vars.length vcap,.slice tad meths.length tcap,.int .i64 pos] 80)=W1:=⟨_,rfl⟩
   rw [hW1] at hB1 ⊢
   clear hW1 c0 c1 c2 c3
   have hz1:=hB1.size
   go_loopw [5,24] (fun v i wr=>∃ (j d:Nat),j≤meths.length∧v=.int .i64 (d:Int)∧i=.int .i64 (j:Int)∧Hid (d=max a (max 1 (maxL (fun x:Me=>x.body.nst 2) (meths.take j))))∧d≤4000000∧Below W1.heap.size W1 wr) (fun _ i _=>meths.length - (intOf i).toNat)
   case atStart=>exact ⟨0,max a 1,by omega,by congr 1;omega,rfl,by simp [Hid,maxL],by omega,Below.refl _ _⟩
   case round =>
    obtain ⟨j,d,hj,rfl,rfl,HD,hd,hbj⟩:=hrel
    have hzj:=hbj.size
    have hbj0:Below wo.heap.size wo wr:=hB1.trans (hbj.mono hz1)
    by_cases hlt3:j < meths.length
    ·rcases hst.2.2 with h | ⟨b3,off3,rfl,hbn3,hrow3⟩
     ·subst h;simp at hlt3
     have hr3:=hrow3.below (hbj0.mono (by omega)) hbn3
     have hb3l:b3 < wr.heap.size:=by omega
     have hszj:=hmk _ (List.getElem_mem hlt3)
     have hnl:=blnst_le meths[j].body 2
     have hIx:=(hIm.2.2.2 _ (List.getElem_mem hlt3)).below (hbj0.mono (by omega))
     have HS2:=hid (maxL_snoc (fun x:Me=>x.body.nst 2) meths j hlt3)
     rcases he2:meths[j] with ⟨xname,xbody,xpos⟩
     rw [he2] at HS2 hIx hnl hszj
     simp only at HS2 hnl hszj
     have hq:=fun W (h:Below wr.heap.size wr W)=>nestBlock_any xbody n₀ m 2 W (by have:=h.size;omega) (hIx.2.2.below (h.mono (by omega))) ((((hs0.below hbw (by omega)).below hbj0 (by omega)).below h (by omega))) (by have:=HSZ.out;omega)
     obtain ⟨z,hz⟩:∃ z,xbody.nst 2=z:=⟨_,rfl⟩
     have hzb:z≤4000000:=by have:=HSZ.out;omega
     rw [hz] at HS2
     simp only [hz] at hq
     rcases xbody with ⟨bad,bcap,bbody⟩
     obtain ⟨d0,d1,d2⟩:=row3 hr3 j hlt3 (by rw [he2];rfl)
     simp only [Bl.slice] at hq d1
     clear he2 hz hnl
     have hq1:=hq (wr.alloc (.cells #[.string xname,.slice bad bbody.length bcap,.int .i64 xpos] 88)) ((Below.refl _ _).al le_rfl' _)
     clear hq
     go_wp2_with (go_at_call 82;refine hq1.mono ?_;rintro r w5 ⟨rfl,bb5⟩)
     go_roundw
     case rel =>
      refine ⟨j+1,max d z,by omega,by congr 1;omega,by go_num,?_,by omega,(hbj.al le_rfl' _).tr le_rfl' bb5⟩
      show _=_
      rw [HS2.out,HD.out];omega
     case measure=>simp [intOf];omega
    ·have hmb:j=meths.length:=by omega
     have hmd:decide ((j:Int) < (meths.length:Int))=false:=by simp;omega
     go_wp2
     go_roundw
     case rel =>
      refine ⟨k+1,d,by omega,rfl,by go_num,?_,hd,hbw.tr le_rfl' hbj0⟩
      show _=_
      rw [HS.out,HX.out,HD.out,HA.out,hmb,List.take_length]
     case measure=>simp [intOf];omega
  ·have hkb:k=mons.length:=by omega
   have hkd:decide ((k:Int) < (mons.length:Int))=false:=by simp;omega
   have HA2:Hid (a=maxL Mo.nst mons):=by show _=_;rw [HA.out,hkb,List.take_length]
   have bP1:=(hbw.block _ (by omega)).trans bP
   have p1:wo.cell? ⟨w.heap.size,1,none⟩=some (.slice rad roles.length rcap):=cell_of' bP1 1
   clear HA hkb hzz
   go_wp2
   go_loopw [5,39] (fun v i wr=>∃ (j d:Nat),j≤roles.length∧v=.int .i64 (d:Int)∧i=.int .i64 (j:Int)∧Hid (d=max a (maxL (fun r:Ro=>r.body.nst 1) (roles.take j)))∧d≤4000000∧Below wo.heap.size wo wr) (fun _ i _=>roles.length - (intOf i).toNat)
   case atStart=>exact ⟨0,a,by omega,rfl,rfl,by simp [Hid,maxL],by omega,Below.refl _ _⟩
   case round =>
    obtain ⟨j,d,hj,rfl,rfl,HD,hd,hbj⟩:=hrel
    have hzj:=hbj.size
    have hzz:=HZ0.out
    have hbj0:Below n₀ w wr:=hbN.trans (hbj.mono (by omega))
    by_cases hlt3:j < roles.length
    ·rcases hsr.2.2 with h | ⟨b3,off3,rfl,hbn3,hrow3⟩
     ·subst h;simp at hlt3
     have hr3:=hrow3.below hbj0 hbn3
     have hb3l:b3 < wr.heap.size:=by omega
     have hszj:=hrs _ (List.getElem_mem hlt3)
     have hnl:=blnst_le roles[j].body 1
     have hIx:=(hI.2.2 _ (List.getElem_mem hlt3)).below hbj0
     have HS2:=hid (maxL_snoc (fun x:Ro=>x.body.nst 1) roles j hlt3)
     rcases he2:roles[j] with ⟨xname,xstar,xcount,xbody,xpos⟩
     rw [he2] at HS2 hIx hnl hszj
     simp only at HS2 hnl hszj
     have hq:=fun W (h:Below wr.heap.size wr W)=>nestBlock_any xbody n₀ m 1 W (by have:=h.size;omega) (hIx.2.2.2.below (h.mono (by omega))) ((((hs0.below hbw (by omega)).below hbj (by omega)).below h (by omega))) (by have:=HSZ.out;omega)
     obtain ⟨z,hz⟩:∃ z,xbody.nst 1=z:=⟨_,rfl⟩
     have hzb:z≤4000000:=by have:=HSZ.out;omega
     rw [hz] at HS2
     simp only [hz] at hq
     rcases xbody with ⟨bad,bcap,bbody⟩
     obtain ⟨d0,d1,d2,d3,d4⟩:=row5 hr3 j hlt3 (by rw [he2];rfl)
     simp only [Bl.slice] at hq d3
     clear he2 hz hnl hzz
     have hq1:=hq (wr.alloc (.cells #[.string xname,.bool xstar,.int .i64 xcount,.slice bad bbody.length bcap,.int .i64 xpos] 62)) ((Below.refl _ _).al le_rfl' _)
     clear hq
     go_wp2_with (go_at_call 82;refine hq1.mono ?_;rintro r w5 ⟨rfl,bb5⟩)
     go_roundw
     case rel =>
      refine ⟨j+1,max d z,by omega,by congr 1;omega,by go_num,?_,by omega,(hbj.al le_rfl' _).tr le_rfl' bb5⟩
      show _=_
      rw [HS2.out,HD.out];omega
     case measure=>simp [intOf];omega
    ·have hmb:j=roles.length:=by omega
     have hmd:decide ((j:Int) < (roles.length:Int))=false:=by simp;omega
     clear hzz
     go_wp2
     go_ret
     refine ⟨?_,?_⟩
     ·rw [HN.out,← HA2.out,← List.take_length (l:=roles),← hmb,← HD.out]
      rfl
     ·exact hB0.trans (((hbw.mono (by have:=HZ0.out;omega)).trans (hbj.mono (by have:=HZ0.out;omega))))
end Go.Proofs.YtaekbgljbgmchaaGreatDoor
namespace Go.Proofs.YtaekbgljbgmchaaGreatDoor
open Go.RowKit Px
namespace Px
def roCount (r:Ro):List UInt8:=if r.star then [42] else Lib.itoa r.count
def roT (o:Nat) (r:Ro):List UInt8:=ind o++([116,104,114,101,97,100,32]++(r.name.data.toList++([32]++roCount r)))++(blksT o [] [r.body.txt (o+1)] 0++[10])
end Px
def Pr.txt (p:Pr):List UInt8:=p.mons.flatMap (moT 0)++p.roles.flatMap (roT 0)
def Ro.fine (n₀:Nat) (W:World) (r:Ro):Prop:=r.Is n₀ W∧Lx.name r.name=true∧r.body.okb∧r.body.sz≤5000
theorem Ro.fine.below {n₀:Nat} {W W':World} {x:Ro} (h:x.fine n₀ W) (hb:Below n₀ W W'):x.fine n₀ W':=⟨h.1.below hb,h.2⟩
theorem roCount_len (n₀:Nat) (W:World) (r:Ro) (h:r.fine n₀ W):(roCount r).length≤20:=by
 have:=itoa_len r.count h.1.2.1
 unfold roCount;split <;> simp <;> omega
theorem roT_len (n₀:Nat) (W:World) (o:Nat) (x:Ro) (h:x.fine n₀ W) (ho:o≤10):(roT o x).length≤600000000:=by
 have h1:=bltxt_len n₀ W x.body h.1.2.2.2 h.2.2.1 (o+1) (by have:=h.2.2.2;omega)
 have h2:=blksT_len o [] [x.body.txt (o+1)] 0
 have h3:=name_len h.2.1
 have h4:=h.2.2.2
 have h5:=roCount_len n₀ W x h
 unfold roT
 simp only [List.length_append,List.length_cons,List.length_nil,ind_len]
 simp only [List.map_cons,List.map_nil,List.sum_cons,List.sum_nil,List.length_cons,List.length_nil] at h2
 omega
structure Pr.fine (n₀:Nat) (W:World) (p:Pr):Prop where
 is:p.Is n₀ W
 mlen:p.mons.length≤8
 rlen:p.roles.length≤8
 mons:∀ m ∈ p.mons,m.fine n₀ W
 roles:∀ r ∈ p.roles,r.fine n₀ W
theorem Pr.fine_of {n₀:Nat} {W:World} {p:Pr} (hI:p.Is n₀ W) (hok:p.ok=true) (hsz:p.size≤5000):p.fine n₀ W:=by
 unfold Pr.ok at hok
 rw [Bool.and_eq_true] at hok
 obtain ⟨hd,hs⟩:=hok
 unfold Pr.decl at hd
 simp only [Bool.and_eq_true,decide_eq_true_iff,List.all_eq_true] at hd hs
 refine ⟨hI,hd.1.1.1,hd.1.1.2,fun m hm=>?_,fun r hr=>?_⟩
 ·have h1:=hd.1.2 m hm
  unfold Mo.ok at h1
  simp only [Bool.and_eq_true,decide_eq_true_iff,List.all_eq_true] at h1
  refine ⟨hI.1.2 m hm,h1.1.1.1.1,h1.1.1.1.2,h1.1.1.2,h1.1.2,fun x hx=>⟨(hI.1.2 m hm).2.2.2 x hx,h1.2 x hx,fun s hs'=>hs s ?_,?_⟩⟩
  ·exact List.mem_append.2 (.inl (List.mem_flatMap.2 ⟨m,hm,List.mem_flatMap.2 ⟨x,hx,hs'⟩⟩))
  ·have:=meth_sz hm hx;omega
 ·have h1:=hd.2 r hr
  unfold Ro.ok at h1
  simp only [Bool.and_eq_true] at h1
  refine ⟨hI.2.2 r hr,h1.1,fun s hs'=>hs s ?_,?_⟩
  ·exact List.mem_append.2 (.inr (List.mem_flatMap.2 ⟨r,hr,hs'⟩))
  ·have:=role_sz hr;omega
set_option maxRecDepth 100000 in
set_option maxHeartbeats 1000000 in
theorem p_program_any (p:Pr) (n₀ b m:Nat) (w:World) (hn:n₀≤b) (hf:p.fine n₀ w) (hs:Sh b m 0 [] w) :
  Calls Tryz.prog 48 #[.pointer (some ⟨b,0,none⟩),p.val] w fun r w'=>r=.returned (.tuple #[])∧Sh b m 0 p.txt w'∧Kept b w w':=by
 have hbl:=hs.bl
 rcases p with ⟨mad,mcap,mons,rad,rcap,roles⟩
 have HT:Hid ((Pr.mk mad mcap mons rad rcap roles).txt=mons.flatMap (moT 0)++roles.flatMap (roT 0)):=rfl
 have hsm:=hf.is.1.1
 have hsr:=hf.is.2.1
 have hl1:=hsm.1;have hl2:=hsm.2.1;have hl3:=hsr.1;have hl4:=hsr.2.1
 unfold maxLen at hl2 hl4
 have hmn:=hf.mlen;have hrn:=hf.rlen;have hfm:=hf.mons;have hfr:=hf.roles
 simp only at hl1 hl2 hl3 hl4 hmn hrn hfm hfr
 have hmt:∀ k,((mons.take k).flatMap (moT 0)).length≤78400000000:=fun k=>by
  have:=flat_take_len (moT 0) mons k 9800000000 (fun x hx=>moT_len (hfm x hx) 0 (by omega))
  omega
 have hrt:∀ k,((roles.take k).flatMap (roT 0)).length≤4800000000:=fun k=>by
  have:=flat_take_len (roT 0) roles k 600000000 (fun x hx=>roT_len n₀ w 0 x (hfr x hx) (by omega))
  omega
 have hK0:Kept b w (w.alloc (.cells #[.slice mad mons.length mcap,.slice rad roles.length rcap] 37)):=(Kept.refl b w).al (by omega) _
 have bP:(w.alloc (.cells #[.slice mad mons.length mcap,.slice rad roles.length rcap] 37)).heap[w.heap.size]?=some (.cells #[.slice mad mons.length mcap,.slice rad roles.length rcap] 37 (0,0)):=heap_alloc_new w _
 have hs0:=hs.al (.cells #[.slice mad mons.length mcap,.slice rad roles.length rcap] 37)
 have hne:w.heap.size ≠ b:=by omega
 simp only [Pr.val]
 go_enter Tryz.func48,Tryz.ntmps48
 go_wp2
 obtain ⟨W0,hW0⟩:∃ W0,w.alloc (.cells #[.slice mad mons.length mcap,.slice rad roles.length rcap] 37)=W0:=⟨_,rfl⟩
 rw [hW0] at hK0 bP hs0 ⊢
 clear hW0
 go_loopw [12] (fun i wr=>∃ k:Nat,k≤mons.length∧i=.int .i64 (k:Int)∧Sh b m 0 ((mons.take k).flatMap (moT 0)) wr∧Kept b W0 wr) (fun i _=>mons.length - (intOf i).toNat)
 case atStart=>exact ⟨0,by omega,rfl,by simpa using hs0,Kept.refl _ _⟩
 case round =>
  obtain ⟨k,hk,rfl,hS,hK⟩:=hrel
  have hbr:=hS.bl
  have hKw:=hK0.trans hK
  by_cases hlt:k < mons.length
  ·rcases hsm.2.2 with h | ⟨g,off,rfl,hg,hrow⟩
   ·subst h;simp at hlt
   have hr:=hrow.below (hKw.1.mono hn) hg
   have hgl:g < wr.heap.size:=by omega
   have HSN:=hid (flatMap_snoc (moT 0) mons k hlt)
   have htk:=hmt k
   have hq:=fun W (h1:Sh b m 0 ((mons.take k).flatMap (moT 0)) W) (h2:Kept b w W)=>p_monitor_any mons[k] n₀ b m 0 _ W hn ((hfm _ (List.getElem_mem hlt)).below (h2.1.mono hn)) h1 (by omega) (by omega)
   obtain ⟨tk,htk2⟩:∃ tk,(mons.take k).flatMap (moT 0)=tk:=⟨_,rfl⟩
   rw [htk2] at hS HSN
   simp only [htk2] at hq
   clear htk2
   obtain ⟨sx,hsx⟩:∃ sx,moT 0 mons[k]=sx:=⟨_,rfl⟩
   simp only [hsx] at hq HSN
   clear hsx
   rcases he':mons[k] with ⟨mname,vad,vcap,vars,tad,tcap,meths,pos⟩
   obtain ⟨c0,c1,c2,c3⟩:=row4 hr k hlt (by rw [he'];rfl)
   simp only [he',Mo.val,Mo.cells] at hq
   have hs1:=hS.al (.cells #[.string mname,.slice vad vars.length vcap,.slice tad meths.length tcap,.int .i64 pos] 80)
   have hK1:Kept b wr (wr.alloc (.cells #[.string mname,.slice vad vars.length vcap,.slice tad meths.length tcap,.int .i64 pos] 80)):=(Kept.refl b wr).al (by omega) _
   have hq1:=hq _ hs1 (hKw.trans hK1)
   clear he' hq
   go_wp2_with (go_at_call 83;(with_reducible refine hq1.mono ?_);rintro r w2 ⟨rfl,s2,k2⟩)
   go_roundw
   case rel =>
    refine ⟨k+1,by omega,by go_num,?_,(hK.trans hK1).trans k2⟩
    rw [HSN.out]
    exact s2
   case measure=>simp [intOf];omega
  ·have hkb:k=mons.length:=by omega
   have hkd:decide ((k:Int) < (mons.length:Int))=false:=by simp;omega
   rw [hkb,List.take_length] at hS
   have hvt:(mons.flatMap (moT 0)).length≤78400000000:=by have:=hmt mons.length;rwa [List.take_length] at this
   clear hkb
   obtain ⟨wo,hwo⟩:∃ wo:World,wo=wr:=⟨_,rfl⟩
   subst hwo
   have p1:wo.cell? ⟨w.heap.size,1,none⟩=some (.slice rad roles.length rcap):=cell_of' (hK.box bP hne (by decide)) 1
   obtain ⟨tv,htv⟩:∃ tv,mons.flatMap (moT 0)=tv:=⟨_,rfl⟩
   rw [htv] at hS HT hvt
   clear htv
   go_wp2
   go_loopw [23] (fun i wr=>∃ j:Nat,j≤roles.length∧i=.int .i64 (j:Int)∧Sh b m 0 (tv++(roles.take j).flatMap (roT 0)) wr∧Kept b w wr) (fun i _=>roles.length - (intOf i).toNat)
   case atStart=>exact ⟨0,by omega,rfl,by simpa using hS,hKw⟩
   case round =>
    obtain ⟨j,hj,rfl,hS2,hK2⟩:=hrel
    have hbr2:=hS2.bl
    by_cases hlt2:j < roles.length
    ·rcases hsr.2.2 with h | ⟨g,off,rfl,hg,hrow⟩
     ·subst h;simp at hlt2
     have hr:=hrow.below (hK2.1.mono hn) hg
     have hgl:g < wr.heap.size:=by omega
     have HSN:=hid (flatMap_snoc (roT 0) roles j hlt2)
     have htk:=hrt j
     have hxf:=(hfr _ (List.getElem_mem hlt2)).below (hK2.1.mono hn)
     obtain ⟨tk,htk2⟩:∃ tk,tv++(roles.take j).flatMap (roT 0)=tk:=⟨_,rfl⟩
     have htkl:tk.length≤83200000000:=by rw [← htk2,List.length_append];omega
     rw [htk2] at hS2
     have HTK:=hid htk2
     clear htk2 htk
     have hrc:=roCount_len n₀ wr _ hxf
     rcases he':roles[j] with ⟨name,star,count,body,xpos⟩
     rw [he'] at hxf HSN hrc
     have hnm:=name_len hxf.2.1
     have hbs:=hxf.2.2.2
     have hcnt:=hxf.1.2.1
     simp only at hnm hbs hcnt
     obtain ⟨rc,hrcE⟩:∃ rc,roCount (Ro.mk name star count body xpos)=rc:=⟨_,rfl⟩
     have HRC:Hid (rc=if star then [42] else Lib.itoa count):=hrcE.symm
     have HX:Hid (roT 0 (Ro.mk name star count body xpos)=ind 0++([116,104,114,101,97,100,32]++(name.data.toList++([32]++rc)))++(blksT 0 [] [body.txt (0+1)] 0++[10])):=by show _=_;rw [← hrcE];rfl
     rw [hrcE] at hrc
     clear hrcE
     have hblk:∀ W,Sh b m 0 (tk++(ind 0++([116,104,114,101,97,100,32]++(name.data.toList++([32]++rc))))) W→Kept b wr W→Calls Tryz.prog 86 #[.pointer (some ⟨b,0,none⟩),.string ⟨#[]⟩,.slice (some ⟨W.heap.size,0,none⟩) 1 1] (W.alloc (.cells #[body.slice] 60)) fun r w'=>r=.returned (.tuple #[])∧Sh b m 0 (tk++(ind 0++([116,104,114,101,97,100,32]++(name.data.toList++([32]++rc))))++(blksT 0 [] [body.txt (0+1)] 0++[10])) w'∧Kept b W w':=fun W h1 h2 =>
      blocks_new body hxf.2.2.1 n₀ b m 0 _ W hn (hxf.1.2.2.2.below (h2.1.mono hn)) h1 (by omega) (by simp only [List.length_append,List.length_cons,List.length_nil,ind_len];omega)
     rcases body with ⟨bad,bcap,bbody⟩
     obtain ⟨c0,c1,c2,c3,c4⟩:=row5 hr j hlt2 (by rw [he'];rfl)
     simp only [Bl.slice] at hblk c3
     have hs1:=hS2.al (.cells #[.string name,.bool star,.int .i64 count,.slice bad bbody.length bcap,.int .i64 xpos] 62)
     have hK1:Kept b wr (wr.alloc (.cells #[.string name,.bool star,.int .i64 count,.slice bad bbody.length bcap,.int .i64 xpos] 62)):=(Kept.refl b wr).al (by omega) _
     have bX:(wr.alloc (.cells #[.string name,.bool star,.int .i64 count,.slice bad bbody.length bcap,.int .i64 xpos] 62)).heap[wr.heap.size]?=some (.cells #[.string name,.bool star,.int .i64 count,.slice bad bbody.length bcap,.int .i64 xpos] 62 (0,0)):=heap_alloc_new wr _
     have hwne:wr.heap.size ≠ b:=by omega
     have hbeg:∀ W (cn:ByteArray),Sh b m 0 tk W→cn.data.toList=rc→Calls Tryz.prog 85 #[.pointer (some ⟨b,0,none⟩),.slice (some ⟨W.heap.size,0,none⟩) 4 4] (W.alloc (.cells #[.string ⟨#[116,104,114,101,97,100,32]⟩,.string name,.string ⟨#[32]⟩,.string cn] 9)) fun e w'=>e=.returned (.tuple #[])∧Sh b m 0 (tk++(ind 0++([116,104,114,101,97,100,32]++(name.data.toList++([32]++rc))))) w'∧Kept b W w':=fun W cn h1 h2=>by
      have:=begin_new [⟨#[116,104,114,101,97,100,32]⟩,name,⟨#[32]⟩,cn] b m 0 tk W h1 (by simp) (by omega) (by simp only [cat,List.flatMap_cons,List.flatMap_nil,List.append_nil,List.length_append,List.length_cons,List.length_nil,h2];omega)
      simpa [cat,h2] using this
     clear he'
     cases star
     ·have HRC2:Hid (((⟨(Lib.itoa count).toArray⟩:ByteArray)).data.toList=rc):=by show _=_;rw [HRC.out];rfl
      have hnumc:=number_any count _ hcnt hs1.tab
      go_wp2_with (first
       | (go_at_call 84;(with_reducible refine hnumc.mono ?_);rintro r w1 ⟨rfl,b1⟩;have s1:=hs1.below b1;have k1:=hK1.of (by omega) b1;have bX1:=(b1.block _ (by simp)).trans bX;have x0:=cell_of' bX1 0;have x3:=cell_of' bX1 3;have hbeg2:=hbeg _ ⟨(Lib.itoa count).toArray⟩ s1 HRC2.out)
       | (go_at_call 85;(with_reducible refine hbeg2.mono ?_);rintro r w2 ⟨rfl,s2,k2⟩;have y3:=cell_of' (k2.box bX1 hwne (by decide)) 3;have hblk2:=hblk _ s2 (k1.trans k2))
       | (go_at_call 86;(with_reducible refine hblk2.mono ?_);rintro r w3 ⟨rfl,s3,k3⟩))
      go_roundw
      case rel =>
       refine ⟨j+1,by omega,by go_num,?_,((hK2.trans k1).trans k2).trans k3⟩
       rw [HSN.out,← List.append_assoc,HTK.out,HX.out]
       simpa using s3
      case measure=>simp [intOf];omega
     ·have HRC2:Hid (((⟨#[42]⟩:ByteArray)).data.toList=rc):=by show _=_;rw [HRC.out];rfl
      have hbeg2:=hbeg _ ⟨#[42]⟩ hs1 HRC2.out
      rw [World.size_alloc] at hbeg2
      go_wp2_with (first
       | (go_at_call 85;(with_reducible refine hbeg2.mono ?_);rintro r w2 ⟨rfl,s2,k2⟩;have y3:=cell_of' (k2.box bX hwne (by decide)) 3;have hblk2:=hblk _ s2 (hK1.trans k2))
       | (go_at_call 86;(with_reducible refine hblk2.mono ?_);rintro r w3 ⟨rfl,s3,k3⟩))
      go_roundw
      case rel =>
       refine ⟨j+1,by omega,by go_num,?_,((hK2.trans hK1).trans k2).trans k3⟩
       rw [HSN.out,← List.append_assoc,HTK.out,HX.out]
       simpa using s3
      case measure=>simp [intOf];omega
    ·have hjb:j=roles.length:=by omega
     have hjd:decide ((j:Int) < (roles.length:Int))=false:=by simp;omega
     rw [hjb,List.take_length] at hS2
     clear hjb
     go_wp2
     go_end0
     refine ⟨rfl,?_,hK2⟩
     rw [HT.out]
     exact hS2
end Go.Proofs.YtaekbgljbgmchaaGreatDoor
namespace Go.Proofs.YtaekbgljbgmchaaGreatDoor
open Go.RowKit Px
structure Laid (w:World):Prop where
 shapes:Shapes w
 tab:Tab w
 size:4≤w.heap.size
theorem Laid.below {w w':World} {n:Nat} (h:Laid w) (hb:Below n w w') (hn:4≤n):Laid w':=⟨h.shapes.below hb (by omega),h.tab.below hb (by omega),by have:=h.size;have:=hb.size;omega⟩
theorem Sh.new (w:World) (hL:Laid w):Sh (w.heap.size+1) w.heap.size 0 [] ((w.alloc (.map (signEs 13).toArray 13)).alloc (.cells #[.pointer none,.slice none 0 0,.map (some w.heap.size),.int .i64 0] 98)):=by
 have hB:Below w.heap.size w ((w.alloc (.map (signEs 13).toArray 13)).alloc (.cells #[.pointer none,.slice none 0 0,.map (some w.heap.size),.int .i64 0] 98)):=((Below.refl _ w).al le_rfl' _).al le_rfl' _
 refine ⟨⟨[],Okt.refl _,.inl ⟨Nat.le_refl _,.slice none 0 0,?_,World.ownsRow_nil _ _ _ _⟩⟩,by omega,by have:=hL.size;omega,?_,(hL.below hB hL.size).tab⟩
 ·have:=heap_alloc_new (w.alloc (.map (signEs 13).toArray 13)) (.cells #[.pointer none,.slice none 0 0,.map (some w.heap.size),.int .i64 0] 98)
  rwa [World.size_alloc] at this
 ·exact (Below.heap_alloc _ _ _ (by simp)).trans (heap_alloc_new w _)
def textOut (p:Pr):Value:=if p.ok then (if 64 < p.nst then .tuple #[.string ⟨#[]⟩,.int .i64 41] else toldOf p.txt) else .tuple #[.string ⟨#[]⟩,.int .i64 20]
def PBox (W:World) (k:Nat) (mad:Option Addr) (mcap ml:Nat) (rad:Option Addr) (rcap rl:Nat):Prop:=W.heap[k]?=some (.cells #[.slice mad ml mcap,.slice rad rl rcap] 37 (0,0))
theorem PBox.below {W W':World} {k n mcap ml rcap rl:Nat} {mad rad:Option Addr} (h:PBox W k mad mcap ml rad rcap rl) (hb:Below n W W') (hlt:k < n):PBox W' k mad mcap ml rad rcap rl:=(hb.block k hlt).trans h
theorem PBox.lt {W:World} {k mcap ml rcap rl:Nat} {mad rad:Option Addr} (h:PBox W k mad mcap ml rad rcap rl):k < W.heap.size:=(Array.getElem?_eq_some_iff.1 h).1
theorem PBox.cells {W:World} {k mcap ml rcap rl:Nat} {mad rad:Option Addr} (h:PBox W k mad mcap ml rad rcap rl):W.cell? ⟨k,0,none⟩=some (.slice mad ml mcap)∧W.cell? ⟨k,1,none⟩=some (.slice rad rl rcap):=⟨cell_of' h 0,cell_of' h 1⟩
set_option maxRecDepth 100000 in
set_option maxHeartbeats 1000000 in
theorem printText_any (p:Pr) (n₀:Nat) (w:World) (hn:n₀≤w.heap.size) (hI:p.Is n₀ w) (hL:Laid w) (hsz:p.size≤5000) :
  Calls Tryz.prog 20 #[p.val] w fun r w'=>r=.returned (textOut p)∧Below w.heap.size w w':=by
 have h3:=hL.size
 have hchk:∀ W,Below w.heap.size w W→Calls Tryz.prog 21 #[p.val] W fun r w'=>r=.returned (.int .i64 (if p.ok then 0 else 20))∧Below W.heap.size W w':=fun W hW =>
  check_any p n₀ W (by have:=hW.size;omega) (hI.below (hW.mono hn)) (hL.below hW h3).shapes
 have hnst:∀ W m,Below w.heap.size w W→SignsAt W m→Calls Tryz.prog 47 #[.map (some m),p.val] W fun r w'=>r=.returned (.int .i64 ((p.nst:Nat):Int))∧Below W.heap.size W w':=fun W m hW hS =>
  nestProgram_any p n₀ m W (by have:=hW.size;omega) (hI.below (hW.mono hn)) hS (by omega)
 have hlay:p.ok=true→∀ W b m,w.heap.size≤b→Below w.heap.size w W→Sh b m 0 [] W→Calls Tryz.prog 48 #[.pointer (some ⟨b,0,none⟩),p.val] W fun r w'=>r=.returned (.tuple #[])∧Sh b m 0 (p.txt) w'∧Kept b W w':=fun hok W b m hb hW hS=>by
  exact p_program_any p n₀ b m W (by omega) (Pr.fine_of (hI.below (hW.mono hn)) hok hsz) hS
 have HO:Hid (textOut p=if p.ok then (if 64 < p.nst then .tuple #[.string ⟨#[]⟩,.int .i64 41] else toldOf (p.txt)) else .tuple #[.string ⟨#[]⟩,.int .i64 20]):=rfl
 obtain ⟨out,hout⟩:∃ out,textOut p=out:=⟨_,rfl⟩
 rw [hout] at HO ⊢
 clear hout
 obtain ⟨tx,htx⟩:∃ tx,p.txt=tx:=⟨_,rfl⟩
 obtain ⟨y,hy⟩:∃ y,p.nst=y:=⟨_,rfl⟩
 rw [htx,hy] at HO
 simp only [htx] at hlay
 simp only [hy] at hnst
 clear htx hy hsz hI
 obtain ⟨ok,hok⟩:∃ ok,p.ok=ok:=⟨_,rfl⟩
 simp only [hok] at hchk hlay HO
 clear hok
 rcases p with ⟨mad,mcap,mons,rad,rcap,roles⟩
 simp only [Pr.val] at hchk hnst hlay ⊢
 have hB0:Below w.heap.size w (w.alloc (.cells #[.slice mad mons.length mcap,.slice rad roles.length rcap] 37)):=(Below.refl _ w).al le_rfl' _
 have bB:PBox (w.alloc (.cells #[.slice mad mons.length mcap,.slice rad roles.length rcap] 37)) w.heap.size mad mcap mons.length rad rcap roles.length:=heap_alloc_new w _
 have hz0:w.heap.size < (w.alloc (.cells #[.slice mad mons.length mcap,.slice rad roles.length rcap] 37)).heap.size:=by simp
 have hc0:=hchk _ hB0
 cases ok
 ·simp only [Bool.false_eq_true,if_false] at hc0
  go_enter Tryz.func20,Tryz.ntmps20
  go_wp2_with (go_at_call 21;(with_reducible refine hc0.mono ?_);rintro r w1 ⟨rfl,b1⟩)
  go_ret2
  exact ⟨by rw [HO.out];rfl,hB0.tr le_rfl' b1⟩
 ·simp only [if_true] at hc0
  go_enter Tryz.func20,Tryz.ntmps20
  go_upto_region 4 with (go_at_call 21;(with_reducible refine hc0.mono ?_);rintro r w1 ⟨rfl,b1⟩)
  have bB1:=bB.below b1 hz0
  have hB1:Below w.heap.size w w1:=hB0.tr le_rfl' b1
  have hz1:=hB1.size
  have hL1:=hL.below hB1 h3
  have hw1:w.heap.size < w1.heap.size:=bB1.lt
  have hS:=Sh.new w1 hL1
  have hall:=allSigns_any w1
  clear bB hB0 hc0 hchk
  have hB2:Below w1.heap.size w1 ((w1.alloc (.map (signEs 13).toArray 13)).alloc (.cells #[.pointer none,.slice none 0 0,.map (some w1.heap.size),.int .i64 0] 98)):=((Below.refl _ w1).al le_rfl' _).al le_rfl' _
  have hn1:=hnst _ w1.heap.size (hB1.trans (hB2.mono hz1)) hS.signs
  obtain ⟨d0,d1⟩:=(bB1.below hB2 hw1).cells
  have hsc:((w1.alloc (.map (signEs 13).toArray 13)).alloc (.cells #[.pointer none,.slice none 0 0,.map (some w1.heap.size),.int .i64 0] 98)).cell? ⟨w1.heap.size+1,2,none⟩=some (.map (some w1.heap.size)):=by obtain ⟨c,_,h⟩:=hS.sheet;exact h.cells.1
  go_upto_region 5 with (go_at_call 46;(with_reducible refine hall.mono ?_);rintro r w' ⟨rfl,hw'⟩;subst hw')
  have hW2b:Below w.heap.size w ((w1.alloc (.map (signEs 13).toArray 13)).alloc (.cells #[.pointer none,.slice none 0 0,.map (some w1.heap.size),.int .i64 0] 98)):=hB1.trans (hB2.mono hz1)
  have bB2:=bB1.below hB2 hw1
  obtain ⟨W2,hW2⟩:∃ W2,(w1.alloc (.map (signEs 13).toArray 13)).alloc (.cells #[.pointer none,.slice none 0 0,.map (some w1.heap.size),.int .i64 0] 98)=W2:=⟨_,rfl⟩
  rw [hW2] at hS hn1 d0 d1 hsc hW2b bB2 ⊢
  have hbl2:=hS.bl
  have hw2:w.heap.size < W2.heap.size:=by omega
  clear hW2 hB2 hall
  by_cases hd:64 < y
  ·have hd':(64:Int) < (y:Int):=by omega
   have HO2:Hid (out=.tuple #[.string ⟨#[]⟩,.int .i64 41]):=by show _=_;rw [HO.out];simp [hd]
   go_wp2_with (go_at_call 47;(with_reducible refine hn1.mono ?_);rintro r w3 ⟨rfl,b3⟩)
   go_ret2
   exact ⟨by rw [HO2.out];rfl,hW2b.trans (b3.mono (by omega))⟩
  ·have hd':decide ((64:Int) < (y:Int))=false:=by simp;omega
   have HO2:Hid (out=toldOf tx):=by show _=_;rw [HO.out];simp [hd]
   obtain ⟨ts,tc,htf⟩:=toldOf_form tx
   have htold:∀ W,Sh (w1.heap.size+1) w1.heap.size 0 tx W→Calls Tryz.prog 49 #[.pointer (some ⟨w1.heap.size+1,0,none⟩)] W fun e w'=>e=.returned (.tuple #[.string ts,.int .i64 tc])∧Below (w1.heap.size+1) W w':=fun W h=>by
    have:=told_any _ _ _ tx W h
    rw [htf] at this
    exact this
   rw [htf] at HO2
   clear htf hd HO
   go_wp2_with (first
    | (go_at_call 47;(with_reducible refine hn1.mono ?_);rintro r w3 ⟨rfl,b3⟩;have hS3:=hS.below b3;have hB3:Below w.heap.size w w3:=hW2b.trans (b3.mono (by omega));obtain ⟨f0,f1⟩:=(bB2.below b3 hw2).cells;have hl3:=hlay (by trivial) w3 (w1.heap.size+1) w1.heap.size (by omega) hB3 hS3)
    | (go_at_call 48;(with_reducible refine hl3.mono ?_);rintro r w4 ⟨rfl,s4,k4⟩)
    | (go_at_call 49;(with_reducible refine (htold _ s4).mono ?_);rintro r w5 ⟨rfl,b5⟩))
   go_ret2
   exact ⟨by rw [HO2.out];rfl,(hB3.trans (k4.1.mono (by omega))).trans (b5.mono (by omega))⟩
end Go.Proofs.YtaekbgljbgmchaaGreatDoor
namespace Go.Proofs.YtaekbgljbgmchaaGreatDoor
open Go.RowKit Px
namespace Px
theorem takeWhile_fol (p:UInt8→Bool) (a r:List UInt8) (ha:∀ c ∈ a,p c=true) (hr:∀ c ∈ r.head?,p c=false):(a++r).takeWhile p=a∧(a++r).dropWhile p=r:=by
 induction a with
 | nil =>
  cases r with
  | nil=>simp
  | cons c r=>have:=hr c (by simp);simp [this]
 | cons c a ih =>
  have:=ha c (by simp)
  have h2:=ih (fun x hx=>ha x (by simp [hx]))
  simp [this,h2.1,h2.2]
theorem digit_ofNat (k:Nat) (h:k < 10):Lx.digit (UInt8.ofNat (48+k))=true:=by
 have:k=0 ∨ k=1 ∨ k=2 ∨ k=3 ∨ k=4 ∨ k=5 ∨ k=6 ∨ k=7 ∨ k=8 ∨ k=9:=by omega
 rcases this with rfl | rfl | rfl | rfl | rfl | rfl | rfl | rfl | rfl | rfl <;> rfl
theorem decDigits_ind {P:Nat→List UInt8→Prop} (h1:∀ u,u < 10→P u [UInt8.ofNat (48+u)]) (h2:∀ u,¬ u < 10→P (u / 10) (Lib.decDigits (u / 10))→P u (Lib.decDigits (u / 10)++[UInt8.ofNat (48+u % 10)])):∀ n u,u < n→P u (Lib.decDigits u):=by
 intro n
 induction n with
 | zero=>intro u h;omega
 | succ n ih =>
  intro u h
  by_cases h10:u < 10
  ·rw [Lib.decDigits,dif_pos h10];exact h1 u h10
  ·rw [Lib.decDigits,dif_neg h10];exact h2 u h10 (ih (u / 10) (by omega))
theorem decDigits_digit (u:Nat):Lib.decDigits u ≠ []∧∀ c ∈ Lib.decDigits u,Lx.digit c=true:=by
 refine decDigits_ind (P:=fun _ l=>l ≠ []∧∀ c ∈ l,Lx.digit c=true) ?_ ?_ (u+1) u (by omega)
 ·intro u h
  refine ⟨by simp,fun c hc=>?_⟩
  rw [List.mem_singleton.1 hc];exact digit_ofNat u h
 ·rintro u h ⟨h1,h2⟩
  refine ⟨by simp,fun c hc=>?_⟩
  rcases List.mem_append.1 hc with hc | hc
  ·exact h2 c hc
  ·rw [List.mem_singleton.1 hc];exact digit_ofNat _ (by omega)
def valOf (l:List UInt8):Nat:=l.foldl (fun a c=>a * 10+(c.toNat - 48)) 0
theorem valOf_dec (u:Nat):valOf (Lib.decDigits u)=u:=by
 have hd:∀ k,k < 10→(UInt8.ofNat (48+k)).toNat - 48=k:=by
  intro k h
  have:k=0 ∨ k=1 ∨ k=2 ∨ k=3 ∨ k=4 ∨ k=5 ∨ k=6 ∨ k=7 ∨ k=8 ∨ k=9:=by omega
  rcases this with rfl | rfl | rfl | rfl | rfl | rfl | rfl | rfl | rfl | rfl <;> rfl
 refine decDigits_ind (P:=fun u l=>valOf l=u) ?_ ?_ (u+1) u (by omega)
 ·intro u h
  simp only [valOf,List.foldl_cons,List.foldl_nil,hd u h];omega
 ·intro u h ih
  unfold valOf at ih ⊢
  rw [List.foldl_append,ih]
  simp only [List.foldl_cons,List.foldl_nil,hd (u % 10) (by omega)];omega
theorem digit_not45 {c:UInt8} (h:Lx.digit c=true):c ≠ 45∧c ≠ 40∧c ≠ 33:=by
 refine ⟨?_,?_,?_⟩ <;> rintro rfl <;> cases h
theorem itoa_digit (n:Int) (h:0≤n):Lib.itoa n ≠ []∧∀ c ∈ Lib.itoa n,Lx.digit c=true:=by
 unfold Lib.itoa
 rw [if_neg (by omega)]
 exact decDigits_digit _
end Px
end Go.Proofs.YtaekbgljbgmchaaGreatDoor
namespace Go.Proofs.YtaekbgljbgmchaaGreatDoor
open Go.RowKit
namespace Lx
structure T where
 kind:Int
 text:List UInt8
 n:Int
 err:Int
def badT (e:Int):T:=⟨0,[],0,e⟩
def nameT (x:List UInt8):T:=if words.contains x then ⟨3,x,0,0⟩ else if 32 < x.length then badT 12 else ⟨1,x,0,0⟩
def numT (x:List UInt8):T:=if 1 < x.length∧x.head?=some 48 then badT 11 else if decVal x≤9223372036854775807 then ⟨2,x,(decVal x:Nat),0⟩ else badT 11
def second:List UInt8→Int
 | _ :: d :: _=>(d.toNat:Int)
 | _=>0
def signT (l:List UInt8):T:=match l with
 | []=>badT 10
 | c :: _=>if signLen (c.toNat:Int) (second l)=0 then badT 10 else ⟨4,l.take (signLen (c.toNat:Int) (second l)),0,0⟩
def tokL (l:List UInt8):T:=match l with
 | []=>badT 10
 | c :: _=>if letter c then nameT (l.takeWhile nameByte) else if digit c then numT (l.takeWhile digit) else signT l
def ofOut (o:Out):T:=⟨o.kind,o.text.data.toList,o.n,o.err⟩
theorem tokL_out (s:ByteArray) (a:Nat) (ha:a < s.size):tokL (s.data.toList.drop a)=ofOut (tokOut s a):=by
 have hdc:=drop_cons s a ha
 cases hl:letter s[a]
 ·cases hd:digit s[a]
  ·rw [tokOut_sign s a ha hl hd]
   have hsec:second (s.data.toList.drop a)=byteAt s (a+1):=by
    rw [hdc]
    by_cases h1:a+1 < s.size
    ·rw [drop_cons s (a+1) h1,byteAt_lt s (a+1) h1];rfl
    ·rw [drop_over s (a+1) (by omega),byteAt_over s (a+1) h1];rfl
   have hb:=byteAt_lt s a ha
   have e:tokL (s.data.toList.drop a)=signT (s.data.toList.drop a):=by rw [hdc];simp [tokL,hl,hd]
   rw [e]
   have e2:signT (s.data.toList.drop a)=if signLen (byteAt s a) (byteAt s (a+1))=0 then badT 10 else ⟨4,(s.data.toList.drop a).take (signLen (byteAt s a) (byteAt s (a+1))),0,0⟩:=by
    rw [← hsec,hb];rw [hdc];rfl
   rw [e2]
   unfold signOut
   by_cases h0:signLen (byteAt s a) (byteAt s (a+1))=0
   ·rw [if_pos h0,if_pos h0];rfl
   ·rw [if_neg h0,if_neg h0]
    simp only [ofOut,extract_list,Nat.add_sub_cancel_left]
  ·rw [tokOut_digit s a ha hl hd]
   have e:tokL (s.data.toList.drop a)=numT ((s.data.toList.drop a).takeWhile digit):=by rw [hdc];simp [tokL,hl,hd]
   rw [e,← extract_span]
   have hh:(s.extract a (spanEnd digit s a)).data.toList.head?=some s[a]:=by rw [extract_span,hdc];simp [hd]
   have hsz:(s.extract a (spanEnd digit s a)).data.toList.length=(s.extract a (spanEnd digit s a)).size:=by rw [Array.length_toList];rfl
   have hb:=byteAt_lt s a ha
   unfold numT numOut
   rw [hh,hsz,hb]
   have e48:(some s[a]=some (48:UInt8)) ↔ ((s[a].toNat:Int)=48):=by
    constructor
    ·intro h;rw [Option.some.inj h];decide
    ·intro h;rw [show s[a]=48 from u8_eq _ 48 h]
   simp only [e48]
   split
   ·rfl
   ·split <;> rfl
 ·rw [tokOut_letter s a ha hl]
  have e:tokL (s.data.toList.drop a)=nameT ((s.data.toList.drop a).takeWhile nameByte):=by rw [hdc];simp [tokL,hl]
  rw [e,← extract_span]
  have hsz:(s.extract a (spanEnd nameByte s a)).data.toList.length=(s.extract a (spanEnd nameByte s a)).size:=by rw [Array.length_toList];rfl
  unfold nameT nameOut word
  rw [hsz,ByteArray.toList_eq]
  split
  ·rfl
  ·split <;> rfl
inductive RL where
 | done (l:List T)
 | fail (e:Int) (k:Nat)
def consR (t:T) (m:Nat):RL→RL
 | .done l=>.done (t :: l)
 | .fail e k=>.fail e (k+t.text.length+m)
inductive Scans:List UInt8→RL→Prop
 | nil (l:List UInt8) (h:l.drop (skipC false l)=[]):Scans l (.done [])
 | bad (l:List UInt8) (c:UInt8) (r:List UInt8) (h:l.drop (skipC false l)=c :: r) (he:(tokL (c :: r)).err ≠ 0):Scans l (.fail (tokL (c :: r)).err (skipC false l))
 | tok (l:List UInt8) (c:UInt8) (r:List UInt8) (R:RL) (h:l.drop (skipC false l)=c :: r) (he:(tokL (c :: r)).err=0) (hR:Scans ((c :: r).drop (tokL (c :: r)).text.length) R):Scans l (consR (tokL (c :: r)) (skipC false l) R)
theorem Scans.det {l:List UInt8} {R R':RL} (h:Scans l R) (h':Scans l R'):R=R':=by
 induction h generalizing R' with
 | nil l h =>
  cases h' with
  | nil=>rfl
  | bad _ c r h2=>rw [h] at h2;cases h2
  | tok _ c r R h2=>rw [h] at h2;cases h2
 | bad l c r h he =>
  cases h' with
  | nil _ h2=>rw [h] at h2;cases h2
  | bad _ c' r' h2=>rw [h] at h2;cases h2;rfl
  | tok _ c' r' R h2 he2=>rw [h] at h2;cases h2;exact absurd he2 he
 | tok l c r R h he hR ih =>
  cases h' with
  | nil _ h2=>rw [h] at h2;cases h2
  | bad _ c' r' h2 he2=>rw [h] at h2;cases h2;exact absurd he he2
  | tok _ c' r' R2 h2 he2 hR2=>rw [h] at h2;cases h2;rw [ih hR2]
def Fits (acc:List Out) (k:Nat):ScanR→RL→Prop
 | .done l,.done ts=>∃ o,l=acc++o∧o.map ofOut=ts
 | .fail e j,.fail e' k'=>e=e'∧j=k+k'
 | _,_=>False
theorem scan_fits (s:ByteArray):∀ (f k:Nat) (acc:List Out),k≤s.size→s.size≤skip s k+f→∃ R,Scans (s.data.toList.drop k) R∧Fits acc k (scanF s f (skip s k) acc) R:=by
 intro f
 have hdd:∀ k,(s.data.toList.drop k).drop (skipC false (s.data.toList.drop k))=s.data.toList.drop (skip s k):=by intro k;rw [List.drop_drop];rfl
 induction f with
 | zero =>
  intro k acc hk hf
  refine ⟨.done [],.nil _ ?_,[],by simp,rfl⟩
  rw [hdd,drop_over s _ (by omega)]
 | succ f ih =>
  intro k acc hk hf
  by_cases hlt:skip s k < s.size
  ·have hcons:(s.data.toList.drop k).drop (skipC false (s.data.toList.drop k))=s[skip s k] :: s.data.toList.drop (skip s k+1):=by rw [hdd,drop_cons s _ hlt]
   have htok:tokL (s[skip s k] :: s.data.toList.drop (skip s k+1))=ofOut (tokOut s (skip s k)):=by rw [← drop_cons s _ hlt];exact tokL_out s _ hlt
   by_cases he:(tokOut s (skip s k)).err=0
   ·have hto:=tok_ok s _ hlt he
    have hlen:(tokOut s (skip s k)).text.data.toList.length=(tokOut s (skip s k)).text.size:=by rw [Array.length_toList];rfl
    obtain ⟨R,hS,hF⟩:=ih (skip s k+(tokOut s (skip s k)).text.size) (acc++[tokOut s (skip s k)]) hto.2 (by have:=le_skip s (skip s k+(tokOut s (skip s k)).text.size);omega)
    have hS2:Scans ((s[skip s k] :: s.data.toList.drop (skip s k+1)).drop (tokL (s[skip s k] :: s.data.toList.drop (skip s k+1))).text.length) R:=by
     rw [htok,← drop_cons s _ hlt,List.drop_drop]
     show Scans (s.data.toList.drop (skip s k+(tokOut s (skip s k)).text.data.toList.length)) R
     rw [hlen];exact hS
    refine ⟨_,.tok _ _ _ R hcons (by rw [htok];exact he) hS2,?_⟩
    rw [scanF,if_pos hlt,if_pos he]
    cases hR:R with
    | done ts =>
     rw [hR] at hF
     cases hsc:scanF s f (skip s (skip s k+(tokOut s (skip s k)).text.size)) (acc++[tokOut s (skip s k)]) with
     | done l =>
      rw [hsc] at hF
      obtain ⟨o,h1,h2⟩:=hF
      exact ⟨tokOut s (skip s k) :: o,by rw [h1];simp,by rw [List.map_cons,h2,htok]⟩
     | fail e j=>rw [hsc] at hF;exact hF.elim
    | fail e' k' =>
     rw [hR] at hF
     cases hsc:scanF s f (skip s (skip s k+(tokOut s (skip s k)).text.size)) (acc++[tokOut s (skip s k)]) with
     | done l=>rw [hsc] at hF;exact hF.elim
     | fail e j =>
      rw [hsc] at hF
      obtain ⟨h1,h2⟩:=hF
      refine ⟨h1,?_⟩
      rw [htok]
      show j=k+(k'+(tokOut s (skip s k)).text.data.toList.length+skipC false (s.data.toList.drop k))
      rw [hlen,h2]
      unfold skip;omega
   ·refine ⟨_,.bad _ _ _ hcons (by rw [htok];exact he),?_⟩
    rw [scanF,if_pos hlt,if_neg he]
    exact ⟨by rw [htok];rfl,rfl⟩
  ·refine ⟨.done [],.nil _ (by rw [hdd,drop_over s _ (by omega)]),?_⟩
   rw [scanF,if_neg hlt]
   exact ⟨[],by simp,rfl⟩
theorem scan_told (s:ByteArray):∃ R,Scans s.data.toList R∧Fits [] 0 (scan s) R:=by
 have:=scan_fits s s.size 0 [] (by omega) (by omega)
 simpa [scan] using this
theorem scan_of (s:ByteArray) (R:RL) (h:Scans s.data.toList R):Fits [] 0 (scan s) R:=by
 obtain ⟨R',h1,h2⟩:=scan_told s
 rw [h.det h1];exact h2
end Lx
end Go.Proofs.YtaekbgljbgmchaaGreatDoor
namespace Go.Proofs.YtaekbgljbgmchaaGreatDoor
open Go.RowKit
namespace Lx
def Brk (h:UInt8):Prop:=nameByte h=false∧digit h=false∧∀ c:Int,signLen c (h.toNat:Int)=signLen c 0
theorem brk32:Brk 32:=⟨by decide,by decide,fun c=>by simp only [show ((32:UInt8).toNat:Int)=32 from rfl];unfold signLen;(repeat' split) <;> simp_all <;> omega⟩
theorem brk10:Brk 10:=⟨by decide,by decide,fun c=>by simp only [show ((10:UInt8).toNat:Int)=10 from rfl];unfold signLen;(repeat' split) <;> simp_all <;> omega⟩
theorem skip_zero (c:UInt8) (l:List UInt8) (h:blank c=false) (h35:c ≠ 35):skipC false (c :: l)=0:=by simp [skipC,h,h35]
theorem blank_step {l:List UInt8} {R:RL} (h:Scans l R):∀ ts,R=.done ts→Scans (32 :: l) (.done ts):=by
 have hs:∀ l,skipC false (32 :: l)=skipC false l+1:=fun l=>by simp [skipC,blank]
 cases h with
 | nil _ h=>intro ts e;cases e;exact .nil _ (by rw [hs];simpa using h)
 | bad _ c r h he=>intro ts e;cases e
 | tok _ c r R h he hR =>
  intro ts e
  cases hRR:R with
  | fail e' k=>rw [hRR] at e;cases e
  | done us =>
   rw [hRR] at e hR
   have:=Scans.tok (32 :: l) c r (.done us) (by rw [hs];simpa using h) he hR
   rw [← e];exact this
end Lx
end Go.Proofs.YtaekbgljbgmchaaGreatDoor
namespace Go.Proofs.YtaekbgljbgmchaaGreatDoor
open Go.RowKit
namespace Lx
end Lx
end Go.Proofs.YtaekbgljbgmchaaGreatDoor
namespace Go.Proofs.YtaekbgljbgmchaaGreatDoor
open Go.RowKit
namespace Lx
theorem scan_list (s:ByteArray) (ts:List T) (h:Scans s.data.toList (.done ts)):∃ l,scan s=.done l∧l.map ofOut=ts:=by
 have hf:=scan_of s _ h
 generalize hS:scan s=R at hf
 cases R with
 | fail e k=>exact hf.elim
 | done l =>
  obtain ⟨o,h5,h6⟩:=hf
  rw [List.nil_append] at h5
  exact ⟨l,rfl,by rw [h5,h6]⟩
theorem tok_step (c:UInt8) (r:List UInt8) (t:T) (ts:List T) (hb:blank c=false) (h35:c ≠ 35) (ht:tokL (c :: r)=t) (he:t.err=0) (hR:Scans ((c :: r).drop t.text.length) (.done ts)):Scans (c :: r) (.done (t :: ts)):=by
 have h0:=skip_zero c r hb h35
 have:=Scans.tok (c :: r) c r (.done ts) (by rw [h0];rfl) (by rw [ht];exact he) (by rw [ht];exact hR)
 rw [ht] at this
 exact this
end Lx
end Go.Proofs.YtaekbgljbgmchaaGreatDoor
namespace Go.Proofs.YtaekbgljbgmchaaGreatDoor
open Go.RowKit
open Lx (Out)
open Pz
namespace Pz
structure Cl (Q:S→S→Prop):Prop where
 refl:∀ s,Q s s
 trans:∀ {a b c},Q a b→Q b c→Q a c
 fail:∀ s e a,Q s (s.fail e a)
 pass:∀ s,Q s s.pass
 more:∀ s,Q s s.more
 less:∀ s,Q s s.less
namespace Cl
variable {Q:S→S→Prop} (C:Cl Q)
include C
theorem refuse (s:S) (e:Int):Q s (s.refuse e):=C.fail _ _ _
theorem want (s:S) (x:ByteArray):Q s (s.want x):=by
 unfold S.want;split
 ·exact C.pass s
 ·exact C.trans (C.refuse s 40) (C.pass _)
theorem take (s:S) (k:Int):Q s (s.take k).2:=by
 unfold S.take;split
 ·exact C.pass s
 ·exact C.refuse s 40
theorem path (s:S):Q s (path s).2:=C.trans (C.trans (C.take s 1) (C.want _ _)) (C.take _ 1)
theorem enter (s:S) (x:ByteArray):Q s (s.enter x):=by
 unfold S.enter
 refine C.trans (C.trans ?_ (C.want _ _)) (C.more _)
 split
 ·exact C.refuse s 41
 ·exact C.refl s
theorem within {α:Type} (sign:ByteArray) (rd:S→α × S) (h:∀ s,Q s (rd s).2) (s:S):Q s (within sign rd s).2:=C.trans (C.trans (C.enter s sign) (h _)) (C.less _)
theorem enclosed {α:Type} (a c:ByteArray) (rd:S→α × S) (h:∀ s,Q s (rd s).2) (s:S):Q s (enclosed a rd c s).2:=C.trans (C.within a rd h s) (C.want _ _)
theorem full (s:S) (b:Bool):Q s (s.full b):=by
 unfold S.full
 refine C.trans ?_ (C.pass _)
 cases b
 ·exact C.refl s
 ·exact C.refuse s 6
theorem oneMore {α:Type} (l:List α) (most:Nat) (rd:S→α × S) (h:∀ s,Q s (rd s).2) (s:S):Q s (oneMore l most rd s).2:=C.trans (C.full s _) (h _)
theorem several {α:Type} (word:ByteArray) (most:Nat) (rd:S→α × S) (h:∀ s,Q s (rd s).2):∀ (f:Nat) (l:List α) (s:S),Q s (several word most rd f l s).2:=by
 intro f
 induction f with
 | zero=>intro l s;exact C.refl _
 | succ f ih =>
  intro l s
  rw [Pz.several]
  split
  ·exact C.trans (C.oneMore l most rd h s) (ih _ _)
  ·exact C.refl _
theorem expr (f:Nat):(∀ l s,Q s (exprAt f l s).2)∧(∀ l x own s,Q s (loop f l x own s).2)∧(∀ s,Q s (term f s).2):=by
 induction f with
 | zero=>exact ⟨fun l s=>by rw [exprAt];exact C.refl _,fun l x own s=>by rw [loop];exact C.refl _,fun s=>by rw [term];exact C.refl _⟩
 | succ f ih =>
  obtain ⟨h1,h2,h3⟩:=ih
  refine ⟨fun l s=>?_,fun l x own s=>?_,fun s=>?_⟩
  ·rw [exprAt]
   split
   ·exact C.trans (C.within _ _ (h1 _) s) (h2 _ _ _ _)
   ·exact C.trans (h3 s) (h2 _ _ _ _)
  ·rw [loop]
   split
   ·exact C.refl _
   ·exact C.trans (C.trans (C.pass s) (h1 _ _)) (h2 _ _ _ _)
  ·rw [term]
   split
   ·split
    ·exact C.trans (C.pass s) (C.within _ _ h3 _)
    ·exact C.pass s
   ·split
    ·exact C.path s
    ·split
     ·exact C.within _ _ h3 s
     ·split
      ·exact C.enclosed _ _ _ (h1 _) s
      ·split
       ·exact C.pass s
       ·exact C.want _ _
theorem stmt (rx:S→Ex × S) (rb:S→Bl × S) (hx:∀ s,Q s (rx s).2) (hb:∀ s,Q s (rb s).2) (k:Nat) (s:S):Q s (stmt rx rb k s).2:=by
 unfold Pz.stmt
 split
 ·exact C.trans (C.want _ _) (C.want _ _)
 ·exact C.trans (C.trans (C.trans (C.path s) (C.want _ _)) (hx _)) (C.want _ _)
 ·unfold stIf
  simp only
  split
  ·exact C.trans (C.trans (C.trans (C.trans (C.want _ _) (hx _)) (hb _)) (C.pass _)) (hb _)
  ·exact C.trans (C.trans (C.want _ _) (hx _)) (hb _)
 ·exact C.trans (C.trans (C.want _ _) (hx _)) (hb _)
 ·exact C.trans (C.want _ _) (hb _)
 ·exact C.trans (C.oneMore [] 8 rb hb s) (C.several _ _ _ hb _ _ _)
 ·exact C.trans (C.trans (C.want _ _) (C.take _ _)) (hb _)
 ·exact C.trans (C.trans (C.want _ _) (C.path _)) (C.want _ _)
 ·unfold stWait
  simp only
  split
  ·refine C.trans (C.trans (C.trans (C.want s k_wait) (C.take _ 1)) (C.take _ 2)) (C.trans ?_ (C.want _ _))
   split
   ·exact C.fail _ _ _
   ·exact C.refl _
  ·exact C.trans (C.trans (C.want _ _) (C.take _ _)) (C.want _ _)
 ·exact C.trans (C.trans (C.want _ _) (C.take _ _)) (C.want _ _)
 ·exact C.trans (C.trans (C.want _ _) (C.take _ _)) (C.want _ _)
theorem block (rd:S→Bl × S) (h:∀ s,Q s (rd s).2) (s:S):Q s (block rd s).2:=C.enclosed _ _ rd h s
theorem stmts (f:Nat):∀ (l:List St) (s:S),Q s (stmtsF f l s).2:=by
 induction f with
 | zero=>intro l s;exact C.refl _
 | succ f ih =>
  intro l s
  rw [stmtsF]
  split
  ·exact C.refl _
  ·exact C.trans (C.stmt _ _ (fun s=>(C.expr f).1 1 s) (fun s=>C.block _ (fun s=>ih [] s) s) _ s) (ih _ _)
theorem blockF (f:Nat) (s:S):Q s (blockF f s).2:=C.block _ (fun s=>C.stmts f [] s) s
theorem integer (s:S):Q s (integer s).2:=by
 unfold Pz.integer;split
 ·exact C.trans (C.pass s) (C.take _ _)
 ·exact C.take _ _
theorem truth (s:S):Q s (truth s).2:=by
 unfold Pz.truth;split
 ·exact C.pass s
 ·exact C.want _ _
theorem bounds (s:S):Q s (bounds s).2:=by
 have h:Q s (Pz.integer ((Pz.integer s).2.want s_dots)).2:=C.trans (C.trans (C.integer s) (C.want _ _)) (C.integer _)
 unfold Pz.bounds
 simp only
 split
 ·exact C.trans h (C.fail _ _ _)
 ·exact h
theorem typed (s:S):Q s (typed s).2:=by
 unfold Pz.typed;split
 ·exact C.trans (C.trans (C.pass s) (C.want _ _)) (C.truth _)
 ·split
  ·exact C.trans (C.trans (C.pass s) (C.want _ _)) (C.integer _)
  ·exact C.trans (C.trans (C.bounds s) (C.want _ _)) (C.integer _)
theorem vari (s:S):Q s (vari s).2:=C.trans (C.trans (C.trans (C.take s 1) (C.want _ _)) (C.typed _)) (C.want _ _)
theorem method (f:Nat) (s:S):Q s (method f s).2:=C.trans (C.take s 1) (C.blockF f _)
theorem members (f:Nat) (s:S):Q s (members f s).2:=C.trans (C.several _ _ _ C.vari _ _ _) (C.several _ _ _ (C.method f) _ _ _)
theorem monitor (f:Nat) (s:S):Q s (monitor f s).2:=C.trans (C.take s 1) (C.enclosed _ _ _ (C.members f) _)
theorem role (f:Nat) (s:S):Q s (role f s).2:=by
 unfold Pz.role
 simp only
 split
 ·exact C.trans (C.trans (C.take s 1) (C.pass _)) (C.blockF f _)
 ·exact C.trans (C.trans (C.take s 1) (C.take _ _)) (C.blockF f _)
theorem progF (g:Nat):∀ (f:Nat) (m:List Mo) (r:List Ro) (s:S),Q s (progF g f m r s).2:=by
 intro f
 induction f with
 | zero=>intro m r s;exact C.refl _
 | succ f ih =>
  intro m r s
  rw [Pz.progF]
  split
  ·exact C.trans (C.oneMore m 8 _ (C.monitor g) s) (ih _ _ _)
  ·split
   ·exact C.trans (C.oneMore r 8 _ (C.role g) s) (ih _ _ _)
   ·exact C.refl _
end Cl
def Ek (s s':S):Prop:=s.err ≠ 0→s'.err=s.err∧s'.pos=s.pos
theorem ek:Cl Ek where
 refl _ _:=⟨rfl,rfl⟩
 trans h k h0:=by obtain ⟨a,b⟩:=h h0;obtain ⟨c,d⟩:=k (by rw [a];exact h0);exact ⟨c.trans a,d.trans b⟩
 fail s e a h:=by unfold S.fail;rw [if_neg h];exact ⟨rfl,rfl⟩
 pass s h:=by unfold S.pass;split <;> exact ⟨rfl,rfl⟩
 more _ _:=⟨rfl,rfl⟩
 less _ _:=⟨rfl,rfl⟩
theorem ek_atEnd (s:S):Ek s (atEnd s):=by
 unfold atEnd;split
 ·exact ek.refl s
 ·exact ek.refuse s 40
end Pz
end Go.Proofs.YtaekbgljbgmchaaGreatDoor
namespace Go.Proofs.YtaekbgljbgmchaaGreatDoor
open Go.RowKit
open Lx (Out)
open Pz
namespace Pz
theorem is_of {o:Out} {y:ByteArray} (h:o.text=y) (x:ByteArray):is o x=(y.data.toList == x.data.toList):=by unfold is;rw [h,ByteArray.toList_eq,ByteArray.toList_eq]
def Tok (o:Out) (k:Int) (y:ByteArray):Prop:=o.kind=k∧o.text=y
theorem enter_fine (o:Out) (l:List Out) (opn:Int) (x:ByteArray) (hx:is o x=true) (hk:o.kind ≠ 5) (ho:opn ≠ 64):(S.mk (o :: l) opn 0 0).enter x=⟨l,opn+1,0,0⟩:=by
 have hb:(opn == 64)=false:=by simpa using ho
 have hp:(S.mk (o :: l) opn 0 0).pass=⟨l,opn,0,0⟩:=by unfold S.pass;rw [if_neg (by exact hk)];rfl
 have hs:(S.mk (o :: l) opn 0 0).sees x=true:=hx
 unfold S.enter S.want
 simp only [hb,Bool.and_false,Bool.false_eq_true,if_false]
 rw [hs,if_pos rfl,hp]
 rfl
theorem want_fine (o:Out) (l:List Out) (opn:Int) (x:ByteArray) (hx:is o x=true) (hk:o.kind ≠ 5):(S.mk (o :: l) opn 0 0).want x=⟨l,opn,0,0⟩:=by
 have hs:(S.mk (o :: l) opn 0 0).sees x=true:=hx
 unfold S.want
 rw [hs,if_pos rfl]
 unfold S.pass
 rw [if_neg (by exact hk)];rfl
theorem take_fine (o:Out) (l:List Out) (opn k:Int) (hk:o.kind=k) (h5:o.kind ≠ 5):(S.mk (o :: l) opn 0 0).take k=(o,⟨l,opn,0,0⟩):=by
 unfold S.take
 rw [if_pos (by exact hk)]
 unfold S.pass
 rw [if_neg (by exact h5)];rfl
theorem pass_fine (o:Out) (l:List Out) (opn:Int) (h5:o.kind ≠ 5):(S.mk (o :: l) opn 0 0).pass=⟨l,opn,0,0⟩:=by
 unfold S.pass
 rw [if_neg (by exact h5)];rfl
def Stops (r:List Out):Prop:=(operOf (r.headD noTok)).op=0
theorem not_lt (l:Nat) (s:S) (h:s.sees s_bang=false) (f:Nat):exprAt (f+1) l s=loop f l (term f s).1 6 (term f s).2:=by
 rw [exprAt,h,Bool.and_false,if_neg (by simp)]
theorem stops_rpar {c:Out} {r:List Out} (hc:Tok c 4 s_rpar):Stops (c :: r):=by
 unfold Stops operOf
 simp only [List.headD_cons,is_of hc.2]
 decide
theorem name_not {a:Out} {l:List Out} {opn:Int} {x:ByteArray} (h:is a x=false):(S.mk (a :: l) opn 0 0).sees x=false:=h
theorem bang_expr (f lv:Nat) (hlv:lv≤3) (o:Out) (l:List Out) (opn:Int) (ho:Tok o 4 s_bang):exprAt (f+1) lv ⟨o :: l,opn,0,0⟩=loop f lv (prefixed 5 0 s_bang (exprAt f 3) o.pos ⟨o :: l,opn,0,0⟩).1 3 (prefixed 5 0 s_bang (exprAt f 3) o.pos ⟨o :: l,opn,0,0⟩).2:=by
 rw [exprAt,show (S.mk (o :: l) opn 0 0).sees s_bang=true from by show is o s_bang=true;rw [is_of ho.2];decide,show decide (lv≤3)=true from by simpa using hlv,Bool.and_self,if_pos rfl]
 rfl
theorem minus_term (f:Nat) (o:Out) (l:List Out) (opn:Int) (ho:Tok o 4 s_minus):term (f+1) ⟨o :: l,opn,0,0⟩=prefixed 6 0 s_minus (term f) o.pos ⟨o :: l,opn,0,0⟩:=by
 rw [term,if_neg (by show ¬ o.kind=2;rw [ho.1];decide),if_neg (by show ¬ o.kind=1;rw [ho.1];decide),show (S.mk (o :: l) opn 0 0).sees s_minus=true from by show is o s_minus=true;rw [is_of ho.2];decide,if_pos rfl]
 rfl
theorem mul_term (f:Nat) (k o:Out) (l:List Out) (opn:Int) (hk:k.kind=2) (ho:Tok o 4 s_star):term (f+1) ⟨k :: o :: l,opn,0,0⟩=prefixed 7 k.n s_star (term f) k.pos ⟨o :: l,opn,0,0⟩:=by
 rw [term,if_pos (by exact hk),pass_fine _ _ _ (by rw [hk];decide),show (S.mk (o :: l) opn 0 0).sees s_star=true from by show is o s_star=true;rw [is_of ho.2];decide,if_pos rfl]
 rfl
theorem prog_end (g f:Nat) (m:List Mo) (r:List Ro) (z:Out) (hz:z.text=e0):progF g f m r ⟨[z],0,0,0⟩=(pr m r,⟨[z],0,0,0⟩):=by
 cases f with
 | zero=>rfl
 | succ f=>rw [progF,show (S.mk [z] 0 0 0).sees k_monitor=false from by show is z k_monitor=false;rw [is_of hz];decide,if_neg (by simp),show (S.mk [z] 0 0 0).sees k_thread=false from by show is z k_thread=false;rw [is_of hz];decide,if_neg (by simp)]
end Pz
end Go.Proofs.YtaekbgljbgmchaaGreatDoor
namespace Go.Proofs.YtaekbgljbgmchaaGreatDoor
open Go.RowKit
open Lx (Out)
open Pz
open Px
open Lx (Scans tok_step blank_step Brk)
namespace Pz
def numTk (n:Int):Lx.T:=⟨2,Lib.itoa n,n,0⟩
def nameTk (s:ByteArray):Lx.T:=⟨1,s.data.toList,0,0⟩
def signTk (l:List UInt8):Lx.T:=⟨4,l,0,0⟩
def wordTk (l:List UInt8):Lx.T:=⟨3,l,0,0⟩
def opTk (op:Int):Lx.T:=signTk ((sgnOf op).1.data.toList.filter (fun c=>c != 32))
def atT (l:Nat) (op:Int) (s:List Lx.T):List Lx.T:=if own op < l then signTk [40] :: (s++[signTk [41]]) else s
def kidT (ks:List (Int × List Lx.T)) (i l:Nat):List Lx.T:=atT l (ks.getD i (0,[])).1 (ks.getD i (0,[])).2
def bareTOf (op:Int) (mon name:ByteArray) (n:Int) (ks:List (Int × List Lx.T)):List Lx.T:=
 if op=1 then [numTk n]
 else if op=2 then [wordTk [116,114,117,101]]
 else if op=3 then [wordTk [102,97,108,115,101]]
 else if op=4 then [nameTk mon,signTk [46],nameTk name]
 else if op=5 ∨ op=6 then opTk op :: kidT ks 0 (sgnOf op).2.2.2
 else if op=7 then numTk n :: opTk op :: kidT ks 0 (sgnOf op).2.2.2
 else kidT ks 0 (sgnOf op).2.2.1++opTk op :: kidT ks 1 (sgnOf op).2.2.2
end Pz
open Pz
mutual
def Ex.bareT:Ex→List Lx.T
 | .mk op mon name n _ _ kids _=>bareTOf op mon name n (Ex.bareTL kids)
def Ex.bareTL:List Ex→List (Int × List Lx.T)
 | []=>[]
 | e :: es=>(e.opOf,e.bareT) :: Ex.bareTL es
end
theorem Ex.bareTL_eq (l:List Ex):Ex.bareTL l=l.map fun e=>(e.opOf,e.bareT):=by
 induction l with
 | nil=>simp [Ex.bareTL]
 | cons a l ih=>simp [Ex.bareTL,ih]
theorem Ex.bareT_mk (op:Int) (mon name:ByteArray) (n:Int) (ad:Option Addr) (cap:Nat) (kids:List Ex) (pos:Int):(Ex.mk op mon name n ad cap kids pos).bareT=bareTOf op mon name n (kids.map fun e=>(e.opOf,e.bareT)):=by rw [Ex.bareT,Ex.bareTL_eq]
def Ex.toks (e:Ex) (l:Nat):List Lx.T:=atT l e.opOf e.bareT
theorem kidT_at (kids:List Ex) (i l:Nat) (h:i < kids.length):kidT (kids.map fun e=>(e.opOf,e.bareT)) i l=kids[i].toks l:=by
 simp [kidT,Ex.toks,List.getD,h]
namespace Pz
inductive Shp:Ex→Prop
 | num (mon name:ByteArray) (n:Int) (ad:Option Addr) (cap:Nat) (pos:Int) (hm:mon.size=0) (hn:name.size=0) (h0:0≤n) (h1:n≤9223372036854775807):Shp (.mk 1 mon name n ad cap [] pos)
 | tru (mon name:ByteArray) (ad:Option Addr) (cap:Nat) (pos:Int) (hm:mon.size=0) (hn:name.size=0):Shp (.mk 2 mon name 0 ad cap [] pos)
 | fls (mon name:ByteArray) (ad:Option Addr) (cap:Nat) (pos:Int) (hm:mon.size=0) (hn:name.size=0):Shp (.mk 3 mon name 0 ad cap [] pos)
 | var (mon name:ByteArray) (ad:Option Addr) (cap:Nat) (pos:Int) (hm:Lx.name mon=true) (hn:Lx.name name=true):Shp (.mk 4 mon name 0 ad cap [] pos)
 | not (mon name:ByteArray) (ad:Option Addr) (cap:Nat) (k:Ex) (pos:Int) (hm:mon.size=0) (hn:name.size=0) (hk:Shp k):Shp (.mk 5 mon name 0 ad cap [k] pos)
 | neg (mon name:ByteArray) (ad:Option Addr) (cap:Nat) (k:Ex) (pos:Int) (hm:mon.size=0) (hn:name.size=0) (hk:Shp k):Shp (.mk 6 mon name 0 ad cap [k] pos)
 | mul (mon name:ByteArray) (n:Int) (ad:Option Addr) (cap:Nat) (k:Ex) (pos:Int) (hm:mon.size=0) (hn:name.size=0) (h0:0≤n) (h1:n≤9223372036854775807) (hk:Shp k):Shp (.mk 7 mon name n ad cap [k] pos)
 | bin (op:Int) (h8:8≤op) (h17:op≤17) (mon name:ByteArray) (ad:Option Addr) (cap:Nat) (a b:Ex) (pos:Int) (hm:mon.size=0) (hn:name.size=0) (ha:Shp a) (hb:Shp b):Shp (.mk op mon name 0 ad cap [a,b] pos)
theorem shp_of {n₀:Nat} {W:World} (e:Ex):e.Is n₀ W→e.ok=true→Shp e:=by
 induction e using Ex.ind with
 | h op mon name n ad cap kids pos ih =>
  intro hI hok
  obtain ⟨h1,h2⟩:=Ex.ok_mk hok
  have hD:=hI.down
  have hkids:∀ x ∈ kids,Shp x:=fun x hx=>ih x hx (hD.2.2 x hx) (h2 x hx)
  have hn64:=hD.1.2.1.2
  simp only [Ex.ok1,Bool.and_eq_true,decide_eq_true_eq,beq_iff_eq] at h1
  obtain ⟨⟨ho1,ho17⟩,⟨⟨hm,hn⟩,hnum⟩,hk⟩:=h1
  have hc:op=1 ∨ op=2 ∨ op=3 ∨ op=4 ∨ op=5 ∨ op=6 ∨ op=7 ∨ (8≤op∧op≤17):=by omega
  rcases hc with rfl | rfl | rfl | rfl | rfl | rfl | rfl | ⟨h8,h17⟩
  case inr.inr.inr.inr.inr.inr.inr =>
   have e1:exNames op.toNat=false:=by unfold exNames;simp;omega
   have e2:exNumber op.toNat=false:=by unfold exNumber;simp;omega
   have e3:exKids op.toNat=2:=by unfold exKids;rw [if_neg (by omega),if_neg (by omega)]
   rw [e1] at hm hn
   rw [e2] at hnum
   rw [e3] at hk
   simp [fitsName,fitsNum] at hm hn hnum
   subst hnum
   rcases kids with _ | ⟨a,_ | ⟨b,_ | ⟨c,r⟩⟩⟩
   ·simp at hk
   ·simp at hk
   ·exact .bin op h8 h17 _ _ _ _ a b _ (by rw [hm];rfl) (by rw [hn];rfl) (hkids a (by simp)) (hkids b (by simp))
   ·simp at hk;omega
  all_goals simp [fitsName,fitsNum,exNames,exNumber,exKids] at hm hn hnum hk
  ·subst hk;exact .num _ _ _ _ _ _ (by rw [hm];rfl) (by rw [hn];rfl) (by omega) hn64
  ·subst hk hnum;exact .tru _ _ _ _ _ (by rw [hm];rfl) (by rw [hn];rfl)
  ·subst hk hnum;exact .fls _ _ _ _ _ (by rw [hm];rfl) (by rw [hn];rfl)
  ·subst hk hnum;exact .var _ _ _ _ _ hm hn
  all_goals
   rcases kids with _ | ⟨a,_ | ⟨b,r⟩⟩
   ·simp at hk
   ·first | (subst hnum;exact .not _ _ _ _ a _ (by rw [hm];rfl) (by rw [hn];rfl) (hkids a (by simp))) | (subst hnum;exact .neg _ _ _ _ a _ (by rw [hm];rfl) (by rw [hn];rfl) (hkids a (by simp))) | exact .mul _ _ _ _ _ a _ (by rw [hm];rfl) (by rw [hn];rfl) (by omega) hn64 (hkids a (by simp))
   ·simp at hk;omega
def FolS (r:List UInt8):Prop:=r=[] ∨ ∃ h t,r=h :: t∧Brk h
theorem brk41:Brk 41:=⟨by decide,by decide,fun c=>by simp only [show ((41:UInt8).toNat:Int)=41 from rfl];unfold Lx.signLen;(repeat' split) <;> simp_all <;> omega⟩
theorem brk59:Brk 59:=⟨by decide,by decide,fun c=>by simp only [show ((59:UInt8).toNat:Int)=59 from rfl];unfold Lx.signLen;(repeat' split) <;> simp_all <;> omega⟩
theorem FolS.head {r:List UInt8} (h:FolS r):(∀ c ∈ r.head?,Lx.nameByte c=false)∧(∀ c ∈ r.head?,Lx.digit c=false):=by
 rcases h with rfl | ⟨c,t,rfl,h1,h2,-⟩
 ·simp
 ·simp [h1,h2]
theorem tok_stepL (x r:List UInt8) (t:Lx.T) (ts:List Lx.T) (hx:∃ c x',x=c :: x'∧Lx.blank c=false∧c ≠ 35) (ht:Lx.tokL (x++r)=t) (htx:t.text=x) (he:t.err=0) (h:Scans r (.done ts)):Scans (x++r) (.done (t :: ts)):=by
 obtain ⟨c,x',rfl,h1,h2⟩:=hx
 refine tok_step c (x'++r) t ts h1 h2 ht he ?_
 rw [htx]
 show Scans (((c :: x')++r).drop (c :: x').length) _
 rw [List.drop_left]
 exact h
theorem dec_head (u:Nat):1≤u→(Lib.decDigits u).head? ≠ some 48:=by
 refine decDigits_ind (P:=fun u l=>1≤u→l.head? ≠ some 48) ?_ ?_ (u+1) u (by omega)
 ·intro u h h1
  have:u=1 ∨ u=2 ∨ u=3 ∨ u=4 ∨ u=5 ∨ u=6 ∨ u=7 ∨ u=8 ∨ u=9:=by omega
  rcases this with rfl | rfl | rfl | rfl | rfl | rfl | rfl | rfl | rfl <;> decide
 ·intro u h ih h1
  have h2:=ih (by omega)
  have h3:=(decDigits_digit (u / 10)).1
  cases hd:Lib.decDigits (u / 10) with
  | nil=>exact absurd hd h3
  | cons c t=>rw [hd] at h2;simpa using h2
theorem num_tok (n:Int) (h0:0≤n) (h1:n≤9223372036854775807) (r:List UInt8) (hr:∀ c ∈ r.head?,Lx.digit c=false):Lx.tokL (Lib.itoa n++r)=numTk n:=by
 obtain ⟨d1,d2⟩:=itoa_digit n h0
 have htw:=(takeWhile_fol Lx.digit (Lib.itoa n) r d2 hr).1
 obtain ⟨c,t,hct⟩:∃ c t,Lib.itoa n=c :: t:=by
  cases h:Lib.itoa n with
  | nil=>exact absurd h d1
  | cons c t=>exact ⟨c,t,rfl⟩
 have hcd:Lx.digit c=true:=d2 c (by rw [hct];simp)
 have hcl:Lx.letter c=false:=by
  rw [Lx.digit_eq] at hcd
  rw [Lx.letter_eq]
  simp at hcd ⊢
  omega
 have hv:Lx.decVal (Lib.itoa n)=n.toNat:=by
  have:Lib.itoa n=Lib.decDigits n.toNat:=by unfold Lib.itoa;rw [if_neg (by omega)]
  rw [this]
  exact valOf_dec n.toNat
 have hz:¬ (1 < (Lib.itoa n).length∧(Lib.itoa n).head?=some 48):=by
  rintro ⟨h2,h3⟩
  have e:Lib.itoa n=Lib.decDigits n.toNat:=by unfold Lib.itoa;rw [if_neg (by omega)]
  rw [e] at h2 h3
  have hu:n.toNat=0:=by
   rcases Nat.eq_zero_or_pos n.toNat with h | h
   ·exact h
   ·exact absurd h3 (dec_head _ h)
  rw [hu,Lib.decDigits,dif_pos (by omega)] at h2
  simp at h2
 have e1:Lx.tokL (Lib.itoa n++r)=Lx.numT ((Lib.itoa n++r).takeWhile Lx.digit):=by
  rw [hct]
  show Lx.tokL (c :: (t++r))=Lx.numT ((c :: (t++r)).takeWhile Lx.digit)
  unfold Lx.tokL
  simp only [hcl,hcd,if_true,Bool.false_eq_true,if_false]
 rw [e1,htw]
 unfold Lx.numT
 rw [if_neg hz,hv,if_pos (by omega)]
 unfold numTk
 congr 1
 omega
theorem name_parts {s:ByteArray} (h:Lx.name s=true):(∃ c t,s.data.toList=c :: t∧Lx.letter c=true)∧(∀ c ∈ s.data.toList,Lx.nameByte c=true)∧Lx.word s=false∧s.size≤32:=by
 unfold Lx.name at h
 simp only [Bool.and_eq_true,decide_eq_true_eq,Bool.not_eq_true'] at h
 obtain ⟨⟨⟨⟨h1,h2⟩,h3⟩,h4⟩,h5⟩:=h
 refine ⟨?_,fun c hc=>List.all_eq_true.1 h4 c hc,h5,h2⟩
 cases hs:s.data.toList with
 | nil=>rw [hs] at h3;cases h3
 | cons c t=>rw [hs] at h3;exact ⟨c,t,rfl,h3⟩
theorem name_tok (s:ByteArray) (h:Lx.name s=true) (r:List UInt8) (hr:∀ c ∈ r.head?,Lx.nameByte c=false):Lx.tokL (s.data.toList++r)=nameTk s:=by
 obtain ⟨⟨c,t,hct,hcl⟩,h2,h3,h4⟩:=name_parts h
 have htw:=(takeWhile_fol Lx.nameByte s.data.toList r h2 hr).1
 have e1:Lx.tokL (s.data.toList++r)=Lx.nameT ((s.data.toList++r).takeWhile Lx.nameByte):=by
  rw [hct]
  show Lx.tokL (c :: (t++r))=Lx.nameT ((c :: (t++r)).takeWhile Lx.nameByte)
  unfold Lx.tokL
  simp only [hcl,if_true]
 rw [e1,htw]
 unfold Lx.nameT
 have hw:Lx.words.contains s.data.toList=false:=by unfold Lx.word at h3;rw [ByteArray.toList_eq] at h3;exact h3
 have hl:s.data.toList.length=s.size:=by rw [Array.length_toList];rfl
 rw [hw,if_neg (by simp),if_neg (by rw [hl];omega)]
 rfl
theorem letter_first {c:UInt8} (h:Lx.letter c=true):Lx.blank c=false∧c ≠ 35:=by
 rw [Lx.letter_eq] at h
 simp at h
 constructor
 ·unfold Lx.blank
  have:∀ d:UInt8,d.toNat < 65→(c == d)=false:=fun d hd=>by rw [beq_eq_false_iff_ne];rintro rfl;omega
  simp [this 32 (by decide),this 9 (by decide),this 13 (by decide),this 10 (by decide)]
 ·rintro rfl
  simp at h
theorem digit_first {c:UInt8} (h:Lx.digit c=true):Lx.blank c=false∧c ≠ 35:=by
 rw [Lx.digit_eq] at h
 simp at h
 constructor
 ·unfold Lx.blank
  have:∀ d:UInt8,d.toNat < 48→(c == d)=false:=fun d hd=>by rw [beq_eq_false_iff_ne];rintro rfl;omega
  simp [this 32 (by decide),this 9 (by decide),this 13 (by decide),this 10 (by decide)]
 ·rintro rfl
  simp at h
theorem name_scan (s:ByteArray) (h:Lx.name s=true) (r:List UInt8) (ts:List Lx.T) (hr:∀ c ∈ r.head?,Lx.nameByte c=false) (hS:Scans r (.done ts)):Scans (s.data.toList++r) (.done (nameTk s :: ts)):=by
 obtain ⟨⟨c,t,hct,hcl⟩,-⟩:=name_parts h
 exact tok_stepL _ _ _ _ ⟨c,t,hct,letter_first hcl⟩ (name_tok s h r hr) rfl rfl hS
theorem num_scan (n:Int) (h0:0≤n) (h1:n≤9223372036854775807) (r:List UInt8) (ts:List Lx.T) (hr:∀ c ∈ r.head?,Lx.digit c=false) (hS:Scans r (.done ts)):Scans (Lib.itoa n++r) (.done (numTk n :: ts)):=by
 obtain ⟨d1,d2⟩:=itoa_digit n h0
 obtain ⟨c,t,hct⟩:∃ c t,Lib.itoa n=c :: t:=by
  cases h:Lib.itoa n with
  | nil=>exact absurd h d1
  | cons c t=>exact ⟨c,t,rfl⟩
 exact tok_stepL _ _ _ _ ⟨c,t,hct,digit_first (d2 c (by rw [hct];simp))⟩ (num_tok n h0 h1 r hr) rfl rfl hS
theorem word_scan (x:List UInt8) (c:UInt8) (x':List UInt8) (hx:x=c :: x') (hc:Lx.letter c=true) (hall:∀ c ∈ x,Lx.nameByte c=true) (hw:Lx.words.contains x=true) (r:List UInt8) (ts:List Lx.T) (hr:∀ c ∈ r.head?,Lx.nameByte c=false) (hS:Scans r (.done ts)):Scans (x++r) (.done (wordTk x :: ts)):=by
 have htw:=(takeWhile_fol Lx.nameByte x r hall hr).1
 refine tok_stepL _ _ _ _ ⟨c,x',hx,letter_first hc⟩ ?_ rfl rfl hS
 have e1:Lx.tokL (x++r)=Lx.nameT ((x++r).takeWhile Lx.nameByte):=by
  rw [hx]
  show Lx.tokL (c :: (x'++r))=Lx.nameT ((c :: (x'++r)).takeWhile Lx.nameByte)
  unfold Lx.tokL
  simp only [hc,if_true]
 rw [e1,htw]
 unfold Lx.nameT
 rw [hw,if_pos rfl]
 rfl
theorem bin_sign (op:Int) (h8:8≤op) (h17:op≤17):∃ s,(sgnOf op).1.data.toList=32 :: (s++[32])∧opTk op=signTk s∧(∀ r ts,Scans r (.done ts)→Scans (32 :: (s++[32])++r) (.done (signTk s :: ts))):=by
 have hc:op=8 ∨ op=9 ∨ op=10 ∨ op=11 ∨ op=12 ∨ op=13 ∨ op=14 ∨ op=15 ∨ op=16 ∨ op=17:=by omega
 rcases hc with rfl | rfl | rfl | rfl | rfl | rfl | rfl | rfl | rfl | rfl
 ·exact ⟨[43],rfl,rfl,fun r ts h=>blank_step (tok_step 43 (32 :: r) (signTk [43]) ts (by decide) (by decide) rfl rfl (blank_step h _ rfl)) _ rfl⟩
 ·exact ⟨[45],rfl,rfl,fun r ts h=>blank_step (tok_step 45 (32 :: r) (signTk [45]) ts (by decide) (by decide) rfl rfl (blank_step h _ rfl)) _ rfl⟩
 ·exact ⟨[61,61],rfl,rfl,fun r ts h=>blank_step (tok_step 61 (61 :: 32 :: r) (signTk [61,61]) ts (by decide) (by decide) rfl rfl (blank_step h _ rfl)) _ rfl⟩
 ·exact ⟨[33,61],rfl,rfl,fun r ts h=>blank_step (tok_step 33 (61 :: 32 :: r) (signTk [33,61]) ts (by decide) (by decide) rfl rfl (blank_step h _ rfl)) _ rfl⟩
 ·exact ⟨[60],rfl,rfl,fun r ts h=>blank_step (tok_step 60 (32 :: r) (signTk [60]) ts (by decide) (by decide) rfl rfl (blank_step h _ rfl)) _ rfl⟩
 ·exact ⟨[60,61],rfl,rfl,fun r ts h=>blank_step (tok_step 60 (61 :: 32 :: r) (signTk [60,61]) ts (by decide) (by decide) rfl rfl (blank_step h _ rfl)) _ rfl⟩
 ·exact ⟨[62],rfl,rfl,fun r ts h=>blank_step (tok_step 62 (32 :: r) (signTk [62]) ts (by decide) (by decide) rfl rfl (blank_step h _ rfl)) _ rfl⟩
 ·exact ⟨[62,61],rfl,rfl,fun r ts h=>blank_step (tok_step 62 (61 :: 32 :: r) (signTk [62,61]) ts (by decide) (by decide) rfl rfl (blank_step h _ rfl)) _ rfl⟩
 ·exact ⟨[38,38],rfl,rfl,fun r ts h=>blank_step (tok_step 38 (38 :: 32 :: r) (signTk [38,38]) ts (by decide) (by decide) rfl rfl (blank_step h _ rfl)) _ rfl⟩
 ·exact ⟨[124,124],rfl,rfl,fun r ts h=>blank_step (tok_step 124 (124 :: 32 :: r) (signTk [124,124]) ts (by decide) (by decide) rfl rfl (blank_step h _ rfl)) _ rfl⟩
theorem brk32' (r:List UInt8):FolS (32 :: r):=.inr ⟨32,r,rfl,Lx.brk32⟩
theorem txt_first {e:Ex} (h:Shp e):∃ c t,e.bare=c :: t∧c ≠ 61:=by
 induction h with
 | num mon name n ad cap pos hm hn h0 h1 =>
  obtain ⟨d1,d2⟩:=itoa_digit n h0
  rw [Ex.bare_mk]
  show ∃ c t,Lib.itoa n=c :: t∧_
  cases hh:Lib.itoa n with
  | nil=>exact absurd hh d1
  | cons c t =>
   refine ⟨c,t,rfl,?_⟩
   rintro rfl
   have:=d2 61 (by rw [hh];simp)
   cases this
 | tru=>exact ⟨116,_,rfl,by decide⟩
 | fls=>exact ⟨102,_,rfl,by decide⟩
 | var mon name ad cap pos hm hn =>
  obtain ⟨⟨c,t,hct,hcl⟩,-⟩:=name_parts hm
  rw [Ex.bare_mk]
  show ∃ c t,mon.data.toList++46 :: name.data.toList=c :: t∧_
  rw [hct]
  refine ⟨c,_,rfl,?_⟩
  rintro rfl
  cases hcl
 | not=>rw [Ex.bare_mk];exact ⟨33,_,rfl,by decide⟩
 | neg=>rw [Ex.bare_mk];exact ⟨45,_,rfl,by decide⟩
 | mul mon name n ad cap k pos hm hn h0 h1 hk ih =>
  obtain ⟨d1,d2⟩:=itoa_digit n h0
  rw [Ex.bare_mk]
  show ∃ c t,Lib.itoa n++_=c :: t∧_
  cases hh:Lib.itoa n with
  | nil=>exact absurd hh d1
  | cons c t =>
   refine ⟨c,_,rfl,?_⟩
   rintro rfl
   have:=d2 61 (by rw [hh];simp)
   cases this
 | bin op h8 h17 mon name ad cap a b pos hm hn ha hb iha ihb =>
  rw [Ex.bare_mk]
  unfold bareOf
  rw [if_neg (by omega),if_neg (by omega),if_neg (by omega),if_neg (by omega),if_neg (by omega),if_neg (by omega)]
  rw [kid_at [a,b] 0 _ (by simp)]
  show ∃ c t,a.txt _++_=c :: t∧_
  obtain ⟨c,t,h1,h2⟩:=iha
  unfold Ex.txt atL
  split
  ·exact ⟨40,_,rfl,by decide⟩
  ·rw [h1];exact ⟨c,_,rfl,h2⟩
theorem at_scan (l:Nat) (op:Int) (s:List UInt8) (S:List Lx.T) (hs:∀ r ts,FolS r→Scans r (.done ts)→Scans (s++r) (.done (S++ts))) (r:List UInt8) (ts:List Lx.T) (hr:FolS r) (h:Scans r (.done ts)):Scans (atL l op s++r) (.done (atT l op S++ts)):=by
 unfold atL atT
 split
 ·have h1:Scans (41 :: r) (.done (signTk [41] :: ts)):=tok_step 41 r (signTk [41]) ts (by decide) (by decide) rfl rfl h
  have h2:=hs (41 :: r) _ (.inr ⟨41,r,rfl,brk41⟩) h1
  have h3:=tok_step 40 (s++41 :: r) (signTk [40]) _ (by decide) (by decide) rfl rfl h2
  simpa using h3
 ·exact hs r ts hr h
theorem bare_scan {e:Ex} (h:Shp e):∀ r ts,FolS r→Scans r (.done ts)→Scans (e.bare++r) (.done (e.bareT++ts)):=by
 induction h with
 | num mon name n ad cap pos hm hn h0 h1 =>
  intro r ts hr hS
  rw [Ex.bare_mk,Ex.bareT_mk]
  exact num_scan n h0 h1 r ts hr.head.2 hS
 | tru =>
  intro r ts hr hS
  rw [Ex.bare_mk,Ex.bareT_mk]
  exact word_scan [116,114,117,101] 116 _ rfl (by decide) (by decide) (by decide) r ts hr.head.1 hS
 | fls =>
  intro r ts hr hS
  rw [Ex.bare_mk,Ex.bareT_mk]
  exact word_scan [102,97,108,115,101] 102 _ rfl (by decide) (by decide) (by decide) r ts hr.head.1 hS
 | var mon name ad cap pos hm hn =>
  intro r ts hr hS
  rw [Ex.bare_mk,Ex.bareT_mk]
  show Scans ((mon.data.toList++46 :: name.data.toList)++r) (.done ([nameTk mon,signTk [46],nameTk name]++ts))
  rw [List.append_assoc]
  refine name_scan mon hm _ _ (by simp;decide) ?_
  have h1:=name_scan name hn r ts hr.head.1 hS
  obtain ⟨⟨c,t,hct,hcl⟩,-⟩:=name_parts hn
  refine tok_step 46 (name.data.toList++r) (signTk [46]) _ (by decide) (by decide) ?_ rfl h1
  rw [hct]
  have hne:((c.toNat:Int) == 46)=false:=by
   rw [Lx.letter_eq] at hcl
   simp at hcl
   rw [beq_eq_false_iff_ne];omega
  have hsl:Lx.signLen 46 (c.toNat:Int)=1:=by
   show (if (c.toNat:Int) == 46 then 2 else 1)=1
   rw [hne]
   rfl
  show (if Lx.signLen 46 (c.toNat:Int)=0 then Lx.badT 10 else (⟨4,(46 :: c :: (t++r)).take (Lx.signLen 46 (c.toNat:Int)),0,0⟩:Lx.T))=_
  rw [hsl]
  rfl
 | not mon name ad cap k pos hm hn hk ih =>
  intro r ts hr hS
  rw [Ex.bare_mk,Ex.bareT_mk]
  have h1:=at_scan 3 k.opOf k.bare k.bareT ih r ts hr hS
  show Scans (33 :: (k.txt 3++r)) (.done (signTk [33] :: (k.toks 3++ts)))
  refine tok_step 33 _ (signTk [33]) _ (by decide) (by decide) ?_ rfl h1
  obtain ⟨c,t,hct,hne⟩:∃ c t,k.txt 3=c :: t∧c ≠ 61:=by
   obtain ⟨c,t,h1,h2⟩:=txt_first hk
   unfold Ex.txt atL
   split
   ·exact ⟨40,_,rfl,by decide⟩
   ·exact ⟨c,t,h1,h2⟩
  rw [hct]
  have hne:((c.toNat:Int) == 61)=false:=by
   rw [beq_eq_false_iff_ne];intro h
   exact hne (UInt8.toNat_inj.1 (by show c.toNat=61;omega))
  have hsl:Lx.signLen 33 (c.toNat:Int)=1:=by
   show (if (c.toNat:Int) == 61 then 2 else 1)=1
   rw [hne]
   rfl
  show (if Lx.signLen 33 (c.toNat:Int)=0 then Lx.badT 10 else (⟨4,(33 :: c :: (t++r)).take (Lx.signLen 33 (c.toNat:Int)),0,0⟩:Lx.T))=_
  rw [hsl]
  rfl
 | neg mon name ad cap k pos hm hn hk ih =>
  intro r ts hr hS
  rw [Ex.bare_mk,Ex.bareT_mk]
  have h1:=at_scan 6 k.opOf k.bare k.bareT ih r ts hr hS
  show Scans (45 :: (k.txt 6++r)) (.done (signTk [45] :: (k.toks 6++ts)))
  exact tok_step 45 _ (signTk [45]) _ (by decide) (by decide) rfl rfl h1
 | mul mon name n ad cap k pos hm hn h0 h1 hk ih =>
  intro r ts hr hS
  rw [Ex.bare_mk,Ex.bareT_mk]
  have h2:=at_scan 6 k.opOf k.bare k.bareT ih r ts hr hS
  show Scans ((Lib.itoa n++([32,42,32]++k.txt 6))++r) (.done (numTk n :: signTk [42] :: (k.toks 6++ts)))
  rw [List.append_assoc]
  refine num_scan n h0 h1 _ _ (by simp;decide) ?_
  exact blank_step (tok_step 42 _ (signTk [42]) _ (by decide) (by decide) rfl rfl (blank_step h2 _ rfl)) _ rfl
 | bin op h8 h17 mon name ad cap a b pos hm hn ha hb iha ihb =>
  intro r ts hr hS
  obtain ⟨s,hs1,hs2,hs3⟩:=bin_sign op h8 h17
  rw [Ex.bare_mk,Ex.bareT_mk]
  have h1:bareOf op mon name 0 ([a,b].map fun e=>(e.opOf,e.bare))=a.txt (sgnOf op).2.2.1++(32 :: (s++[32])++b.txt (sgnOf op).2.2.2):=by
   unfold bareOf
   rw [if_neg (by omega),if_neg (by omega),if_neg (by omega),if_neg (by omega),if_neg (by omega),if_neg (by omega),kid_at [a,b] 0 _ (by simp),kid_at [a,b] 1 _ (by simp),hs1]
   rfl
  have h2:bareTOf op mon name 0 ([a,b].map fun e=>(e.opOf,e.bareT))=a.toks (sgnOf op).2.2.1++signTk s :: b.toks (sgnOf op).2.2.2:=by
   unfold bareTOf
   rw [if_neg (by omega),if_neg (by omega),if_neg (by omega),if_neg (by omega),if_neg (by omega),if_neg (by omega),kidT_at [a,b] 0 _ (by simp),kidT_at [a,b] 1 _ (by simp),hs2]
   rfl
  rw [h1,h2]
  have hb1:=at_scan (sgnOf op).2.2.2 b.opOf b.bare b.bareT ihb r ts hr hS
  have hmid:=hs3 _ _ hb1
  have ha1:=at_scan (sgnOf op).2.2.1 a.opOf a.bare a.bareT iha (32 :: (s++[32])++(b.txt (sgnOf op).2.2.2++r)) (signTk s :: (b.toks (sgnOf op).2.2.2++ts)) (by exact brk32' _) hmid
  simpa [Ex.txt,Ex.toks,List.append_assoc] using ha1
theorem txt_scan {e:Ex} (h:Shp e) (l:Nat) (r:List UInt8) (ts:List Lx.T) (hr:FolS r) (hS:Scans r (.done ts)):Scans (e.txt l++r) (.done (e.toks l++ts)):=at_scan l e.opOf e.bare e.bareT (bare_scan h) r ts hr hS
end Pz
end Go.Proofs.YtaekbgljbgmchaaGreatDoor
namespace Go.Proofs.YtaekbgljbgmchaaGreatDoor
open Go.RowKit
open Lx (Out)
open Pz
namespace Pz
namespace Rl
variable {PP:Int→Int→Prop} {s s':S}
end Rl
end Pz
end Go.Proofs.YtaekbgljbgmchaaGreatDoor
namespace Go.Proofs.YtaekbgljbgmchaaGreatDoor
open Go.RowKit
open Lx (Out)
open Pz
open Px
open Lx (ofOut)
namespace Pz
theorem tok_of2 {o:Out} {t:Lx.T} (h:ofOut o=t) (y:ByteArray) (hy:y.data.toList=t.text):Tok o t.kind y:=by
 subst h
 exact ⟨rfl,ByteArray.ext (Array.toList_inj.1 hy.symm)⟩
theorem kind_of2 {o:Out} {t:Lx.T} (h:ofOut o=t):o.kind=t.kind:=by subst h;rfl
theorem n_of2 {o:Out} {t:Lx.T} (h:ofOut o=t):o.n=t.n:=by subst h;rfl
theorem text_of2 {o:Out} {t:Lx.T} (h:ofOut o=t):o.text.data.toList=t.text:=by subst h;rfl
def Acc (o:Nat) (r:List Out):Prop:=((operOf (r.headD noTok)).op=0 ∨ (operOf (r.headD noTok)).own≤o)∧is (r.headD noTok) s_star=false
theorem loop_end (f lv:Nat) (x:Ex) (ow:Nat) (r:List Out) (opn:Int) (h:(operOf (r.headD noTok)).op=0 ∨ (operOf (r.headD noTok)).own < lv):loop f lv x ow ⟨r,opn,0,0⟩=(x,⟨r,opn,0,0⟩):=by
 cases f with
 | zero=>rw [loop]
 | succ f =>
  rw [loop,if_pos]
  rcases h with h | h
  ·exact .inl h
  ·exact .inr (.inl h)
theorem not_bang {o:Out} {c:UInt8} {t:List UInt8} (h:o.text.data.toList=c :: t) (hc:c ≠ 33):is o s_bang=false:=by
 unfold is
 rw [ByteArray.toList_eq,ByteArray.toList_eq,h]
 show ((c :: t) == [33])=false
 rw [beq_eq_false_iff_ne]
 intro e
 injection e with e1
 exact hc e1
theorem num_first (n:Int) (h:0≤n):∃ c t,Lib.itoa n=c :: t∧c ≠ 33:=by
 obtain ⟨d1,d2⟩:=itoa_digit n h
 cases hh:Lib.itoa n with
 | nil=>exact absurd hh d1
 | cons c t=>exact ⟨c,t,rfl,(digit_not45 (d2 c (by rw [hh];simp))).2.2⟩
theorem name_first {s:ByteArray} (h:Lx.name s=true):∃ c t,s.data.toList=c :: t∧c ≠ 33:=by
 obtain ⟨⟨c,t,h1,h2⟩,-⟩:=name_parts h
 refine ⟨c,t,h1,?_⟩
 rintro rfl
 cases h2
theorem e0_toList (s:ByteArray) (h:s.size=0):(s.toList == e0.toList)=true:=by
 have:s.data.toList=[]:=List.eq_nil_of_length_eq_zero (by rw [Array.length_toList];exact h)
 rw [ByteArray.toList_eq,ByteArray.toList_eq,this];rfl
theorem same_ex1 (op:Int) (mon name:ByteArray) (n:Int) (ad:Option Addr) (cap:Nat) (kids kids':List Ex) (pos pos':Int) (hm:mon.size=0) (hn:name.size=0) (h:all2 Ex.same kids kids'=true):(Ex.mk op mon name n ad cap kids pos).same (ex op e0 e0 n kids' pos')=true:=by
 simp only [ex,Ex.same,Ex.sameL_eq,h,e0_toList mon hm,e0_toList name hn,beq_self_eq_true,Bool.and_self]
theorem same_var (mon name m2 n2:ByteArray) (ad:Option Addr) (cap:Nat) (pos pos':Int) (h1:m2=mon) (h2:n2=name):(Ex.mk 4 mon name 0 ad cap [] pos).same (ex 4 m2 n2 0 [] pos')=true:=by
 subst h1 h2
 simp [ex,Ex.same,Ex.sameL]
structure Reads (e:Ex):Prop where
 bare:∀ (lv:Nat) (L r:List Out) (opn:Int) (f:Nat),1≤lv→lv≤own e.opOf→L.map ofOut=e.bareT→opn+e.nst≤64→Acc (own e.opOf) r→2 * L.length≤f→∃ f' x,f≤f'+2 * L.length∧exprAt f lv ⟨L++r,opn,0,0⟩=loop f' lv x (own e.opOf) ⟨r,opn,0,0⟩∧e.same x=true
 term:own e.opOf=6→∀ (L r:List Out) (opn:Int) (f:Nat),is (r.headD noTok) s_star=false→L.map ofOut=e.bareT→opn+e.nst≤64→2 * L.length≤f+1→∃ x,term f ⟨L++r,opn,0,0⟩=(x,⟨r,opn,0,0⟩)∧e.same x=true
theorem bare_of_term {e:Ex} (h6:own e.opOf=6) (hb:∀ (L r:List Out) (opn:Int),L.map ofOut=e.bareT→(S.mk (L++r) opn 0 0).sees s_bang=false) (hne:e.bareT ≠ [])
  (ht:∀ (L r:List Out) (opn:Int) (f:Nat),is (r.headD noTok) s_star=false→L.map ofOut=e.bareT→opn+e.nst≤64→2 * L.length≤f+1→∃ x,Pz.term f ⟨L++r,opn,0,0⟩=(x,⟨r,opn,0,0⟩)∧e.same x=true):Reads e where
 term:=fun _=>ht
 bare:=by
  intro lv L r opn f h1 h2 hL ho hr hf
  have hLn:0 < L.length:=by
   rcases L with _ | ⟨a,L⟩
   ·exact absurd hL.symm hne
   ·simp
  obtain ⟨f,rfl⟩:∃ g,f=g+1:=⟨f - 1,by omega⟩
  obtain ⟨x,hx,hs⟩:=ht L r opn f hr.2 hL ho (by omega)
  refine ⟨f,x,by omega,?_,hs⟩
  rw [not_lt _ _ (hb L r opn hL),hx,h6]
theorem own_ge (op:Int):1≤own op:=by
 unfold own
 split
 ·rename_i h
  unfold signed at h
  have h:=of_decide_eq_true h
  have hc:op=5 ∨ op=6 ∨ op=7 ∨ op=8 ∨ op=9 ∨ op=10 ∨ op=11 ∨ op=12 ∨ op=13 ∨ op=14 ∨ op=15 ∨ op=16 ∨ op=17:=by omega
  rcases hc with rfl | rfl | rfl | rfl | rfl | rfl | rfl | rfl | rfl | rfl | rfl | rfl | rfl <;> decide
 ·decide
def ownP (p:Nat) (op:Int):Nat:=if own op < p then 6 else own op
theorem ownP_ge (p:Nat) (hp:p≤6) (op:Int):p≤ownP p op:=by unfold ownP;split <;> omega
theorem stops_of (c:Out) (r:List Out) (hc:Tok c 4 s_rpar):(operOf ((c :: r).headD noTok)).op=0:=stops_rpar hc
theorem par_reads {e:Ex} (h:Reads e) (lp rp:Out) (L r:List Out) (opn:Int) (f:Nat) (hl:Tok lp 4 s_lpar) (hr:Tok rp 4 s_rpar) (hL:L.map ofOut=e.bareT) (ho:opn+e.nst+1≤64) (hf:2 * L.length≤f):∃ x,Pz.term (f+1) ⟨lp :: (L++rp :: r),opn,0,0⟩=(x,⟨r,opn,0,0⟩)∧e.same x=true:=by
 obtain ⟨f',x,h1,h2,h3⟩:=h.bare 1 L (rp :: r) (opn+1) f (Nat.le_refl _) (own_ge _) hL (by omega) ⟨.inl (stops_of rp r hr),show is rp s_star=false from by rw [is_of hr.2];decide⟩ hf
 rw [loop_end _ _ _ _ _ _ (.inl (stops_of rp r hr))] at h2
 refine ⟨x,?_,h3⟩
 rw [Pz.term,if_neg (by show ¬ lp.kind=2;rw [hl.1];decide),if_neg (by show ¬ lp.kind=1;rw [hl.1];decide),name_not (by rw [is_of hl.2];decide),if_neg (by simp),show (S.mk (lp :: (L++rp :: r)) opn 0 0).sees s_lpar=true from by show is lp s_lpar=true;rw [is_of hl.2];decide,if_pos rfl]
 unfold enclosed within
 rw [enter_fine _ _ _ _ (by rw [is_of hl.2];decide) (by rw [hl.1];decide) (by omega),h2]
 show (x,(S.mk (rp :: r) (opn+1 - 1) 0 0).want s_rpar)=_
 rw [show opn+1 - 1=opn by omega,want_fine _ _ _ _ (by rw [is_of hr.2];decide) (by rw [hr.1];decide)]
theorem at_split {e:Ex} {p:Nat} {L:List Out} (hL:L.map ofOut=e.toks p):(own e.opOf < p∧∃ lp rp M,L=lp :: (M++[rp])∧Tok lp 4 s_lpar∧Tok rp 4 s_rpar∧M.map ofOut=e.bareT) ∨ (¬ own e.opOf < p∧L.map ofOut=e.bareT):=by
 unfold Ex.toks atT at hL
 by_cases h:own e.opOf < p
 ·rw [if_pos h] at hL
  refine .inl ⟨h,?_⟩
  rcases L with _ | ⟨lp,L⟩
  ·cases hL
  ·simp only [List.map_cons,List.cons.injEq] at hL
   obtain ⟨M,R,rfl,hM,hR⟩:=List.map_eq_append_iff.1 hL.2
   rcases R with _ | ⟨rp,_ | ⟨y,R⟩⟩
   ·cases hR
   ·simp only [List.map_cons,List.map_nil,List.cons.injEq,and_true] at hR
    exact ⟨lp,rp,M,rfl,tok_of2 hL.1 s_lpar rfl,tok_of2 hR s_rpar rfl,hM⟩
   ·simp at hR
 ·rw [if_neg h] at hL
  exact .inr ⟨h,hL⟩
theorem nest_par {e:Ex} {p:Nat} (h:own e.opOf < p):e.nest p=1+e.nst:=by unfold Ex.nest nestL;rw [if_pos h]
theorem nest_bare {e:Ex} {p:Nat} (h:¬ own e.opOf < p):e.nest p=e.nst:=by unfold Ex.nest nestL;rw [if_neg h];omega
theorem lp_not_bang {lp:Out} {l:List Out} {opn:Int} (hl:Tok lp 4 s_lpar):(S.mk (lp :: l) opn 0 0).sees s_bang=false:=name_not (by rw [is_of hl.2];decide)
theorem at_reads {e:Ex} (h:Reads e) (p lv:Nat) (h1:1≤lv) (hlp:lv≤p) (L r:List Out) (opn:Int) (f:Nat) (hL:L.map ofOut=e.toks p) (ho:opn+e.nest p≤64) (hr:Acc (ownP p e.opOf) r) (hf:2 * L.length≤f):∃ f' x,f≤f'+2 * L.length∧exprAt f lv ⟨L++r,opn,0,0⟩=loop f' lv x (ownP p e.opOf) ⟨r,opn,0,0⟩∧e.same x=true:=by
 rcases at_split hL with ⟨hlt,lp,rp,M,rfl,hl,hrp,hM⟩ | ⟨hge,hB⟩
 ·rw [nest_par hlt] at ho
  simp only [List.length_cons,List.length_append,List.length_nil] at hf ⊢
  obtain ⟨f,rfl⟩:∃ g,f=g+2:=⟨f - 2,by omega⟩
  obtain ⟨x,hx,hs⟩:=par_reads h lp rp M r opn f hl hrp hM (by omega) (by omega)
  refine ⟨f+1,x,by omega,?_,hs⟩
  have e1:lp :: (M++[rp])++r=lp :: (M++rp :: r):=by simp
  rw [e1,not_lt _ _ (lp_not_bang hl),hx]
  unfold ownP
  rw [if_pos hlt]
 ·rw [nest_bare hge] at ho
  have e1:ownP p e.opOf=own e.opOf:=by unfold ownP;rw [if_neg hge]
  rw [e1] at hr ⊢
  exact h.bare lv L r opn f h1 (by omega) hB ho hr hf
theorem term_reads {e:Ex} (h:Reads e) (L r:List Out) (opn:Int) (f:Nat) (hst:is (r.headD noTok) s_star=false) (hL:L.map ofOut=e.toks 6) (ho:opn+e.nest 6≤64) (hf:2 * L.length≤f+1):∃ x,Pz.term f ⟨L++r,opn,0,0⟩=(x,⟨r,opn,0,0⟩)∧e.same x=true:=by
 rcases at_split hL with ⟨hlt,lp,rp,M,rfl,hl,hrp,hM⟩ | ⟨hge,hB⟩
 ·rw [nest_par hlt] at ho
  simp only [List.length_cons,List.length_append,List.length_nil] at hf
  obtain ⟨f,rfl⟩:∃ g,f=g+1:=⟨f - 1,by omega⟩
  have e1:lp :: (M++[rp])++r=lp :: (M++rp :: r):=by simp
  rw [e1]
  exact par_reads h lp rp M r opn f hl hrp hM (by omega) (by omega)
 ·rw [nest_bare hge] at ho
  exact h.term (by have:=own_le e.opOf;omega) L r opn f hst hB ho hf
theorem bin_oper (op:Int) (h8:8≤op) (h17:op≤17) (o:Out) (ho:ofOut o=opTk op):operOf o=⟨op,own op,(sgnOf op).2.2.1,(sgnOf op).2.2.2⟩∧o.kind=4∧own op≤(sgnOf op).2.2.1∧own op < (sgnOf op).2.2.2∧(sgnOf op).2.2.1≤6∧(sgnOf op).2.2.2≤6∧is o s_star=false:=by
 have hk:=kind_of2 ho
 have hc:op=8 ∨ op=9 ∨ op=10 ∨ op=11 ∨ op=12 ∨ op=13 ∨ op=14 ∨ op=15 ∨ op=16 ∨ op=17:=by omega
 rcases hc with rfl | rfl | rfl | rfl | rfl | rfl | rfl | rfl | rfl | rfl
 ·have ht:=tok_of2 ho s_plus rfl
  refine ⟨?_,hk,by decide,by decide,by decide,by decide,by rw [is_of ht.2];decide⟩
  unfold operOf
  simp only [is_of ht.2]
  rfl
 ·have ht:=tok_of2 ho s_minus rfl
  refine ⟨?_,hk,by decide,by decide,by decide,by decide,by rw [is_of ht.2];decide⟩
  unfold operOf
  simp only [is_of ht.2]
  rfl
 ·have ht:=tok_of2 ho s_eqeq rfl
  refine ⟨?_,hk,by decide,by decide,by decide,by decide,by rw [is_of ht.2];decide⟩
  unfold operOf
  simp only [is_of ht.2]
  rfl
 ·have ht:=tok_of2 ho s_ne rfl
  refine ⟨?_,hk,by decide,by decide,by decide,by decide,by rw [is_of ht.2];decide⟩
  unfold operOf
  simp only [is_of ht.2]
  rfl
 ·have ht:=tok_of2 ho s_lt rfl
  refine ⟨?_,hk,by decide,by decide,by decide,by decide,by rw [is_of ht.2];decide⟩
  unfold operOf
  simp only [is_of ht.2]
  rfl
 ·have ht:=tok_of2 ho s_le rfl
  refine ⟨?_,hk,by decide,by decide,by decide,by decide,by rw [is_of ht.2];decide⟩
  unfold operOf
  simp only [is_of ht.2]
  rfl
 ·have ht:=tok_of2 ho s_gt rfl
  refine ⟨?_,hk,by decide,by decide,by decide,by decide,by rw [is_of ht.2];decide⟩
  unfold operOf
  simp only [is_of ht.2]
  rfl
 ·have ht:=tok_of2 ho s_ge rfl
  refine ⟨?_,hk,by decide,by decide,by decide,by decide,by rw [is_of ht.2];decide⟩
  unfold operOf
  simp only [is_of ht.2]
  rfl
 ·have ht:=tok_of2 ho s_andand rfl
  refine ⟨?_,hk,by decide,by decide,by decide,by decide,by rw [is_of ht.2];decide⟩
  unfold operOf
  simp only [is_of ht.2]
  rfl
 ·have ht:=tok_of2 ho s_oror rfl
  refine ⟨?_,hk,by decide,by decide,by decide,by decide,by rw [is_of ht.2];decide⟩
  unfold operOf
  simp only [is_of ht.2]
  rfl
theorem no_three (t:Out):(operOf t).op=0 ∨ (operOf t).own ≠ 3:=by
 unfold operOf
 repeat' split
 all_goals simp
theorem nst_one (op:Int) (mon name:ByteArray) (n:Int) (ad:Option Addr) (cap:Nat) (k:Ex) (pos:Int):(Ex.mk op mon name n ad cap [k] pos).nst=1+k.nest (sgnOf op).2.2.2:=by
 rw [Ex.nst_mk]
 unfold nestOf
 rw [if_pos (by rfl),nkid_at [k] 0 _ (by simp)]
 rfl
theorem nst_two (op:Int) (mon name:ByteArray) (n:Int) (ad:Option Addr) (cap:Nat) (a b:Ex) (pos:Int):(Ex.mk op mon name n ad cap [a,b] pos).nst=max (a.nest (sgnOf op).2.2.1) (b.nest (sgnOf op).2.2.2):=by
 rw [Ex.nst_mk]
 unfold nestOf
 rw [if_neg (by simp),if_pos (by rfl),nkid_at [a,b] 0 _ (by simp),nkid_at [a,b] 1 _ (by simp)]
 rfl
theorem bareT_two (op:Int) (h8:8≤op) (mon name:ByteArray) (n:Int) (ad:Option Addr) (cap:Nat) (a b:Ex) (pos:Int):(Ex.mk op mon name n ad cap [a,b] pos).bareT=a.toks (sgnOf op).2.2.1++opTk op :: b.toks (sgnOf op).2.2.2:=by
 rw [Ex.bareT_mk]
 unfold bareTOf
 rw [if_neg (by omega),if_neg (by omega),if_neg (by omega),if_neg (by omega),if_neg (by omega),if_neg (by omega),kidT_at [a,b] 0 _ (by simp),kidT_at [a,b] 1 _ (by simp)]
 rfl
theorem one_tok {L:List Out} {t:Lx.T} (h:L.map ofOut=[t]):∃ o,L=[o]∧ofOut o=t:=by
 rcases L with _ | ⟨o,_ | ⟨y,L⟩⟩
 ·cases h
 ·simp only [List.map_cons,List.map_nil,List.cons.injEq,and_true] at h
  exact ⟨o,rfl,h⟩
 ·simp at h
theorem more_tok {L:List Out} {t:Lx.T} {ts:List Lx.T} (h:L.map ofOut=t :: ts):∃ o M,L=o :: M∧ofOut o=t∧M.map ofOut=ts:=by
 rcases L with _ | ⟨o,L⟩
 ·cases h
 ·simp only [List.map_cons,List.cons.injEq] at h
  exact ⟨o,L,rfl,h.1,h.2⟩
theorem own_bin (op:Int) (h8:8≤op) (h17:op≤17):own op≤5:=by
 have hc:op=8 ∨ op=9 ∨ op=10 ∨ op=11 ∨ op=12 ∨ op=13 ∨ op=14 ∨ op=15 ∨ op=16 ∨ op=17:=by omega
 rcases hc with rfl | rfl | rfl | rfl | rfl | rfl | rfl | rfl | rfl | rfl <;> decide
theorem bang_stop {r:List Out} (h:Acc 3 r):(operOf (r.headD noTok)).op=0 ∨ (operOf (r.headD noTok)).own < 3:=by
 rcases h.1 with h | h
 ·exact .inl h
 ·rcases no_three (r.headD noTok) with h2 | h2
  ·exact .inl h2
  ·exact .inr (by omega)
theorem term_word (f:Nat) (o:Out) (r:List Out) (opn:Int) (h3:o.kind=3) (ht:o.text=k_true ∨ o.text=k_false):Pz.term (f+1) ⟨o :: r,opn,0,0⟩=(ex (if is o k_true then 2 else 3) e0 e0 0 [] o.pos,⟨r,opn,0,0⟩):=by
 rw [Pz.term,if_neg (by show ¬ o.kind=2;rw [h3];decide),if_neg (by show ¬ o.kind=1;rw [h3];decide)]
 rcases ht with ht | ht
 ·rw [name_not (by rw [is_of ht];decide),if_neg (by simp),name_not (by rw [is_of ht];decide),if_neg (by simp),show (S.mk (o :: r) opn 0 0).sees k_true=true from by show is o k_true=true;rw [is_of ht];decide,if_pos rfl,pass_fine _ _ _ (by rw [h3];decide),show is o k_true=true from by rw [is_of ht];decide]
  rfl
 ·rw [name_not (by rw [is_of ht];decide),if_neg (by simp),name_not (by rw [is_of ht];decide),if_neg (by simp),name_not (show is o k_true=false from by rw [is_of ht];decide),if_neg (by simp),want_fine _ _ _ _ (by rw [is_of ht];decide) (by rw [h3];decide),show is o k_true=false from by rw [is_of ht];decide]
  rfl
theorem reads_any {e:Ex} (h:Shp e):Reads e:=by
 induction h with
 | num mon name n ad cap pos hm hn h0 h1 =>
  have hb:(Ex.mk 1 mon name n ad cap [] pos).bareT=[numTk n]:=by rw [Ex.bareT_mk];rfl
  refine bare_of_term rfl (fun L r opn hL=>?_) (by rw [hb];simp) (fun L r opn f hst hL ho hf=>?_)
  ·rw [hb] at hL
   obtain ⟨o,rfl,ho⟩:=one_tok hL
   obtain ⟨c,t,hc,hne⟩:=num_first n h0
   exact name_not (not_bang ((text_of2 ho).trans hc) hne)
  ·rw [hb] at hL
   obtain ⟨o,rfl,hok⟩:=one_tok hL
   simp only [List.length_cons,List.length_nil] at hf
   obtain ⟨f,rfl⟩:∃ g,f=g+1:=⟨f - 1,by omega⟩
   have h2:o.kind=2:=kind_of2 hok
   have h3:o.n=n:=n_of2 hok
   refine ⟨ex 1 e0 e0 o.n [] o.pos,?_,by rw [h3];exact same_ex1 _ _ _ _ _ _ _ _ _ _ hm hn rfl⟩
   show Pz.term (f+1) ⟨o :: r,opn,0,0⟩=_
   rw [Pz.term,if_pos (by exact h2),pass_fine _ _ _ (by rw [h2];decide),show (S.mk r opn 0 0).sees s_star=false from hst,if_neg (by simp)]
   rfl
 | tru mon name ad cap pos hm hn =>
  have hb:(Ex.mk 2 mon name 0 ad cap [] pos).bareT=[wordTk [116,114,117,101]]:=by rw [Ex.bareT_mk];rfl
  refine bare_of_term rfl (fun L r opn hL=>?_) (by rw [hb];simp) (fun L r opn f hst hL ho hf=>?_)
  ·rw [hb] at hL
   obtain ⟨o,rfl,ho⟩:=one_tok hL
   exact name_not (not_bang (text_of2 ho) (by decide))
  ·rw [hb] at hL
   obtain ⟨o,rfl,hok⟩:=one_tok hL
   simp only [List.length_cons,List.length_nil] at hf
   obtain ⟨f,rfl⟩:∃ g,f=g+1:=⟨f - 1,by omega⟩
   have ht:=tok_of2 hok k_true rfl
   refine ⟨_,term_word f o r opn ht.1 (.inl ht.2),?_⟩
   rw [show is o k_true=true from by rw [is_of ht.2];decide,if_pos rfl]
   exact same_ex1 _ _ _ _ _ _ _ _ _ _ hm hn rfl
 | fls mon name ad cap pos hm hn =>
  have hb:(Ex.mk 3 mon name 0 ad cap [] pos).bareT=[wordTk [102,97,108,115,101]]:=by rw [Ex.bareT_mk];rfl
  refine bare_of_term rfl (fun L r opn hL=>?_) (by rw [hb];simp) (fun L r opn f hst hL ho hf=>?_)
  ·rw [hb] at hL
   obtain ⟨o,rfl,ho⟩:=one_tok hL
   exact name_not (not_bang (text_of2 ho) (by decide))
  ·rw [hb] at hL
   obtain ⟨o,rfl,hok⟩:=one_tok hL
   simp only [List.length_cons,List.length_nil] at hf
   obtain ⟨f,rfl⟩:∃ g,f=g+1:=⟨f - 1,by omega⟩
   have ht:=tok_of2 hok k_false rfl
   refine ⟨_,term_word f o r opn ht.1 (.inr ht.2),?_⟩
   rw [show is o k_true=false from by rw [is_of ht.2];decide,if_neg (by simp)]
   exact same_ex1 _ _ _ _ _ _ _ _ _ _ hm hn rfl
 | var mon name ad cap pos hm hn =>
  have hb:(Ex.mk 4 mon name 0 ad cap [] pos).bareT=[nameTk mon,signTk [46],nameTk name]:=by rw [Ex.bareT_mk];rfl
  refine bare_of_term rfl (fun L r opn hL=>?_) (by rw [hb];simp) (fun L r opn f hst hL ho hf=>?_)
  ·rw [hb] at hL
   obtain ⟨o,M,rfl,ho,hM⟩:=more_tok hL
   obtain ⟨c,t,hc,hne⟩:=name_first hm
   exact name_not (not_bang ((text_of2 ho).trans hc) hne)
  ·rw [hb] at hL
   obtain ⟨a,M,rfl,ha,hM⟩:=more_tok hL
   obtain ⟨d,M,rfl,hd,hM⟩:=more_tok hM
   obtain ⟨x,rfl,hx⟩:=one_tok hM
   simp only [List.length_cons,List.length_nil] at hf
   obtain ⟨f,rfl⟩:∃ g,f=g+1:=⟨f - 1,by omega⟩
   have ha1:a.kind=1:=kind_of2 ha
   have hx1:x.kind=1:=kind_of2 hx
   have hd4:=tok_of2 hd s_dot rfl
   have hp:path ⟨a :: d :: x :: r,opn,0,0⟩=((a.text,x.text),⟨r,opn,0,0⟩):=by
    unfold path
    rw [take_fine a _ opn 1 ha1 (by rw [ha1];decide)]
    show ((a.text,(((S.mk (d :: x :: r) opn 0 0).want s_dot).take 1).1.text),(((S.mk (d :: x :: r) opn 0 0).want s_dot).take 1).2)=_
    rw [want_fine d _ opn s_dot (by rw [is_of hd4.2];decide) (by rw [hd4.1];decide),take_fine x _ opn 1 hx1 (by rw [hx1];decide)]
   refine ⟨ex 4 a.text x.text 0 [] a.pos,?_,same_var _ _ _ _ _ _ _ _ (ByteArray.ext (Array.toList_inj.1 (text_of2 ha))) (ByteArray.ext (Array.toList_inj.1 (text_of2 hx)))⟩
   show Pz.term (f+1) ⟨a :: d :: x :: r,opn,0,0⟩=_
   rw [Pz.term,if_neg (by show ¬ a.kind=2;rw [ha1];decide),if_pos (by exact ha1),hp]
   rfl
 | not mon name ad cap k pos hm hn hk ih =>
  have hb:(Ex.mk 5 mon name 0 ad cap [k] pos).bareT=signTk [33] :: k.toks 3:=by rw [Ex.bareT_mk];rfl
  refine ⟨?_,fun h6=>absurd h6 (by show ¬ own 5=6;decide)⟩
  intro lv L r opn f h1 h2 hL ho hr hf
  have h2:lv≤3:=h2
  have hr:Acc 3 r:=hr
  rw [nst_one] at ho
  have ho:opn+((1+k.nest 3:Nat):Int)≤64:=ho
  rw [hb] at hL
  obtain ⟨o,M,rfl,hok,hM⟩:=more_tok hL
  have ht:=tok_of2 hok s_bang rfl
  simp only [List.length_cons] at hf ⊢
  obtain ⟨f,rfl⟩:∃ g,f=g+1:=⟨f - 1,by omega⟩
  have hg:=ownP_ge 3 (by omega) k.opOf
  obtain ⟨f',x,q1,q2,q3⟩:=at_reads ih 3 3 (by omega) (by omega) M r (opn+1) f hM (by omega) ⟨hr.1.imp id (fun h=>by omega),hr.2⟩ (by omega)
  rw [loop_end _ _ _ _ _ _ (bang_stop hr)] at q2
  refine ⟨f,ex 5 e0 e0 0 [x] o.pos,by omega,?_,same_ex1 _ _ _ _ _ _ _ _ _ _ hm hn (by simp [all2,q3])⟩
  show exprAt (f+1) lv ⟨o :: (M++r),opn,0,0⟩=_
  rw [bang_expr f lv h2 _ _ _ ht]
  unfold prefixed within
  rw [enter_fine _ _ _ _ (by rw [is_of ht.2];decide) (by rw [ht.1];decide) (by omega),q2]
  show loop f lv _ 3 (S.mk r (opn+1 - 1) 0 0)=loop f lv _ 3 _
  rw [show opn+1 - 1=opn by omega]
 | neg mon name ad cap k pos hm hn hk ih =>
  have hb:(Ex.mk 6 mon name 0 ad cap [k] pos).bareT=signTk [45] :: k.toks 6:=by rw [Ex.bareT_mk];rfl
  refine bare_of_term rfl (fun L r opn hL=>?_) (by rw [hb];simp) (fun L r opn f hst hL ho hf=>?_)
  ·rw [hb] at hL
   obtain ⟨o,M,rfl,ho,hM⟩:=more_tok hL
   exact name_not (not_bang (text_of2 ho) (by decide))
  ·rw [hb] at hL
   obtain ⟨o,M,rfl,hok,hM⟩:=more_tok hL
   have ht:=tok_of2 hok s_minus rfl
   rw [nst_one] at ho
   have ho:opn+((1+k.nest 6:Nat):Int)≤64:=ho
   simp only [List.length_cons] at hf
   obtain ⟨f,rfl⟩:∃ g,f=g+1:=⟨f - 1,by omega⟩
   obtain ⟨x,q2,q3⟩:=term_reads ih M r (opn+1) f hst hM (by omega) (by omega)
   refine ⟨ex 6 e0 e0 0 [x] o.pos,?_,same_ex1 _ _ _ _ _ _ _ _ _ _ hm hn (by simp [all2,q3])⟩
   show Pz.term (f+1) ⟨o :: (M++r),opn,0,0⟩=_
   rw [minus_term f _ _ _ ht]
   unfold prefixed within
   rw [enter_fine _ _ _ _ (by rw [is_of ht.2];decide) (by rw [ht.1];decide) (by omega),q2]
   show (_,S.mk r (opn+1 - 1) 0 0)=_
   rw [show opn+1 - 1=opn by omega]
 | mul mon name n ad cap k pos hm hn h0 h1 hk ih =>
  have hb:(Ex.mk 7 mon name n ad cap [k] pos).bareT=numTk n :: signTk [42] :: k.toks 6:=by rw [Ex.bareT_mk];rfl
  refine bare_of_term rfl (fun L r opn hL=>?_) (by rw [hb];simp) (fun L r opn f hst hL ho hf=>?_)
  ·rw [hb] at hL
   obtain ⟨o,M,rfl,ho,hM⟩:=more_tok hL
   obtain ⟨c,t,hc,hne⟩:=num_first n h0
   exact name_not (not_bang ((text_of2 ho).trans hc) hne)
  ·rw [hb] at hL
   obtain ⟨q,M,rfl,hq,hM⟩:=more_tok hL
   obtain ⟨o,M,rfl,hok,hM⟩:=more_tok hM
   have ht:=tok_of2 hok s_star rfl
   have hqk:q.kind=2:=kind_of2 hq
   have hqn:q.n=n:=n_of2 hq
   rw [nst_one] at ho
   have ho:opn+((1+k.nest 6:Nat):Int)≤64:=ho
   simp only [List.length_cons] at hf
   obtain ⟨f,rfl⟩:∃ g,f=g+1:=⟨f - 1,by omega⟩
   obtain ⟨x,q2,q3⟩:=term_reads ih M r (opn+1) f hst hM (by omega) (by omega)
   refine ⟨ex 7 e0 e0 q.n [x] q.pos,?_,by rw [hqn];exact same_ex1 _ _ _ _ _ _ _ _ _ _ hm hn (by simp [all2,q3])⟩
   show Pz.term (f+1) ⟨q :: o :: (M++r),opn,0,0⟩=_
   rw [mul_term f _ _ _ _ hqk ht]
   unfold prefixed within
   rw [enter_fine _ _ _ _ (by rw [is_of ht.2];decide) (by rw [ht.1];decide) (by omega),q2]
   show (_,S.mk r (opn+1 - 1) 0 0)=_
   rw [show opn+1 - 1=opn by omega]
 | bin op h8 h17 mon name ad cap a b pos hm hn ha hb iha ihb =>
  refine ⟨?_,fun h6=>absurd (show own op=6 from h6) (by have:=own_bin op h8 h17;omega)⟩
  intro lv L r opn f h1 h2 hL ho hr hf
  have h2:lv≤own op:=h2
  have hr:Acc (own op) r:=hr
  show ∃ f' x,f≤f'+2 * L.length∧exprAt f lv ⟨L++r,opn,0,0⟩=loop f' lv x (own op) ⟨r,opn,0,0⟩∧_
  rw [nst_two] at ho
  rw [bareT_two op h8] at hL
  obtain ⟨L0,R0,rfl,hL0,hR0⟩:=List.map_eq_append_iff.1 hL
  obtain ⟨o,L1,rfl,hok,hL1⟩:=more_tok hR0
  obtain ⟨p1,p2,p3,p4,p5,p6,p7⟩:=bin_oper op h8 h17 o hok
  simp only [List.length_append,List.length_cons] at hf ⊢
  have hg0:=ownP_ge (sgnOf op).2.2.1 p5 a.opOf
  have hg1:=ownP_ge (sgnOf op).2.2.2 p6 b.opOf
  obtain ⟨f1,x0,q1,q2,q3⟩:=at_reads iha (sgnOf op).2.2.1 lv h1 (by omega) L0 (o :: (L1++r)) opn f hL0 (by omega) ⟨.inr (by show (operOf o).own≤_;rw [p1];show own op≤_;omega),p7⟩ (by omega)
  obtain ⟨g,rfl⟩:∃ g,f1=g+1:=⟨f1 - 1,by omega⟩
  obtain ⟨f2,x1,r1,r2,r3⟩:=at_reads ihb (sgnOf op).2.2.2 (sgnOf op).2.2.2 (by omega) (Nat.le_refl _) L1 r opn g hL1 (by omega) ⟨hr.1.imp id (fun h=>by omega),hr.2⟩ (by omega)
  rw [loop_end _ _ _ _ _ _ (hr.1.imp id (fun h=>by omega))] at r2
  refine ⟨g,ex op e0 e0 0 [x0,x1] (exPos x0),by omega,?_,same_ex1 _ _ _ _ _ _ _ _ _ _ hm hn (by simp [all2,q3,r3])⟩
  rw [List.append_assoc]
  show exprAt f lv ⟨L0++(o :: (L1++r)),opn,0,0⟩=_
  have hp:(S.mk (o :: (L1++r)) opn 0 0).pass=⟨L1++r,opn,0,0⟩:=pass_fine _ _ _ (by rw [p2];decide)
  have hh:operOf (S.mk (o :: (L1++r)) opn 0 0).hd=⟨op,own op,(sgnOf op).2.2.1,(sgnOf op).2.2.2⟩:=p1
  rw [q2,loop,hh,if_neg (by show ¬ (op=0 ∨ own op < lv ∨ _ < (sgnOf op).2.2.1);omega),hp]
  show loop g lv (ex op e0 e0 0 [x0,(exprAt g (sgnOf op).2.2.2 ⟨L1++r,opn,0,0⟩).1] (exPos x0)) (own op) (exprAt g (sgnOf op).2.2.2 ⟨L1++r,opn,0,0⟩).2=_
  rw [r2]
end Pz
end Go.Proofs.YtaekbgljbgmchaaGreatDoor
