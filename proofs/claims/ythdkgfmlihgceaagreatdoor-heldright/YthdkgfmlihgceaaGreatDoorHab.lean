import Derived.Test.YthdkgfmlihgceaaGreatDoorHaa
import Derived.RowKit3
namespace Go.Proofs.YthdkgfmlihgceaaGreatDoor
set_option maxRecDepth 100000
set_option maxHeartbeats 1000000
open Go.RowKit
theorem _root_.Go.RowKit.Below.al {nz:Nat}{A B:World}(h:Below nz A B) (hA:nz<=A.heap.size) (o:Obj):Below nz A (B.alloc o):=h.alloc (by have:=h.size;omega) o
theorem _root_.Go.RowKit.Below.tr {nz:Nat}{A B C:World}(h:Below nz A B) (hA:nz<=A.heap.size) (h2:Below B.heap.size B C):Below nz A C:=h.trans (h2.mono (by have:=h.size;omega))
theorem qaa {n:Nat}:n<=n:=Nat.le_refl n
inductive Ex where
 | mk (op:Int) (mon name:ByteArray) (n:Int) (ad:Option Addr) (cap:Nat) (kids:List Ex) (pos:Int)
def Ex.cells:Ex->List Value
 | .mk op mon name n ad cap kids pos=>[.int .i64 op,.string mon,.string name,.int .i64 n,.slice ad kids.length cap,.int .i64 pos]
def Ex.val (e:Ex):Value:=.agg e.cells.toArray
def Ex.kids:Ex->List Ex
 | .mk _ _ _ _ _ _ kids _=>kids
def RowAt {α:Type}(size:Nat) (cells:α->List Value) (W:World) (b off:Nat) (l:List α):Prop:=∀(j:Nat) (h:j<l.length) (i:Nat),i<size->W.cell? ⟨b,off+j*size+i,none⟩=(cells l[j])[i]?
def SlAt {α:Type}(size:Nat) (cells:α->List Value) (nz:Nat) (W:World) (ad:Option Addr) (cap:Nat) (l:List α):Prop:=
 l.length<=cap/\cap<=maxLen/\(l=[]\/∃b off,ad=some ⟨b,off,none⟩/\b<nz/\RowAt size cells W b off l)
theorem RowAt.below {α:Type}{size:Nat}{cells:α->List Value}{nz:Nat}{W W':World}{b off:Nat}{l:List α}(h:RowAt size cells W b off l) (hb:Below nz W W') (hlt:b<nz):RowAt size cells W' b off l:=
 λj hj i hi=>(hb.cell (p:=⟨b,_,none⟩) hlt).trans (h j hj i hi)
theorem SlAt.below {α:Type}{size:Nat}{cells:α->List Value}{nz:Nat}{W W':World}{ad:Option Addr}{cap:Nat}{l:List α}(h:SlAt size cells nz W ad cap l) (hb:Below nz W W'):SlAt size cells nz W' ad cap l:=by
 obtain⟨h1,h2,h3⟩:=h
 refine⟨h1,h2,?_⟩
 rcases h3 with h3|⟨b,off,h4,h5,h6⟩
 ·exact .inl h3
 ·exact .inr ⟨b,off,h4,h5,h6.below hb h5⟩
theorem SlAt.mono {α:Type}{size:Nat}{cells:α->List Value}{nz n₁:Nat}{W:World}{ad:Option Addr}{cap:Nat}{l:List α}(h:SlAt size cells nz W ad cap l) (hn:nz<=n₁):SlAt size cells n₁ W ad cap l:=by
 obtain⟨h1,h2,h3⟩:=h
 refine⟨h1,h2,?_⟩
 rcases h3 with h3|⟨b,off,h4,h5,h6⟩
 ·exact .inl h3
 ·exact .inr ⟨b,off,h4,by omega,h6⟩
def I64 (n:Int):Prop:=-9223372036854775808<=n/\n<=9223372036854775807
def Len (s:ByteArray):Prop:=s.size<=140737488351232
def Ex.Is (nz:Nat) (W:World):Ex->Prop
 | .mk op mon name n ad cap kids pos=>(I64 op/\I64 n/\I64 pos/\Len mon/\Len name)/\SlAt 6 Ex.cells nz W ad cap kids/\∀x,(h:x∈kids)->Ex.Is nz W x
theorem Ex.ind {P:Ex->Prop}(h:∀op mon name n ad cap kids pos,(∀x∈kids,P x)->P (.mk op mon name n ad cap kids pos)):∀e,P e
 | .mk op mon name n ad cap kids pos=>h op mon name n ad cap kids pos (λx _=>Ex.ind h x)
theorem Ex.Is.below {nz:Nat}{W W':World}(hb:Below nz W W'):∀ {e:Ex},e.Is nz W->e.Is nz W':=by
 intro e
 induction e using Ex.ind with
 | h op mon name n ad cap kids pos ih =>
  intro h
  rw[Ex.Is] at h ⊢
  exact⟨h.1,h.2.1.below hb,λx hx=>ih x hx (h.2.2 x hx)⟩
theorem Ex.Is.mono {nz n₁:Nat}{W:World}(hn:nz<=n₁):∀ {e:Ex},e.Is nz W->e.Is n₁ W:=by
 intro e
 induction e using Ex.ind with
 | h op mon name n ad cap kids pos ih =>
  intro h
  rw[Ex.Is] at h ⊢
  exact⟨h.1,h.2.1.mono hn,λx hx=>ih x hx (h.2.2 x hx)⟩
theorem Ex.Is.down {nz:Nat}{W:World}{op:Int}{mon name:ByteArray}{n:Int}{ad:Option Addr}{cap:Nat}{kids:List Ex}{pos:Int}(h:(Ex.mk op mon name n ad cap kids pos).Is nz W) :
  (I64 op/\I64 n/\I64 pos/\Len mon/\Len name)/\SlAt 6 Ex.cells nz W ad cap kids/\∀x∈kids,x.Is nz W:=by rw[Ex.Is] at h;exact h
theorem Ex.Is.up {nz:Nat}{W:World}{op:Int}{mon name:ByteArray}{n:Int}{ad:Option Addr}{cap:Nat}{kids:List Ex}{pos:Int}
  (h:(I64 op/\I64 n/\I64 pos/\Len mon/\Len name)/\SlAt 6 Ex.cells nz W ad cap kids/\∀x∈kids,x.Is nz W):(Ex.mk op mon name n ad cap kids pos).Is nz W:=by rw[Ex.Is];exact h
def all2 {α:Type}(f:α->α->Bool):List α->List α->Bool
 | [],[]=>true
 | a::xs,b::ys=>f a b&&all2 f xs ys
 | _,_=>false
theorem qv5 {α:Type}(f:α->α->Bool) (xs ys:List α) (h:xs.length≠ys.length):all2 f xs ys=false:=by
 induction xs generalizing ys with
 | nil=>cases ys with
  | nil=>exact absurd rfl h
  | cons b ys=>rfl
 | cons a xs ih=>cases ys with
  | nil=>rfl
  | cons b ys=>rw[all2,ih ys (by simpa using h),Bool.and_false]
theorem qr9 {α:Type}(f:α->α->Bool) (xs ys:List α) (k:Nat) (ha:k<xs.length) (hb:k<ys.length):all2 f (xs.take (k+1)) (ys.take (k+1))=(all2 f (xs.take k) (ys.take k)&&f xs[k] ys[k]):=by
 induction xs generalizing ys k with
 | nil=>simp at ha
 | cons a xs ih=>cases ys with
  | nil=>simp at hb
  | cons b ys=>cases k with
   | zero=>simp[all2]
   | succ k=>simp only[List.take_succ_cons,all2,List.getElem_cons_succ];rw[ih ys k (by simpa using ha) (by simpa using hb),Bool.and_assoc]
theorem qv4 {α:Type}(f:α->α->Bool) (xs ys:List α) (k:Nat) (ha:k<xs.length) (hb:k<ys.length) (hf:f xs[k] ys[k]=false):all2 f xs ys=false:=by
 induction xs generalizing ys k with
 | nil=>simp at ha
 | cons a xs ih=>cases ys with
  | nil=>simp at hb
  | cons b ys=>cases k with
   | zero=>simp at hf;simp[all2,hf]
   | succ k=>rw[all2,ih ys k (by simpa using ha) (by simpa using hb) (by simpa using hf),Bool.and_false]
mutual
def Ex.same:Ex->Ex->Bool
 | .mk op mon name n _ _ kids _,.mk op' ai' name' n' _ _ am' _=>(op==op')&&(mon.toList==ai'.toList)&&(name.toList==name'.toList)&&(n==n')&&Ex.sameL kids am'
def Ex.sameL:List Ex->List Ex->Bool
 | [],[]=>true
 | a::xs,b::ys=>a.same b&&Ex.sameL xs ys
 | _,_=>false
end
theorem Ex.sameL_eq (xs ys:List Ex):Ex.sameL xs ys=all2 Ex.same xs ys:=by
 induction xs generalizing ys with
 | nil=>cases ys <;> simp[Ex.sameL,all2]
 | cons a xs ih=>cases ys with
  | nil=>simp[Ex.sameL,all2]
  | cons b ys=>simp[Ex.sameL,all2,ih]
mutual
def Ex.subs:Ex->List Ex
 | .mk op mon name n ad cap kids pos=>.mk op mon name n ad cap kids pos::Ex.subsL kids
def Ex.subsL:List Ex->List Ex
 | []=>[]
 | e::es=>e.subs++Ex.subsL es
end
theorem Ex.subsL_eq (l:List Ex):Ex.subsL l=l.flatMap Ex.subs:=by
 induction l with
 | nil=>simp[Ex.subsL]
 | cons a l ih=>simp[Ex.subsL,ih]
theorem Ex.subsL_snoc (l:List Ex) (k:Nat) (h:k<l.length):Ex.subsL (l.take (k+1))=Ex.subsL (l.take k)++l[k].subs:=by
 rw[Ex.subsL_eq,Ex.subsL_eq,List.take_succ_eq_append_getElem h,List.flatMap_append,List.flatMap_cons,List.flatMap_nil,List.append_nil]
theorem Ex.subs_mk (op:Int) (mon name:ByteArray) (n:Int) (ad:Option Addr) (cap:Nat) (kids:List Ex) (pos:Int):(Ex.mk op mon name n ad cap kids pos).subs=.mk op mon name n ad cap kids pos::Ex.subsL kids:=by rw[Ex.subs]
open Go.RowKit
theorem qkt {α:Type}{cells:α->List Value}{W:World}{b off:Nat}{l:List α}(h:RowAt 6 cells W b off l) (k:Nat) (hk:k<l.length) {c0 c1 c2 c3 c4 c5:Value}(hc:cells l[k]=[c0,c1,c2,c3,c4,c5]) :
  W.cell? ⟨b,off+k*6,none⟩=some c0/\W.cell? ⟨b,off+k*6+1,none⟩=some c1/\W.cell? ⟨b,off+k*6+2,none⟩=some c2/\W.cell? ⟨b,off+k*6+3,none⟩=some c3/\W.cell? ⟨b,off+k*6+4,none⟩=some c4/\W.cell? ⟨b,off+k*6+5,none⟩=some c5:=by
 have h':=h k hk
 rw[hc] at h'
 exact⟨h' 0 (by omega),h' 1 (by omega),h' 2 (by omega),h' 3 (by omega),h' 4 (by omega),h' 5 (by omega)⟩
theorem qC5 (f:Ex->Ex->Bool) (nz:Nat) (xs ys:List Ex) (ad ad':Option Addr) (cap cap':Nat) (w:World) (hn:nz<=w.heap.size) (ha:SlAt 6 Ex.cells nz w ad cap xs) (hb:SlAt 6 Ex.cells nz w ad' cap' ys)
  (heq:∀(k:Nat) (h1:k<xs.length) (h2:k<ys.length) W,Below nz w W->Calls Tryz.prog 142 #[xs[k].val,ys[k].val] W λe W'=>e=.returned (.bool (f xs[k] ys[k]))/\Below W.heap.size W W') :
  Calls Tryz.prog 146 #[.slice ad xs.length cap,.slice ad' ys.length cap',.func (.func 142) #[] #[]] w λe w'=>e=.returned (.bool (all2 f xs ys))/\Below w.heap.size w w':=by
 have hl1:=ha.1;have hl2:=ha.2.1;have hl3:=hb.1;have hl4:=hb.2.1
 unfold maxLen at hl2 hl4
 by_cases hlen:xs.length=ys.length
 ·have hlb:((xs.length:Int) != (ys.length:Int))=false:=by rw[bne_eq_false_iff_eq];omega
  have HLEN:=hid hlen
  clear hlen
  go_enter Tryz.func146,Tryz.ntmps146
  go_wp2
  go_loopw [17] (λi wr=>∃k:Nat,k<=xs.length/\i=.int .i64 k/\Hid (all2 f (xs.take k) (ys.take k)=true)/\Below w.heap.size w wr) (λi _=>xs.length-(intOf i).toNat)
  case atStart=>exact⟨0,by omega,rfl,rfl,Below.refl _ _⟩
  case round =>
   obtain⟨k,hk,rfl,HA,hbw⟩:=hrel
   by_cases hlt:k<xs.length
   ·have hlt':k<ys.length:=by have:=HLEN.out;omega
    rcases ha.2.2 with h|⟨b,off,rfl,hbn,hrow⟩
    ·subst h;simp at hlt
    rcases hb.2.2 with h|⟨b',off',rfl,az',hrow'⟩
    ·subst h;simp at hlt'
    have hbn1:b<wr.heap.size:=by have:=hbw.size;omega
    have hbn2:b'<wr.heap.size:=by have:=hbw.size;omega
    have hq:=heq k hlt hlt'
    have HS:=hid (qr9 f xs ys k hlt hlt')
    have HC:=hid (qv4 f xs ys k hlt hlt')
    have hr:=hrow.below (hbw.mono hn) hbn
    have hr':=hrow'.below (hbw.mono hn) az'
    rcases he:xs[k] with ⟨op,mon,name,n,ad,cp,kids,pos⟩
    rcases he':ys[k] with ⟨op',ai',name',n',ad',cp',am',pos'⟩
    obtain⟨c0,c1,c2,c3,c4,c5⟩:=qkt hr k hlt (by rw[he];rfl)
    obtain⟨d0,d1,d2,d3,d4,d5⟩:=qkt hr' k hlt' (by rw[he'];rfl)
    simp only[he,he',Ex.val,Ex.cells] at hq
    have HF:=hid he
    have HF':=hid he'
    clear he he'
    cases hf:f xs[k] ys[k]
    ·have hf2:=hf
     rw[HF.out,HF'.out] at hf2
     rw[hf2] at hq
     go_wp2_with (go_at_call 142;refine (hq _ (((hbw.mono hn).al hn _).al hn _)).mono ?_;rintro e w1 ⟨rfl,hb1⟩)
     go_ret
     exact⟨qai (HC.out hf).symm,((hbw.al qaa _).al qaa _).tr qaa hb1⟩
    ·have hf2:=hf
     rw[HF.out,HF'.out] at hf2
     rw[hf2] at hq
     go_wp2_with (go_at_call 142;refine (hq _ (((hbw.mono hn).al hn _).al hn _)).mono ?_;rintro e w1 ⟨rfl,hb1⟩)
     go_roundw
     case rel=>exact⟨k+1,by omega,by go_num,by rw[HS.out,HA.out,hf];rfl,((hbw.al qaa _).al qaa _).tr qaa hb1⟩
     case measure=>simp[intOf];omega
   ·have hk':k=xs.length:=by omega
    go_wp2
    go_ret
    refine⟨qai ?_,hbw⟩
    have:=HA.out
    rw[hk',List.take_length,HLEN.out,List.take_length] at this
    exact this.symm
 ·have hlb:((xs.length:Int) != (ys.length:Int))=true:=by rw[bne_iff_ne];omega
  have HL:=hid (qv5 f xs ys hlen)
  go_enter Tryz.func146,Tryz.ntmps146
  go_wp2
  go_ret
  exact⟨qai HL.out.symm,Below.refl _ _⟩
theorem qAv (op op':Int) (mon name ai' name':ByteArray) (n n':Int) (ad ad':Option Addr) (cap cap':Nat) (kids am':List Ex) (pos pos':Int) :
  (Ex.mk op mon name n ad cap kids pos).same (Ex.mk op' ai' name' n' ad' cap' am' pos')=((op==op')&&(mon.toList==ai'.toList)&&(name.toList==name'.toList)&&(n==n')&&all2 Ex.same kids am'):=by
 rw[Ex.same,Ex.sameL_eq]
theorem qmc (nz:Nat) (a:Ex):∀(b:Ex) (w:World),nz<=w.heap.size->a.Is nz w->b.Is nz w ->
  Calls Tryz.prog 142 #[a.val,b.val] w λe w'=>e=.returned (.bool (a.same b))/\Below w.heap.size w w':=by
 induction a using Ex.ind with
 | h op mon name n ad cap kids pos ih =>
  rintro⟨op',ai',name',n',ad',cap',am',pos'⟩ w hn ha hb
  have hS:=qAv op op' mon name ai' name' n n' ad ad' cap cap' kids am' pos pos'
  have HS:=hid hS
  clear hS
  simp only[Ex.val,Ex.cells]
  cases h1:(op==op')
  ·go_enter Tryz.func142,Tryz.ntmps142
   go_wp2
   go_ret
   exact⟨qai (by rw[HS.out,h1];rfl),((Below.refl _ _).al qaa _).al qaa _⟩
  cases h2:(mon.toList==ai'.toList)
  ·go_enter Tryz.func142,Tryz.ntmps142
   go_wp2
   go_ret
   exact⟨qai (by rw[HS.out,h1,h2];rfl),((Below.refl _ _).al qaa _).al qaa _⟩
  cases h3:(name.toList==name'.toList)
  ·go_enter Tryz.func142,Tryz.ntmps142
   go_wp2
   go_ret
   exact⟨qai (by rw[HS.out,h1,h2,h3];rfl),((Below.refl _ _).al qaa _).al qaa _⟩
  cases h4:(n==n')
  ·go_enter Tryz.func142,Tryz.ntmps142
   go_wp2
   go_ret
   exact⟨qai (by rw[HS.out,h1,h2,h3,h4];rfl),((Below.refl _ _).al qaa _).al qaa _⟩
  have hcall:∀W,Below nz w W->Calls Tryz.prog 146 #[.slice ad kids.length cap,.slice ad' am'.length cap',.func (.func 142) #[] #[]] W λe w'=>e=.returned (.bool (all2 Ex.same kids am'))/\Below W.heap.size W w':=λW hW =>
   qC5 Ex.same nz kids am' ad ad' cap cap' W (by have:=hW.size;omega) (ha.down.2.1.below hW) (hb.down.2.1.below hW)
    (λk k1 k2 W' hW'=>ih kids[k] (List.getElem_mem k1) am'[k] W' (by have:=hW.size;have:=hW'.size;omega) ((ha.down.2.2 _ (List.getElem_mem k1)).below (hW.trans hW')) ((hb.down.2.2 _ (List.getElem_mem k2)).below (hW.trans hW')))
  clear ha hb ih
  go_enter Tryz.func142,Tryz.ntmps142
  go_wp2_with (go_at_call 146;refine (hcall _ (((Below.refl nz w).al hn _).al hn _)).mono ?_;rintro e w1 ⟨rfl,hb1⟩)
  go_ret
  exact⟨qai (by rw[HS.out,h1,h2,h3,h4];rfl),(((Below.refl _ _).al qaa _).al qaa _).tr qaa hb1⟩
