import Derived.Test.YthdkgfmlihgceaaGreatDoorHab
import Derived.RangeFuncNested
import Derived.RangeFuncBound
import Derived.RangeFuncCalls
import Derived.RangeFuncLeaves
import Derived.Shelf.Abstract
import Derived.Shelf.RegionOpen
import Derived.OwnWalkIn
import Derived.TacticsInMore
import Derived.LoopNIn
import Derived.LoopIn
namespace Go.Proofs.YthdkgfmlihgceaaGreatDoor
set_option maxRecDepth 100000
set_option maxHeartbeats 2000000
open Go.RowKit Go.Shelf
attribute [local go_sem] Oper.semAt_some
theorem ql9 {F:Fence}(hd:F.depth=none) (k:Nat):F.room k:=λd h=>by rw[hd] at h;cases h
theorem qg0 {F:Fence}(hd:F.depth=none) {m m':Nat}{P:Program}{l:Nat}{f:FuncId}{tmps:Array Value}{assign body:Code}{w:World}{R:Ending->World->Prop}
  (h:RoundIn F m P l f tmps assign body w R):RoundIn F m' P l f tmps assign body w R:=⟨h.1,λc cs _=>h.2 c cs (ql9 hd _)⟩
theorem qeh {F:Fence}(hd:F.depth=none) {m:Nat}(m':Nat) {P:Program}{l:Nat}{args:Array Value}{W:World}{R:Ending->World->Prop}(h:YieldAt F m P l args W R):YieldAt F m' P l args W R:=by
 obtain⟨fn,tmps,assign,body,hy,hR⟩:=h
 exact⟨fn,tmps,assign,body,hy,qg0 hd hR⟩
def Kp (nz B:Nat) (W W':World):Prop:=Below nz W W'/\∀k c t z,B<=k->t≠9->W.heap[k]?=some (.cells c t z)->W'.heap[k]?=some (.cells c t z)
theorem Kp.t {nz B:Nat}{W1 W2 W3:World}(h:Kp nz B W1 W2) (k:Kp nz B W2 W3):Kp nz B W1 W3:=⟨h.1.trans k.1,λj c t z hj ht hc=>k.2 j c t z hj ht (h.2 j c t z hj ht hc)⟩
theorem Kp.b {nz B:Nat}{w:World}(hn:nz<=w.heap.size) (W:World) (l:Nat) (o o':Obj) (hl:w.heap.size<=l) (h:W.heap[l]?=some o) (hc:o.isCells=false) (hw:o.isWalk=false):Kp nz B W (W.putObj l o'):=
 ⟨belowK_b hn W l o o' hl h hc hw,λk _ _ _ _ _ hk=>by
  have hne:k≠l:=by rintro rfl;rw[h] at hk;cases hk;cases hc
  exact (World.putObj_heap_other (λe=>hne (by rw[e]))).trans hk⟩
theorem Kp.of {nz B:Nat}{W W':World}(hn:nz<=W.heap.size) (h:Below W.heap.size W W'):Kp nz B W W':=
 ⟨h.mono hn,λk _ _ _ _ _ hk=>(h.block k (Array.getElem?_eq_some_iff.1 hk).1).trans hk⟩
theorem Kp.refl (nz B:Nat) (W:World):Kp nz B W W:=⟨Below.refl _ _,λ_ _ _ _ _ _ h=>h⟩
theorem Kp.alloc {nz B:Nat}{W:World}(hn:nz<=W.heap.size) (o:Obj):Kp nz B W (W.alloc o):=Kp.of hn ((Below.refl _ _).al qaa _)
abbrev ExA (nz:Nat) (w:World):={ x:Ex // x.Is nz w }
theorem cell_of {W:World}{B:Nat}{c:Array Value}{t:TypeId}{z:Nat × Nat}(h:W.heap[B]?=some (.cells c t z)) (i:Nat):W.cell? ⟨B,i,none⟩=c[i]?:=by
 simp[World.cell?,h]
theorem qu8 (l:List Ex) (k:Nat):(Ex.subsL (l.take k)).length<=(Ex.subsL l).length:=by
 conv=>rhs;rw[<- List.take_append_drop k l,Ex.subsL_eq,List.flatMap_append]
 rw[Ex.subsL_eq];simp
theorem qmh (l:List Ex) (k:Nat):Ex.subsL (l.take k) <+: Ex.subsL l:=by
 refine⟨Ex.subsL (l.drop k),?_⟩
 rw[Ex.subsL_eq,Ex.subsL_eq,Ex.subsL_eq,<- List.flatMap_append,List.take_append_drop]
theorem qn4 (F:Fence) (hd:F.depth=none) (h144:F.fn 144) (hro:F.round=none) (l nz B N:Nat) (w:World) (hn₀:nz<=w.heap.size) (hBw:B<=w.heap.size) (J Jx:List (ExA nz w)->World->Prop)
  (hJA:∀pre W o,J pre W->J pre (W.alloc o))
  (hY:∀m pre (x:ExA nz w) W,J pre W->pre.length<N->YieldAt F m Tryz.prog l #[x.1.val] W λe W' =>
   (e=.returned (.bool true)/\J (pre++[x]) W'/\Kp nz B W W')\/(e=.returned (.bool false)/\Jx (pre++[x]) W')) (T:Ex) :
  ∀(n:Nat) (pre:List (ExA nz w)) (W:World),T.Is nz w->Below nz w W->J pre W->pre.length+T.subs.length<=N ->
   CallsIn F n Tryz.prog 144 #[T.val,.func (.yield l) #[] #[]] W λe W' =>
    (e=.returned (.bool true)/\∃q,q.map Subtype.val=T.subs/\J (pre++q) W'/\Kp nz B W W')\/(e=.returned (.bool false)/\∃q,q.map Subtype.val <+: T.subs/\Jx (pre++q) W'):=by
 induction T using Ex.ind with
 | h op mon name k ad cap kids pos ih =>
  intro n pre W hT hB hJ hN
  have hT':=hT.down
  have hdd:∀k:Nat,(F.depth.isSome=true->1<=k):=λk h=>by rw[hd] at h;cases h
  have hlW:=hB.size
  have hl1:=hT'.2.1.1;have hl2:=hT'.2.1.2.1
  unfold maxLen at hl2
  rw[Ex.subs_mk] at hN
  simp only[List.length_cons] at hN
  have HSU:=hid (Ex.subs_mk op mon name k ad cap kids pos)
  have hy0:=hY (n-1) pre ⟨_,hT⟩ (W.alloc (.cells #[.int .i64 op,.string mon,.string name,.int .i64 k,.slice ad kids.length cap,.int .i64 pos] 48)) (hJA _ _ _ hJ) (by omega)
  have hy0:=YieldAt.mono hy0 (R':=λe W'=>(e=.returned (.bool true)/\J (pre++[⟨_,hT⟩]) W'/\Kp nz B W W'/\W'.cell? ⟨W.heap.size,4,none⟩=some (.slice ad kids.length cap))\/(e=.returned (.bool false)/\Jx (pre++[⟨_,hT⟩]) W')) λe W' h=>h.elim
   (λ⟨he,hj,hk⟩=>.inl ⟨he,hj,(Kp.alloc (by omega) _).t hk,by rw[cell_of (hk.2 _ _ _ _ (by omega) (by decide) (World.alloc_heap_new W _))];rfl⟩) .inr
  simp only[Ex.val,Ex.cells] at hy0 ⊢
  obtain⟨fn,tmps,assign,body,hy,hR⟩:=hy0
  clear hY
  refine callsIn_of_wp Tryz.func144 rfl h144 ?_ hro
  simp only[Tryz.ntmps144,List.size_toArray,List.length_cons,List.length_nil,Nat.reduceAdd,Nat.reduceSub,Array.replicate_succ,Array.replicate_zero,List.push_toArray,List.append_toArray,List.nil_append,List.cons_append]
  gi_wp2_with (first
   | ((try refine⟨hdd _,?_⟩);refine hR.mono ?_;clear hR;rintro e W1 (⟨rfl,hJ1,hk1,hc1⟩|⟨rfl,hx1⟩)))
  ·gi_loopw [14] (λi wr=>∃(j:Nat) (q:List (ExA nz w)),j<=kids.length/\i=.int .i64 j/\Hid (q.map Subtype.val=(Ex.mk op mon name k ad cap kids pos)::Ex.subsL (kids.take j))/\J (pre++q) wr/\Kp nz B W wr)
    (λi _=>kids.length-(intOf i).toNat)
   case atStart=>exact⟨0,[⟨_,hT⟩],by omega,rfl,by simp[Hid,Ex.subsL],hJ1,hk1⟩
   case round =>
    obtain⟨j,q,hj,rfl,HQ,hJj,hkj⟩:=hrel
    by_cases hlt:j<kids.length
    ·rcases hT'.2.1.2.2 with h|⟨b,off,rfl,hbn,hrow⟩
     ·subst h;simp at hlt
     have hB2:=hB.trans hkj.1
     have hr:=hrow.below hB2 hbn
     have hbr:b<wr.heap.size:=by have:=hB2.size;omega
     have hI:=hT'.2.2 _ (List.getElem_mem hlt)
     have HSN:=hid (Ex.subsL_snoc kids j hlt)
     have hlen:q.length=(Ex.subsL (kids.take j)).length+1:=by have:=congrArg List.length HQ.out;simpa using this
     have hcnt:=qu8 kids (j+1)
     rw[HSN.out,List.length_append] at hcnt
     have hq:=ih _ (List.getElem_mem hlt) (n-1) (pre++q) (wr.alloc (.cells (kids[j]).cells.toArray 48)) hI (hB2.al hn₀ _) (hJA _ _ _ hJj) (by rw[List.length_append];omega)
     have hq:=hq.mono (R':=λe W'=>(e=.returned (.bool true)/\(∃q,Hid (q.map Subtype.val=(Ex.mk op mon name k (some ⟨b,off,none⟩) cap kids pos)::Ex.subsL (kids.take (j+1)))/\J (pre++q) W'/\Kp nz B W W'))\/(e=.returned (.bool false)/\∃q,q.map Subtype.val <+: (Ex.mk op mon name k (some ⟨b,off,none⟩) cap kids pos).subs/\Jx (pre++q) W')) (by
      rintro e W' (⟨rfl,q2,hq2,hJ2,hk2⟩|⟨rfl,q2,hq2,hx2⟩)
      ·refine .inl ⟨rfl,q++q2,?_,by rw[<- List.append_assoc];exact hJ2,hkj.t ((Kp.alloc (by have:=hB2.size;omega) _).t hk2)⟩
       show _=_
       rw[List.map_append,HQ.out,hq2,HSN.out];rfl
      ·refine .inr ⟨rfl,q++q2,?_,by rw[<- List.append_assoc];exact hx2⟩
       rw[List.map_append,HQ.out,HSU.out,List.cons_append]
       refine List.prefix_cons_inj _ |>.2 ?_
       refine List.IsPrefix.trans (List.prefix_append_right_inj _ |>.2 hq2) ?_
       rw[<- HSN.out]
       exact qmh kids (j+1))
     clear ih
     rcases he:kids[j] with ⟨op',ai',name',n',ad',cp',am',pos'⟩
     obtain⟨c0,c1,c2,c3,c4,c5⟩:=qkt hr j hlt (by rw[he];rfl)
     simp only[he,Ex.val,Ex.cells] at hq
     have HF:=hid he
     clear he
     gi_wp2_with ((try refine⟨hdd _,?_⟩);gi_at_call 144;refine hq.mono ?_;clear hq;rintro e W2 (⟨rfl,q2,hq2,hJ2,hk2⟩|⟨rfl,q2,hq2,hx2⟩))
     ·go_roundw
      case rel=>exact⟨j+1,q2,by omega,by go_num,hq2,hJ2,hk2⟩
      case measure=>simp[intOf];omega
     ·go_ret
      exact .inr ⟨rfl,q2,hq2,hx2⟩
    ·have hj':j=kids.length:=by omega
     gi_wp2
     go_ret
     refine .inl ⟨rfl,q,?_,hJj,hkj⟩
     rw[HQ.out,HSU.out,hj',List.take_length]
  ·go_ret
   exact .inr ⟨rfl,[⟨_,hT⟩],by rw[HSU.out];simp,hx1⟩
open Go.RowKit Go.Shelf
attribute [local go_sem] Oper.semAt_some
def ExBox (W:World) (b:Nat) (e:Ex):Prop:=W.heap[b]?=some (.cells e.cells.toArray 48 (0,0))
theorem ExBox.cells {W:World}{b:Nat}{op:Int}{mon name:ByteArray}{n:Int}{ad:Option Addr}{cap:Nat}{kids:List Ex}{pos:Int}(h:ExBox W b (.mk op mon name n ad cap kids pos)) :
  W.cell? ⟨b,0,none⟩=some (.int .i64 op)/\W.cell? ⟨b,1,none⟩=some (.string mon)/\W.cell? ⟨b,2,none⟩=some (.string name)/\W.cell? ⟨b,3,none⟩=some (.int .i64 n)/\W.cell? ⟨b,4,none⟩=some (.slice ad kids.length cap)/\W.cell? ⟨b,5,none⟩=some (.int .i64 pos):=by
 have h':W.heap[b]?=some (.cells #[.int .i64 op,.string mon,.string name,.int .i64 n,.slice ad kids.length cap,.int .i64 pos] 48 (0,0)):=h
 exact⟨cell_of h' 0,cell_of h' 1,cell_of h' 2,cell_of h' 3,cell_of h' 4,cell_of h' 5⟩
theorem ExBox.lt {W:World}{b:Nat}{e:Ex}(h:ExBox W b e):b<W.heap.size:=(Array.getElem?_eq_some_iff.1 h).1
theorem ExBox.below {W W':World}{b n:Nat}{e:Ex}(h:ExBox W b e) (hb:Below n W W') (hlt:b<n):ExBox W' b e:=(hb.block b hlt).trans h
theorem ExBox.new (W:World) (e:Ex):ExBox (W.alloc (.cells e.cells.toArray 48)) W.heap.size e:=World.alloc_heap_new W _
theorem qug (F:Fence) (hd:F.depth=none) (n:Nat) (h143:F.fn 143) (h144:F.fn 144) (hro:F.round=none) (l Bt nz B:Nat) (w:World) (hn₀:nz<=w.heap.size) (hBw:B<=w.heap.size) (T:Ex) (hT:T.Is nz w) (J Jx:List (ExA nz w)->World->Prop)
  (hJA:∀pre W o,J pre W->J pre (W.alloc o))
  (hY:∀pre (x:ExA nz w) W,J pre W->pre.length<T.subs.length->YieldAt F (n-1) Tryz.prog l #[x.1.val] W λe W' =>
   (e=.returned (.bool true)/\J (pre++[x]) W'/\Kp nz B W W')\/(e=.returned (.bool false)/\Jx (pre++[x]) W'))
  (W:World) (hW:Below nz w W) (hBt:ExBox W Bt T) (h0:J [] W) :
  CallsIn F n Tryz.prog 143 #[.func (.yield l) #[] #[],.pointer (some ⟨Bt,0,none⟩)] W λe W'=>(∃v,e=.returned v) /\
   ((∃ys:List (ExA nz w),ys.map Subtype.val=T.subs/\J ys W')\/(∃pre:List (ExA nz w),pre.map Subtype.val <+: T.subs/\Jx pre W')):=by
 have hdd:∀k:Nat,(F.depth.isSome=true->1<=k):=λk h=>by rw[hd] at h;cases h
 have hp:=qn4 F hd h144 hro l nz B T.subs.length w hn₀ hBw J Jx hJA (λm pre x W hj hl=>qeh hd m (hY pre x W hj hl)) T (n-1) [] W hT hW h0 (by simp)
 rcases T with ⟨op,mon,name,k,ad,cap,kids,pos⟩
 obtain⟨c0,c1,c2,c3,c4,c5⟩:=hBt.cells
 have HSU:=hid (Ex.subs_mk op mon name k ad cap kids pos)
 simp only[Ex.val,Ex.cells] at hp
 refine callsIn_of_wp Tryz.func143 rfl h143 ?_ hro
 simp only[Tryz.ntmps143,List.size_toArray,List.length_cons,List.length_nil,Nat.reduceAdd,Nat.reduceSub,Array.replicate_succ,Array.replicate_zero,List.push_toArray,List.append_toArray,List.nil_append,List.cons_append]
 gi_wp2_with ((try refine⟨hdd _,?_⟩);gi_at_call 144;refine hp.mono ?_;clear hp;rintro e W1 (⟨rfl,q,hq,hJ1,_⟩|⟨rfl,q,hq,hx⟩))
 ·go_end0
  exact⟨⟨_,rfl⟩,.inl ⟨_,hq,by simpa using hJ1⟩⟩
 ·go_end0
  exact⟨⟨_,rfl⟩,.inr ⟨q,hq,by simpa using hx⟩⟩
theorem qxt (F:Fence) (n:Nat) (h137:F.fn 137) (hro:F.round=none) (T:Ex) (w:World) :
  CallsIn F n Tryz.prog 137 #[T.val] w λe w'=>e=.returned (.func (.func 143) #[] #[.pointer (some ⟨w.heap.size,0,none⟩)])/\w'=w.alloc (.cells T.cells.toArray 48):=by
 rcases T with ⟨op,mon,name,k,ad,cap,kids,pos⟩
 simp only[Ex.val,Ex.cells]
 refine callsIn_of_wp Tryz.func137 rfl h137 ?_ hro
 simp only[Tryz.ntmps137,List.size_toArray,List.length_cons,List.length_nil,Nat.reduceAdd,Nat.reduceSub,Array.replicate_succ,Array.replicate_zero,List.push_toArray,List.append_toArray,List.nil_append,List.cons_append]
 gi_wp2
 go_ret
 exact⟨rfl,rfl⟩
theorem qn3 (F:Fence) (hd:F.depth=none) (n:Nat) (h143:F.fn 143) (h144:F.fn 144) (hro:F.round=none) (Bt nz B:Nat) (w:World) (hn₀:nz<=w.heap.size) (hBw:B<=w.heap.size) (T:Ex) (hT:T.Is nz w) (hBt:ExBox w Bt T) :
  SeqStopsK F n Tryz.prog 143 #[.pointer (some ⟨Bt,0,none⟩)] (λx:ExA nz w=>#[x.1.val]) (Kp nz B) (λys=>ys.map Subtype.val=T.subs) (λpre=>pre.map Subtype.val <+: T.subs) T.subs.length w:=λl J Jx W hW hJ _ hY h0 =>
 qug F hd n h143 h144 hro l Bt nz B w hn₀ hBw T hT J Jx (λpre W' o hj=>hJ pre W' _ none hj (World.grownBy_alloc W' o none) (λr e=>by cases e)) hY W (hW.mono hn₀) (hBt.below hW hBt.lt) h0
open Go.RowKit
def qcg (k:Nat):Bool:=k==4
def qcv (k:Nat):Bool:=k==1 || k==7
def qda (k:Nat):Nat:=if k<5 then 0 else if k<8 then 1 else 2
def qkm (k:Nat):Bool:=k==2 || (7<=k&&k<=11)
def stName (k:Nat):Bool:=k==2 || k==8
def qcy (k:Nat):Bool:=k==9
def qeq (k:Nat):Bool:=2<=k&&k<=4
def qcr (k:Nat):Nat:=if 3<=k/\k<=7 then 1 else 0
def qdv (k:Nat):Nat:=if k=3 then 2 else if k=6 then 8 else if 4<=k/\k<=7 then 1 else 0
def qv2 (k:Nat):Int:=if k=0\/k=4 then 0 else if k=1\/(6<=k/\k<=9) then 2 else 1
def qcd (k:Nat):Int:=if k<5 then 0 else if k=5\/16<=k then 1 else if k=10\/k=11 then -1 else 2
structure Shapes (W:World):Prop where
 size:6<=W.heap.size
 ru:∀k,k<18->W.cell? ⟨4,k*2,none⟩=some (.int .i64 (qv2 k))/\W.cell? ⟨4,k*2+1,none⟩=some (.int .i64 (qcd k))
 ex:∀k,k<18->W.cell? ⟨5,k*3,none⟩=some (.bool (qcg k))/\W.cell? ⟨5,k*3+1,none⟩=some (.bool (qcv k))/\W.cell? ⟨5,k*3+2,none⟩=some (.int .i64 (qda k:Nat))
 st:∀k,k<12->W.cell? ⟨1,k*6,none⟩=some (.bool (qkm k))/\W.cell? ⟨1,k*6+1,none⟩=some (.bool (stName k))/\W.cell? ⟨1,k*6+2,none⟩=some (.bool (qcy k))/\W.cell? ⟨1,k*6+3,none⟩=some (.bool (qeq k)) /\
  W.cell? ⟨1,k*6+4,none⟩=some (.int .i64 (qcr k:Nat))/\W.cell? ⟨1,k*6+5,none⟩=some (.int .i64 (qdv k:Nat))
theorem Shapes.below {n:Nat}{W W':World}(h:Shapes W) (hb:Below n W W') (hn:6<=n):Shapes W':=by
 refine⟨by have:=h.size;have:=hb.size;omega,λk hk=>?_,λk hk=>?_,λk hk=>?_⟩
 ·obtain⟨h0,h1⟩:=h.ru k hk
  exact⟨(hb.cell (p:=⟨4,_,none⟩) (by show 4<n;omega)).trans h0,(hb.cell (p:=⟨4,_,none⟩) (by show 4<n;omega)).trans h1⟩
 ·obtain⟨h0,h1,h2⟩:=h.ex k hk
  exact⟨(hb.cell (p:=⟨5,_,none⟩) (by show 5<n;omega)).trans h0,(hb.cell (p:=⟨5,_,none⟩) (by show 5<n;omega)).trans h1,(hb.cell (p:=⟨5,_,none⟩) (by show 5<n;omega)).trans h2⟩
 ·obtain⟨h0,h1,h2,h3,h4,h5⟩:=h.st k hk
  exact⟨(hb.cell (p:=⟨1,_,none⟩) (by show 1<n;omega)).trans h0,(hb.cell (p:=⟨1,_,none⟩) (by show 1<n;omega)).trans h1,(hb.cell (p:=⟨1,_,none⟩) (by show 1<n;omega)).trans h2,(hb.cell (p:=⟨1,_,none⟩) (by show 1<n;omega)).trans h3,(hb.cell (p:=⟨1,_,none⟩) (by show 1<n;omega)).trans h4,(hb.cell (p:=⟨1,_,none⟩) (by show 1<n;omega)).trans h5⟩
def qa9 (s:ByteArray) (b:Bool):Bool:=if b then Lx.name s else decide (s.size=0)
def qby (n:Int) (b:Bool):Bool:=(n==0) || (b&&decide (0<n))
theorem qll (s:ByteArray):s.toList.isEmpty=decide (s.size=0):=by
 rw[Bool.eq_iff_iff,decide_eq_true_iff,ByteArray.toList_eq,List.isEmpty_iff]
 constructor
 ·intro h
  have:=congrArg List.length h
  simpa using this
 ·intro h
  apply List.eq_nil_of_length_eq_zero
  simpa using h
theorem qaz (s:ByteArray) (b:Bool) (w:World) (hs:Len s) :
  Calls Tryz.prog 121 #[.string s,.bool b] w λe w'=>e=.returned (.bool (qa9 s b))/\w'=w:=by
 cases b
 ·go_enter Tryz.func121,Tryz.ntmps121
  go_wp2
  go_ret
  exact⟨qai (qll s),rfl⟩
 ·go_enter Tryz.func121,Tryz.ntmps121
  go_wp2_with (go_at_call 132;refine (qb2 _ _ hs).mono ?_;rintro e w' ⟨rfl,rfl⟩)
  go_ret
  exact⟨rfl,rfl⟩
theorem qa1 (n:Int) (b:Bool) (w:World) :
  Calls Tryz.prog 122 #[.int .i64 n,.bool b] w λe w'=>e=.returned (.bool (qby n b))/\w'=w:=by
 cases h:(n==0)
 ·cases b
  ·go_enter Tryz.func122,Tryz.ntmps122
   go_wp2
   go_ret
   exact⟨qai (by simp[qby,h]),rfl⟩
  ·by_cases hp:0<n
   ·go_enter Tryz.func122,Tryz.ntmps122
    go_wp2
    go_ret
    exact⟨qai (by simp[qby,h,hp]),rfl⟩
   ·go_enter Tryz.func122,Tryz.ntmps122
    go_wp2
    go_ret
    exact⟨qai (by simp[qby,h,hp]),rfl⟩
 ·go_enter Tryz.func122,Tryz.ntmps122
  go_wp2
  go_ret
  exact⟨qai (by simp[qby,h]),rfl⟩
def Ex.ok1:Ex->Bool
 | .mk op mon name n _ _ kids _=>decide (1<=op)&&decide (op<=17)&&(qa9 mon (qcg op.toNat)&&qa9 name (qcg op.toNat)&&qby n (qcv op.toNat)&&((kids.length:Int)==(qda op.toNat:Int)))
theorem qql (e:Ex) (nz:Nat) (w:World) (hI:e.Is nz w) (hS:Shapes w) :
  Calls Tryz.prog 138 #[e.val] w λr w'=>r=.returned (.bool e.ok1)/\Below w.heap.size w w':=by
 rcases e with ⟨op,mon,name,n,ad,cap,kids,pos⟩
 obtain⟨⟨h1,h2,h3,h4,h5⟩,h6,h7⟩:=hI.down
 unfold I64 at h1 h2 h3
 have hl1:=h6.1;have hl2:=h6.2.1
 unfold maxLen at hl2
 have HR:Hid (Ex.ok1 (.mk op mon name n ad cap kids pos)=(decide (1<=op)&&decide (op<=17)&&(qa9 mon (qcg op.toNat)&&qa9 name (qcg op.toNat)&&qby n (qcv op.toNat)&&((kids.length:Int)==(qda op.toNat:Int))))):=rfl
 clear h6 h7 hI
 simp only[Ex.val,Ex.cells]
 by_cases ho1:1<=op
 ·by_cases ho2:op<=17
  ·obtain⟨k,rfl⟩:∃k:Nat,op=(k:Int):=⟨op.toNat,by omega⟩
   have hk1:1<=k:=by omega
   have hk2:k<18:=by omega
   obtain⟨s0,s1,s2⟩:=hS.ex k hk2
   have hsz:5<w.heap.size:=by have:=hS.size;omega
   have HR2:Hid (Ex.ok1 (.mk (k:Int) mon name n ad cap kids pos)=(qa9 mon (qcg k)&&qa9 name (qcg k)&&qby n (qcv k)&&((kids.length:Int)==(qda k:Int)))):=by
    show _=_
    rw[HR.out,decide_eq_true ho1,decide_eq_true ho2,Int.toNat_natCast,Bool.true_and,Bool.true_and]
   clear HR ho1 ho2
   cases q1:qa9 mon (qcg k)
   ·go_enter Tryz.func138,Tryz.ntmps138
    go_wp2_with (first|(go_at_call 121;refine (qaz _ _ _ ‹_›).mono ?_;rintro e w' ⟨rfl,hw'⟩;have hw2:=hw'.symm;subst hw2)|(go_at_call 122;refine (qa1 _ _ _).mono ?_;rintro e w' ⟨rfl,hw'⟩;have hw2:=hw'.symm;subst hw2))
    go_ret
    exact⟨qai (by rw[HR2.out,q1];rfl),((Below.refl _ _).al qaa _).al qaa _⟩
   cases q2:qa9 name (qcg k)
   ·go_enter Tryz.func138,Tryz.ntmps138
    go_wp2_with (first|(go_at_call 121;refine (qaz _ _ _ ‹_›).mono ?_;rintro e w' ⟨rfl,hw'⟩;have hw2:=hw'.symm;subst hw2)|(go_at_call 122;refine (qa1 _ _ _).mono ?_;rintro e w' ⟨rfl,hw'⟩;have hw2:=hw'.symm;subst hw2))
    go_ret
    exact⟨qai (by rw[HR2.out,q1,q2];rfl),((Below.refl _ _).al qaa _).al qaa _⟩
   cases q3:qby n (qcv k)
   ·go_enter Tryz.func138,Tryz.ntmps138
    go_wp2_with (first|(go_at_call 121;refine (qaz _ _ _ ‹_›).mono ?_;rintro e w' ⟨rfl,hw'⟩;have hw2:=hw'.symm;subst hw2)|(go_at_call 122;refine (qa1 _ _ _).mono ?_;rintro e w' ⟨rfl,hw'⟩;have hw2:=hw'.symm;subst hw2))
    go_ret
    exact⟨qai (by rw[HR2.out,q1,q2,q3];rfl),((Below.refl _ _).al qaa _).al qaa _⟩
   cases q4:((kids.length:Int)==(qda k:Int))
   ·go_enter Tryz.func138,Tryz.ntmps138
    go_wp2_with (first|(go_at_call 121;refine (qaz _ _ _ ‹_›).mono ?_;rintro e w' ⟨rfl,hw'⟩;have hw2:=hw'.symm;subst hw2)|(go_at_call 122;refine (qa1 _ _ _).mono ?_;rintro e w' ⟨rfl,hw'⟩;have hw2:=hw'.symm;subst hw2))
    go_ret
    exact⟨qai (by rw[HR2.out,q1,q2,q3,q4];rfl),((Below.refl _ _).al qaa _).al qaa _⟩
   ·go_enter Tryz.func138,Tryz.ntmps138
    go_wp2_with (first|(go_at_call 121;refine (qaz _ _ _ ‹_›).mono ?_;rintro e w' ⟨rfl,hw'⟩;have hw2:=hw'.symm;subst hw2)|(go_at_call 122;refine (qa1 _ _ _).mono ?_;rintro e w' ⟨rfl,hw'⟩;have hw2:=hw'.symm;subst hw2))
    go_ret
    exact⟨qai (by rw[HR2.out,q1,q2,q3,q4];rfl),((Below.refl _ _).al qaa _).al qaa _⟩
  ·have HF:Hid (Ex.ok1 (.mk op mon name n ad cap kids pos)=false):=by
    show _=_
    rw[HR.out,decide_eq_false ho2,Bool.and_false,Bool.false_and]
   go_enter Tryz.func138,Tryz.ntmps138
   go_wp2
   go_ret
   exact⟨qai HF.out.symm,(Below.refl _ _).al qaa _⟩
 ·have HF:Hid (Ex.ok1 (.mk op mon name n ad cap kids pos)=false):=by
   show _=_
   rw[HR.out,decide_eq_false ho1,Bool.false_and,Bool.false_and]
  go_enter Tryz.func138,Tryz.ntmps138
  go_wp2
  go_ret
  exact⟨qai HF.out.symm,(Below.refl _ _).al qaa _⟩
