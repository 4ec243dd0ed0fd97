/-
  Own texts joined by program: ItA ItB ShA.
-/
import Derived.Test.YtbmbchdjjfmafaaGreatDoorQab
import Derived.RangeFuncNested
import Derived.RangeFuncBound
import Derived.RangeFuncCalls
import Derived.RangeFuncLeaves
import Derived.Shelf.Abstract
import Derived.Shelf.RegionOpen
import Derived.OwnWalkIn
import Derived.TacticsInMore
import Derived.LoopNIn
import Derived.LoopIn
namespace Go.Proofs.YtbmbchdjjfmafaaGreatDoor
open Go.RowKit Go.Shelf
attribute [local go_sem] Oper.semAt_some
theorem room_of_none {F:Fence} (hd:F.depth=none) (k:Nat):F.room k:=fun d h=>by rw[hd] at h;cases h
theorem roundIn_anyDepth {F:Fence} (hd:F.depth=none) {m m':Nat} {P:Program} {l:Nat} {f:FuncId} {tmps:Array Value} {assign body:Code} {w:World} {R:Ending→World→Prop}
  (h:RoundIn F m P l f tmps assign body w R):RoundIn F m' P l f tmps assign body w R:=⟨h.1,fun c cs _=>h.2 c cs (room_of_none hd _)⟩
theorem yieldAt_anyDepth {F:Fence} (hd:F.depth=none) {m:Nat} (m':Nat) {P:Program} {l:Nat} {args:Array Value} {W:World} {R:Ending→World→Prop} (h:YieldAt F m P l args W R):YieldAt F m' P l args W R:=by
 obtain⟨fn,tmps,assign,body,hy,hR⟩:=h
 exact⟨fn,tmps,assign,body,hy,roundIn_anyDepth hd hR⟩
def Kp (n₀ B:Nat) (W W':World):Prop:=Below n₀ W W'∧∀ k c t z,B≤k→t≠9→W.heap[k]?=some (.cells c t z)→W'.heap[k]?=some (.cells c t z)
theorem Kp.t {n₀ B:Nat} {W1 W2 W3:World} (h:Kp n₀ B W1 W2) (k:Kp n₀ B W2 W3):Kp n₀ B W1 W3:=⟨h.1.trans k.1,fun j c t z hj ht hc=>k.2 j c t z hj ht (h.2 j c t z hj ht hc)⟩
theorem Kp.b {n₀ B:Nat} {w:World} (hn:n₀≤w.heap.size) (W:World) (l:Nat) (o o':Obj) (hl:w.heap.size≤l) (h:W.heap[l]?=some o) (hc:o.isCells=false) (hw:o.isWalk=false):Kp n₀ B W (W.putObj l o'):=
 ⟨belowK_b hn W l o o' hl h hc hw,fun k _ _ _ _ _ hk=>by
  have hne:k≠l:=by rintro rfl;rw[h] at hk;cases hk;cases hc
  exact (World.putObj_heap_other (fun e=>hne (by rw[e]))).trans hk⟩
theorem Kp.of {n₀ B:Nat} {W W':World} (hn:n₀≤W.heap.size) (h:Below W.heap.size W W'):Kp n₀ B W W':=
 ⟨h.mono hn,fun k _ _ _ _ _ hk=>(h.block k (Array.getElem?_eq_some_iff.1 hk).1).trans hk⟩
theorem Kp.refl (n₀ B:Nat) (W:World):Kp n₀ B W W:=⟨Below.refl _ _,fun _ _ _ _ _ _ h=>h⟩
theorem Kp.alloc {n₀ B:Nat} {W:World} (hn:n₀≤W.heap.size) (o:Obj):Kp n₀ B W (W.alloc o):=Kp.of hn ((Below.refl _ _).al le_rfl' _)
abbrev ExA (n₀:Nat) (w:World):={ x:Ex // x.Is n₀ w }
theorem cell_of {W:World} {B:Nat} {c:Array Value} {t:TypeId} {z:Nat × Nat} (h:W.heap[B]?=some (.cells c t z)) (i:Nat):W.cell? ⟨B,i,none⟩=c[i]?:=by
 simp[World.cell?,h]
theorem subsL_pre (l:List Ex) (k:Nat):(Ex.subsL (l.take k)).length≤(Ex.subsL l).length:=by
 conv=>rhs;rw[← List.take_append_drop k l,Ex.subsL_eq,List.flatMap_append]
 rw[Ex.subsL_eq];simp
theorem subsL_prefix (l:List Ex) (k:Nat):Ex.subsL (l.take k) <+: Ex.subsL l:=by
 refine⟨Ex.subsL (l.drop k),?_⟩
 rw[Ex.subsL_eq,Ex.subsL_eq,Ex.subsL_eq,← List.flatMap_append,List.take_append_drop]
set_option maxRecDepth 100000 in
set_option maxHeartbeats 2000000 in
theorem passExpr_in (F:Fence) (hd:F.depth=none) (h183:F.fn 183) (hro:F.round=none) (l n₀ B N:Nat) (w:World) (hn₀:n₀≤w.heap.size) (hBw:B≤w.heap.size) (J Jx:List (ExA n₀ w)→World→Prop)
  (hJA:∀ pre W o,J pre W→J pre (W.alloc o))
  (hY:∀ m pre (x:ExA n₀ w) W,J pre W→pre.length<N→YieldAt F m Tryz.prog l #[x.1.val] W fun e W' =>
   (e=.returned (.bool true)∧J (pre++[x]) W'∧Kp n₀ B W W')∨(e=.returned (.bool false)∧Jx (pre++[x]) W')) (T:Ex) :
  ∀ (n:Nat) (pre:List (ExA n₀ w)) (W:World),T.Is n₀ w→Below n₀ w W→J pre W→pre.length+T.subs.length≤N →
   CallsIn F n Tryz.prog 183 #[T.val,.func (.yield l) #[] #[]] W fun e W' =>
    (e=.returned (.bool true)∧∃ q,q.map Subtype.val=T.subs∧J (pre++q) W'∧Kp n₀ B W W')∨(e=.returned (.bool false)∧∃ q,q.map Subtype.val <+: T.subs∧Jx (pre++q) W'):=by
 induction T using Ex.ind with
 | h op mon name k ad cap kids pos ih =>
  intro n pre W hT hB hJ hN
  have hT':=hT.down
  have hdd:∀ k:Nat,(F.depth.isSome=true→1≤k):=fun k h=>by rw[hd] at h;cases h
  have hlW:=hB.size
  have hl1:=hT'.2.1.1;have hl2:=hT'.2.1.2.1
  unfold maxLen at hl2
  rw[Ex.subs_mk] at hN
  simp only[List.length_cons] at hN
  have HSU:=hid (Ex.subs_mk op mon name k ad cap kids pos)
  have hy0:=hY (n-1) pre ⟨_,hT⟩ (W.alloc (.cells #[.int .i64 op,.string mon,.string name,.int .i64 k,.slice ad kids.length cap,.int .i64 pos] 55)) (hJA _ _ _ hJ) (by omega)
  have hy0:=YieldAt.mono hy0 (R':=fun e W'=>(e=.returned (.bool true)∧J (pre++[⟨_,hT⟩]) W'∧Kp n₀ B W W'∧W'.cell? ⟨W.heap.size,4,none⟩=some (.slice ad kids.length cap))∨(e=.returned (.bool false)∧Jx (pre++[⟨_,hT⟩]) W')) fun e W' h=>h.elim
   (fun ⟨he,hj,hk⟩=>.inl ⟨he,hj,(Kp.alloc (by omega) _).t hk,by rw[cell_of (hk.2 _ _ _ _ (by omega) (by decide) (World.alloc_heap_new W _))];rfl⟩) .inr
  simp only[Ex.val,Ex.cells] at hy0 ⊢
  obtain⟨fn,tmps,assign,body,hy,hR⟩:=hy0
  clear hY
  refine callsIn_of_wp Tryz.func183 rfl h183 ?_ hro
  simp only[Tryz.ntmps183,List.size_toArray,List.length_cons,List.length_nil,Nat.reduceAdd,Nat.reduceSub,Array.replicate_succ,Array.replicate_zero,List.push_toArray,List.append_toArray,List.nil_append,List.cons_append]
  gi_wp2_with (first
   | ((try refine⟨hdd _,?_⟩);refine hR.mono ?_;clear hR;rintro e W1 (⟨rfl,hJ1,hk1,hc1⟩|⟨rfl,hx1⟩)))
  ·gi_loopw [14] (fun i wr=>∃ (j:Nat) (q:List (ExA n₀ w)),j≤kids.length∧i=.int .i64 j∧Hid (q.map Subtype.val=(Ex.mk op mon name k ad cap kids pos)::Ex.subsL (kids.take j))∧J (pre++q) wr∧Kp n₀ B W wr)
    (fun i _=>kids.length-(intOf i).toNat)
   case atStart=>exact⟨0,[⟨_,hT⟩],by omega,rfl,by simp[Hid,Ex.subsL],hJ1,hk1⟩
   case round =>
    obtain⟨j,q,hj,rfl,HQ,hJj,hkj⟩:=hrel
    by_cases hlt:j<kids.length
    ·rcases hT'.2.1.2.2 with h|⟨b,off,rfl,hbn,hrow⟩
     ·subst h;simp at hlt
     have hB2:=hB.trans hkj.1
     have hr:=hrow.below hB2 hbn
     have hbr:b<wr.heap.size:=by have:=hB2.size;omega
     have hI:=hT'.2.2 _ (List.getElem_mem hlt)
     have HSN:=hid (Ex.subsL_snoc kids j hlt)
     have hlen:q.length=(Ex.subsL (kids.take j)).length+1:=by have:=congrArg List.length HQ.out;simpa using this
     have hcnt:=subsL_pre kids (j+1)
     rw[HSN.out,List.length_append] at hcnt
     have hq:=ih _ (List.getElem_mem hlt) (n-1) (pre++q) (wr.alloc (.cells (kids[j]).cells.toArray 55)) hI (hB2.al hn₀ _) (hJA _ _ _ hJj) (by rw[List.length_append];omega)
     have hq:=hq.mono (R':=fun e W'=>(e=.returned (.bool true)∧(∃ q,Hid (q.map Subtype.val=(Ex.mk op mon name k (some ⟨b,off,none⟩) cap kids pos)::Ex.subsL (kids.take (j+1)))∧J (pre++q) W'∧Kp n₀ B W W'))∨(e=.returned (.bool false)∧∃ q,q.map Subtype.val <+: (Ex.mk op mon name k (some ⟨b,off,none⟩) cap kids pos).subs∧Jx (pre++q) W')) (by
      rintro e W' (⟨rfl,q2,hq2,hJ2,hk2⟩|⟨rfl,q2,hq2,hx2⟩)
      ·refine .inl ⟨rfl,q++q2,?_,by rw[← List.append_assoc];exact hJ2,hkj.t ((Kp.alloc (by have:=hB2.size;omega) _).t hk2)⟩
       show _=_
       rw[List.map_append,HQ.out,hq2,HSN.out];rfl
      ·refine .inr ⟨rfl,q++q2,?_,by rw[← List.append_assoc];exact hx2⟩
       rw[List.map_append,HQ.out,HSU.out,List.cons_append]
       refine List.prefix_cons_inj _ |>.2 ?_
       refine List.IsPrefix.trans (List.prefix_append_right_inj _ |>.2 hq2) ?_
       rw[← HSN.out]
       exact subsL_prefix kids (j+1))
     clear ih
     rcases he:kids[j] with ⟨op',mon',name',n',ad',cp',kids',pos'⟩
     obtain⟨c0,c1,c2,c3,c4,c5⟩:=row6 hr j hlt (by rw[he];rfl)
     simp only[he,Ex.val,Ex.cells] at hq
     have HF:=hid he
     clear he
     gi_wp2_with ((try refine⟨hdd _,?_⟩);gi_at_call 183;refine hq.mono ?_;clear hq;rintro e W2 (⟨rfl,q2,hq2,hJ2,hk2⟩|⟨rfl,q2,hq2,hx2⟩))
     ·go_roundw
      case rel=>exact⟨j+1,q2,by omega,by go_num,hq2,hJ2,hk2⟩
      case measure=>simp[intOf];omega
     ·go_ret
      exact .inr ⟨rfl,q2,hq2,hx2⟩
    ·have hj':j=kids.length:=by omega
     gi_wp2
     go_ret
     refine .inl ⟨rfl,q,?_,hJj,hkj⟩
     rw[HQ.out,HSU.out,hj',List.take_length]
  ·go_ret
   exact .inr ⟨rfl,[⟨_,hT⟩],by rw[HSU.out];simp,hx1⟩
open Go.RowKit Go.Shelf
attribute [local go_sem] Oper.semAt_some
def ExBox (W:World) (b:Nat) (e:Ex):Prop:=W.heap[b]?=some (.cells e.cells.toArray 55 (0,0))
theorem ExBox.cells {W:World} {b:Nat} {op:Int} {mon name:ByteArray} {n:Int} {ad:Option Addr} {cap:Nat} {kids:List Ex} {pos:Int} (h:ExBox W b (.mk op mon name n ad cap kids pos)) :
  W.cell? ⟨b,0,none⟩=some (.int .i64 op)∧W.cell? ⟨b,1,none⟩=some (.string mon)∧W.cell? ⟨b,2,none⟩=some (.string name)∧W.cell? ⟨b,3,none⟩=some (.int .i64 n)∧W.cell? ⟨b,4,none⟩=some (.slice ad kids.length cap)∧W.cell? ⟨b,5,none⟩=some (.int .i64 pos):=by
 have h':W.heap[b]?=some (.cells #[.int .i64 op,.string mon,.string name,.int .i64 n,.slice ad kids.length cap,.int .i64 pos] 55 (0,0)):=h
 exact⟨cell_of h' 0,cell_of h' 1,cell_of h' 2,cell_of h' 3,cell_of h' 4,cell_of h' 5⟩
theorem ExBox.lt {W:World} {b:Nat} {e:Ex} (h:ExBox W b e):b<W.heap.size:=(Array.getElem?_eq_some_iff.1 h).1
theorem ExBox.below {W W':World} {b n:Nat} {e:Ex} (h:ExBox W b e) (hb:Below n W W') (hlt:b<n):ExBox W' b e:=(hb.block b hlt).trans h
theorem ExBox.new (W:World) (e:Ex):ExBox (W.alloc (.cells e.cells.toArray 55)) W.heap.size e:=World.alloc_heap_new W _
set_option maxHeartbeats 1000000 in
theorem parts1_in (F:Fence) (hd:F.depth=none) (n:Nat) (h182:F.fn 182) (h183:F.fn 183) (hro:F.round=none) (l Bt n₀ B:Nat) (w:World) (hn₀:n₀≤w.heap.size) (hBw:B≤w.heap.size) (T:Ex) (hT:T.Is n₀ w) (J Jx:List (ExA n₀ w)→World→Prop)
  (hJA:∀ pre W o,J pre W→J pre (W.alloc o))
  (hY:∀ pre (x:ExA n₀ w) W,J pre W→pre.length<T.subs.length→YieldAt F (n-1) Tryz.prog l #[x.1.val] W fun e W' =>
   (e=.returned (.bool true)∧J (pre++[x]) W'∧Kp n₀ B W W')∨(e=.returned (.bool false)∧Jx (pre++[x]) W'))
  (W:World) (hW:Below n₀ w W) (hBt:ExBox W Bt T) (h0:J [] W) :
  CallsIn F n Tryz.prog 182 #[.func (.yield l) #[] #[],.pointer (some ⟨Bt,0,none⟩)] W fun e W'=>(∃ v,e=.returned v) ∧
   ((∃ ys:List (ExA n₀ w),ys.map Subtype.val=T.subs∧J ys W')∨(∃ pre:List (ExA n₀ w),pre.map Subtype.val <+: T.subs∧Jx pre W')):=by
 have hdd:∀ k:Nat,(F.depth.isSome=true→1≤k):=fun k h=>by rw[hd] at h;cases h
 have hp:=passExpr_in F hd h183 hro l n₀ B T.subs.length w hn₀ hBw J Jx hJA (fun m pre x W hj hl=>yieldAt_anyDepth hd m (hY pre x W hj hl)) T (n-1) [] W hT hW h0 (by simp)
 rcases T with ⟨op,mon,name,k,ad,cap,kids,pos⟩
 obtain⟨c0,c1,c2,c3,c4,c5⟩:=hBt.cells
 have HSU:=hid (Ex.subs_mk op mon name k ad cap kids pos)
 simp only[Ex.val,Ex.cells] at hp
 refine callsIn_of_wp Tryz.func182 rfl h182 ?_ hro
 simp only[Tryz.ntmps182,List.size_toArray,List.length_cons,List.length_nil,Nat.reduceAdd,Nat.reduceSub,Array.replicate_succ,Array.replicate_zero,List.push_toArray,List.append_toArray,List.nil_append,List.cons_append]
 gi_wp2_with ((try refine⟨hdd _,?_⟩);gi_at_call 183;refine hp.mono ?_;clear hp;rintro e W1 (⟨rfl,q,hq,hJ1,_⟩|⟨rfl,q,hq,hx⟩))
 ·go_end0
  exact⟨⟨_,rfl⟩,.inl ⟨_,hq,by simpa using hJ1⟩⟩
 ·go_end0
  exact⟨⟨_,rfl⟩,.inr ⟨q,hq,by simpa using hx⟩⟩
set_option maxHeartbeats 1000000 in
theorem parts_in (F:Fence) (n:Nat) (h173:F.fn 173) (hro:F.round=none) (T:Ex) (w:World) :
  CallsIn F n Tryz.prog 173 #[T.val] w fun e w'=>e=.returned (.func (.func 182) #[] #[.pointer (some ⟨w.heap.size,0,none⟩)])∧w'=w.alloc (.cells T.cells.toArray 55):=by
 rcases T with ⟨op,mon,name,k,ad,cap,kids,pos⟩
 simp only[Ex.val,Ex.cells]
 refine callsIn_of_wp Tryz.func173 rfl h173 ?_ hro
 simp only[Tryz.ntmps173,List.size_toArray,List.length_cons,List.length_nil,Nat.reduceAdd,Nat.reduceSub,Array.replicate_succ,Array.replicate_zero,List.push_toArray,List.append_toArray,List.nil_append,List.cons_append]
 gi_wp2
 go_ret
 exact⟨rfl,rfl⟩
theorem parts_stops (F:Fence) (hd:F.depth=none) (n:Nat) (h182:F.fn 182) (h183:F.fn 183) (hro:F.round=none) (Bt n₀ B:Nat) (w:World) (hn₀:n₀≤w.heap.size) (hBw:B≤w.heap.size) (T:Ex) (hT:T.Is n₀ w) (hBt:ExBox w Bt T) :
  SeqStopsK F n Tryz.prog 182 #[.pointer (some ⟨Bt,0,none⟩)] (fun x:ExA n₀ w=>#[x.1.val]) (Kp n₀ B) (fun ys=>ys.map Subtype.val=T.subs) (fun pre=>pre.map Subtype.val <+: T.subs) T.subs.length w:=fun l J Jx W hW hJ _ hY h0 =>
 parts1_in F hd n h182 h183 hro l Bt n₀ B w hn₀ hBw T hT J Jx (fun pre W' o hj=>hJ pre W' _ none hj (World.grownBy_alloc W' o none) (fun r e=>by cases e)) hY W (hW.mono hn₀) (hBt.below hW hBt.lt) h0
open Go.RowKit
def exNames (k:Nat):Bool:=k==4
def exNumber (k:Nat):Bool:=k==1 || k==7
def exKids (k:Nat):Nat:=if k<5 then 0 else if k<8 then 1 else 2
def stMon (k:Nat):Bool:=k==2 || (7≤k&&k≤11)
def stName (k:Nat):Bool:=k==2 || k==8
def stNumber (k:Nat):Bool:=k==9
def stExpr (k:Nat):Bool:=2≤k&&k≤4
def stLeast (k:Nat):Nat:=if 3≤k∧k≤7 then 1 else 0
def stMost (k:Nat):Nat:=if k=3 then 2 else if k=6 then 8 else if 4≤k∧k≤7 then 1 else 0
def ruIs (k:Nat):Int:=if k=0∨k=4 then 0 else if k=1∨(6≤k∧k≤9) then 2 else 1
def ruParts (k:Nat):Int:=if k<5 then 0 else if k=5∨16≤k then 1 else if k=10∨k=11 then -1 else 2
structure Shapes (W:World):Prop where
 size:6≤W.heap.size
 ru:∀ k,k<18→W.cell? ⟨5,k*2,none⟩=some (.int .i64 (ruIs k))∧W.cell? ⟨5,k*2+1,none⟩=some (.int .i64 (ruParts k))
 ex:∀ k,k<18→W.cell? ⟨4,k*3,none⟩=some (.bool (exNames k))∧W.cell? ⟨4,k*3+1,none⟩=some (.bool (exNumber k))∧W.cell? ⟨4,k*3+2,none⟩=some (.int .i64 (exKids k:Nat))
 st:∀ k,k<12→W.cell? ⟨0,k*6,none⟩=some (.bool (stMon k))∧W.cell? ⟨0,k*6+1,none⟩=some (.bool (stName k))∧W.cell? ⟨0,k*6+2,none⟩=some (.bool (stNumber k))∧W.cell? ⟨0,k*6+3,none⟩=some (.bool (stExpr k)) ∧
  W.cell? ⟨0,k*6+4,none⟩=some (.int .i64 (stLeast k:Nat))∧W.cell? ⟨0,k*6+5,none⟩=some (.int .i64 (stMost k:Nat))
theorem Shapes.below {n:Nat} {W W':World} (h:Shapes W) (hb:Below n W W') (hn:6≤n):Shapes W':=by
 refine⟨by have:=h.size;have:=hb.size;omega,fun k hk=>?_,fun k hk=>?_,fun k hk=>?_⟩
 ·obtain⟨h0,h1⟩:=h.ru k hk
  exact⟨(hb.cell (p:=⟨5,_,none⟩) (by show 5<n;omega)).trans h0,(hb.cell (p:=⟨5,_,none⟩) (by show 5<n;omega)).trans h1⟩
 ·obtain⟨h0,h1,h2⟩:=h.ex k hk
  exact⟨(hb.cell (p:=⟨4,_,none⟩) (by show 4<n;omega)).trans h0,(hb.cell (p:=⟨4,_,none⟩) (by show 4<n;omega)).trans h1,(hb.cell (p:=⟨4,_,none⟩) (by show 4<n;omega)).trans h2⟩
 ·obtain⟨h0,h1,h2,h3,h4,h5⟩:=h.st k hk
  exact⟨(hb.cell (p:=⟨0,_,none⟩) (by show 0<n;omega)).trans h0,(hb.cell (p:=⟨0,_,none⟩) (by show 0<n;omega)).trans h1,(hb.cell (p:=⟨0,_,none⟩) (by show 0<n;omega)).trans h2,(hb.cell (p:=⟨0,_,none⟩) (by show 0<n;omega)).trans h3,(hb.cell (p:=⟨0,_,none⟩) (by show 0<n;omega)).trans h4,(hb.cell (p:=⟨0,_,none⟩) (by show 0<n;omega)).trans h5⟩
def fitsName (s:ByteArray) (b:Bool):Bool:=if b then Lx.name s else decide (s.size=0)
def fitsNum (n:Int) (b:Bool):Bool:=(n==0) || (b&&decide (0<n))
theorem isEmpty_size (s:ByteArray):s.toList.isEmpty=decide (s.size=0):=by
 rw[Bool.eq_iff_iff,decide_eq_true_iff,ByteArray.toList_eq,List.isEmpty_iff]
 constructor
 ·intro h
  have:=congrArg List.length h
  simpa using this
 ·intro h
  apply List.eq_nil_of_length_eq_zero
  simpa using h
theorem fitsName_any (s:ByteArray) (b:Bool) (w:World) (hs:Len s) :
  Calls Tryz.prog 134 #[.string s,.bool b] w fun e w'=>e=.returned (.bool (fitsName s b))∧w'=w:=by
 cases b
 ·go_enter Tryz.func134,Tryz.ntmps134
  go_wp2
  go_ret
  exact⟨ret_bool (isEmpty_size s),rfl⟩
 ·go_enter Tryz.func134,Tryz.ntmps134
  go_wp2_with (go_at_call 154;refine (name_any _ _ hs).mono ?_;rintro e w' ⟨rfl,rfl⟩)
  go_ret
  exact⟨rfl,rfl⟩
theorem fitsNum_any (n:Int) (b:Bool) (w:World) :
  Calls Tryz.prog 135 #[.int .i64 n,.bool b] w fun e w'=>e=.returned (.bool (fitsNum n b))∧w'=w:=by
 cases h:(n==0)
 ·cases b
  ·go_enter Tryz.func135,Tryz.ntmps135
   go_wp2
   go_ret
   exact⟨ret_bool (by simp[fitsNum,h]),rfl⟩
  ·by_cases hp:0<n
   ·go_enter Tryz.func135,Tryz.ntmps135
    go_wp2
    go_ret
    exact⟨ret_bool (by simp[fitsNum,h,hp]),rfl⟩
   ·go_enter Tryz.func135,Tryz.ntmps135
    go_wp2
    go_ret
    exact⟨ret_bool (by simp[fitsNum,h,hp]),rfl⟩
 ·go_enter Tryz.func135,Tryz.ntmps135
  go_wp2
  go_ret
  exact⟨ret_bool (by simp[fitsNum,h]),rfl⟩
def Ex.ok1:Ex→Bool
 | .mk op mon name n _ _ kids _=>decide (1≤op)&&decide (op≤17)&&(fitsName mon (exNames op.toNat)&&fitsName name (exNames op.toNat)&&fitsNum n (exNumber op.toNat)&&((kids.length:Int)==(exKids op.toNat:Int)))
set_option maxRecDepth 100000 in
set_option maxHeartbeats 1000000 in
theorem isExpr_any (e:Ex) (n₀:Nat) (w:World) (hI:e.Is n₀ w) (hS:Shapes w) :
  Calls Tryz.prog 174 #[e.val] w fun r w'=>r=.returned (.bool e.ok1)∧Below w.heap.size w w':=by
 rcases e with ⟨op,mon,name,n,ad,cap,kids,pos⟩
 obtain⟨⟨h1,h2,h3,h4,h5⟩,h6,h7⟩:=hI.down
 unfold I64 at h1 h2 h3
 have hl1:=h6.1;have hl2:=h6.2.1
 unfold maxLen at hl2
 have HR:Hid (Ex.ok1 (.mk op mon name n ad cap kids pos)=(decide (1≤op)&&decide (op≤17)&&(fitsName mon (exNames op.toNat)&&fitsName name (exNames op.toNat)&&fitsNum n (exNumber op.toNat)&&((kids.length:Int)==(exKids op.toNat:Int))))):=rfl
 clear h6 h7 hI
 simp only[Ex.val,Ex.cells]
 by_cases ho1:1≤op
 ·by_cases ho2:op≤17
  ·obtain⟨k,rfl⟩:∃ k:Nat,op=(k:Int):=⟨op.toNat,by omega⟩
   have hk1:1≤k:=by omega
   have hk2:k<18:=by omega
   obtain⟨s0,s1,s2⟩:=hS.ex k hk2
   have hsz:4<w.heap.size:=by have:=hS.size;omega
   have HR2:Hid (Ex.ok1 (.mk (k:Int) mon name n ad cap kids pos)=(fitsName mon (exNames k)&&fitsName name (exNames k)&&fitsNum n (exNumber k)&&((kids.length:Int)==(exKids k:Int)))):=by
    show _=_
    rw[HR.out,decide_eq_true ho1,decide_eq_true ho2,Int.toNat_natCast,Bool.true_and,Bool.true_and]
   clear HR ho1 ho2
   cases q1:fitsName mon (exNames k)
   ·go_enter Tryz.func174,Tryz.ntmps174
    go_wp2_with (first|(go_at_call 134;refine (fitsName_any _ _ _ ‹_›).mono ?_;rintro e w' ⟨rfl,hw'⟩;have hw2:=hw'.symm;subst hw2)|(go_at_call 135;refine (fitsNum_any _ _ _).mono ?_;rintro e w' ⟨rfl,hw'⟩;have hw2:=hw'.symm;subst hw2))
    go_ret
    exact⟨ret_bool (by rw[HR2.out,q1];rfl),((Below.refl _ _).al le_rfl' _).al le_rfl' _⟩
   cases q2:fitsName name (exNames k)
   ·go_enter Tryz.func174,Tryz.ntmps174
    go_wp2_with (first|(go_at_call 134;refine (fitsName_any _ _ _ ‹_›).mono ?_;rintro e w' ⟨rfl,hw'⟩;have hw2:=hw'.symm;subst hw2)|(go_at_call 135;refine (fitsNum_any _ _ _).mono ?_;rintro e w' ⟨rfl,hw'⟩;have hw2:=hw'.symm;subst hw2))
    go_ret
    exact⟨ret_bool (by rw[HR2.out,q1,q2];rfl),((Below.refl _ _).al le_rfl' _).al le_rfl' _⟩
   cases q3:fitsNum n (exNumber k)
   ·go_enter Tryz.func174,Tryz.ntmps174
    go_wp2_with (first|(go_at_call 134;refine (fitsName_any _ _ _ ‹_›).mono ?_;rintro e w' ⟨rfl,hw'⟩;have hw2:=hw'.symm;subst hw2)|(go_at_call 135;refine (fitsNum_any _ _ _).mono ?_;rintro e w' ⟨rfl,hw'⟩;have hw2:=hw'.symm;subst hw2))
    go_ret
    exact⟨ret_bool (by rw[HR2.out,q1,q2,q3];rfl),((Below.refl _ _).al le_rfl' _).al le_rfl' _⟩
   cases q4:((kids.length:Int)==(exKids k:Int))
   ·go_enter Tryz.func174,Tryz.ntmps174
    go_wp2_with (first|(go_at_call 134;refine (fitsName_any _ _ _ ‹_›).mono ?_;rintro e w' ⟨rfl,hw'⟩;have hw2:=hw'.symm;subst hw2)|(go_at_call 135;refine (fitsNum_any _ _ _).mono ?_;rintro e w' ⟨rfl,hw'⟩;have hw2:=hw'.symm;subst hw2))
    go_ret
    exact⟨ret_bool (by rw[HR2.out,q1,q2,q3,q4];rfl),((Below.refl _ _).al le_rfl' _).al le_rfl' _⟩
   ·go_enter Tryz.func174,Tryz.ntmps174
    go_wp2_with (first|(go_at_call 134;refine (fitsName_any _ _ _ ‹_›).mono ?_;rintro e w' ⟨rfl,hw'⟩;have hw2:=hw'.symm;subst hw2)|(go_at_call 135;refine (fitsNum_any _ _ _).mono ?_;rintro e w' ⟨rfl,hw'⟩;have hw2:=hw'.symm;subst hw2))
    go_ret
    exact⟨ret_bool (by rw[HR2.out,q1,q2,q3,q4];rfl),((Below.refl _ _).al le_rfl' _).al le_rfl' _⟩
  ·have HF:Hid (Ex.ok1 (.mk op mon name n ad cap kids pos)=false):=by
    show _=_
    rw[HR.out,decide_eq_false ho2,Bool.and_false,Bool.false_and]
   go_enter Tryz.func174,Tryz.ntmps174
   go_wp2
   go_ret
   exact⟨ret_bool HF.out.symm,(Below.refl _ _).al le_rfl' _⟩
 ·have HF:Hid (Ex.ok1 (.mk op mon name n ad cap kids pos)=false):=by
   show _=_
   rw[HR.out,decide_eq_false ho1,Bool.false_and,Bool.false_and]
  go_enter Tryz.func174,Tryz.ntmps174
  go_wp2
  go_ret
  exact⟨ret_bool HF.out.symm,(Below.refl _ _).al le_rfl' _⟩
end Go.Proofs.YtbmbchdjjfmafaaGreatDoor
