/-
  Joined by program out of the own texts BuA SgA ShB ShC EqA ItA ItB ShA CkA EqB EqC CkB CkC CkD ItC ItD CkE SzA LvA RsA TxA PtA PnA ExA ExB NsA; blanks and remarks are left out to keep the limit of bytes.
-/
import Derived.Test.YtaekbgljbgmchaaGreatDoorTrB
import Derived.Shelf.Strings.BuilderK
import Derived.MapKept
import Derived.Test.YtaekbgljbgmchaaGreatDoorShelf
import Derived.Lib.SmallJoins
import Derived.RegionTactic
import Derived.Test.YtaekbgljbgmchaaGreatDoorTrA
import Derived.RangeFuncNested
import Derived.RangeFuncBound
import Derived.RangeFuncCalls
import Derived.RangeFuncLeaves
import Derived.Shelf.Abstract
import Derived.Shelf.RegionOpen
import Derived.OwnWalkIn
import Derived.TacticsInMore
import Derived.LoopNIn
import Derived.LoopIn
import Derived.Test.YtaekbgljbgmchaaGreatDoorLxD
import Derived.Deep.QuietTactic
import Derived.BigQuiet
import Derived.Deep.RegionHeld3
namespace Go.Proofs.YtaekbgljbgmchaaGreatDoor
open Go.RowKit
def SheetAt (B b:Nat) (pp mv:Value) (o:Int) (c:List UInt8) (w:World):Prop:=
 B≤b∧∃ v,w.heap[b]?=some (.cells #[pp,v,mv,.int .i64 o] 98 (0,0))∧w.ownsRow B 5 1 v c.length (Lib.byteCells c)
def Sheet (B b:Nat) (mv:Value) (o:Int) (c:List UInt8) (w:World):Prop:=SheetAt B b (.pointer none) mv o c w ∨ SheetAt B b (.pointer (some ⟨b,0,none⟩)) mv o c w
theorem SheetAt.lt {B b:Nat} {pp mv:Value} {o:Int} {c:List UInt8} {w:World} (h:SheetAt B b pp mv o c w):b < w.heap.size:=by
 obtain ⟨_,v,hb,_⟩:=h
 exact (Array.getElem?_eq_some_iff.1 hb).1
theorem Sheet.lt {B b:Nat} {mv:Value} {o:Int} {c:List UInt8} {w:World} (h:Sheet B b mv o c w):b < w.heap.size:=h.elim (·.lt) (·.lt)
theorem Sheet.cells {B b:Nat} {mv:Value} {o:Int} {c:List UInt8} {w:World} (h:Sheet B b mv o c w):w.cell? ⟨b,2,none⟩=some mv∧w.cell? ⟨b,3,none⟩=some (.int .i64 o)∧w.frozen? ⟨b,3,none⟩=false:=by
 rcases h with ⟨_,v,hb,_⟩ | ⟨_,v,hb,_⟩ <;> exact ⟨by rw [Lib.cell_of_heap hb];rfl,by rw [Lib.cell_of_heap hb];rfl,Lib.frozen_of_heap hb 3⟩
theorem SheetAt.below {B b:Nat} {pp mv:Value} {o:Int} {c:List UInt8} {w w':World} (h:SheetAt B b pp mv o c w) (hb:Below w.heap.size w w'):SheetAt B b pp mv o c w':=by
 obtain ⟨hB,v,hbk,hown⟩:=h
 refine ⟨hB,v,(hb.block b (Array.getElem?_eq_some_iff.1 hbk).1).trans hbk,hown.kept (row:=none) ⟨hb.os,hb.tape,hb.output,hb.size,fun k hk _=>hb.block k hk⟩ ?_⟩
 cases v.ownBlock <;> simp
theorem Sheet.below {B b:Nat} {mv:Value} {o:Int} {c:List UInt8} {w w':World} (h:Sheet B b mv o c w) (hb:Below w.heap.size w w'):Sheet B b mv o c w':=h.elim (fun x=>.inl (x.below hb)) (fun x=>.inr (x.below hb))
theorem SheetAt.own {B b:Nat} {pp mv v:Value} {o:Int} {c:List UInt8} {w:World} (hb:w.heap[b]?=some (.cells #[pp,v,mv,.int .i64 o] 98 (0,0))) (hown:w.ownsRow B 5 1 v c.length (Lib.byteCells c)):v.ownBlock ≠ some b:=Lib.ownBlock_ne hown hb (by decide)
theorem SheetAt.put {B b:Nat} {pp mv:Value} {o:Int} {c:List UInt8} {w:World} (h:SheetAt B b pp mv o c w) (o':Int):SheetAt B b pp mv o' c (w.setCell ⟨b,3,none⟩ (.int .i64 o')):=by
 obtain ⟨hB,v,hbk,hown⟩:=h
 refine ⟨hB,v,by simp [World.setCell,Array.getElem?_modify,hbk],?_⟩
 exact hown.kept (row:=some b) ⟨rfl,rfl,rfl,by simp [World.setCell],fun k _ hk=>Below.heap_setCell _ _ _ _ (fun e=>hk (by simp [e]))⟩ (Or.inr (SheetAt.own hbk hown))
theorem Sheet.put {B b:Nat} {mv:Value} {o:Int} {c:List UInt8} {w:World} (h:Sheet B b mv o c w) (o':Int):Sheet B b mv o' c (w.setCell ⟨b,3,none⟩ (.int .i64 o')):=h.elim (fun x=>.inl (x.put o')) (fun x=>.inr (x.put o'))
theorem sizeBuilder:(Tryz.prog.info? 96).map (·.size)=some 2:=by kernel_rfl
theorem liesBuilder:liesAt Tryz.prog Tryz.prog.depth 98 (4 / Tryz.prog.cellsOf 98) 0 96 1=true:=by kernel_rfl
theorem infoByte:(Tryz.prog.info? 5).map (fun i=>(i.zero,i.size,i.bytes))=some (some (.int .u8 0),1,1):=by kernel_rfl
theorem cellsByte:Tryz.prog.cellsOf 5=1:=by kernel_rfl
set_option maxHeartbeats 1000000 in
set_option maxRecDepth 100000 in
theorem copyCheck_used (b:Nat) (w:World) (h0:w.cell? ⟨b,0,none⟩=some (.pointer (some ⟨b,0,none⟩))) :
  Calls Tryz.prog 106 #[.pointer (some ⟨b,0,none⟩)] w fun e w'=>e=.returned (.tuple #[])∧w'=w:=by
 obtain ⟨j,hj,_⟩:=Option.map_eq_some_iff.1 sizeBuilder
 go_enter Tryz.func106,Tryz.ntmps106
 go_wp2
 rw [Lib.run_neq_ptr_same w _ Tryz.underlying93 hj]
 go_wp2
 go_end0
 exact ⟨rfl,rfl⟩
set_option maxHeartbeats 1000000 in
set_option maxRecDepth 100000 in
theorem copyCheck_fresh (b:Nat) (w:World) (h0:w.cell? ⟨b,0,none⟩=some (.pointer none)) (hsh:w.shape? b=some (98,4)) (hfz:w.frozen? ⟨b,0,none⟩=false) :
  Calls Tryz.prog 106 #[.pointer (some ⟨b,0,none⟩)] w fun e w'=>e=.returned (.tuple #[])∧w'=w.setCell ⟨b,0,none⟩ (.pointer (some ⟨b,0,none⟩)):=by
 obtain ⟨j,hj,hjs⟩:=Option.map_eq_some_iff.1 sizeBuilder
 go_enter Tryz.func106,Tryz.ntmps106
 go_wp2
 rw [Lib.run_to_unsafe w ⟨b,0,none⟩ Tryz.underlying93 Tryz.underlying190 hj (by rw [hjs];decide) hsh (Nat.zero_lt_succ 3)]
 simp only [Result.andThen]
 rw [Oper.upon_value]
 go_wp2
 rw [run_callFunc_extern Tryz.func148 (by kernel_rfl) (by kernel_rfl) (by kernel_rfl) (e:=Extern.AbiNoEscape.same) (by kernel_rfl)]
 rw [Lib.run_noEscape]
 simp only [Result.andThen]
 rw [Oper.upon_value]
 go_wp2
 rw [Lib.run_from_unsafe w ⟨b,0,none⟩ Tryz.underlying190 Tryz.underlying93 hj hsh liesBuilder]
 simp only [Result.andThen]
 rw [Oper.upon_value]
 go_wp2
 go_end0
 exact ⟨rfl,rfl⟩
theorem copyCheck_any (B b:Nat) (mv:Value) (o:Int) (c:List UInt8) (w:World) (h:Sheet B b mv o c w) :
  Calls Tryz.prog 106 #[.pointer (some ⟨b,0,none⟩)] w fun e w'=>e=.returned (.tuple #[])∧SheetAt B b (.pointer (some ⟨b,0,none⟩)) mv o c w'∧Below B w w'∧Lib.OthersKept 5 (some b) w w':=by
 rcases h with h | h
 ·obtain ⟨hB,v,hbk,hown⟩:=h
  refine (copyCheck_fresh b w (by rw [Lib.cell_of_heap hbk];rfl) (by simp [World.shape?,hbk]) (Lib.frozen_of_heap hbk 0)).mono ?_
  rintro e w' ⟨rfl,rfl⟩
  refine ⟨rfl,⟨hB,v,by simp [World.setCell,Array.getElem?_modify,hbk],?_⟩,(Below.refl B w).setCell (p:=⟨b,0,none⟩) hB _,(Lib.OthersKept.refl 5 (some b) w).setCell ⟨b,0,none⟩ rfl _⟩
  exact hown.kept (row:=some b) ⟨rfl,rfl,rfl,by simp [World.setCell],fun k _ hk=>Below.heap_setCell _ _ _ _ (fun e=>hk (by simp [e]))⟩ (Or.inr (SheetAt.own hbk hown))
 ·obtain ⟨hB,v,hbk,hown⟩:=h
  refine (copyCheck_used b w (by rw [Lib.cell_of_heap hbk];rfl)).mono ?_
  rintro e w' ⟨rfl,rfl⟩
  exact ⟨rfl,⟨hB,v,hbk,hown⟩,Below.refl B _,Lib.OthersKept.refl 5 (some b) _⟩
set_option maxHeartbeats 1000000 in
set_option maxRecDepth 100000 in
theorem len_any (B b:Nat) (mv:Value) (o:Int) (c:List UInt8) (w:World) (h:Sheet B b mv o c w) :
  Calls Tryz.prog 136 #[.pointer (some ⟨b,0,none⟩)] w fun e w'=>e=.returned (.int .i64 (c.length:Nat))∧w'=w:=by
 obtain ⟨pp,hB,v,hbk,hown⟩:∃ pp,SheetAt B b pp mv o c w:=h.elim (fun x=>⟨_,x⟩) (fun x=>⟨_,x⟩)
 obtain ⟨ao,cap,rfl⟩:∃ ao cap,v=.slice ao c.length cap:=by
  rcases hown.2 with ⟨hv,h0⟩ | ⟨g,cap,cur,hv,_⟩
  ·exact ⟨none,0,by rw [hv,h0]⟩
  ·exact ⟨_,_,hv⟩
 have c1:w.cell? ⟨b,1,none⟩=some (.slice ao c.length cap):=by rw [Lib.cell_of_heap hbk];rfl
 go_enter Tryz.func136,Tryz.ntmps136
 go_wp2
 go_ret
 exact ⟨rfl,rfl⟩
theorem byteCells_app (c:List UInt8) (s:ByteArray):Lib.byteCells (c++s.data.toList)=Lib.byteCells c++Lib.strCells s:=by simp [Lib.byteCells,Lib.strCells]
set_option maxHeartbeats 2000000 in
set_option maxRecDepth 100000 in
theorem writeString_any (B b:Nat) (mv:Value) (o:Int) (c:List UInt8) (s:ByteArray) (w:World) (h:Sheet B b mv o c w) (hlen:c.length+s.size≤140737488355328) (hBw:B≤w.heap.size) :
  Calls Tryz.prog 60 #[.pointer (some ⟨b,0,none⟩),.string s] w fun e w'=>e=.returned (.tuple #[.int .i64 s.size,.nilIface])∧Sheet B b mv o (c++s.data.toList) w'∧Below B w w'∧Lib.OthersKept 5 (some b) w w':=by
 obtain ⟨i0,hi,hz0,hz1,hz2⟩:=info_parts infoByte
 go_enter Tryz.func60,Tryz.ntmps60
 go_wp2_with (go_at_call 106;refine (copyCheck_any B b mv o c _ h).mono ?_)
 rintro e w1 ⟨rfl,h1,hb1,hk1⟩
 obtain ⟨hB,v,hbk,hown⟩:=h1
 have hne:=SheetAt.own hbk hown
 have c0:w1.cell? ⟨b,0,none⟩=some (.pointer (some ⟨b,0,none⟩)):=by rw [Lib.cell_of_heap hbk];rfl
 have c1:w1.cell? ⟨b,1,none⟩=some v:=by rw [Lib.cell_of_heap hbk];rfl
 go_wp2_with (at_builtin;refine Lib.wpList_append_own_string _ rfl _ _ 94 9 rfl B 5 i0 Tryz.underlying94 Tryz.underlying9 hi hz0 hz1 hz2 _ _ _ rfl hown s rfl ?c3 ?c4 ?c5 ?_)
 case c3=>unfold maxLen;omega
 case c4=>omega
 case c5=>have:=hb1.size;omega
 intro v' w2 hown' hgrow _
 have hlt:b < w1.heap.size:=(Array.getElem?_eq_some_iff.1 hbk).1
 have hb2:w2.heap[b]?=some (.cells #[.pointer (some ⟨b,0,none⟩),v,mv,.int .i64 o] 98 (0,0)):=by
  rw [hgrow.block b hlt (fun e=>hne e.symm)]
  exact hbk
 have d0:w2.cell? ⟨b,0,none⟩=some (.pointer (some ⟨b,0,none⟩)):=by rw [Lib.cell_of_heap hb2];rfl
 have d1:w2.cell? ⟨b,1,none⟩=some v:=by rw [Lib.cell_of_heap hb2];rfl
 have f1:w2.frozen? ⟨b,1,none⟩=false:=Lib.frozen_of_heap hb2 1
 obtain ⟨ao,n',cap,rfl⟩:∃ ao n' cap,v'=.slice ao n' cap:=by
  rcases hown'.2 with ⟨hv,_⟩ | ⟨g,cap,cur,hv,_⟩
  ·exact ⟨_,_,_,hv⟩
  ·exact ⟨_,_,_,hv⟩
 go_wp2
 go_ret2
 have hown2:w2.ownsRow B 5 1 (.slice ao n' cap) (c++s.data.toList).length (Lib.byteCells (c++s.data.toList)):=by
  rw [byteCells_app]
  simpa [Lib.strCells_length,Lib.byteCells_length] using hown'
 have hne2:(Value.slice ao n' cap).ownBlock ≠ some b:=Lib.ownBlock_ne hown2 hb2 (by decide)
 refine ⟨rfl,.inr ⟨hB,.slice ao n' cap,by simp [World.setCell,Array.getElem?_modify,hb2],?_⟩,?_,(hk1.grown hgrow (fun g hg=>?_)).setCell ⟨b,1,none⟩ rfl _⟩
 ·exact hown2.kept (row:=some b) ⟨rfl,rfl,rfl,by simp [World.setCell],fun k _ hk=>Below.heap_setCell _ _ _ _ (fun e=>hk (by simp [e]))⟩ (Or.inr hne2)
 ·exact (hb1.grown hgrow (by have:=hb1.size;omega) (fun k hk=>(hown.lt k hk).1)).setCell (p:=⟨b,1,none⟩) hB _
 ·rcases hown.2 with ⟨hv,_⟩ | ⟨g',cap',cur,hv,_,hgg,_⟩
  ·rw [hv] at hg;simp [Value.ownBlock] at hg
  ·rw [hv] at hg;simp [Value.ownBlock] at hg;subst hg;exact ⟨_,_,hgg⟩
end Go.Proofs.YtaekbgljbgmchaaGreatDoor
namespace Go.Proofs.YtaekbgljbgmchaaGreatDoor
open Go.RowKit
namespace Px
def sgn:Nat→ByteArray × Nat × Nat × Nat
 | 5=>(⟨#[33]⟩,3,0,3)
 | 6=>(⟨#[45]⟩,6,0,6)
 | 7=>(⟨#[32,42,32]⟩,6,0,6)
 | 8=>(⟨#[32,43,32]⟩,5,5,6)
 | 9=>(⟨#[32,45,32]⟩,5,5,6)
 | 10=>(⟨#[32,61,61,32]⟩,4,5,5)
 | 11=>(⟨#[32,33,61,32]⟩,4,5,5)
 | 12=>(⟨#[32,60,32]⟩,4,5,5)
 | 13=>(⟨#[32,60,61,32]⟩,4,5,5)
 | 14=>(⟨#[32,62,32]⟩,4,5,5)
 | 15=>(⟨#[32,62,61,32]⟩,4,5,5)
 | 16=>(⟨#[32,38,38,32]⟩,2,2,3)
 | 17=>(⟨#[32,124,124,32]⟩,1,1,2)
 | _=>(⟨#[]⟩,0,0,0)
def sgnV (m:ByteArray × Nat × Nat × Nat):Value:=.agg #[.string m.1,.int .i64 (m.2.1:Nat),.int .i64 (m.2.2.1:Nat),.int .i64 (m.2.2.2:Nat)]
def signE (i:Nat):MapEntry:={ key:=.int .i64 ((i+5:Nat):Int),val:=sgnV (sgn (i+5)),born:=i }
def signEs (k:Nat):List MapEntry:=(List.range k).map signE
def signed (op:Int):Bool:=decide (5≤op∧op≤17)
def sgnOf (op:Int):ByteArray × Nat × Nat × Nat:=if signed op then sgn op.toNat else (⟨#[]⟩,0,0,0)
def own (op:Int):Nat:=if signed op then (sgn op.toNat).2.1 else 6
end Px
open Px
def SignsAt (w:World) (m:Nat):Prop:=w.heap[m]?=some (.map (signEs 13).toArray 13)
theorem SignsAt.lt {w:World} {m:Nat} (h:SignsAt w m):m < w.heap.size:=(Array.getElem?_eq_some_iff.1 h).1
theorem SignsAt.below {w w':World} {m n:Nat} (h:SignsAt w m) (hb:Below n w w') (hn:m < n):SignsAt w' m:=(hb.block m hn).trans h
theorem signEs_key {k:Nat} {x:MapEntry} (h:x ∈ signEs k):∃ i,i < k∧x=signE i:=by
 obtain ⟨i,hi,rfl⟩:=List.mem_map.1 h
 exact ⟨i,List.mem_range.1 hi,rfl⟩
theorem signEs_isKey (k:Nat):∀ x ∈ signEs k,MapKept.IsKey (.int .i64) x.key:=by
 intro x hx
 obtain ⟨i,_,rfl⟩:=signEs_key hx
 simp [signE,MapKept.IsKey]
theorem signEs_succ (k:Nat):signEs (k+1)=signEs k++[signE k]:=by simp [signEs,List.range_succ]
theorem alloc_set (w:World) (o o':Obj):({ w.alloc o with heap:=(w.alloc o).heap.setIfInBounds w.heap.size o' }:World)=w.alloc o':=by
 have h:(w.alloc o).heap.setIfInBounds w.heap.size o'=(w.alloc o').heap:=by
  show (w.heap.push o).setIfInBounds w.heap.size o'=w.heap.push o'
  simp [Array.setIfInBounds,Array.set_push]
 rw [h]
 rfl
theorem put_sign (w:World) (k:Nat):(Instr.mapUpdate 91 (.map (some w.heap.size)) (.int .i64 ((k+5:Nat):Int)) (sgnV (sgn (k+5)))).run Tryz.prog (w.alloc (.map (signEs k).toArray k))=.ok () (w.alloc (.map (signEs (k+1)).toArray (k+1))):=by
 have hb:(w.alloc (.map (signEs k).toArray k)).heap[w.heap.size]?=some (.map (signEs k).toArray k):=(MapKept.heap_alloc w _).1
 have hk:MapKept.IsKey (.int .i64) (.int .i64 ((k+5:Nat):Int)):=by simp [MapKept.IsKey]
 rcases MapKept.findNow_spec hk (signEs k) 0 (signEs_isKey k) with ⟨h1,h2⟩ | ⟨j,e,h1,h2,h3⟩
 ·have e1:(signEs k).toArray.push (signE k)=(signEs (k+1)).toArray:=by rw [signEs_succ];simp
  have e2:=alloc_set w (.map (signEs k).toArray k) (.map (signEs (k+1)).toArray (k+1))
  have e3:({ key:=.int .i64 ((k+5:Nat):Int),val:=sgnV (sgn (k+5)),born:=k }:MapEntry)=signE k:=rfl
  simp only [Instr.mapUpdate,Sem.run_bind,run_underlying Tryz.underlying91,MapKept.run_getObj_map hb,MapKept.run_checkKey Tryz.underlying3 hk,MapKept.run_findKey Tryz.underlying3 h1,Result.andThen,e3,e1,MapKept.run_setObj_map _ hb,e2]
 ·obtain ⟨i,hi,rfl⟩:=signEs_key (List.mem_of_getElem? h2)
  simp [signE] at h3
  omega
theorem sgn_some (op:Int) (h:signed op=true):∃ i,i < 13∧op=((i+5:Nat):Int):=by
 simp [signed] at h
 exact ⟨op.toNat - 5,by omega,by omega⟩
theorem find_sign (op:Int):(signed op=true∧∃ j,Instr.findNow (.int .i64) (.int .i64 op) (signEs 13) 0=some (some (j,sgnV (sgn op.toNat)))) ∨ (signed op=false∧Instr.findNow (.int .i64) (.int .i64 op) (signEs 13) 0=some none):=by
 have hk:MapKept.IsKey (.int .i64) (.int .i64 op):=by simp [MapKept.IsKey]
 rcases MapKept.findNow_spec hk (signEs 13) 0 (signEs_isKey 13) with ⟨h1,h2⟩ | ⟨j,e,h1,h2,h3⟩
 ·refine .inr ⟨?_,h1⟩
  cases hs:signed op with
  | false=>rfl
  | true =>
   obtain ⟨i,hi,rfl⟩:=sgn_some op hs
   exact absurd rfl (h2 (signE i) (List.mem_map.2 ⟨i,List.mem_range.2 hi,rfl⟩))
 ·obtain ⟨i,hi,rfl⟩:=signEs_key (List.mem_of_getElem? h2)
  have h4:((i+5:Nat):Int)=op:=by simpa [signE] using h3
  subst h4
  exact .inl ⟨by simp [signed];omega,0+j,by rw [h1];rfl⟩
theorem lookup_one {w:World} {m:Nat} (hm:SignsAt w m) (op:Int):(Instr.lookup 91 (.map (some m)) (.int .i64 op) false).run Tryz.prog w=.ok (sgnV (sgnOf op)) w:=by
 have hk:MapKept.IsKey (.int .i64) (.int .i64 op):=by simp [MapKept.IsKey]
 have hm':w.heap[m]?=some (.map (signEs 13).toArray 13):=hm
 rcases find_sign op with ⟨hs,j,h1⟩ | ⟨hs,h1⟩
 ·simp [Instr.lookup,run_underlying Tryz.underlying91,MapKept.run_getObj_map hm',MapKept.run_checkKey Tryz.underlying3 hk,MapKept.run_findKey Tryz.underlying3 h1,Result.andThen,sgnOf,hs]
 ·simp [Instr.lookup,run_underlying Tryz.underlying91,MapKept.run_getObj_map hm',MapKept.run_checkKey Tryz.underlying3 hk,MapKept.run_findKey Tryz.underlying3 h1,Result.andThen,sgnOf,hs,Tryz.zeroValue137,sgnV]
theorem lookup_two {w:World} {m:Nat} (hm:SignsAt w m) (op:Int):(Instr.lookup 91 (.map (some m)) (.int .i64 op) true).run Tryz.prog w=.ok (.tuple #[sgnV (sgnOf op),.bool (signed op)]) w:=by
 have hk:MapKept.IsKey (.int .i64) (.int .i64 op):=by simp [MapKept.IsKey]
 have hm':w.heap[m]?=some (.map (signEs 13).toArray 13):=hm
 rcases find_sign op with ⟨hs,j,h1⟩ | ⟨hs,h1⟩
 ·simp [Instr.lookup,run_underlying Tryz.underlying91,MapKept.run_getObj_map hm',MapKept.run_checkKey Tryz.underlying3 hk,MapKept.run_findKey Tryz.underlying3 h1,Result.andThen,sgnOf,hs]
 ·simp [Instr.lookup,run_underlying Tryz.underlying91,MapKept.run_getObj_map hm',MapKept.run_checkKey Tryz.underlying3 hk,MapKept.run_findKey Tryz.underlying3 h1,Result.andThen,sgnOf,hs,Tryz.zeroValue137,sgnV]
set_option maxRecDepth 100000 in
set_option maxHeartbeats 4000000 in
theorem allSigns_any (w:World):Calls Tryz.prog 46 #[] w fun e w'=>e=.returned (.map (some w.heap.size))∧w'=w.alloc (.map (signEs 13).toArray 13):=by
 have p0:=put_sign w 0;have p1:=put_sign w 1;have p2:=put_sign w 2;have p3:=put_sign w 3;have p4:=put_sign w 4;have p5:=put_sign w 5;have p6:=put_sign w 6
 have p7:=put_sign w 7;have p8:=put_sign w 8;have p9:=put_sign w 9;have p10:=put_sign w 10;have p11:=put_sign w 11;have p12:=put_sign w 12
 have hz:signEs 0=[]:=rfl
 rw [hz] at p0
 clear hz
 simp only [sgnV,sgn,Nat.reduceAdd,Int.cast_ofNat_Int] at p0 p1 p2 p3 p4 p5 p6 p7 p8 p9 p10 p11 p12
 have hmk:(Instr.makeMap 91 none).run Tryz.prog w=.ok (.map (some w.heap.size)) (w.alloc (.map #[] 0)):=by simp [Instr.makeMap,Result.andThen]
 go_enter Tryz.func46,Tryz.ntmps46
 go_wp2
 go_ret
 exact ⟨rfl,rfl⟩
set_option maxRecDepth 100000 in
set_option maxHeartbeats 1000000 in
theorem p_enclosed_any (m:Nat) (op level:Int) (w:World) (hm:SignsAt w m) :
  Calls Tryz.prog 97 #[.map (some m),.int .i64 op,.int .i64 level] w fun e w'=>e=.returned (.bool (decide ((own op:Int) < level)))∧Below w.heap.size w w':=by
 have hl:=lookup_two hm op
 cases hs:signed op
 ·rw [hs] at hl
  simp only [sgnOf,hs,sgnV,Bool.false_eq_true,if_false] at hl
  have HO:Hid (own op=6):=by simp [Hid,own,hs]
  go_enter Tryz.func97,Tryz.ntmps97
  go_wp2
  go_ret
  rw [HO.out]
  exact ⟨rfl,(Below.refl _ _).al le_rfl' _⟩
 ·rw [hs] at hl
  simp only [sgnOf,hs,sgnV,if_true] at hl
  have HO:Hid (own op=(sgn op.toNat).2.1):=by simp [Hid,own,hs]
  obtain ⟨k,hk⟩:∃ k,(sgn op.toNat).2.1=k:=⟨_,rfl⟩
  rw [hk] at HO hl
  go_enter Tryz.func97,Tryz.ntmps97
  go_wp2
  go_ret
  rw [HO.out]
  exact ⟨rfl,(Below.refl _ _).al le_rfl' _⟩
end Go.Proofs.YtaekbgljbgmchaaGreatDoor
namespace Go.Proofs.YtaekbgljbgmchaaGreatDoor
open Go.RowKit
def Okt (t c:List UInt8):Prop:=c.length≤t.length∧(c=t ∨ 20000 < c.length)
theorem Okt.refl (t:List UInt8):Okt t t:=⟨Nat.le_refl _,.inl rfl⟩
theorem Okt.app {t c:List UInt8} (h:Okt t c) (s:List UInt8):Okt (t++s) (c++s):=by
 refine ⟨by have:=h.1;simp;omega,?_⟩
 rcases h.2 with h | h
 ·exact .inl (by rw [h])
 ·exact .inr (by simp;omega)
theorem Okt.full {t c:List UInt8} (h:Okt t c) (hf:20000 < c.length) (s:List UInt8):Okt (t++s) c:=⟨by have:=h.1;simp;omega,.inr hf⟩
def Tab (w:World):Prop:=Lib.TabIs Tryz.prog w "internal/strconv.uint64pow10" .u64 Lib.pow10Tab
theorem gPow:Tryz.prog.globalNamed "internal/strconv.uint64pow10"=some 3:=by kernel_rfl
theorem Tab.below {w w':World} {n:Nat} (h:Tab w) (hb:Below n w w') (hn:3 < n):Tab w':=by
 unfold Tab Lib.TabIs at h ⊢
 rw [← h]
 simp only [World.var?,gPow]
 simp only [Option.bind_some,hb.block 3 hn]
def Kept (b:Nat) (w w':World):Prop:=Below b w w'∧Lib.OthersKept 5 (some b) w w'
theorem Kept.refl (b:Nat) (w:World):Kept b w w:=⟨Below.refl _ _,Lib.OthersKept.refl _ _ _⟩
theorem Kept.trans {b:Nat} {u v w:World} (h:Kept b u v) (k:Kept b v w):Kept b u w:=⟨h.1.trans k.1,h.2.trans k.2⟩
theorem Kept.al {b:Nat} {u v:World} (h:Kept b u v) (hb:b≤u.heap.size) (o:Obj):Kept b u (v.alloc o):=⟨h.1.al hb o,h.2.alloc o⟩
theorem others_of {b:Nat} {v w:World} (k:Below v.heap.size v w):Lib.OthersKept 5 (some b) v w:=fun i _ hi _ _=>(k.block i (Array.getElem?_eq_some_iff.1 hi).1).trans hi
theorem Kept.of {b:Nat} {u v w:World} (h:Kept b u v) (hb:b≤u.heap.size) (k:Below v.heap.size v w):Kept b u w:=⟨h.1.tr hb k,h.2.trans (others_of k)⟩
theorem Kept.size {b:Nat} {u v:World} (h:Kept b u v):u.heap.size≤v.heap.size:=h.1.size
theorem Kept.box {b:Nat} {u v:World} (h:Kept b u v) {k:Nat} {c:Array Value} {T:TypeId} {z:Nat × Nat} (hk:u.heap[k]?=some (.cells c T z)) (hne:k ≠ b) (hT:T ≠ 5):v.heap[k]?=some (.cells c T z):=
 h.2 k _ hk (fun e=>hne (by cases e;rfl)) (fun c' z' e=>hT (by cases e;rfl))
structure Sh (b m:Nat) (o:Nat) (t:List UInt8) (w:World):Prop where
 sheet:∃ c,Okt t c∧Sheet b b (.map (some m)) (o:Int) c w
 lt:m < b
 big:3 < b
 signs:SignsAt w m
 tab:Tab w
theorem Sh.bl {b m o:Nat} {t:List UInt8} {w:World} (h:Sh b m o t w):b < w.heap.size:=by obtain ⟨c,_,h⟩:=h.sheet;exact h.lt
theorem Sh.below {b m o:Nat} {t:List UInt8} {w w':World} (h:Sh b m o t w) (hb:Below w.heap.size w w'):Sh b m o t w':=by
 have hl:=h.bl
 obtain ⟨c,h1,h2⟩:=h.sheet
 exact ⟨⟨c,h1,h2.below hb⟩,h.lt,h.big,h.signs.below hb (by have:=h.lt;omega),h.tab.below hb (by have:=h.big;omega)⟩
theorem Sh.al {b m o:Nat} {t:List UInt8} {w:World} (h:Sh b m o t w) (x:Obj):Sh b m o t (w.alloc x):=h.below ((Below.refl _ w).alloc (Nat.le_refl _) x)
theorem Sh.next {b m o o':Nat} {t t' c:List UInt8} {w w':World} (h:Sh b m o t w) (hb:Below b w w') (hc:Okt t' c) (hs:Sheet b b (.map (some m)) (o':Int) c w'):Sh b m o' t' w':=
 ⟨⟨c,hc,hs⟩,h.lt,h.big,h.signs.below hb h.lt,h.tab.below hb h.big⟩
theorem below_grow2 (w:World) (k:Nat) (os:Array Obj):Below w.heap.size w (Sort.grow (w.drewN k) os):=
 ⟨rfl,rfl,rfl,by simp [Sort.grow,World.drewN],fun i hi=>by simp [Sort.grow,World.drewN,Array.getElem?_append,hi]⟩
set_option maxHeartbeats 1000000 in
theorem number_any (n:Int) (w:World) (hn:I64 n) (ht:Tab w):Calls Tryz.prog 84 #[.int .i64 n] w fun e w'=>e=.returned (.string ⟨(Lib.itoa n).toArray⟩)∧Below w.heap.size w w':=by
 have hc:=Tryz.strconv_FormatInt_10 n hn.1 hn.2 w ht
 go_enter Tryz.func84,Tryz.ntmps84
 go_wp2_with (go_at_call 133;refine hc.mono ?_;rintro e w' ⟨rfl,k,os,rfl⟩)
 go_ret
 exact ⟨rfl,below_grow2 w k os⟩
set_option maxHeartbeats 1000000 in
theorem full_any (b:Nat) (mv:Value) (o:Int) (c:List UInt8) (w:World) (h:Sheet b b mv o c w) :
  Calls Tryz.prog 87 #[.pointer (some ⟨b,0,none⟩)] w fun e w'=>e=.returned (.bool (decide (20000 < c.length)))∧w'=w:=by
 have hc:=len_any b b mv o c w h
 go_enter Tryz.func87,Tryz.ntmps87
 go_wp2_with (go_at_call 136;refine hc.mono ?_;rintro e w' ⟨rfl,hw'⟩;have hw2:=hw'.symm;subst hw2)
 go_ret
 exact ⟨ret_bool (by rw [Bool.eq_iff_iff];simp;omega),rfl⟩
def cat (ps:List ByteArray):List UInt8:=ps.flatMap (fun p=>p.data.toList)
theorem cat_snoc (ps:List ByteArray) (k:Nat) (h:k < ps.length):cat (ps.take (k+1))=cat (ps.take k)++ps[k].data.toList:=flatMap_snoc _ ps k h
theorem cat_take (ps:List ByteArray) (k:Nat):(cat (ps.take k)).length≤(cat ps).length:=by
 have h:cat ps=cat (ps.take k)++cat (ps.drop k):=by unfold cat;rw [← List.flatMap_append,List.take_append_drop]
 rw [h,List.length_append];omega
def PcAt (w:World) (g:Nat) (ps:List ByteArray):Prop:=w.heap[g]?=some (.cells (ps.map Value.string).toArray 9 (0,0))
theorem PcAt.cell {w:World} {g:Nat} {ps:List ByteArray} (h:PcAt w g ps) (k:Nat) (hk:k < ps.length):w.cell? ⟨g,k,none⟩=some (.string ps[k]):=by
 rw [Lib.cell_of_heap h];simp [hk]
set_option maxRecDepth 100000 in
set_option maxHeartbeats 1000000 in
theorem lay_any (ps:List ByteArray) (g b m o:Nat) (t:List UInt8) (w:World) (hs:Sh b m o t w) (hg:PcAt w g ps) (hgb:g ≠ b) (hn:ps.length≤1000) (hl:t.length+(cat ps).length≤1000000000000) :
  Calls Tryz.prog 98 #[.pointer (some ⟨b,0,none⟩),.slice (some ⟨g,0,none⟩) ps.length ps.length] w fun e w'=>e=.returned (.tuple #[])∧Sh b m o (t++cat ps) w'∧Kept b w w':=by
 go_enter Tryz.func98,Tryz.ntmps98
 go_wp2
 go_loopw [8] (fun i wr=>∃ k:Nat,k≤ps.length∧i=.int .i64 k∧Sh b m o (t++cat (ps.take k)) wr∧Kept b w wr) (fun i _=>ps.length - (intOf i).toNat)
 case atStart=>exact ⟨0,by omega,rfl,by simpa [cat] using hs,Kept.refl _ _⟩
 case round =>
  obtain ⟨k,hk,rfl,hS,hK⟩:=hrel
  by_cases hlt:k < ps.length
  ·have hc:=(show PcAt wr g ps from hK.box hg hgb (by decide)).cell k hlt
   obtain ⟨c,hO,hSh⟩:=hS.sheet
   have hle:=hO.1
   have hle2:=cat_take ps (k+1)
   have hsn:=cat_snoc ps k hlt
   rw [hsn,List.length_append] at hle2
   have HSN:=hid hsn
   clear hsn
   simp only [List.length_append] at hle
   have hsz:ps[k].size=ps[k].data.toList.length:=by simp
   have hws:=writeString_any b b (.map (some m)) o c ps[k] wr hSh (by omega) (by have:=hS.bl;omega)
   clear hsz hle hle2
   go_wp2_with (go_at_call 60;refine hws.mono ?_;rintro e w1 ⟨rfl,h1,b1,k1⟩)
   go_roundw
   case rel =>
    refine ⟨k+1,by omega,by go_num,?_,hK.trans ⟨b1,k1⟩⟩
    rw [HSN.out,← List.append_assoc]
    exact hS.next b1 (hO.app _) h1
   case measure=>simp [intOf];omega
  ·have hk':ps.take k=ps:=List.take_of_length_le (by omega)
   rw [hk'] at hS
   go_wp2
   go_end0
   exact ⟨rfl,hS,hK⟩
def ind (o:Nat):List UInt8:=List.replicate (2 * o) 32
theorem ind_succ (k:Nat):ind (k+1)=ind k++[32,32]:=by
 unfold ind
 rw [show 2 * (k+1)=2 * k+1+1 from rfl,List.replicate_succ',List.replicate_succ',List.append_assoc];rfl
set_option maxRecDepth 100000 in
set_option maxHeartbeats 1000000 in
theorem begin_any (ps:List ByteArray) (g b m o:Nat) (t:List UInt8) (w:World) (hs:Sh b m o t w) (hg:PcAt w g ps) (hgb:g ≠ b) (hn:ps.length≤1000) (ho:o≤1000000) (hl:t.length+2 * o+(cat ps).length≤1000000000000) :
  Calls Tryz.prog 85 #[.pointer (some ⟨b,0,none⟩),.slice (some ⟨g,0,none⟩) ps.length ps.length] w fun e w'=>e=.returned (.tuple #[])∧Sh b m o (t++ind o++cat ps) w'∧Kept b w w':=by
 have hcell:w.cell? ⟨b,3,none⟩=some (.int .i64 (o:Int)):=by obtain ⟨c,_,h⟩:=hs.sheet;exact h.cells.2.1
 go_enter Tryz.func85,Tryz.ntmps85
 go_wp2
 go_loopw [8] (fun i wr=>∃ k:Nat,k≤o∧i=.int .i64 k∧Sh b m o (t++ind k) wr∧Kept b w wr) (fun i _=>o - (intOf i).toNat)
 case atStart=>exact ⟨0,by omega,rfl,by simpa [ind] using hs,Kept.refl _ _⟩
 case round =>
  obtain ⟨k,hk,rfl,hS,hK⟩:=hrel
  by_cases hlt:k < o
  ·obtain ⟨c,hO,hSh⟩:=hS.sheet
   have hle:=hO.1
   simp only [List.length_append,ind,List.length_replicate] at hle
   have hws:=writeString_any b b (.map (some m)) o c ⟨#[32,32]⟩ wr hSh (by show c.length+2≤_;omega) (by have:=hS.bl;omega)
   clear hle
   go_wp2_with (go_at_call 60;refine hws.mono ?_;rintro e w1 ⟨rfl,h1,b1,k1⟩)
   go_roundw
   case rel =>
    refine ⟨k+1,by omega,by go_num,?_,hK.trans ⟨b1,k1⟩⟩
    rw [ind_succ,← List.append_assoc]
    exact hS.next b1 (hO.app _) h1
   case measure=>simp [intOf];omega
  ·have hk':k=o:=by omega
   have hS2:Sh b m o (t++ind o) wr:=by rw [← hk'];rw [hk'] at hS ⊢;exact hS
   have hlay:=lay_any ps g b m o (t++ind o) wr hS2 (hK.box hg hgb (by decide)) hgb hn (by simp only [List.length_append,ind,List.length_replicate];omega)
   clear hk'
   go_wp2_with (go_at_call 98;refine hlay.mono ?_;rintro e w1 ⟨rfl,h1,k1⟩)
   go_end0
   exact ⟨rfl,h1,hK.trans k1⟩
end Go.Proofs.YtaekbgljbgmchaaGreatDoor
namespace Go.Proofs.YtaekbgljbgmchaaGreatDoor
open Go.RowKit
set_option maxHeartbeats 2000000 in
set_option maxRecDepth 100000 in
theorem string_some (b:Nat) (mv:Value) (o:Int) (l:List UInt8) (w:World) (h:Sheet b b mv o l w) (h0:l ≠ []) :
  Calls Tryz.prog 61 #[.pointer (some ⟨b,0,none⟩)] w fun e w'=>e=.returned (.string ⟨l.toArray⟩)∧Below b w w':=by
 obtain ⟨p,hB,v,hbk,hown⟩:∃ p,SheetAt b b p mv o l w:=h.elim (fun x=>⟨_,x⟩) (fun x=>⟨_,x⟩)
 have hl0:l.length ≠ 0:=by simpa using h0
 obtain ⟨g,cap,cur,rfl,hbg,hg,hnc,hcm,hcs,htake⟩:∃ g cap cur,v=.slice (some ⟨g,0,none⟩) l.length cap∧b≤g∧w.heap[g]?=some (.cells cur 5 (0,0))∧l.length≤cap∧cap≤maxLen∧cur.size=cap * 1∧cur.toList.take (l.length * 1)=Lib.byteCells l:=by
  rcases hown.2 with ⟨_,hz⟩ | ⟨g,cap,cur,hv,r⟩
  ·exact absurd hz hl0
  ·exact ⟨g,cap,cur,hv,r⟩
 have c1:w.drew.cell? ⟨b,1,none⟩=some (.slice (some ⟨g,0,none⟩) l.length cap):=by
  have:w.drew.heap[b]?=some (.cells #[p,.slice (some ⟨g,0,none⟩) l.length cap,mv,.int .i64 o] 98 (0,0)):=hbk
  rw [Lib.cell_of_heap this];rfl
 have hSD:(Builtin.unsafeSliceData_ #[94] 157 #[.slice (some ⟨g,0,none⟩) l.length cap]).run Tryz.prog w.drew=.ok (.pointer (some ⟨g,0,none⟩)) w.drew:=
  Lib.run_unsafeSliceData_row _ _ _ _ _ _ (by omega)
 have hUS:(Builtin.unsafeString_ #[157,3] 9 #[.pointer (some ⟨g,0,none⟩),.int .i64 l.length]).run Tryz.prog w.drew=.ok (.string ⟨l.toArray⟩) (w.drew.freeze ⟨g,0,none⟩ l.length):=by
  refine Lib.run_unsafeString_row w.drew 157 3 9 5 Tryz.underlying157 cellsByte g cur.size (by have hg':w.drew.heap[g]?=some (.cells cur 5 (0,0)):=hg;simp [World.shape?,hg']) l h0 (by omega) (by unfold maxLen at hcm;omega) ?_
  intro j x hx
  have:=hown.cells (g:=g) rfl j (.int .u8 x.toNat) (by simp [Lib.byteCells,hx])
  exact this
 go_enter Tryz.func61,Tryz.ntmps61
 go_wp2
 go_region
 all_goals (go_wp2;go_ret;exact ⟨rfl,Lib.below_freeze (Below.drew (Below.refl b w)) (p:=⟨g,0,none⟩) hbg _⟩)
set_option maxHeartbeats 2000000 in
set_option maxRecDepth 100000 in
theorem string_nil (b:Nat) (p mv:Value) (o:Int) (w:World) (hbk:w.heap[b]?=some (.cells #[p,.slice none 0 0,mv,.int .i64 o] 98 (0,0))) :
  Calls Tryz.prog 61 #[.pointer (some ⟨b,0,none⟩)] w fun e w'=>e=.returned (.string ⟨#[]⟩)∧Below b w w':=by
 have hUS:∀ (W:World) (q:Option Addr),(Builtin.unsafeString_ #[157,3] 9 #[.pointer q,.int .i64 0]).run Tryz.prog W=.ok (.string .empty) W:=fun W q=>Lib.run_unsafeString_none W _ _ _ q
 have c1:w.drew.cell? ⟨b,1,none⟩=some (.slice none 0 0):=by
  have:w.drew.heap[b]?=some (.cells #[p,.slice none 0 0,mv,.int .i64 o] 98 (0,0)):=hbk
  rw [Lib.cell_of_heap this];rfl
 have hSD:(Builtin.unsafeSliceData_ #[94] 157 #[.slice none 0 0]).run Tryz.prog w.drew=.ok (.pointer none) w.drew:=rfl
 go_enter Tryz.func61,Tryz.ntmps61
 go_wp2
 go_region
 all_goals (go_wp2;go_ret;exact ⟨rfl,Below.drew (Below.refl b w)⟩)
set_option maxHeartbeats 2000000 in
set_option maxRecDepth 100000 in
theorem string_noroom (b g:Nat) (p mv:Value) (o:Int) (cur:Array Value) (w:World) (hbk:w.heap[b]?=some (.cells #[p,.slice (some ⟨g,0,none⟩) 0 0,mv,.int .i64 o] 98 (0,0))) (hg:w.heap[g]?=some (.cells cur 5 (0,0))) :
  Calls Tryz.prog 61 #[.pointer (some ⟨b,0,none⟩)] w fun e w'=>e=.returned (.string ⟨#[]⟩)∧Below b w w':=by
 have hUS:∀ (W:World) (q:Option Addr),(Builtin.unsafeString_ #[157,3] 9 #[.pointer q,.int .i64 0]).run Tryz.prog W=.ok (.string .empty) W:=fun W q=>Lib.run_unsafeString_none W _ _ _ q
 have hlt:b < w.heap.size:=(Array.getElem?_eq_some_iff.1 hbk).1
 have c1:w.drew.cell? ⟨b,1,none⟩=some (.slice (some ⟨g,0,none⟩) 0 0):=by
  have:w.drew.heap[b]?=some (.cells #[p,.slice (some ⟨g,0,none⟩) 0 0,mv,.int .i64 o] 98 (0,0)):=hbk
  rw [Lib.cell_of_heap this];rfl
 have hSD:(Builtin.unsafeSliceData_ #[94] 157 #[.slice (some ⟨g,0,none⟩) 0 0]).run Tryz.prog w.drew=.ok (.pointer (some ⟨w.drew.heap.size,0,none⟩)) (w.drew.alloc (.view ⟨g,0,none⟩ 5)):=
  Lib.run_unsafeSliceData_zero w.drew _ _ 5 Tryz.underlying157 ⟨g,0,none⟩ 0 (5,cur.size) (by have hg':w.drew.heap[g]?=some (.cells cur 5 (0,0)):=hg;simp [World.shape?,hg'])
 have c2:(w.drew.alloc (.view ⟨g,0,none⟩ 5)).cell? ⟨b,1,none⟩=some (.slice (some ⟨g,0,none⟩) 0 0):=by
  have:(w.drew.alloc (.view ⟨g,0,none⟩ 5)).heap[b]?=_:=(Lib.alloc_old w.drew _ b hlt).trans hbk
  rw [Lib.cell_of_heap this];rfl
 have c3:(w.alloc (.view ⟨g,0,none⟩ 5)).drew.cell? ⟨b,1,none⟩=some (.slice (some ⟨g,0,none⟩) 0 0):=c2
 have c0:w.cell? ⟨b,1,none⟩=some (.slice (some ⟨g,0,none⟩) 0 0):=c1
 have hle:b≤w.heap.size:=by omega
 go_enter Tryz.func61,Tryz.ntmps61
 go_wp2
 go_region
 all_goals (go_wp2;go_ret;exact ⟨rfl,(Below.drew (Below.refl b w)).alloc hle _⟩)
set_option maxHeartbeats 2000000 in
set_option maxRecDepth 100000 in
theorem string_room (b g cap:Nat) (p mv:Value) (o:Int) (w:World) (hc0:cap ≠ 0) (hbk:w.heap[b]?=some (.cells #[p,.slice (some ⟨g,0,none⟩) 0 cap,mv,.int .i64 o] 98 (0,0))) :
  Calls Tryz.prog 61 #[.pointer (some ⟨b,0,none⟩)] w fun e w'=>e=.returned (.string ⟨#[]⟩)∧Below b w w':=by
 have hUS:∀ (W:World) (q:Option Addr),(Builtin.unsafeString_ #[157,3] 9 #[.pointer q,.int .i64 0]).run Tryz.prog W=.ok (.string .empty) W:=fun W q=>Lib.run_unsafeString_none W _ _ _ q
 have c1:w.drew.cell? ⟨b,1,none⟩=some (.slice (some ⟨g,0,none⟩) 0 cap):=by
  have:w.drew.heap[b]?=some (.cells #[p,.slice (some ⟨g,0,none⟩) 0 cap,mv,.int .i64 o] 98 (0,0)):=hbk
  rw [Lib.cell_of_heap this];rfl
 have hSD:(Builtin.unsafeSliceData_ #[94] 157 #[.slice (some ⟨g,0,none⟩) 0 cap]).run Tryz.prog w.drew=.ok (.pointer (some ⟨g,0,none⟩)) w.drew:=
  Lib.run_unsafeSliceData_row _ _ _ _ _ _ hc0
 clear hc0
 go_enter Tryz.func61,Tryz.ntmps61
 go_wp2
 go_region
 all_goals (go_wp2;go_ret;exact ⟨rfl,Below.drew (Below.refl b w)⟩)
theorem string_any (b:Nat) (mv:Value) (o:Int) (l:List UInt8) (w:World) (h:Sheet b b mv o l w) :
  Calls Tryz.prog 61 #[.pointer (some ⟨b,0,none⟩)] w fun e w'=>e=.returned (.string ⟨l.toArray⟩)∧Below b w w':=by
 cases l with
 | cons x r=>exact string_some b mv o (x :: r) w h (by simp)
 | nil =>
  obtain ⟨p,hB,v,hbk,hown⟩:∃ p,SheetAt b b p mv o [] w:=h.elim (fun x=>⟨_,x⟩) (fun x=>⟨_,x⟩)
  rcases hown.2 with ⟨rfl,_⟩ | ⟨g,cap,cur,rfl,hbg,hg,_,_,_,_⟩
  ·exact string_nil b p mv o w hbk
  ·by_cases hc0:cap=0
   ·subst hc0
    exact string_noroom b g p mv o cur w hbk hg
   ·exact string_room b g cap p mv o w hc0 hbk
def toldOf (t:List UInt8):Value:=if 20000 < t.length then .tuple #[.string ⟨#[]⟩,.int .i64 1] else .tuple #[.string ⟨t.toArray⟩,.int .i64 0]
set_option maxHeartbeats 1000000 in
theorem told_any (b m o:Nat) (t:List UInt8) (w:World) (hs:Sh b m o t w) :
  Calls Tryz.prog 49 #[.pointer (some ⟨b,0,none⟩)] w fun e w'=>e=.returned (toldOf t)∧Below b w w':=by
 obtain ⟨c,hO,hSh⟩:=hs.sheet
 have hf:=full_any b _ _ c w hSh
 have hS:=string_any b _ _ c w hSh
 cases hd:decide (20000 < c.length)
 ·rw [hd] at hf
  have hd2:=of_decide_eq_false hd
  have HT:Hid (toldOf t=.tuple #[.string ⟨c.toArray⟩,.int .i64 0]):=by
   have hct:c=t:=hO.2.resolve_right hd2
   show toldOf t=_
   rw [toldOf,if_neg (by rw [← hct];exact hd2),hct]
  clear hd hd2
  go_enter Tryz.func49,Tryz.ntmps49
  go_wp2_with (first
   | (go_at_call 87;refine hf.mono ?_;rintro e w' ⟨rfl,hw'⟩;have hw2:=hw'.symm;subst hw2)
   | (go_at_call 61;refine hS.mono ?_;rintro e w' ⟨rfl,hb⟩))
  go_ret2
  exact ⟨by rw [HT.out];rfl,hb⟩
 ·rw [hd] at hf
  have hd2:=of_decide_eq_true hd
  have HT:Hid (toldOf t=.tuple #[.string ⟨#[]⟩,.int .i64 1]):=by
   have:=hO.1
   show toldOf t=_
   rw [toldOf,if_pos (by omega)]
  clear hd hd2
  go_enter Tryz.func49,Tryz.ntmps49
  go_wp2_with (go_at_call 87;refine hf.mono ?_;rintro e w' ⟨rfl,hw'⟩;have hw2:=hw'.symm;subst hw2)
  go_ret2
  exact ⟨by rw [HT.out];rfl,Below.refl _ _⟩
theorem cat2 (a b:ByteArray):cat [a,b]=a.data.toList++b.data.toList:=by simp [cat]
theorem lay_new (ps:List ByteArray) (b m o:Nat) (t:List UInt8) (w:World) (hs:Sh b m o t w) (hn:ps.length≤1000) (hl:t.length+(cat ps).length≤1000000000000) :
  Calls Tryz.prog 98 #[.pointer (some ⟨b,0,none⟩),.slice (some ⟨w.heap.size,0,none⟩) ps.length ps.length] (w.alloc (.cells (ps.map Value.string).toArray 9)) fun e w'=>e=.returned (.tuple #[])∧Sh b m o (t++cat ps) w'∧Kept b w w':=by
 refine (lay_any ps w.heap.size b m o t _ (hs.al _) (heap_alloc_new w _) (by have:=hs.bl;omega) hn hl).mono ?_
 rintro e w' ⟨rfl,h1,h2⟩
 exact ⟨rfl,h1,((Kept.refl b w).al (by have:=hs.bl;omega) _).trans h2⟩
theorem begin_new (ps:List ByteArray) (b m o:Nat) (t:List UInt8) (w:World) (hs:Sh b m o t w) (hn:ps.length≤1000) (ho:o≤1000000) (hl:t.length+2 * o+(cat ps).length≤1000000000000) :
  Calls Tryz.prog 85 #[.pointer (some ⟨b,0,none⟩),.slice (some ⟨w.heap.size,0,none⟩) ps.length ps.length] (w.alloc (.cells (ps.map Value.string).toArray 9)) fun e w'=>e=.returned (.tuple #[])∧Sh b m o (t++(ind o++cat ps)) w'∧Kept b w w':=by
 refine (begin_any ps w.heap.size b m o t _ (hs.al _) (heap_alloc_new w _) (by have:=hs.bl;omega) hn ho hl).mono ?_
 rintro e w' ⟨rfl,h1,h2⟩
 exact ⟨rfl,by rw [← List.append_assoc];exact h1,((Kept.refl b w).al (by have:=hs.bl;omega) _).trans h2⟩
set_option maxHeartbeats 1000000 in
theorem end_any (s:ByteArray) (b m o:Nat) (t:List UInt8) (w:World) (hs:Sh b m o t w) (hl:t.length+s.size+1≤1000000000000) :
  Calls Tryz.prog 132 #[.pointer (some ⟨b,0,none⟩),.string s] w fun e w'=>e=.returned (.tuple #[])∧Sh b m o (t++(s.data.toList++[10])) w'∧Kept b w w':=by
 have hb:=hs.bl
 have hsz:s.size=s.data.toList.length:=by simp
 have hlay:=lay_any [s,⟨#[10]⟩] w.heap.size b m o t (w.alloc (.cells #[.string s,.string ⟨#[10]⟩] 9)) (hs.al _) (heap_alloc_new w _) (by omega) (by simp) (by rw [cat2];simp;omega)
 simp only [List.length_cons,List.length_nil,Nat.zero_add,Nat.reduceAdd,cat2] at hlay
 clear hsz
 go_enter Tryz.func132,Tryz.ntmps132
 go_wp2_with (go_at_call 98;refine hlay.mono ?_;rintro e w' ⟨rfl,h1,k1⟩)
 go_end0
 exact ⟨rfl,h1,((Kept.refl b w).al (by omega) _).trans k1⟩
set_option maxHeartbeats 1000000 in
theorem line_any (ps:List ByteArray) (g b m o:Nat) (t:List UInt8) (w:World) (hs:Sh b m o t w) (hg:PcAt w g ps) (hgb:g ≠ b) (hn:ps.length≤1000) (ho:o≤1000000) (hl:t.length+2 * o+(cat ps).length+1≤1000000000000) :
  Calls Tryz.prog 166 #[.pointer (some ⟨b,0,none⟩),.slice (some ⟨g,0,none⟩) ps.length ps.length] w fun e w'=>e=.returned (.tuple #[])∧Sh b m o (t++(ind o++cat ps++[10])) w'∧Kept b w w':=by
 have h1:=begin_any ps g b m o t w hs hg hgb hn ho (by omega)
 have hle:(t++ind o++cat ps).length=t.length+2 * o+(cat ps).length:=by simp [ind];omega
 have h2:∀ w',Sh b m o (t++ind o++cat ps) w'→Calls Tryz.prog 132 #[.pointer (some ⟨b,0,none⟩),.string ⟨#[]⟩] w' fun e w''=>e=.returned (.tuple #[])∧Sh b m o (t++(ind o++cat ps++[10])) w''∧Kept b w' w'':=fun w' h=>by
  refine (end_any ⟨#[]⟩ b m o _ w' h (by show _+0+1≤_;omega)).mono ?_
  rintro e w'' ⟨rfl,h3,h4⟩
  refine ⟨rfl,?_,h4⟩
  have e:t++(ind o++cat ps++[10])=t++ind o++cat ps++((⟨#[]⟩:ByteArray).data.toList++[10]):=by simp
  rw [e];exact h3
 go_enter Tryz.func166,Tryz.ntmps166
 go_wp2_with (first
  | (go_at_call 85;refine h1.mono ?_;rintro e w1 ⟨rfl,s1,k1⟩)
  | (go_at_call 132;refine (h2 _ s1).mono ?_;rintro e w2 ⟨rfl,s2,k2⟩))
 go_end0
 exact ⟨rfl,s2,k1.trans k2⟩
theorem line_new (ps:List ByteArray) (b m o:Nat) (t:List UInt8) (w:World) (hs:Sh b m o t w) (hn:ps.length≤1000) (ho:o≤1000000) (hl:t.length+2 * o+(cat ps).length+1≤1000000000000) :
  Calls Tryz.prog 166 #[.pointer (some ⟨b,0,none⟩),.slice (some ⟨w.heap.size,0,none⟩) ps.length ps.length] (w.alloc (.cells (ps.map Value.string).toArray 9)) fun e w'=>e=.returned (.tuple #[])∧Sh b m o (t++(ind o++cat ps++[10])) w'∧Kept b w w':=by
 refine (line_any ps w.heap.size b m o t _ (hs.al _) (heap_alloc_new w _) (by have:=hs.bl;omega) hn ho hl).mono ?_
 rintro e w' ⟨rfl,h1,h2⟩
 exact ⟨rfl,h1,((Kept.refl b w).al (by have:=hs.bl;omega) _).trans h2⟩
end Go.Proofs.YtaekbgljbgmchaaGreatDoor
namespace Go.Proofs.YtaekbgljbgmchaaGreatDoor
open Go.RowKit
theorem row6 {α:Type} {cells:α→List Value} {W:World} {b off:Nat} {l:List α} (h:RowAt 6 cells W b off l) (k:Nat) (hk:k < l.length) {c0 c1 c2 c3 c4 c5:Value} (hc:cells l[k]=[c0,c1,c2,c3,c4,c5]) :
  W.cell? ⟨b,off+k * 6,none⟩=some c0∧W.cell? ⟨b,off+k * 6+1,none⟩=some c1∧W.cell? ⟨b,off+k * 6+2,none⟩=some c2∧W.cell? ⟨b,off+k * 6+3,none⟩=some c3∧W.cell? ⟨b,off+k * 6+4,none⟩=some c4∧W.cell? ⟨b,off+k * 6+5,none⟩=some c5:=by
 have h':=h k hk
 rw [hc] at h'
 exact ⟨h' 0 (by omega),h' 1 (by omega),h' 2 (by omega),h' 3 (by omega),h' 4 (by omega),h' 5 (by omega)⟩
set_option maxRecDepth 100000 in
set_option maxHeartbeats 1000000 in
theorem eqf38 (f:Ex→Ex→Bool) (n₀:Nat) (xs ys:List Ex) (ad ad':Option Addr) (cap cap':Nat) (w:World) (hn:n₀≤w.heap.size) (ha:SlAt 6 Ex.cells n₀ w ad cap xs) (hb:SlAt 6 Ex.cells n₀ w ad' cap' ys)
  (heq:∀ (k:Nat) (h1:k < xs.length) (h2:k < ys.length) W,Below n₀ w W→Calls Tryz.prog 24 #[xs[k].val,ys[k].val] W fun e W'=>e=.returned (.bool (f xs[k] ys[k]))∧Below W.heap.size W W') :
  Calls Tryz.prog 56 #[.slice ad xs.length cap,.slice ad' ys.length cap',.func (.func 24) #[] #[]] w fun e w'=>e=.returned (.bool (all2 f xs ys))∧Below w.heap.size w w':=by
 have hl1:=ha.1;have hl2:=ha.2.1;have hl3:=hb.1;have hl4:=hb.2.1
 unfold maxLen at hl2 hl4
 by_cases hlen:xs.length=ys.length
 ·have hlb:((xs.length:Int) != (ys.length:Int))=false:=by rw [bne_eq_false_iff_eq];omega
  have HLEN:=hid hlen
  clear hlen
  go_enter Tryz.func56,Tryz.ntmps56
  go_wp2
  go_loopw [17] (fun i wr=>∃ k:Nat,k≤xs.length∧i=.int .i64 k∧Hid (all2 f (xs.take k) (ys.take k)=true)∧Below w.heap.size w wr) (fun i _=>xs.length - (intOf i).toNat)
  case atStart=>exact ⟨0,by omega,rfl,rfl,Below.refl _ _⟩
  case round =>
   obtain ⟨k,hk,rfl,HA,hbw⟩:=hrel
   by_cases hlt:k < xs.length
   ·have hlt':k < ys.length:=by have:=HLEN.out;omega
    rcases ha.2.2 with h | ⟨b,off,rfl,hbn,hrow⟩
    ·subst h;simp at hlt
    rcases hb.2.2 with h | ⟨b',off',rfl,hbn',hrow'⟩
    ·subst h;simp at hlt'
    have hbn1:b < wr.heap.size:=by have:=hbw.size;omega
    have hbn2:b' < wr.heap.size:=by have:=hbw.size;omega
    have hq:=heq k hlt hlt'
    have HS:=hid (all2_snoc f xs ys k hlt hlt')
    have HC:=hid (all2_cut f xs ys k hlt hlt')
    have hr:=hrow.below (hbw.mono hn) hbn
    have hr':=hrow'.below (hbw.mono hn) hbn'
    rcases he:xs[k] with ⟨op,mon,name,n,ad,cp,kids,pos⟩
    rcases he':ys[k] with ⟨op',mon',name',n',ad',cp',kids',pos'⟩
    obtain ⟨c0,c1,c2,c3,c4,c5⟩:=row6 hr k hlt (by rw [he];rfl)
    obtain ⟨d0,d1,d2,d3,d4,d5⟩:=row6 hr' k hlt' (by rw [he'];rfl)
    simp only [he,he',Ex.val,Ex.cells] at hq
    have HF:=hid he
    have HF':=hid he'
    clear he he'
    cases hf:f xs[k] ys[k]
    ·have hf2:=hf
     rw [HF.out,HF'.out] at hf2
     rw [hf2] at hq
     go_wp2_with (go_at_call 24;refine (hq _ (((hbw.mono hn).al hn _).al hn _)).mono ?_;rintro e w1 ⟨rfl,hb1⟩)
     go_ret
     exact ⟨ret_bool (HC.out hf).symm,((hbw.al le_rfl' _).al le_rfl' _).tr le_rfl' hb1⟩
    ·have hf2:=hf
     rw [HF.out,HF'.out] at hf2
     rw [hf2] at hq
     go_wp2_with (go_at_call 24;refine (hq _ (((hbw.mono hn).al hn _).al hn _)).mono ?_;rintro e w1 ⟨rfl,hb1⟩)
     go_roundw
     case rel=>exact ⟨k+1,by omega,by go_num,by rw [HS.out,HA.out,hf];rfl,((hbw.al le_rfl' _).al le_rfl' _).tr le_rfl' hb1⟩
     case measure=>simp [intOf];omega
   ·have hk':k=xs.length:=by omega
    go_wp2
    go_ret
    refine ⟨ret_bool ?_,hbw⟩
    have:=HA.out
    rw [hk',List.take_length,HLEN.out,List.take_length] at this
    exact this.symm
 ·have hlb:((xs.length:Int) != (ys.length:Int))=true:=by rw [bne_iff_ne];omega
  have HL:=hid (all2_len f xs ys hlen)
  go_enter Tryz.func56,Tryz.ntmps56
  go_wp2
  go_ret
  exact ⟨ret_bool HL.out.symm,Below.refl _ _⟩
theorem same_mk (op op':Int) (mon name mon' name':ByteArray) (n n':Int) (ad ad':Option Addr) (cap cap':Nat) (kids kids':List Ex) (pos pos':Int) :
  (Ex.mk op mon name n ad cap kids pos).same (Ex.mk op' mon' name' n' ad' cap' kids' pos')=((op == op') && (mon.toList == mon'.toList) && (name.toList == name'.toList) && (n == n') && all2 Ex.same kids kids'):=by
 rw [Ex.same,Ex.sameL_eq]
set_option maxRecDepth 100000 in
set_option maxHeartbeats 1000000 in
theorem sameExpr_any (n₀:Nat) (a:Ex):∀ (b:Ex) (w:World),n₀≤w.heap.size→a.Is n₀ w→b.Is n₀ w →
  Calls Tryz.prog 24 #[a.val,b.val] w fun e w'=>e=.returned (.bool (a.same b))∧Below w.heap.size w w':=by
 induction a using Ex.ind with
 | h op mon name n ad cap kids pos ih =>
  rintro ⟨op',mon',name',n',ad',cap',kids',pos'⟩ w hn ha hb
  have hS:=same_mk op op' mon name mon' name' n n' ad ad' cap cap' kids kids' pos pos'
  have HS:=hid hS
  clear hS
  simp only [Ex.val,Ex.cells]
  cases h1:(op == op')
  ·go_enter Tryz.func24,Tryz.ntmps24
   go_wp2
   go_ret
   exact ⟨ret_bool (by rw [HS.out,h1];rfl),((Below.refl _ _).al le_rfl' _).al le_rfl' _⟩
  cases h2:(mon.toList == mon'.toList)
  ·go_enter Tryz.func24,Tryz.ntmps24
   go_wp2
   go_ret
   exact ⟨ret_bool (by rw [HS.out,h1,h2];rfl),((Below.refl _ _).al le_rfl' _).al le_rfl' _⟩
  cases h3:(name.toList == name'.toList)
  ·go_enter Tryz.func24,Tryz.ntmps24
   go_wp2
   go_ret
   exact ⟨ret_bool (by rw [HS.out,h1,h2,h3];rfl),((Below.refl _ _).al le_rfl' _).al le_rfl' _⟩
  cases h4:(n == n')
  ·go_enter Tryz.func24,Tryz.ntmps24
   go_wp2
   go_ret
   exact ⟨ret_bool (by rw [HS.out,h1,h2,h3,h4];rfl),((Below.refl _ _).al le_rfl' _).al le_rfl' _⟩
  have hcall:∀ W,Below n₀ w W→Calls Tryz.prog 56 #[.slice ad kids.length cap,.slice ad' kids'.length cap',.func (.func 24) #[] #[]] W fun e w'=>e=.returned (.bool (all2 Ex.same kids kids'))∧Below W.heap.size W w':=fun W hW =>
   eqf38 Ex.same n₀ kids kids' ad ad' cap cap' W (by have:=hW.size;omega) (ha.down.2.1.below hW) (hb.down.2.1.below hW)
    (fun k k1 k2 W' hW'=>ih kids[k] (List.getElem_mem k1) kids'[k] W' (by have:=hW.size;have:=hW'.size;omega) ((ha.down.2.2 _ (List.getElem_mem k1)).below (hW.trans hW')) ((hb.down.2.2 _ (List.getElem_mem k2)).below (hW.trans hW')))
  clear ha hb ih
  go_enter Tryz.func24,Tryz.ntmps24
  go_wp2_with (go_at_call 56;refine (hcall _ (((Below.refl n₀ w).al hn _).al hn _)).mono ?_;rintro e w1 ⟨rfl,hb1⟩)
  go_ret
  exact ⟨ret_bool (by rw [HS.out,h1,h2,h3,h4];rfl),(((Below.refl _ _).al le_rfl' _).al le_rfl' _).tr le_rfl' hb1⟩
end Go.Proofs.YtaekbgljbgmchaaGreatDoor
namespace Go.Proofs.YtaekbgljbgmchaaGreatDoor
open Go.RowKit Go.Shelf
attribute [local go_sem] Oper.semAt_some
theorem room_of_none {F:Fence} (hd:F.depth=none) (k:Nat):F.room k:=fun d h=>by rw [hd] at h;cases h
theorem roundIn_anyDepth {F:Fence} (hd:F.depth=none) {m m':Nat} {P:Program} {l:Nat} {f:FuncId} {tmps:Array Value} {assign body:Code} {w:World} {R:Ending→World→Prop}
  (h:RoundIn F m P l f tmps assign body w R):RoundIn F m' P l f tmps assign body w R:=⟨h.1,fun c cs _=>h.2 c cs (room_of_none hd _)⟩
theorem yieldAt_anyDepth {F:Fence} (hd:F.depth=none) {m:Nat} (m':Nat) {P:Program} {l:Nat} {args:Array Value} {W:World} {R:Ending→World→Prop} (h:YieldAt F m P l args W R):YieldAt F m' P l args W R:=by
 obtain ⟨fn,tmps,assign,body,hy,hR⟩:=h
 exact ⟨fn,tmps,assign,body,hy,roundIn_anyDepth hd hR⟩
def Kpi (n₀ B:Nat) (W W':World):Prop:=Below n₀ W W'∧∀ k c t z,B≤k→t ≠ 9→W.heap[k]?=some (.cells c t z)→W'.heap[k]?=some (.cells c t z)
theorem Kpi.t {n₀ B:Nat} {W1 W2 W3:World} (h:Kpi n₀ B W1 W2) (k:Kpi n₀ B W2 W3):Kpi n₀ B W1 W3:=⟨h.1.trans k.1,fun j c t z hj ht hc=>k.2 j c t z hj ht (h.2 j c t z hj ht hc)⟩
theorem Kpi.b {n₀ B:Nat} {w:World} (hn:n₀≤w.heap.size) (W:World) (l:Nat) (o o':Obj) (hl:w.heap.size≤l) (h:W.heap[l]?=some o) (hc:o.isCells=false) (hw:o.isWalk=false):Kpi n₀ B W (W.putObj l o'):=
 ⟨belowK_b hn W l o o' hl h hc hw,fun k _ _ _ _ _ hk=>by
  have hne:k ≠ l:=by rintro rfl;rw [h] at hk;cases hk;cases hc
  exact (World.putObj_heap_other (fun e=>hne (by rw [e]))).trans hk⟩
theorem Kpi.of {n₀ B:Nat} {W W':World} (hn:n₀≤W.heap.size) (h:Below W.heap.size W W'):Kpi n₀ B W W':=
 ⟨h.mono hn,fun k _ _ _ _ _ hk=>(h.block k (Array.getElem?_eq_some_iff.1 hk).1).trans hk⟩
theorem Kpi.refl (n₀ B:Nat) (W:World):Kpi n₀ B W W:=⟨Below.refl _ _,fun _ _ _ _ _ _ h=>h⟩
theorem Kpi.alloc {n₀ B:Nat} {W:World} (hn:n₀≤W.heap.size) (o:Obj):Kpi n₀ B W (W.alloc o):=Kpi.of hn ((Below.refl _ _).al le_rfl' _)
abbrev ExA (n₀:Nat) (w:World):={ x:Ex // x.Is n₀ w }
theorem cell_of {W:World} {B:Nat} {c:Array Value} {t:TypeId} {z:Nat × Nat} (h:W.heap[B]?=some (.cells c t z)) (i:Nat):W.cell? ⟨B,i,none⟩=c[i]?:=by
 simp [World.cell?,h]
theorem subsL_pre (l:List Ex) (k:Nat):(Ex.subsL (l.take k)).length≤(Ex.subsL l).length:=by
 conv=>rhs;rw [← List.take_append_drop k l,Ex.subsL_eq,List.flatMap_append]
 rw [Ex.subsL_eq];simp
theorem subsL_prefix (l:List Ex) (k:Nat):Ex.subsL (l.take k) <+: Ex.subsL l:=by
 refine ⟨Ex.subsL (l.drop k),?_⟩
 rw [Ex.subsL_eq,Ex.subsL_eq,Ex.subsL_eq,← List.flatMap_append,List.take_append_drop]
set_option maxRecDepth 100000 in
set_option maxHeartbeats 2000000 in
theorem passExpr_in (F:Fence) (hd:F.depth=none) (h141:F.fn 141) (hro:F.round=none) (l n₀ B N:Nat) (w:World) (hn₀:n₀≤w.heap.size) (hBw:B≤w.heap.size) (J Jx:List (ExA n₀ w)→World→Prop)
  (hJA:∀ pre W o,J pre W→J pre (W.alloc o))
  (hY:∀ m pre (x:ExA n₀ w) W,J pre W→pre.length < N→YieldAt F m Tryz.prog l #[x.1.val] W fun e W' =>
   (e=.returned (.bool true)∧J (pre++[x]) W'∧Kpi n₀ B W W') ∨ (e=.returned (.bool false)∧Jx (pre++[x]) W')) (T:Ex) :
  ∀ (n:Nat) (pre:List (ExA n₀ w)) (W:World),T.Is n₀ w→Below n₀ w W→J pre W→pre.length+T.subs.length≤N →
   CallsIn F n Tryz.prog 141 #[T.val,.func (.yield l) #[] #[]] W fun e W' =>
    (e=.returned (.bool true)∧∃ q,q.map Subtype.val=T.subs∧J (pre++q) W'∧Kpi n₀ B W W') ∨ (e=.returned (.bool false)∧∃ q,q.map Subtype.val <+: T.subs∧Jx (pre++q) W'):=by
 induction T using Ex.ind with
 | h op mon name k ad cap kids pos ih =>
  intro n pre W hT hB hJ hN
  have hT':=hT.down
  have hdd:∀ k:Nat,(F.depth.isSome=true→1≤k):=fun k h=>by rw [hd] at h;cases h
  have hlW:=hB.size
  have hl1:=hT'.2.1.1;have hl2:=hT'.2.1.2.1
  unfold maxLen at hl2
  rw [Ex.subs_mk] at hN
  simp only [List.length_cons] at hN
  have HSU:=hid (Ex.subs_mk op mon name k ad cap kids pos)
  have hy0:=hY (n - 1) pre ⟨_,hT⟩ (W.alloc (.cells #[.int .i64 op,.string mon,.string name,.int .i64 k,.slice ad kids.length cap,.int .i64 pos] 25)) (hJA _ _ _ hJ) (by omega)
  have hy0:=YieldAt.mono hy0 (R':=fun e W'=>(e=.returned (.bool true)∧J (pre++[⟨_,hT⟩]) W'∧Kpi n₀ B W W'∧W'.cell? ⟨W.heap.size,4,none⟩=some (.slice ad kids.length cap)) ∨ (e=.returned (.bool false)∧Jx (pre++[⟨_,hT⟩]) W')) fun e W' h=>h.elim
   (fun ⟨he,hj,hk⟩=>.inl ⟨he,hj,(Kpi.alloc (by omega) _).t hk,by rw [cell_of (hk.2 _ _ _ _ (by omega) (by decide) (World.alloc_heap_new W _))];rfl⟩) .inr
  simp only [Ex.val,Ex.cells] at hy0 ⊢
  obtain ⟨fn,tmps,assign,body,hy,hR⟩:=hy0
  clear hY
  refine callsIn_of_wp Tryz.func141 rfl h141 ?_ hro
  simp only [Tryz.ntmps141,List.size_toArray,List.length_cons,List.length_nil,Nat.reduceAdd,Nat.reduceSub,Array.replicate_succ,Array.replicate_zero,List.push_toArray,List.append_toArray,List.nil_append,List.cons_append]
  gi_wp2_with (first
   | ((try refine ⟨hdd _,?_⟩);refine hR.mono ?_;clear hR;rintro e W1 (⟨rfl,hJ1,hk1,hc1⟩ | ⟨rfl,hx1⟩)))
  ·gi_loopw [14] (fun i wr=>∃ (j:Nat) (q:List (ExA n₀ w)),j≤kids.length∧i=.int .i64 j∧Hid (q.map Subtype.val=(Ex.mk op mon name k ad cap kids pos) :: Ex.subsL (kids.take j))∧J (pre++q) wr∧Kpi n₀ B W wr)
    (fun i _=>kids.length - (intOf i).toNat)
   case atStart=>exact ⟨0,[⟨_,hT⟩],by omega,rfl,by simp [Hid,Ex.subsL],hJ1,hk1⟩
   case round =>
    obtain ⟨j,q,hj,rfl,HQ,hJj,hkj⟩:=hrel
    by_cases hlt:j < kids.length
    ·rcases hT'.2.1.2.2 with h | ⟨b,off,rfl,hbn,hrow⟩
     ·subst h;simp at hlt
     have hB2:=hB.trans hkj.1
     have hr:=hrow.below hB2 hbn
     have hbr:b < wr.heap.size:=by have:=hB2.size;omega
     have hI:=hT'.2.2 _ (List.getElem_mem hlt)
     have HSN:=hid (Ex.subsL_snoc kids j hlt)
     have hlen:q.length=(Ex.subsL (kids.take j)).length+1:=by have:=congrArg List.length HQ.out;simpa using this
     have hcnt:=subsL_pre kids (j+1)
     rw [HSN.out,List.length_append] at hcnt
     have hq:=ih _ (List.getElem_mem hlt) (n - 1) (pre++q) (wr.alloc (.cells (kids[j]).cells.toArray 25)) hI (hB2.al hn₀ _) (hJA _ _ _ hJj) (by rw [List.length_append];omega)
     have hq:=hq.mono (R':=fun e W'=>(e=.returned (.bool true)∧(∃ q,Hid (q.map Subtype.val=(Ex.mk op mon name k (some ⟨b,off,none⟩) cap kids pos) :: Ex.subsL (kids.take (j+1)))∧J (pre++q) W'∧Kpi n₀ B W W')) ∨ (e=.returned (.bool false)∧∃ q,q.map Subtype.val <+: (Ex.mk op mon name k (some ⟨b,off,none⟩) cap kids pos).subs∧Jx (pre++q) W')) (by
      rintro e W' (⟨rfl,q2,hq2,hJ2,hk2⟩ | ⟨rfl,q2,hq2,hx2⟩)
      ·refine .inl ⟨rfl,q++q2,?_,by rw [← List.append_assoc];exact hJ2,hkj.t ((Kpi.alloc (by have:=hB2.size;omega) _).t hk2)⟩
       show _=_
       rw [List.map_append,HQ.out,hq2,HSN.out];rfl
      ·refine .inr ⟨rfl,q++q2,?_,by rw [← List.append_assoc];exact hx2⟩
       rw [List.map_append,HQ.out,HSU.out,List.cons_append]
       refine List.prefix_cons_inj _ |>.2 ?_
       refine List.IsPrefix.trans (List.prefix_append_right_inj _ |>.2 hq2) ?_
       rw [← HSN.out]
       exact subsL_prefix kids (j+1))
     clear ih
     rcases he:kids[j] with ⟨op',mon',name',n',ad',cp',kids',pos'⟩
     obtain ⟨c0,c1,c2,c3,c4,c5⟩:=row6 hr j hlt (by rw [he];rfl)
     simp only [he,Ex.val,Ex.cells] at hq
     have HF:=hid he
     clear he
     gi_wp2_with ((try refine ⟨hdd _,?_⟩);gi_at_call 141;refine hq.mono ?_;clear hq;rintro e W2 (⟨rfl,q2,hq2,hJ2,hk2⟩ | ⟨rfl,q2,hq2,hx2⟩))
     ·go_roundw
      case rel=>exact ⟨j+1,q2,by omega,by go_num,hq2,hJ2,hk2⟩
      case measure=>simp [intOf];omega
     ·go_ret
      exact .inr ⟨rfl,q2,hq2,hx2⟩
    ·have hj':j=kids.length:=by omega
     gi_wp2
     go_ret
     refine .inl ⟨rfl,q,?_,hJj,hkj⟩
     rw [HQ.out,HSU.out,hj',List.take_length]
  ·go_ret
   exact .inr ⟨rfl,[⟨_,hT⟩],by rw [HSU.out];simp,hx1⟩
end Go.Proofs.YtaekbgljbgmchaaGreatDoor
namespace Go.Proofs.YtaekbgljbgmchaaGreatDoor
open Go.RowKit Go.Shelf
attribute [local go_sem] Oper.semAt_some
def ExBox (W:World) (b:Nat) (e:Ex):Prop:=W.heap[b]?=some (.cells e.cells.toArray 25 (0,0))
theorem ExBox.cells {W:World} {b:Nat} {op:Int} {mon name:ByteArray} {n:Int} {ad:Option Addr} {cap:Nat} {kids:List Ex} {pos:Int} (h:ExBox W b (.mk op mon name n ad cap kids pos)) :
  W.cell? ⟨b,0,none⟩=some (.int .i64 op)∧W.cell? ⟨b,1,none⟩=some (.string mon)∧W.cell? ⟨b,2,none⟩=some (.string name)∧W.cell? ⟨b,3,none⟩=some (.int .i64 n)∧W.cell? ⟨b,4,none⟩=some (.slice ad kids.length cap)∧W.cell? ⟨b,5,none⟩=some (.int .i64 pos):=by
 have h':W.heap[b]?=some (.cells #[.int .i64 op,.string mon,.string name,.int .i64 n,.slice ad kids.length cap,.int .i64 pos] 25 (0,0)):=h
 exact ⟨cell_of h' 0,cell_of h' 1,cell_of h' 2,cell_of h' 3,cell_of h' 4,cell_of h' 5⟩
theorem ExBox.lt {W:World} {b:Nat} {e:Ex} (h:ExBox W b e):b < W.heap.size:=(Array.getElem?_eq_some_iff.1 h).1
theorem ExBox.below {W W':World} {b n:Nat} {e:Ex} (h:ExBox W b e) (hb:Below n W W') (hlt:b < n):ExBox W' b e:=(hb.block b hlt).trans h
theorem ExBox.new (W:World) (e:Ex):ExBox (W.alloc (.cells e.cells.toArray 25)) W.heap.size e:=World.alloc_heap_new W _
set_option maxHeartbeats 1000000 in
theorem parts1_in (F:Fence) (hd:F.depth=none) (n:Nat) (h140:F.fn 140) (h141:F.fn 141) (hro:F.round=none) (l Bt n₀ B:Nat) (w:World) (hn₀:n₀≤w.heap.size) (hBw:B≤w.heap.size) (T:Ex) (hT:T.Is n₀ w) (J Jx:List (ExA n₀ w)→World→Prop)
  (hJA:∀ pre W o,J pre W→J pre (W.alloc o))
  (hY:∀ pre (x:ExA n₀ w) W,J pre W→pre.length < T.subs.length→YieldAt F (n - 1) Tryz.prog l #[x.1.val] W fun e W' =>
   (e=.returned (.bool true)∧J (pre++[x]) W'∧Kpi n₀ B W W') ∨ (e=.returned (.bool false)∧Jx (pre++[x]) W'))
  (W:World) (hW:Below n₀ w W) (hBt:ExBox W Bt T) (h0:J [] W) :
  CallsIn F n Tryz.prog 140 #[.func (.yield l) #[] #[],.pointer (some ⟨Bt,0,none⟩)] W fun e W'=>(∃ v,e=.returned v) ∧
   ((∃ ys:List (ExA n₀ w),ys.map Subtype.val=T.subs∧J ys W') ∨ (∃ pre:List (ExA n₀ w),pre.map Subtype.val <+: T.subs∧Jx pre W')):=by
 have hdd:∀ k:Nat,(F.depth.isSome=true→1≤k):=fun k h=>by rw [hd] at h;cases h
 have hp:=passExpr_in F hd h141 hro l n₀ B T.subs.length w hn₀ hBw J Jx hJA (fun m pre x W hj hl=>yieldAt_anyDepth hd m (hY pre x W hj hl)) T (n - 1) [] W hT hW h0 (by simp)
 rcases T with ⟨op,mon,name,k,ad,cap,kids,pos⟩
 obtain ⟨c0,c1,c2,c3,c4,c5⟩:=hBt.cells
 have HSU:=hid (Ex.subs_mk op mon name k ad cap kids pos)
 simp only [Ex.val,Ex.cells] at hp
 refine callsIn_of_wp Tryz.func140 rfl h140 ?_ hro
 simp only [Tryz.ntmps140,List.size_toArray,List.length_cons,List.length_nil,Nat.reduceAdd,Nat.reduceSub,Array.replicate_succ,Array.replicate_zero,List.push_toArray,List.append_toArray,List.nil_append,List.cons_append]
 gi_wp2_with ((try refine ⟨hdd _,?_⟩);gi_at_call 141;refine hp.mono ?_;clear hp;rintro e W1 (⟨rfl,q,hq,hJ1,_⟩ | ⟨rfl,q,hq,hx⟩))
 ·go_end0
  exact ⟨⟨_,rfl⟩,.inl ⟨_,hq,by simpa using hJ1⟩⟩
 ·go_end0
  exact ⟨⟨_,rfl⟩,.inr ⟨q,hq,by simpa using hx⟩⟩
set_option maxHeartbeats 1000000 in
theorem parts_in (F:Fence) (n:Nat) (h95:F.fn 95) (hro:F.round=none) (T:Ex) (w:World) :
  CallsIn F n Tryz.prog 95 #[T.val] w fun e w'=>e=.returned (.func (.func 140) #[] #[.pointer (some ⟨w.heap.size,0,none⟩)])∧w'=w.alloc (.cells T.cells.toArray 25):=by
 rcases T with ⟨op,mon,name,k,ad,cap,kids,pos⟩
 simp only [Ex.val,Ex.cells]
 refine callsIn_of_wp Tryz.func95 rfl h95 ?_ hro
 simp only [Tryz.ntmps95,List.size_toArray,List.length_cons,List.length_nil,Nat.reduceAdd,Nat.reduceSub,Array.replicate_succ,Array.replicate_zero,List.push_toArray,List.append_toArray,List.nil_append,List.cons_append]
 gi_wp2
 go_ret
 exact ⟨rfl,rfl⟩
theorem parts_stops (F:Fence) (hd:F.depth=none) (n:Nat) (h140:F.fn 140) (h141:F.fn 141) (hro:F.round=none) (Bt n₀ B:Nat) (w:World) (hn₀:n₀≤w.heap.size) (hBw:B≤w.heap.size) (T:Ex) (hT:T.Is n₀ w) (hBt:ExBox w Bt T) :
  SeqStopsK F n Tryz.prog 140 #[.pointer (some ⟨Bt,0,none⟩)] (fun x:ExA n₀ w=>#[x.1.val]) (Kpi n₀ B) (fun ys=>ys.map Subtype.val=T.subs) (fun pre=>pre.map Subtype.val <+: T.subs) T.subs.length w:=fun l J Jx W hW hJ _ hY h0 =>
 parts1_in F hd n h140 h141 hro l Bt n₀ B w hn₀ hBw T hT J Jx (fun pre W' o hj=>hJ pre W' _ none hj (World.grownBy_alloc W' o none) (fun r e=>by cases e)) hY W (hW.mono hn₀) (hBt.below hW hBt.lt) h0
end Go.Proofs.YtaekbgljbgmchaaGreatDoor
namespace Go.Proofs.YtaekbgljbgmchaaGreatDoor
open Go.RowKit
def exNames (k:Nat):Bool:=k == 4
def exNumber (k:Nat):Bool:=k == 1 || k == 7
def exKids (k:Nat):Nat:=if k < 5 then 0 else if k < 8 then 1 else 2
def stMon (k:Nat):Bool:=k == 2 || (7≤k && k≤11)
def stName (k:Nat):Bool:=k == 2 || k == 8
def stNumber (k:Nat):Bool:=k == 9
def stExpr (k:Nat):Bool:=2≤k && k≤4
def stLeast (k:Nat):Nat:=if 3≤k∧k≤7 then 1 else 0
def stMost (k:Nat):Nat:=if k=3 then 2 else if k=6 then 8 else if 4≤k∧k≤7 then 1 else 0
structure Shapes (W:World):Prop where
 size:2≤W.heap.size
 ex:∀ k,k < 18→W.cell? ⟨1,k * 3,none⟩=some (.bool (exNames k))∧W.cell? ⟨1,k * 3+1,none⟩=some (.bool (exNumber k))∧W.cell? ⟨1,k * 3+2,none⟩=some (.int .i64 (exKids k:Nat))
 st:∀ k,k < 12→W.cell? ⟨0,k * 6,none⟩=some (.bool (stMon k))∧W.cell? ⟨0,k * 6+1,none⟩=some (.bool (stName k))∧W.cell? ⟨0,k * 6+2,none⟩=some (.bool (stNumber k))∧W.cell? ⟨0,k * 6+3,none⟩=some (.bool (stExpr k)) ∧
  W.cell? ⟨0,k * 6+4,none⟩=some (.int .i64 (stLeast k:Nat))∧W.cell? ⟨0,k * 6+5,none⟩=some (.int .i64 (stMost k:Nat))
theorem Shapes.below {n:Nat} {W W':World} (h:Shapes W) (hb:Below n W W') (hn:2≤n):Shapes W':=by
 refine ⟨by have:=h.size;have:=hb.size;omega,fun k hk=>?_,fun k hk=>?_⟩
 ·obtain ⟨h0,h1,h2⟩:=h.ex k hk
  exact ⟨(hb.cell (p:=⟨1,_,none⟩) (by show 1 < n;omega)).trans h0,(hb.cell (p:=⟨1,_,none⟩) (by show 1 < n;omega)).trans h1,(hb.cell (p:=⟨1,_,none⟩) (by show 1 < n;omega)).trans h2⟩
 ·obtain ⟨h0,h1,h2,h3,h4,h5⟩:=h.st k hk
  exact ⟨(hb.cell (p:=⟨0,_,none⟩) (by show 0 < n;omega)).trans h0,(hb.cell (p:=⟨0,_,none⟩) (by show 0 < n;omega)).trans h1,(hb.cell (p:=⟨0,_,none⟩) (by show 0 < n;omega)).trans h2,(hb.cell (p:=⟨0,_,none⟩) (by show 0 < n;omega)).trans h3,(hb.cell (p:=⟨0,_,none⟩) (by show 0 < n;omega)).trans h4,(hb.cell (p:=⟨0,_,none⟩) (by show 0 < n;omega)).trans h5⟩
def fitsName (s:ByteArray) (b:Bool):Bool:=if b then Lx.name s else decide (s.size=0)
def fitsNum (n:Int) (b:Bool):Bool:=(n == 0) || (b && decide (0 < n))
theorem isEmpty_size (s:ByteArray):s.toList.isEmpty=decide (s.size=0):=by
 rw [Bool.eq_iff_iff,decide_eq_true_iff,ByteArray.toList_eq,List.isEmpty_iff]
 constructor
 ·intro h
  have:=congrArg List.length h
  simpa using this
 ·intro h
  apply List.eq_nil_of_length_eq_zero
  simpa using h
theorem fitsName_any (s:ByteArray) (b:Bool) (w:World) (hs:Len s) :
  Calls Tryz.prog 92 #[.string s,.bool b] w fun e w'=>e=.returned (.bool (fitsName s b))∧w'=w:=by
 cases b
 ·go_enter Tryz.func92,Tryz.ntmps92
  go_wp2
  go_ret
  exact ⟨ret_bool (isEmpty_size s),rfl⟩
 ·go_enter Tryz.func92,Tryz.ntmps92
  go_wp2_with (go_at_call 137;refine (name_any _ _ hs).mono ?_;rintro e w' ⟨rfl,rfl⟩)
  go_ret
  exact ⟨rfl,rfl⟩
theorem fitsNum_any (n:Int) (b:Bool) (w:World) :
  Calls Tryz.prog 93 #[.int .i64 n,.bool b] w fun e w'=>e=.returned (.bool (fitsNum n b))∧w'=w:=by
 cases h:(n == 0)
 ·cases b
  ·go_enter Tryz.func93,Tryz.ntmps93
   go_wp2
   go_ret
   exact ⟨ret_bool (by simp [fitsNum,h]),rfl⟩
  ·by_cases hp:0 < n
   ·go_enter Tryz.func93,Tryz.ntmps93
    go_wp2
    go_ret
    exact ⟨ret_bool (by simp [fitsNum,h,hp]),rfl⟩
   ·go_enter Tryz.func93,Tryz.ntmps93
    go_wp2
    go_ret
    exact ⟨ret_bool (by simp [fitsNum,h,hp]),rfl⟩
 ·go_enter Tryz.func93,Tryz.ntmps93
  go_wp2
  go_ret
  exact ⟨ret_bool (by simp [fitsNum,h]),rfl⟩
def Ex.ok1:Ex→Bool
 | .mk op mon name n _ _ kids _=>decide (1≤op) && decide (op≤17) && (fitsName mon (exNames op.toNat) && fitsName name (exNames op.toNat) && fitsNum n (exNumber op.toNat) && ((kids.length:Int) == (exKids op.toNat:Int)))
set_option maxRecDepth 100000 in
set_option maxHeartbeats 1000000 in
theorem isExpr_any (e:Ex) (n₀:Nat) (w:World) (hI:e.Is n₀ w) (hS:Shapes w) :
  Calls Tryz.prog 96 #[e.val] w fun r w'=>r=.returned (.bool e.ok1)∧Below w.heap.size w w':=by
 rcases e with ⟨op,mon,name,n,ad,cap,kids,pos⟩
 obtain ⟨⟨h1,h2,h3,h4,h5⟩,h6,h7⟩:=hI.down
 unfold I64 at h1 h2 h3
 have hl1:=h6.1;have hl2:=h6.2.1
 unfold maxLen at hl2
 have HR:Hid (Ex.ok1 (.mk op mon name n ad cap kids pos)=(decide (1≤op) && decide (op≤17) && (fitsName mon (exNames op.toNat) && fitsName name (exNames op.toNat) && fitsNum n (exNumber op.toNat) && ((kids.length:Int) == (exKids op.toNat:Int))))):=rfl
 clear h6 h7 hI
 simp only [Ex.val,Ex.cells]
 by_cases ho1:1≤op
 ·by_cases ho2:op≤17
  ·obtain ⟨k,rfl⟩:∃ k:Nat,op=(k:Int):=⟨op.toNat,by omega⟩
   have hk1:1≤k:=by omega
   have hk2:k < 18:=by omega
   obtain ⟨s0,s1,s2⟩:=hS.ex k hk2
   have hsz:1 < w.heap.size:=by have:=hS.size;omega
   have HR2:Hid (Ex.ok1 (.mk (k:Int) mon name n ad cap kids pos)=(fitsName mon (exNames k) && fitsName name (exNames k) && fitsNum n (exNumber k) && ((kids.length:Int) == (exKids k:Int)))):=by
    show _=_
    rw [HR.out,decide_eq_true ho1,decide_eq_true ho2,Int.toNat_natCast,Bool.true_and,Bool.true_and]
   clear HR ho1 ho2
   cases q1:fitsName mon (exNames k)
   ·go_enter Tryz.func96,Tryz.ntmps96
    go_wp2_with (first | (go_at_call 92;refine (fitsName_any _ _ _ ‹_›).mono ?_;rintro e w' ⟨rfl,hw'⟩;have hw2:=hw'.symm;subst hw2) | (go_at_call 93;refine (fitsNum_any _ _ _).mono ?_;rintro e w' ⟨rfl,hw'⟩;have hw2:=hw'.symm;subst hw2))
    go_ret
    exact ⟨ret_bool (by rw [HR2.out,q1];rfl),((Below.refl _ _).al le_rfl' _).al le_rfl' _⟩
   cases q2:fitsName name (exNames k)
   ·go_enter Tryz.func96,Tryz.ntmps96
    go_wp2_with (first | (go_at_call 92;refine (fitsName_any _ _ _ ‹_›).mono ?_;rintro e w' ⟨rfl,hw'⟩;have hw2:=hw'.symm;subst hw2) | (go_at_call 93;refine (fitsNum_any _ _ _).mono ?_;rintro e w' ⟨rfl,hw'⟩;have hw2:=hw'.symm;subst hw2))
    go_ret
    exact ⟨ret_bool (by rw [HR2.out,q1,q2];rfl),((Below.refl _ _).al le_rfl' _).al le_rfl' _⟩
   cases q3:fitsNum n (exNumber k)
   ·go_enter Tryz.func96,Tryz.ntmps96
    go_wp2_with (first | (go_at_call 92;refine (fitsName_any _ _ _ ‹_›).mono ?_;rintro e w' ⟨rfl,hw'⟩;have hw2:=hw'.symm;subst hw2) | (go_at_call 93;refine (fitsNum_any _ _ _).mono ?_;rintro e w' ⟨rfl,hw'⟩;have hw2:=hw'.symm;subst hw2))
    go_ret
    exact ⟨ret_bool (by rw [HR2.out,q1,q2,q3];rfl),((Below.refl _ _).al le_rfl' _).al le_rfl' _⟩
   cases q4:((kids.length:Int) == (exKids k:Int))
   ·go_enter Tryz.func96,Tryz.ntmps96
    go_wp2_with (first | (go_at_call 92;refine (fitsName_any _ _ _ ‹_›).mono ?_;rintro e w' ⟨rfl,hw'⟩;have hw2:=hw'.symm;subst hw2) | (go_at_call 93;refine (fitsNum_any _ _ _).mono ?_;rintro e w' ⟨rfl,hw'⟩;have hw2:=hw'.symm;subst hw2))
    go_ret
    exact ⟨ret_bool (by rw [HR2.out,q1,q2,q3,q4];rfl),((Below.refl _ _).al le_rfl' _).al le_rfl' _⟩
   ·go_enter Tryz.func96,Tryz.ntmps96
    go_wp2_with (first | (go_at_call 92;refine (fitsName_any _ _ _ ‹_›).mono ?_;rintro e w' ⟨rfl,hw'⟩;have hw2:=hw'.symm;subst hw2) | (go_at_call 93;refine (fitsNum_any _ _ _).mono ?_;rintro e w' ⟨rfl,hw'⟩;have hw2:=hw'.symm;subst hw2))
    go_ret
    exact ⟨ret_bool (by rw [HR2.out,q1,q2,q3,q4];rfl),((Below.refl _ _).al le_rfl' _).al le_rfl' _⟩
  ·have HF:Hid (Ex.ok1 (.mk op mon name n ad cap kids pos)=false):=by
    show _=_
    rw [HR.out,decide_eq_false ho2,Bool.and_false,Bool.false_and]
   go_enter Tryz.func96,Tryz.ntmps96
   go_wp2
   go_ret
   exact ⟨ret_bool HF.out.symm,(Below.refl _ _).al le_rfl' _⟩
 ·have HF:Hid (Ex.ok1 (.mk op mon name n ad cap kids pos)=false):=by
   show _=_
   rw [HR.out,decide_eq_false ho1,Bool.false_and,Bool.false_and]
  go_enter Tryz.func96,Tryz.ntmps96
  go_wp2
  go_ret
  exact ⟨ret_bool HF.out.symm,(Below.refl _ _).al le_rfl' _⟩
end Go.Proofs.YtaekbgljbgmchaaGreatDoor
namespace Go.Proofs.YtaekbgljbgmchaaGreatDoor
open Go.RowKit Go.Shelf
attribute [local go_sem] Oper.semAt_some
def Ex.ok (e:Ex):Bool:=e.subs.all Ex.ok1
theorem exBox_kept {W W':World} {row:Option Nat} {b:Nat} {e:Ex} (h:ExBox W b e) (hg:W.grownBy W' row) (hr:∀ r,row=some r→∃ o:Obj,W.heap[r]?=some o∧o.isCells=false):ExBox W' b e:=
 (hg.block b h.lt (fun e'=>by obtain ⟨o,ho,hc⟩:=hr b e'.symm;rw [show W.heap[b]?=_ from h] at ho;cases ho;cases hc)).trans h
theorem keepsFrom_of {B:Nat} {W W':World} (h:Below W.heap.size W W'):KeepsFrom B W W':=⟨h.size,fun k _ _ h0 _=>(h.block k (Array.getElem?_eq_some_iff.1 h0).1).trans h0⟩
theorem boxed_of {W W':World} {b:Nat} {t:TypeId} {v:Value} (h:Boxed W b t v) (hb:Below W.heap.size W W'):Boxed W' b t v:=(hb.block _ h.lt).trans h
set_option maxRecDepth 100000 in
set_option maxHeartbeats 2000000 in
theorem checkExpr_in (n:Nat) (hn9:9≤n) (T:Ex) (w:World) (hT:T.Is w.heap.size w) (hS:Shapes w) :
  CallsIn Fence.wide n Tryz.prog 53 #[T.val] w fun e w'=>e=.returned (.int .i64 (if T.ok then 0 else 20))∧Below w.heap.size w w':=by
 have hd:Fence.wide.depth=none:=rfl
 have hro:Fence.wide.round=none:=rfl
 have h1:1≤n:=by omega
 have hsz2:=hS.size
 have hpart:=parts_in Fence.wide (n - 1) trivial rfl T
 obtain ⟨res,hres⟩:∃ res:Int,(if T.ok then (0:Int) else 20)=res:=⟨_,rfl⟩
 rw [hres]
 have HR:=hid hres
 clear hres
 rcases hTT:T with ⟨op,mon,name,k,ad,cap,kids,pos⟩
 rw [hTT] at hpart
 simp only [Ex.val,Ex.cells] at hpart ⊢
 refine callsIn_of_wp_marks Tryz.func53 rfl trivial ?_ hro
 simp only [Tryz.ntmps53,List.size_toArray,List.length_cons,List.length_nil,Nat.reduceAdd,Nat.reduceSub,Array.replicate_succ,Array.replicate_zero,List.push_toArray,List.append_toArray,List.nil_append,List.cons_append]
 gi_wp2_with (refine ⟨trivial,?_⟩;gi_at_call 95;refine (hpart _).mono ?_;rintro e w' ⟨rfl,rfl⟩)
 obtain ⟨tv,htv⟩:∃ tv:Value,Value.agg #[.int .i64 op,.string mon,.string name,.int .i64 k,.slice ad kids.length cap,.int .i64 pos]=tv:=⟨_,rfl⟩
 have bR:Boxed (((w.alloc (.cells #[.int .i64 op,.string mon,.string name,.int .i64 k,.slice ad kids.length cap,.int .i64 pos] 25)).alloc (.cells #[.int .i64 0] 26)).alloc (.cells #[.int .i64 op,.string mon,.string name,.int .i64 k,.slice ad kids.length cap,.int .i64 pos] 25)) (w.heap.size+1) 26 (.int .i64 0):=by
  have:=(Boxed.new (w.alloc (.cells #[.int .i64 op,.string mon,.string name,.int .i64 k,.slice ad kids.length cap,.int .i64 pos] 25)) 26 (.int .i64 0)).alloc (.cells #[.int .i64 op,.string mon,.string name,.int .i64 k,.slice ad kids.length cap,.int .i64 pos] 25)
  rwa [World.size_alloc] at this
 have bA:ExBox (((w.alloc (.cells #[.int .i64 op,.string mon,.string name,.int .i64 k,.slice ad kids.length cap,.int .i64 pos] 25)).alloc (.cells #[.int .i64 0] 26)).alloc (.cells #[.int .i64 op,.string mon,.string name,.int .i64 k,.slice ad kids.length cap,.int .i64 pos] 25)) (w.heap.size+1+1) T:=by
  have:=ExBox.new ((w.alloc (.cells #[.int .i64 op,.string mon,.string name,.int .i64 k,.slice ad kids.length cap,.int .i64 pos] 25)).alloc (.cells #[.int .i64 0] 26)) T
  rw [World.size_alloc,World.size_alloc,hTT] at this
  rw [hTT]
  exact this
 have hB0:Below w.heap.size w (((w.alloc (.cells #[.int .i64 op,.string mon,.string name,.int .i64 k,.slice ad kids.length cap,.int .i64 pos] 25)).alloc (.cells #[.int .i64 0] 26)).alloc (.cells #[.int .i64 op,.string mon,.string name,.int .i64 k,.slice ad kids.length cap,.int .i64 pos] 25)):=(((Below.refl _ w).al le_rfl' _).al le_rfl' _).al le_rfl' _
 have hsz:(((w.alloc (.cells #[.int .i64 op,.string mon,.string name,.int .i64 k,.slice ad kids.length cap,.int .i64 pos] 25)).alloc (.cells #[.int .i64 0] 26)).alloc (.cells #[.int .i64 op,.string mon,.string name,.int .i64 k,.slice ad kids.length cap,.int .i64 pos] 25)).heap.size=w.heap.size+3:=by simp
 obtain ⟨W0,hW0⟩:∃ W0,((w.alloc (.cells #[.int .i64 op,.string mon,.string name,.int .i64 k,.slice ad kids.length cap,.int .i64 pos] 25)).alloc (.cells #[.int .i64 0] 26)).alloc (.cells #[.int .i64 op,.string mon,.string name,.int .i64 k,.slice ad kids.length cap,.int .i64 pos] 25)=W0:=⟨_,rfl⟩
 rw [hW0] at bR bA hB0 hsz ⊢
 clear hW0
 rw [htv]
 have HTV:=hid htv
 have HTT:=hid hTT
 clear hpart htv hTT
 refine wpIn_rangeFunc_ownH hro h1 (gf:=140) (lb:=#[.pointer (some ⟨w.heap.size+1+1,0,none⟩)]) rfl trivial (enters_of Tryz.func140 (by kernel_rfl) rfl)
  (parts_stops Fence.wide hd (n - 1) trivial trivial hro (w.heap.size+1+1) w.heap.size W0.heap.size W0 (by omega) (by omega) T (hT.below hB0) bA) Kpi.t (Kpi.b (by omega)) (Below.refl _ _) (fun _=>rfl)
  (fun pre W=>(Boxed W (w.heap.size+1) 26 (.int .i64 0)∧pre.all (fun x=>x.1.ok1)=true)∧Below w.heap.size W0 W)
  (fun c pre W=>(c=.ret∧Boxed W (w.heap.size+1) 26 (.int .i64 20)∧∃ x ∈ pre,x.1.ok1=false)∧Below w.heap.size W0 W)
  (OwnFrom.and (OwnFrom.and (Own.from (boxed_own _ _ _) _) (ownFrom_pure _ _)) (ownFrom_below (by omega) (by omega)))
  (fun c=>OwnFrom.and (OwnFrom.and (ownFrom_pure _ (fun _=>c=.ret)) (OwnFrom.and (Own.from (boxed_own _ _ _) _) (ownFrom_pure _ _))) (ownFrom_below (by omega) (by omega)))
  ⟨⟨bR,rfl⟩,Below.refl _ _⟩
  (fun x a' W=>∃ Bx,W0.heap.size≤Bx∧ExBox W Bx x.1∧a'={ tmps:=#[tv,.pointer (some ⟨w.heap.size,0,none⟩),.pointer (some ⟨w.heap.size+1,0,none⟩),.pointer (some ⟨Bx,0,none⟩),tv,.func (.func 140) #[] #[.pointer (some ⟨w.heap.size+1+1,0,none⟩)],x.1.val,undef,undef,undef],defers:=[] })
  (fun x a' _ X Y row hs hg hr=>by obtain ⟨Bx,h1,h2,h3⟩:=hs;exact ⟨Bx,h1,exBox_kept h2 hg (fun r e=>(hr r e).2),h3⟩)
  ?assign ?body ?done ?stop
 case assign =>
  rintro l pre ⟨⟨op',mon',name',k',ad',cap',kids',pos'⟩,hx⟩ W K ⟨⟨bR1,hall⟩,hB1⟩ hK
  simp only [Ex.val,Ex.cells]
  gi_wp2
  have hs1:=hB1.size
  exact hK _ _ ((KeepsOthers.alloc _ _).from _) (Kpi.alloc (by omega) _) ⟨⟨bR1.alloc _,hall⟩,hB1.al (by omega) _⟩ ⟨W.heap.size,hs1,ExBox.new W (.mk op' mon' name' k' ad' cap' kids' pos'),rfl⟩
 case body =>
  rintro l pre ⟨⟨op',mon',name',k',ad',cap',kids',pos'⟩,hx⟩ a' W hl ⟨r,hr⟩ ⟨⟨bR1,hall⟩,hB1⟩ ⟨Bx,hBx,bX,rfl⟩ hlt
  have hs1:=hB1.size
  have hxW:(Ex.mk op' mon' name' k' ad' cap' kids' pos').Is w.heap.size W:=hx.below hB1
  have hcall:=isExpr_any _ w.heap.size W hxW ((hS.below hB0 hsz2).below hB1 hsz2)
  obtain ⟨c0,c1,c2,c3,c4,c5⟩:=bX.cells
  have HALL:=hid hall
  clear hall
  have cR:=bR1.cell
  have fR:=bR1.frozen
  simp only [Ex.val,Ex.cells] at hcall
  cases hok:(Ex.mk op' mon' name' k' ad' cap' kids' pos').ok1
  ·rw [hok] at hcall
   have HOK:=hid hok
   clear hok
   gi_wp2_with (refine ⟨trivial,?_⟩;gi_at_call 96;refine (CallsIn.inRound l (callsIn_wide.2 hcall)).mono ?_;rintro e w' ⟨rfl,hbel⟩;have bR2:=boxed_of bR1 hbel;have cR2:=bR2.cell;have fR2:=bR2.frozen)
   exact ⟨(keepsFrom_of hbel).trans ((KeepsOthers.setCell _ _ _).from _),⟨rfl,bR2.set _,⟨_,hx⟩,List.mem_append.2 (.inr (List.mem_singleton.2 rfl)),HOK.out⟩,(hB1.tr (by omega) hbel).setCell (p:=⟨w.heap.size+1,0,none⟩) (by simp) _⟩
  ·rw [hok] at hcall
   have HOK:=hid hok
   clear hok
   gi_wp2_with (refine ⟨trivial,?_⟩;gi_at_call 96;refine (CallsIn.inRound l (callsIn_wide.2 hcall)).mono ?_;rintro e w' ⟨rfl,hbel⟩;have bR2:=boxed_of bR1 hbel)
   refine ⟨keepsFrom_of hbel,Kpi.of (by omega) hbel,⟨bR2,?_⟩,hB1.tr (by omega) hbel⟩
   rw [List.all_append,HALL.out]
   simp only [List.all_cons,List.all_nil,HOK.out,Bool.and_true]
 case done =>
  rintro D ys W hD hys ⟨⟨bR1,hall⟩,hB1⟩ hK
  have cR:=bR1.cell
  have fR:=bR1.frozen
  have HALL:=hid hall
  clear hall
  gi_wp2
  have hK':=(KeepsOthers.setCell W ⟨w.heap.size+1,0,none⟩ (.int .i64 0)).same D _ hK rfl
  refine ⟨by simp,.inl ⟨_,_,rfl,run_takeDeferred hK',?_⟩⟩
  have hc5:=cell_kept (World.cell?_setCell_same' W ⟨w.heap.size+1,0,none⟩ (.int .i64 0) (by rw [cR];rfl)) (grownBy_putObj' _ D (.deferred none)) (fun r e=>by cases e;exact ⟨_,hK',rfl⟩)
  refine ⟨.int .i64 0,?_,?_,((hB0.trans hB1).setCell (p:=⟨w.heap.size+1,0,none⟩) (by simp) _).trans (belowK_b (w:=w) (Nat.le_refl _) _ D _ _ (by omega) hK' rfl rfl)⟩
  ·simp [results,Tryz.f53,go_sem,hc5]
  ·rw [← HR.out,if_pos]
   rw [Ex.ok,← hys,List.all_map]
   exact HALL.out
 case stop =>
  rintro D c pre W hD hpre ⟨⟨rfl,bR1,x,hx,hok⟩,hB1⟩ hK
  have cR:=bR1.cell
  have HOK:=hid hok
  clear hok
  gi_wp2
  refine ⟨by simp,.inl ⟨_,_,rfl,run_takeDeferred hK,?_⟩⟩
  have hc5:=cell_kept cR (grownBy_putObj' _ D (.deferred none)) (fun r e=>by cases e;exact ⟨_,hK,rfl⟩)
  refine ⟨.int .i64 20,?_,?_,(hB0.trans hB1).trans (belowK_b (w:=w) (Nat.le_refl _) W D _ _ (by omega) hK rfl rfl)⟩
  ·simp [results,Tryz.f53,go_sem,hc5]
  ·rw [← HR.out,if_neg]
   intro h
   have h2:=(List.all_eq_true.1 h) x.1 (hpre.subset (List.mem_map.2 ⟨x,hx,rfl⟩))
   rw [HOK.out] at h2
   cases h2
theorem checkExpr_any (T:Ex) (n₀:Nat) (w:World) (hn:n₀≤w.heap.size) (hT:T.Is n₀ w) (hS:Shapes w) :
  Calls Tryz.prog 53 #[T.val] w fun e w'=>e=.returned (.int .i64 (if T.ok then 0 else 20))∧Below w.heap.size w w':=
 (callsIn_wide (n:=9)).1 (checkExpr_in 9 (Nat.le_refl _) T w (hT.mono hn) hS)
end Go.Proofs.YtaekbgljbgmchaaGreatDoor
namespace Go.Proofs.YtaekbgljbgmchaaGreatDoor
open Go.RowKit
theorem row1 {α:Type} {cells:α→List Value} {W:World} {b off:Nat} {l:List α} (h:RowAt 1 cells W b off l) (k:Nat) (hk:k < l.length) {c0:Value} (hc:cells l[k]=[c0]) :
  W.cell? ⟨b,off+k,none⟩=some c0:=by
 have h':=h k hk
 rw [hc] at h'
 have h1:=h' 0 (by omega)
 rw [Nat.mul_one] at h1
 exact h1
theorem row3 {α:Type} {cells:α→List Value} {W:World} {b off:Nat} {l:List α} (h:RowAt 3 cells W b off l) (k:Nat) (hk:k < l.length) {c0 c1 c2:Value} (hc:cells l[k]=[c0,c1,c2]) :
  W.cell? ⟨b,off+k * 3,none⟩=some c0∧W.cell? ⟨b,off+k * 3+1,none⟩=some c1∧W.cell? ⟨b,off+k * 3+2,none⟩=some c2:=by
 have h':=h k hk
 rw [hc] at h'
 exact ⟨h' 0 (by omega),h' 1 (by omega),h' 2 (by omega)⟩
theorem row4 {α:Type} {cells:α→List Value} {W:World} {b off:Nat} {l:List α} (h:RowAt 4 cells W b off l) (k:Nat) (hk:k < l.length) {c0 c1 c2 c3:Value} (hc:cells l[k]=[c0,c1,c2,c3]) :
  W.cell? ⟨b,off+k * 4,none⟩=some c0∧W.cell? ⟨b,off+k * 4+1,none⟩=some c1∧W.cell? ⟨b,off+k * 4+2,none⟩=some c2∧W.cell? ⟨b,off+k * 4+3,none⟩=some c3:=by
 have h':=h k hk
 rw [hc] at h'
 exact ⟨h' 0 (by omega),h' 1 (by omega),h' 2 (by omega),h' 3 (by omega)⟩
theorem row5 {α:Type} {cells:α→List Value} {W:World} {b off:Nat} {l:List α} (h:RowAt 5 cells W b off l) (k:Nat) (hk:k < l.length) {c0 c1 c2 c3 c4:Value} (hc:cells l[k]=[c0,c1,c2,c3,c4]) :
  W.cell? ⟨b,off+k * 5,none⟩=some c0∧W.cell? ⟨b,off+k * 5+1,none⟩=some c1∧W.cell? ⟨b,off+k * 5+2,none⟩=some c2∧W.cell? ⟨b,off+k * 5+3,none⟩=some c3∧W.cell? ⟨b,off+k * 5+4,none⟩=some c4:=by
 have h':=h k hk
 rw [hc] at h'
 exact ⟨h' 0 (by omega),h' 1 (by omega),h' 2 (by omega),h' 3 (by omega),h' 4 (by omega)⟩
theorem row12 {α:Type} {cells:α→List Value} {W:World} {b off:Nat} {l:List α} (h:RowAt 12 cells W b off l) (k:Nat) (hk:k < l.length) {c0 c1 c2 c3 c4 c5 c6 c7 c8 c9 c10 c11:Value} (hc:cells l[k]=[c0,c1,c2,c3,c4,c5,c6,c7,c8,c9,c10,c11]) :
  W.cell? ⟨b,off+k * 12,none⟩=some c0∧W.cell? ⟨b,off+k * 12+1,none⟩=some c1∧W.cell? ⟨b,off+k * 12+2,none⟩=some c2∧W.cell? ⟨b,off+k * 12+3,none⟩=some c3∧W.cell? ⟨b,off+k * 12+4,none⟩=some c4∧W.cell? ⟨b,off+k * 12+5,none⟩=some c5∧W.cell? ⟨b,off+k * 12+6,none⟩=some c6∧W.cell? ⟨b,off+k * 12+7,none⟩=some c7∧W.cell? ⟨b,off+k * 12+8,none⟩=some c8∧W.cell? ⟨b,off+k * 12+9,none⟩=some c9∧W.cell? ⟨b,off+k * 12+10,none⟩=some c10∧W.cell? ⟨b,off+k * 12+11,none⟩=some c11:=by
 have h':=h k hk
 rw [hc] at h'
 exact ⟨h' 0 (by omega),h' 1 (by omega),h' 2 (by omega),h' 3 (by omega),h' 4 (by omega),h' 5 (by omega),h' 6 (by omega),h' 7 (by omega),h' 8 (by omega),h' 9 (by omega),h' 10 (by omega),h' 11 (by omega)⟩
set_option maxRecDepth 100000 in
set_option maxHeartbeats 1000000 in
theorem eqf45 (f:St→St→Bool) (n₀:Nat) (xs ys:List St) (ad ad':Option Addr) (cap cap':Nat) (w:World) (hn:n₀≤w.heap.size) (ha:SlAt 12 St.cells n₀ w ad cap xs) (hb:SlAt 12 St.cells n₀ w ad' cap' ys)
  (heq:∀ (k:Nat) (h1:k < xs.length) (h2:k < ys.length) W,Below n₀ w W→Calls Tryz.prog 128 #[St.val xs[k],St.val ys[k]] W fun e W'=>e=.returned (.bool (f xs[k] ys[k]))∧Below W.heap.size W W') :
  Calls Tryz.prog 127 #[.slice ad xs.length cap,.slice ad' ys.length cap',.func (.func 128) #[] #[]] w fun e w'=>e=.returned (.bool (all2 f xs ys))∧Below w.heap.size w w':=by
 have hl1:=ha.1;have hl2:=ha.2.1;have hl3:=hb.1;have hl4:=hb.2.1
 unfold maxLen at hl2 hl4
 by_cases hlen:xs.length=ys.length
 ·have hlb:((xs.length:Int) != (ys.length:Int))=false:=by rw [bne_eq_false_iff_eq];omega
  have HLEN:=hid hlen
  clear hlen
  go_enter Tryz.func127,Tryz.ntmps127
  go_wp2
  go_loopw [17] (fun i wr=>∃ k:Nat,k≤xs.length∧i=.int .i64 k∧Hid (all2 f (xs.take k) (ys.take k)=true)∧Below w.heap.size w wr) (fun i _=>xs.length - (intOf i).toNat)
  case atStart=>exact ⟨0,by omega,rfl,rfl,Below.refl _ _⟩
  case round =>
   obtain ⟨k,hk,rfl,HA,hbw⟩:=hrel
   by_cases hlt:k < xs.length
   ·have hlt':k < ys.length:=by have:=HLEN.out;omega
    rcases ha.2.2 with h | ⟨b,off,rfl,hbn,hrow⟩
    ·subst h;simp at hlt
    rcases hb.2.2 with h | ⟨b',off',rfl,hbn',hrow'⟩
    ·subst h;simp at hlt'
    have hbn1:b < wr.heap.size:=by have:=hbw.size;omega
    have hbn2:b' < wr.heap.size:=by have:=hbw.size;omega
    have hq:=heq k hlt hlt'
    have HS:=hid (all2_snoc f xs ys k hlt hlt')
    have HC:=hid (all2_cut f xs ys k hlt hlt')
    have hr:=hrow.below (hbw.mono hn) hbn
    have hr':=hrow'.below (hbw.mono hn) hbn'
    rcases he:xs[k] with ⟨kind,mon,name,n,⟨eop,emon,ename,en,ead,ecap,ekids,epos⟩,sad,scap,blocks,pos⟩
    rcases he':ys[k] with ⟨kind',mon',name',n',⟨eop',emon',ename',en',ead',ecap',ekids',epos'⟩,sad',scap',blocks',pos'⟩
    obtain ⟨c0,c1,c2,c3,c4,c5,c6,c7,c8,c9,c10,c11⟩:=row12 hr k hlt (by rw [he];rfl)
    obtain ⟨d0,d1,d2,d3,d4,d5,d6,d7,d8,d9,d10,d11⟩:=row12 hr' k hlt' (by rw [he'];rfl)
    simp only [he,he',St.val,St.cells,Ex.cells,List.cons_append,List.nil_append] at hq
    have HF:=hid he
    have HF':=hid he'
    clear he he'
    cases hf:f xs[k] ys[k]
    ·have hf2:=hf
     rw [HF.out,HF'.out] at hf2
     rw [hf2] at hq
     clear hf2
     have HFF:=hid hf
     clear hf
     go_wp2_with (go_at_call 128;refine (hq _ (((hbw.mono hn).al hn _).al hn _)).mono ?_;rintro e w1 ⟨rfl,hb1⟩)
     go_ret
     exact ⟨ret_bool (HC.out HFF.out).symm,((hbw.al le_rfl' _).al le_rfl' _).tr le_rfl' hb1⟩
    ·have hf2:=hf
     rw [HF.out,HF'.out] at hf2
     rw [hf2] at hq
     clear hf2
     have HFF:=hid hf
     clear hf
     go_wp2_with (go_at_call 128;refine (hq _ (((hbw.mono hn).al hn _).al hn _)).mono ?_;rintro e w1 ⟨rfl,hb1⟩)
     go_roundw
     case rel=>exact ⟨k+1,by omega,by go_num,by rw [HS.out,HA.out,HFF.out];rfl,((hbw.al le_rfl' _).al le_rfl' _).tr le_rfl' hb1⟩
     case measure=>simp [intOf];omega
   ·have hk':k=xs.length:=by omega
    go_wp2
    go_ret
    refine ⟨ret_bool ?_,hbw⟩
    have:=HA.out
    rw [hk',List.take_length,HLEN.out,List.take_length] at this
    exact this.symm
 ·have hlb:((xs.length:Int) != (ys.length:Int))=true:=by rw [bne_iff_ne];omega
  have HL:=hid (all2_len f xs ys hlen)
  clear hlen
  go_enter Tryz.func127,Tryz.ntmps127
  go_wp2
  go_ret
  exact ⟨ret_bool HL.out.symm,Below.refl _ _⟩
set_option maxRecDepth 100000 in
set_option maxHeartbeats 1000000 in
theorem eqf67 (f:Bl→Bl→Bool) (n₀:Nat) (xs ys:List Bl) (ad ad':Option Addr) (cap cap':Nat) (w:World) (hn:n₀≤w.heap.size) (ha:SlAt 1 Bl.cells n₀ w ad cap xs) (hb:SlAt 1 Bl.cells n₀ w ad' cap' ys)
  (heq:∀ (k:Nat) (h1:k < xs.length) (h2:k < ys.length) W,Below n₀ w W→Calls Tryz.prog 80 #[Bl.slice xs[k],Bl.slice ys[k]] W fun e W'=>e=.returned (.bool (f xs[k] ys[k]))∧Below W.heap.size W W') :
  Calls Tryz.prog 165 #[.slice ad xs.length cap,.slice ad' ys.length cap',.func (.func 80) #[] #[]] w fun e w'=>e=.returned (.bool (all2 f xs ys))∧Below w.heap.size w w':=by
 have hl1:=ha.1;have hl2:=ha.2.1;have hl3:=hb.1;have hl4:=hb.2.1
 unfold maxLen at hl2 hl4
 by_cases hlen:xs.length=ys.length
 ·have hlb:((xs.length:Int) != (ys.length:Int))=false:=by rw [bne_eq_false_iff_eq];omega
  have HLEN:=hid hlen
  clear hlen
  go_enter Tryz.func165,Tryz.ntmps165
  go_wp2
  go_loopw [17] (fun i wr=>∃ k:Nat,k≤xs.length∧i=.int .i64 k∧Hid (all2 f (xs.take k) (ys.take k)=true)∧Below w.heap.size w wr) (fun i _=>xs.length - (intOf i).toNat)
  case atStart=>exact ⟨0,by omega,rfl,rfl,Below.refl _ _⟩
  case round =>
   obtain ⟨k,hk,rfl,HA,hbw⟩:=hrel
   by_cases hlt:k < xs.length
   ·have hlt':k < ys.length:=by have:=HLEN.out;omega
    rcases ha.2.2 with h | ⟨b,off,rfl,hbn,hrow⟩
    ·subst h;simp at hlt
    rcases hb.2.2 with h | ⟨b',off',rfl,hbn',hrow'⟩
    ·subst h;simp at hlt'
    have hbn1:b < wr.heap.size:=by have:=hbw.size;omega
    have hbn2:b' < wr.heap.size:=by have:=hbw.size;omega
    have hq:=heq k hlt hlt'
    have HS:=hid (all2_snoc f xs ys k hlt hlt')
    have HC:=hid (all2_cut f xs ys k hlt hlt')
    have hr:=hrow.below (hbw.mono hn) hbn
    have hr':=hrow'.below (hbw.mono hn) hbn'
    rcases he:xs[k] with ⟨bad,bcap,body⟩
    rcases he':ys[k] with ⟨bad',bcap',body'⟩
    have c0:=row1 hr k hlt (by rw [he];rfl)
    have d0:=row1 hr' k hlt' (by rw [he'];rfl)
    simp only [Bl.slice] at c0 d0
    simp only [he,he',Bl.slice] at hq
    have HF:=hid he
    have HF':=hid he'
    clear he he'
    cases hf:f xs[k] ys[k]
    ·have hf2:=hf
     rw [HF.out,HF'.out] at hf2
     rw [hf2] at hq
     clear hf2
     have HFF:=hid hf
     clear hf
     go_wp2_with (go_at_call 80;refine (hq _ (hbw.mono hn)).mono ?_;rintro e w1 ⟨rfl,hb1⟩)
     go_ret
     exact ⟨ret_bool (HC.out HFF.out).symm,hbw.tr le_rfl' hb1⟩
    ·have hf2:=hf
     rw [HF.out,HF'.out] at hf2
     rw [hf2] at hq
     clear hf2
     have HFF:=hid hf
     clear hf
     go_wp2_with (go_at_call 80;refine (hq _ (hbw.mono hn)).mono ?_;rintro e w1 ⟨rfl,hb1⟩)
     go_roundw
     case rel=>exact ⟨k+1,by omega,by go_num,by rw [HS.out,HA.out,HFF.out];rfl,hbw.tr le_rfl' hb1⟩
     case measure=>simp [intOf];omega
   ·have hk':k=xs.length:=by omega
    go_wp2
    go_ret
    refine ⟨ret_bool ?_,hbw⟩
    have:=HA.out
    rw [hk',List.take_length,HLEN.out,List.take_length] at this
    exact this.symm
 ·have hlb:((xs.length:Int) != (ys.length:Int))=true:=by rw [bne_iff_ne];omega
  have HL:=hid (all2_len f xs ys hlen)
  clear hlen
  go_enter Tryz.func165,Tryz.ntmps165
  go_wp2
  go_ret
  exact ⟨ret_bool HL.out.symm,Below.refl _ _⟩
set_option maxRecDepth 100000 in
set_option maxHeartbeats 1000000 in
theorem eqf63 (f:Va→Va→Bool) (n₀:Nat) (xs ys:List Va) (ad ad':Option Addr) (cap cap':Nat) (w:World) (hn:n₀≤w.heap.size) (ha:SlAt 6 Va.cells n₀ w ad cap xs) (hb:SlAt 6 Va.cells n₀ w ad' cap' ys)
  (heq:∀ (k:Nat) (h1:k < xs.length) (h2:k < ys.length) W,Below n₀ w W→Calls Tryz.prog 77 #[Va.val xs[k],Va.val ys[k]] W fun e W'=>e=.returned (.bool (f xs[k] ys[k]))∧Below W.heap.size W W') :
  Calls Tryz.prog 76 #[.slice ad xs.length cap,.slice ad' ys.length cap',.func (.func 77) #[] #[]] w fun e w'=>e=.returned (.bool (all2 f xs ys))∧Below w.heap.size w w':=by
 have hl1:=ha.1;have hl2:=ha.2.1;have hl3:=hb.1;have hl4:=hb.2.1
 unfold maxLen at hl2 hl4
 by_cases hlen:xs.length=ys.length
 ·have hlb:((xs.length:Int) != (ys.length:Int))=false:=by rw [bne_eq_false_iff_eq];omega
  have HLEN:=hid hlen
  clear hlen
  go_enter Tryz.func76,Tryz.ntmps76
  go_wp2
  go_loopw [17] (fun i wr=>∃ k:Nat,k≤xs.length∧i=.int .i64 k∧Hid (all2 f (xs.take k) (ys.take k)=true)∧Below w.heap.size w wr) (fun i _=>xs.length - (intOf i).toNat)
  case atStart=>exact ⟨0,by omega,rfl,rfl,Below.refl _ _⟩
  case round =>
   obtain ⟨k,hk,rfl,HA,hbw⟩:=hrel
   by_cases hlt:k < xs.length
   ·have hlt':k < ys.length:=by have:=HLEN.out;omega
    rcases ha.2.2 with h | ⟨b,off,rfl,hbn,hrow⟩
    ·subst h;simp at hlt
    rcases hb.2.2 with h | ⟨b',off',rfl,hbn',hrow'⟩
    ·subst h;simp at hlt'
    have hbn1:b < wr.heap.size:=by have:=hbw.size;omega
    have hbn2:b' < wr.heap.size:=by have:=hbw.size;omega
    have hq:=heq k hlt hlt'
    have HS:=hid (all2_snoc f xs ys k hlt hlt')
    have HC:=hid (all2_cut f xs ys k hlt hlt')
    have hr:=hrow.below (hbw.mono hn) hbn
    have hr':=hrow'.below (hbw.mono hn) hbn'
    rcases he:xs[k] with ⟨name,type,lo,hi,init,pos⟩
    rcases he':ys[k] with ⟨name',type',lo',hi',init',pos'⟩
    obtain ⟨c0,c1,c2,c3,c4,c5⟩:=row6 hr k hlt (by rw [he];rfl)
    obtain ⟨d0,d1,d2,d3,d4,d5⟩:=row6 hr' k hlt' (by rw [he'];rfl)
    simp only [he,he',Va.val,Va.cells] at hq
    have HF:=hid he
    have HF':=hid he'
    clear he he'
    cases hf:f xs[k] ys[k]
    ·have hf2:=hf
     rw [HF.out,HF'.out] at hf2
     rw [hf2] at hq
     clear hf2
     have HFF:=hid hf
     clear hf
     go_wp2_with (go_at_call 77;refine (hq _ (((hbw.mono hn).al hn _).al hn _)).mono ?_;rintro e w1 ⟨rfl,hb1⟩)
     go_ret
     exact ⟨ret_bool (HC.out HFF.out).symm,((hbw.al le_rfl' _).al le_rfl' _).tr le_rfl' hb1⟩
    ·have hf2:=hf
     rw [HF.out,HF'.out] at hf2
     rw [hf2] at hq
     clear hf2
     have HFF:=hid hf
     clear hf
     go_wp2_with (go_at_call 77;refine (hq _ (((hbw.mono hn).al hn _).al hn _)).mono ?_;rintro e w1 ⟨rfl,hb1⟩)
     go_roundw
     case rel=>exact ⟨k+1,by omega,by go_num,by rw [HS.out,HA.out,HFF.out];rfl,((hbw.al le_rfl' _).al le_rfl' _).tr le_rfl' hb1⟩
     case measure=>simp [intOf];omega
   ·have hk':k=xs.length:=by omega
    go_wp2
    go_ret
    refine ⟨ret_bool ?_,hbw⟩
    have:=HA.out
    rw [hk',List.take_length,HLEN.out,List.take_length] at this
    exact this.symm
 ·have hlb:((xs.length:Int) != (ys.length:Int))=true:=by rw [bne_iff_ne];omega
  have HL:=hid (all2_len f xs ys hlen)
  clear hlen
  go_enter Tryz.func76,Tryz.ntmps76
  go_wp2
  go_ret
  exact ⟨ret_bool HL.out.symm,Below.refl _ _⟩
set_option maxRecDepth 100000 in
set_option maxHeartbeats 1000000 in
theorem eqf65 (f:Me→Me→Bool) (n₀:Nat) (xs ys:List Me) (ad ad':Option Addr) (cap cap':Nat) (w:World) (hn:n₀≤w.heap.size) (ha:SlAt 3 Me.cells n₀ w ad cap xs) (hb:SlAt 3 Me.cells n₀ w ad' cap' ys)
  (heq:∀ (k:Nat) (h1:k < xs.length) (h2:k < ys.length) W,Below n₀ w W→Calls Tryz.prog 79 #[Me.val xs[k],Me.val ys[k]] W fun e W'=>e=.returned (.bool (f xs[k] ys[k]))∧Below W.heap.size W W') :
  Calls Tryz.prog 78 #[.slice ad xs.length cap,.slice ad' ys.length cap',.func (.func 79) #[] #[]] w fun e w'=>e=.returned (.bool (all2 f xs ys))∧Below w.heap.size w w':=by
 have hl1:=ha.1;have hl2:=ha.2.1;have hl3:=hb.1;have hl4:=hb.2.1
 unfold maxLen at hl2 hl4
 by_cases hlen:xs.length=ys.length
 ·have hlb:((xs.length:Int) != (ys.length:Int))=false:=by rw [bne_eq_false_iff_eq];omega
  have HLEN:=hid hlen
  clear hlen
  go_enter Tryz.func78,Tryz.ntmps78
  go_wp2
  go_loopw [17] (fun i wr=>∃ k:Nat,k≤xs.length∧i=.int .i64 k∧Hid (all2 f (xs.take k) (ys.take k)=true)∧Below w.heap.size w wr) (fun i _=>xs.length - (intOf i).toNat)
  case atStart=>exact ⟨0,by omega,rfl,rfl,Below.refl _ _⟩
  case round =>
   obtain ⟨k,hk,rfl,HA,hbw⟩:=hrel
   by_cases hlt:k < xs.length
   ·have hlt':k < ys.length:=by have:=HLEN.out;omega
    rcases ha.2.2 with h | ⟨b,off,rfl,hbn,hrow⟩
    ·subst h;simp at hlt
    rcases hb.2.2 with h | ⟨b',off',rfl,hbn',hrow'⟩
    ·subst h;simp at hlt'
    have hbn1:b < wr.heap.size:=by have:=hbw.size;omega
    have hbn2:b' < wr.heap.size:=by have:=hbw.size;omega
    have hq:=heq k hlt hlt'
    have HS:=hid (all2_snoc f xs ys k hlt hlt')
    have HC:=hid (all2_cut f xs ys k hlt hlt')
    have hr:=hrow.below (hbw.mono hn) hbn
    have hr':=hrow'.below (hbw.mono hn) hbn'
    rcases he:xs[k] with ⟨name,⟨bad,bcap,body⟩,pos⟩
    rcases he':ys[k] with ⟨name',⟨bad',bcap',body'⟩,pos'⟩
    obtain ⟨c0,c1,c2⟩:=row3 hr k hlt (by rw [he];rfl)
    obtain ⟨d0,d1,d2⟩:=row3 hr' k hlt' (by rw [he'];rfl)
    simp only [Bl.slice] at c1 d1
    simp only [he,he',Me.val,Me.cells,Bl.slice] at hq
    have HF:=hid he
    have HF':=hid he'
    clear he he'
    cases hf:f xs[k] ys[k]
    ·have hf2:=hf
     rw [HF.out,HF'.out] at hf2
     rw [hf2] at hq
     clear hf2
     have HFF:=hid hf
     clear hf
     go_wp2_with (go_at_call 79;refine (hq _ (((hbw.mono hn).al hn _).al hn _)).mono ?_;rintro e w1 ⟨rfl,hb1⟩)
     go_ret
     exact ⟨ret_bool (HC.out HFF.out).symm,((hbw.al le_rfl' _).al le_rfl' _).tr le_rfl' hb1⟩
    ·have hf2:=hf
     rw [HF.out,HF'.out] at hf2
     rw [hf2] at hq
     clear hf2
     have HFF:=hid hf
     clear hf
     go_wp2_with (go_at_call 79;refine (hq _ (((hbw.mono hn).al hn _).al hn _)).mono ?_;rintro e w1 ⟨rfl,hb1⟩)
     go_roundw
     case rel=>exact ⟨k+1,by omega,by go_num,by rw [HS.out,HA.out,HFF.out];rfl,((hbw.al le_rfl' _).al le_rfl' _).tr le_rfl' hb1⟩
     case measure=>simp [intOf];omega
   ·have hk':k=xs.length:=by omega
    go_wp2
    go_ret
    refine ⟨ret_bool ?_,hbw⟩
    have:=HA.out
    rw [hk',List.take_length,HLEN.out,List.take_length] at this
    exact this.symm
 ·have hlb:((xs.length:Int) != (ys.length:Int))=true:=by rw [bne_iff_ne];omega
  have HL:=hid (all2_len f xs ys hlen)
  clear hlen
  go_enter Tryz.func78,Tryz.ntmps78
  go_wp2
  go_ret
  exact ⟨ret_bool HL.out.symm,Below.refl _ _⟩
set_option maxRecDepth 100000 in
set_option maxHeartbeats 1000000 in
theorem eqf40 (f:Mo→Mo→Bool) (n₀:Nat) (xs ys:List Mo) (ad ad':Option Addr) (cap cap':Nat) (w:World) (hn:n₀≤w.heap.size) (ha:SlAt 4 Mo.cells n₀ w ad cap xs) (hb:SlAt 4 Mo.cells n₀ w ad' cap' ys)
  (heq:∀ (k:Nat) (h1:k < xs.length) (h2:k < ys.length) W,Below n₀ w W→Calls Tryz.prog 39 #[Mo.val xs[k],Mo.val ys[k]] W fun e W'=>e=.returned (.bool (f xs[k] ys[k]))∧Below W.heap.size W W') :
  Calls Tryz.prog 38 #[.slice ad xs.length cap,.slice ad' ys.length cap',.func (.func 39) #[] #[]] w fun e w'=>e=.returned (.bool (all2 f xs ys))∧Below w.heap.size w w':=by
 have hl1:=ha.1;have hl2:=ha.2.1;have hl3:=hb.1;have hl4:=hb.2.1
 unfold maxLen at hl2 hl4
 by_cases hlen:xs.length=ys.length
 ·have hlb:((xs.length:Int) != (ys.length:Int))=false:=by rw [bne_eq_false_iff_eq];omega
  have HLEN:=hid hlen
  clear hlen
  go_enter Tryz.func38,Tryz.ntmps38
  go_wp2
  go_loopw [17] (fun i wr=>∃ k:Nat,k≤xs.length∧i=.int .i64 k∧Hid (all2 f (xs.take k) (ys.take k)=true)∧Below w.heap.size w wr) (fun i _=>xs.length - (intOf i).toNat)
  case atStart=>exact ⟨0,by omega,rfl,rfl,Below.refl _ _⟩
  case round =>
   obtain ⟨k,hk,rfl,HA,hbw⟩:=hrel
   by_cases hlt:k < xs.length
   ·have hlt':k < ys.length:=by have:=HLEN.out;omega
    rcases ha.2.2 with h | ⟨b,off,rfl,hbn,hrow⟩
    ·subst h;simp at hlt
    rcases hb.2.2 with h | ⟨b',off',rfl,hbn',hrow'⟩
    ·subst h;simp at hlt'
    have hbn1:b < wr.heap.size:=by have:=hbw.size;omega
    have hbn2:b' < wr.heap.size:=by have:=hbw.size;omega
    have hq:=heq k hlt hlt'
    have HS:=hid (all2_snoc f xs ys k hlt hlt')
    have HC:=hid (all2_cut f xs ys k hlt hlt')
    have hr:=hrow.below (hbw.mono hn) hbn
    have hr':=hrow'.below (hbw.mono hn) hbn'
    rcases he:xs[k] with ⟨name,vad,vcap,vars,mad,mcap,meths,pos⟩
    rcases he':ys[k] with ⟨name',vad',vcap',vars',mad',mcap',meths',pos'⟩
    obtain ⟨c0,c1,c2,c3⟩:=row4 hr k hlt (by rw [he];rfl)
    obtain ⟨d0,d1,d2,d3⟩:=row4 hr' k hlt' (by rw [he'];rfl)
    simp only [he,he',Mo.val,Mo.cells] at hq
    have HF:=hid he
    have HF':=hid he'
    clear he he'
    cases hf:f xs[k] ys[k]
    ·have hf2:=hf
     rw [HF.out,HF'.out] at hf2
     rw [hf2] at hq
     clear hf2
     have HFF:=hid hf
     clear hf
     go_wp2_with (go_at_call 39;refine (hq _ (((hbw.mono hn).al hn _).al hn _)).mono ?_;rintro e w1 ⟨rfl,hb1⟩)
     go_ret
     exact ⟨ret_bool (HC.out HFF.out).symm,((hbw.al le_rfl' _).al le_rfl' _).tr le_rfl' hb1⟩
    ·have hf2:=hf
     rw [HF.out,HF'.out] at hf2
     rw [hf2] at hq
     clear hf2
     have HFF:=hid hf
     clear hf
     go_wp2_with (go_at_call 39;refine (hq _ (((hbw.mono hn).al hn _).al hn _)).mono ?_;rintro e w1 ⟨rfl,hb1⟩)
     go_roundw
     case rel=>exact ⟨k+1,by omega,by go_num,by rw [HS.out,HA.out,HFF.out];rfl,((hbw.al le_rfl' _).al le_rfl' _).tr le_rfl' hb1⟩
     case measure=>simp [intOf];omega
   ·have hk':k=xs.length:=by omega
    go_wp2
    go_ret
    refine ⟨ret_bool ?_,hbw⟩
    have:=HA.out
    rw [hk',List.take_length,HLEN.out,List.take_length] at this
    exact this.symm
 ·have hlb:((xs.length:Int) != (ys.length:Int))=true:=by rw [bne_iff_ne];omega
  have HL:=hid (all2_len f xs ys hlen)
  clear hlen
  go_enter Tryz.func38,Tryz.ntmps38
  go_wp2
  go_ret
  exact ⟨ret_bool HL.out.symm,Below.refl _ _⟩
set_option maxRecDepth 100000 in
set_option maxHeartbeats 1000000 in
theorem eqf42 (f:Ro→Ro→Bool) (n₀:Nat) (xs ys:List Ro) (ad ad':Option Addr) (cap cap':Nat) (w:World) (hn:n₀≤w.heap.size) (ha:SlAt 5 Ro.cells n₀ w ad cap xs) (hb:SlAt 5 Ro.cells n₀ w ad' cap' ys)
  (heq:∀ (k:Nat) (h1:k < xs.length) (h2:k < ys.length) W,Below n₀ w W→Calls Tryz.prog 41 #[Ro.val xs[k],Ro.val ys[k]] W fun e W'=>e=.returned (.bool (f xs[k] ys[k]))∧Below W.heap.size W W') :
  Calls Tryz.prog 40 #[.slice ad xs.length cap,.slice ad' ys.length cap',.func (.func 41) #[] #[]] w fun e w'=>e=.returned (.bool (all2 f xs ys))∧Below w.heap.size w w':=by
 have hl1:=ha.1;have hl2:=ha.2.1;have hl3:=hb.1;have hl4:=hb.2.1
 unfold maxLen at hl2 hl4
 by_cases hlen:xs.length=ys.length
 ·have hlb:((xs.length:Int) != (ys.length:Int))=false:=by rw [bne_eq_false_iff_eq];omega
  have HLEN:=hid hlen
  clear hlen
  go_enter Tryz.func40,Tryz.ntmps40
  go_wp2
  go_loopw [17] (fun i wr=>∃ k:Nat,k≤xs.length∧i=.int .i64 k∧Hid (all2 f (xs.take k) (ys.take k)=true)∧Below w.heap.size w wr) (fun i _=>xs.length - (intOf i).toNat)
  case atStart=>exact ⟨0,by omega,rfl,rfl,Below.refl _ _⟩
  case round =>
   obtain ⟨k,hk,rfl,HA,hbw⟩:=hrel
   by_cases hlt:k < xs.length
   ·have hlt':k < ys.length:=by have:=HLEN.out;omega
    rcases ha.2.2 with h | ⟨b,off,rfl,hbn,hrow⟩
    ·subst h;simp at hlt
    rcases hb.2.2 with h | ⟨b',off',rfl,hbn',hrow'⟩
    ·subst h;simp at hlt'
    have hbn1:b < wr.heap.size:=by have:=hbw.size;omega
    have hbn2:b' < wr.heap.size:=by have:=hbw.size;omega
    have hq:=heq k hlt hlt'
    have HS:=hid (all2_snoc f xs ys k hlt hlt')
    have HC:=hid (all2_cut f xs ys k hlt hlt')
    have hr:=hrow.below (hbw.mono hn) hbn
    have hr':=hrow'.below (hbw.mono hn) hbn'
    rcases he:xs[k] with ⟨name,star,count,⟨bad,bcap,body⟩,pos⟩
    rcases he':ys[k] with ⟨name',star',count',⟨bad',bcap',body'⟩,pos'⟩
    obtain ⟨c0,c1,c2,c3,c4⟩:=row5 hr k hlt (by rw [he];rfl)
    obtain ⟨d0,d1,d2,d3,d4⟩:=row5 hr' k hlt' (by rw [he'];rfl)
    simp only [Bl.slice] at c3 d3
    simp only [he,he',Ro.val,Ro.cells,Bl.slice] at hq
    have HF:=hid he
    have HF':=hid he'
    clear he he'
    cases hf:f xs[k] ys[k]
    ·have hf2:=hf
     rw [HF.out,HF'.out] at hf2
     rw [hf2] at hq
     clear hf2
     have HFF:=hid hf
     clear hf
     go_wp2_with (go_at_call 41;refine (hq _ (((hbw.mono hn).al hn _).al hn _)).mono ?_;rintro e w1 ⟨rfl,hb1⟩)
     go_ret
     exact ⟨ret_bool (HC.out HFF.out).symm,((hbw.al le_rfl' _).al le_rfl' _).tr le_rfl' hb1⟩
    ·have hf2:=hf
     rw [HF.out,HF'.out] at hf2
     rw [hf2] at hq
     clear hf2
     have HFF:=hid hf
     clear hf
     go_wp2_with (go_at_call 41;refine (hq _ (((hbw.mono hn).al hn _).al hn _)).mono ?_;rintro e w1 ⟨rfl,hb1⟩)
     go_roundw
     case rel=>exact ⟨k+1,by omega,by go_num,by rw [HS.out,HA.out,HFF.out];rfl,((hbw.al le_rfl' _).al le_rfl' _).tr le_rfl' hb1⟩
     case measure=>simp [intOf];omega
   ·have hk':k=xs.length:=by omega
    go_wp2
    go_ret
    refine ⟨ret_bool ?_,hbw⟩
    have:=HA.out
    rw [hk',List.take_length,HLEN.out,List.take_length] at this
    exact this.symm
 ·have hlb:((xs.length:Int) != (ys.length:Int))=true:=by rw [bne_iff_ne];omega
  have HL:=hid (all2_len f xs ys hlen)
  clear hlen
  go_enter Tryz.func40,Tryz.ntmps40
  go_wp2
  go_ret
  exact ⟨ret_bool HL.out.symm,Below.refl _ _⟩
end Go.Proofs.YtaekbgljbgmchaaGreatDoor
namespace Go.Proofs.YtaekbgljbgmchaaGreatDoor
open Go.RowKit
theorem stSame_mk (kind kind':Int) (mon name mon' name':ByteArray) (n n':Int) (e e':Ex) (ad ad':Option Addr) (cap cap':Nat) (blocks blocks':List Bl) (pos pos':Int) :
  (St.mk kind mon name n e ad cap blocks pos).same (St.mk kind' mon' name' n' e' ad' cap' blocks' pos')=((kind == kind') && (mon.toList == mon'.toList) && (name.toList == name'.toList) && (n == n') && e.same e' && all2 Bl.same blocks blocks'):=by
 rw [St.same,Bl.sameL_eq]
theorem blSame_mk (ad ad':Option Addr) (cap cap':Nat) (body body':List St):(Bl.mk ad cap body).same (Bl.mk ad' cap' body')=all2 St.same body body':=by rw [Bl.same,St.sameL_eq]
set_option maxRecDepth 100000 in
set_option maxHeartbeats 2000000 in
theorem sameStmt_step (n₀:Nat) (kind:Int) (mon name:ByteArray) (n:Int) (e:Ex) (ad:Option Addr) (cap:Nat) (blocks:List Bl) (pos:Int)
  (ih:∀ b ∈ blocks,∀ (c:Bl) (w:World),n₀≤w.heap.size→b.Is n₀ w→c.Is n₀ w→Calls Tryz.prog 80 #[b.slice,c.slice] w fun e w'=>e=.returned (.bool (b.same c))∧Below w.heap.size w w')
  (t:St) (w:World) (hn:n₀≤w.heap.size) (ha:(St.mk kind mon name n e ad cap blocks pos).Is n₀ w) (hb:t.Is n₀ w) :
  Calls Tryz.prog 128 #[(St.mk kind mon name n e ad cap blocks pos).val,t.val] w fun r w'=>r=.returned (.bool ((St.mk kind mon name n e ad cap blocks pos).same t))∧Below w.heap.size w w':=by
 rcases t with ⟨kind',mon',name',n',e',ad',cap',blocks',pos'⟩
 have HS:=hid (stSame_mk kind kind' mon name mon' name' n n' e e' ad ad' cap cap' blocks blocks' pos pos')
 have hE:∀ W,Below n₀ w W→Calls Tryz.prog 24 #[e.val,e'.val] W fun r w'=>r=.returned (.bool (e.same e'))∧Below W.heap.size W w':=fun W hW =>
  sameExpr_any n₀ e e' W (by have:=hW.size;omega) (ha.down.2.1.below hW) (hb.down.2.1.below hW)
 have hC:∀ W,Below n₀ w W→Calls Tryz.prog 165 #[.slice ad blocks.length cap,.slice ad' blocks'.length cap',.func (.func 80) #[] #[]] W fun r w'=>r=.returned (.bool (all2 Bl.same blocks blocks'))∧Below W.heap.size W w':=fun W hW =>
  eqf67 Bl.same n₀ blocks blocks' ad ad' cap cap' W (by have:=hW.size;omega) (ha.down.2.2.1.below hW) (hb.down.2.2.1.below hW)
   (fun k k1 k2 W' hW'=>ih blocks[k] (List.getElem_mem k1) blocks'[k] W' (by have:=hW.size;have:=hW'.size;omega) ((ha.down.2.2.2 _ (List.getElem_mem k1)).below (hW.trans hW')) ((hb.down.2.2.2 _ (List.getElem_mem k2)).below (hW.trans hW')))
 clear ha hb ih
 obtain ⟨es,hes⟩:∃ es,e.same e'=es:=⟨_,rfl⟩
 have HES:=hid hes
 rw [hes] at hE
 clear hes
 rcases e with ⟨eop,emon,ename,en,ead,ecap,ekids,epos⟩
 rcases e' with ⟨eop',emon',ename',en',ead',ecap',ekids',epos'⟩
 simp only [St.val,St.cells,Ex.val,Ex.cells,List.cons_append,List.nil_append] at hE ⊢
 cases h1:(kind == kind')
 ·go_enter Tryz.func128,Tryz.ntmps128
  go_wp2
  go_ret
  exact ⟨ret_bool (by rw [HS.out,h1];rfl),((Below.refl _ _).al le_rfl' _).al le_rfl' _⟩
 cases h2:(mon.toList == mon'.toList)
 ·go_enter Tryz.func128,Tryz.ntmps128
  go_wp2
  go_ret
  exact ⟨ret_bool (by rw [HS.out,h1,h2];rfl),((Below.refl _ _).al le_rfl' _).al le_rfl' _⟩
 cases h3:(name.toList == name'.toList)
 ·go_enter Tryz.func128,Tryz.ntmps128
  go_wp2
  go_ret
  exact ⟨ret_bool (by rw [HS.out,h1,h2,h3];rfl),((Below.refl _ _).al le_rfl' _).al le_rfl' _⟩
 cases h4:(n == n')
 ·go_enter Tryz.func128,Tryz.ntmps128
  go_wp2
  go_ret
  exact ⟨ret_bool (by rw [HS.out,h1,h2,h3,h4];rfl),((Below.refl _ _).al le_rfl' _).al le_rfl' _⟩
 cases es
 ·go_enter Tryz.func128,Tryz.ntmps128
  go_wp2_with (go_at_call 24;refine (hE _ (((Below.refl n₀ w).al hn _).al hn _)).mono ?_;rintro r w1 ⟨rfl,hb1⟩)
  go_ret
  exact ⟨ret_bool (by rw [HS.out,h1,h2,h3,h4,HES.out];rfl),(((Below.refl _ _).al le_rfl' _).al le_rfl' _).tr le_rfl' hb1⟩
 ·go_enter Tryz.func128,Tryz.ntmps128
  go_wp2_with (first
   | (go_at_call 24;refine (hE _ (((Below.refl n₀ w).al hn _).al hn _)).mono ?_;rintro r w1 ⟨rfl,hb1⟩;obtain ⟨hcc,hff⟩:=bcell hb1)
   | (go_at_call 165;refine (hC _ ((((Below.refl n₀ w).al hn _).al hn _).tr hn hb1)).mono ?_;rintro r w2 ⟨rfl,hb2⟩))
  go_ret
  exact ⟨ret_bool (by rw [HS.out,h1,h2,h3,h4,HES.out];rfl),((((Below.refl _ _).al le_rfl' _).al le_rfl' _).tr le_rfl' hb1).tr le_rfl' hb2⟩
theorem sameStmts_any (n₀:Nat) (b:Bl):∀ (c:Bl) (w:World),n₀≤w.heap.size→b.Is n₀ w→c.Is n₀ w→Calls Tryz.prog 80 #[b.slice,c.slice] w fun e w'=>e=.returned (.bool (b.same c))∧Below w.heap.size w w':=by
 refine Bl.ind (P:=fun s=>∀ (t:St) (w:World),n₀≤w.heap.size→s.Is n₀ w→t.Is n₀ w→Calls Tryz.prog 128 #[s.val,t.val] w fun e w'=>e=.returned (.bool (s.same t))∧Below w.heap.size w w')
  (Q:=fun b=>∀ (c:Bl) (w:World),n₀≤w.heap.size→b.Is n₀ w→c.Is n₀ w→Calls Tryz.prog 80 #[b.slice,c.slice] w fun e w'=>e=.returned (.bool (b.same c))∧Below w.heap.size w w') ?_ ?_ b
 ·intro kind mon name n e ad cap blocks pos ih t w hn ha hb
  exact sameStmt_step n₀ kind mon name n e ad cap blocks pos ih t w hn ha hb
 ·rintro ad cap body ih ⟨ad',cap',body'⟩ w hn ha hb
  have hC:=eqf45 St.same n₀ body body' ad ad' cap cap' w hn ha.down.1 hb.down.1
   (fun k k1 k2 W' hW'=>ih body[k] (List.getElem_mem k1) body'[k] W' (by have:=hW'.size;omega) ((ha.down.2 _ (List.getElem_mem k1)).below hW') ((hb.down.2 _ (List.getElem_mem k2)).below hW'))
  rw [blSame_mk]
  clear ih ha hb
  simp only [Bl.slice]
  go_enter Tryz.func80,Tryz.ntmps80
  go_wp2_with (go_at_call 127;refine hC.mono ?_;rintro r w1 ⟨rfl,hb1⟩)
  go_ret
  exact ⟨rfl,hb1⟩
set_option maxHeartbeats 1000000 in
theorem isNone_any (n₀:Nat) (e:Ex) (w:World) (hn:n₀≤w.heap.size) (he:e.Is n₀ w) :
  Calls Tryz.prog 139 #[e.val] w fun r w'=>r=.returned (.bool (e.same (.mk 0 ⟨#[]⟩ ⟨#[]⟩ 0 none 0 [] 0)))∧Below w.heap.size w w':=by
 have hC:∀ W,Below n₀ w W→Calls Tryz.prog 24 #[e.val,(Ex.mk 0 ⟨#[]⟩ ⟨#[]⟩ 0 none 0 [] 0).val] W fun r w'=>r=.returned (.bool (e.same (.mk 0 ⟨#[]⟩ ⟨#[]⟩ 0 none 0 [] 0)))∧Below W.heap.size W w':=fun W hW =>
  sameExpr_any n₀ e _ W (by have:=hW.size;omega) (he.below hW) (Ex.Is.up ⟨⟨by unfold I64;omega,by unfold I64;omega,by unfold I64;omega,Nat.zero_le _,Nat.zero_le _⟩,⟨Nat.le_refl _,by unfold maxLen;omega,.inl rfl⟩,fun x hx=>by cases hx⟩)
 obtain ⟨res,hres⟩:∃ res,e.same (.mk 0 ⟨#[]⟩ ⟨#[]⟩ 0 none 0 [] 0)=res:=⟨_,rfl⟩
 rw [hres] at hC ⊢
 clear hres he
 rcases e with ⟨op,mon,name,n,ad,cap,kids,pos⟩
 simp only [Ex.val,Ex.cells,List.length_nil] at hC ⊢
 go_enter Tryz.func139,Tryz.ntmps139
 go_wp2_with (go_at_call 24;refine (hC _ ((Below.refl n₀ w).al hn _)).mono ?_;rintro r w1 ⟨rfl,hb1⟩)
 go_ret
 exact ⟨rfl,((Below.refl _ _).al le_rfl' _).tr le_rfl' hb1⟩
set_option maxHeartbeats 1000000 in
theorem sameVar_any (v u:Va) (w:World) (hv:v.Is) (hu:u.Is) :
  Calls Tryz.prog 77 #[v.val,u.val] w fun r w'=>r=.returned (.bool (v.same u))∧Below w.heap.size w w':=by
 rcases v with ⟨name,type,lo,hi,init,pos⟩
 rcases u with ⟨name',type',lo',hi',init',pos'⟩
 simp only [Va.val,Va.cells]
 have HS:Hid (Va.same ⟨name,type,lo,hi,init,pos⟩ ⟨name',type',lo',hi',init',pos'⟩=((name.toList == name'.toList) && (type == type') && (lo == lo') && (hi == hi') && (init == init'))):=rfl
 clear hv hu
 go_enter Tryz.func77,Tryz.ntmps77
 go_wp2
 all_goals go_ret
 all_goals exact ⟨ret_bool (by rw [HS.out];simp_all),((Below.refl _ _).al le_rfl' _).al le_rfl' _⟩
set_option maxHeartbeats 1000000 in
theorem sameMethod_any (n₀:Nat) (m k:Me) (w:World) (hn:n₀≤w.heap.size) (hm:m.Is n₀ w) (hk:k.Is n₀ w) :
  Calls Tryz.prog 79 #[m.val,k.val] w fun r w'=>r=.returned (.bool (m.same k))∧Below w.heap.size w w':=by
 have HS:Hid (m.same k=((m.name.toList == k.name.toList) && m.body.same k.body)):=rfl
 have hC:∀ W,Below n₀ w W→Calls Tryz.prog 80 #[m.body.slice,k.body.slice] W fun r w'=>r=.returned (.bool (m.body.same k.body))∧Below W.heap.size W w':=fun W hW =>
  sameStmts_any n₀ m.body k.body W (by have:=hW.size;omega) (hm.2.2.below hW) (hk.2.2.below hW)
 obtain ⟨res,hres⟩:∃ res,m.same k=res:=⟨_,rfl⟩
 obtain ⟨bs,hbs⟩:∃ bs,m.body.same k.body=bs:=⟨_,rfl⟩
 rw [hbs] at hC HS
 rw [hres] at HS ⊢
 clear hres hbs hm hk
 rcases m with ⟨name,⟨ad,cap,body⟩,pos⟩
 rcases k with ⟨name',⟨ad',cap',body'⟩,pos'⟩
 simp only [Me.val,Me.cells,Bl.slice] at hC HS ⊢
 cases h1:(name.toList == name'.toList)
 ·go_enter Tryz.func79,Tryz.ntmps79
  go_wp2
  go_ret
  exact ⟨ret_bool (by rw [HS.out,h1];rfl),((Below.refl _ _).al le_rfl' _).al le_rfl' _⟩
 ·go_enter Tryz.func79,Tryz.ntmps79
  go_wp2_with (go_at_call 80;refine (hC _ (((Below.refl n₀ w).al hn _).al hn _)).mono ?_;rintro r w1 ⟨rfl,hb1⟩)
  go_ret
  exact ⟨ret_bool (by rw [HS.out,h1];rfl),(((Below.refl _ _).al le_rfl' _).al le_rfl' _).tr le_rfl' hb1⟩
set_option maxHeartbeats 1000000 in
theorem sameRole_any (n₀:Nat) (m k:Ro) (w:World) (hn:n₀≤w.heap.size) (hm:m.Is n₀ w) (hk:k.Is n₀ w) :
  Calls Tryz.prog 41 #[m.val,k.val] w fun r w'=>r=.returned (.bool (m.same k))∧Below w.heap.size w w':=by
 have HS:Hid (m.same k=((m.name.toList == k.name.toList) && (m.star == k.star) && (m.count == k.count) && m.body.same k.body)):=rfl
 have hC:∀ W,Below n₀ w W→Calls Tryz.prog 80 #[m.body.slice,k.body.slice] W fun r w'=>r=.returned (.bool (m.body.same k.body))∧Below W.heap.size W w':=fun W hW =>
  sameStmts_any n₀ m.body k.body W (by have:=hW.size;omega) (hm.2.2.2.below hW) (hk.2.2.2.below hW)
 obtain ⟨res,hres⟩:∃ res,m.same k=res:=⟨_,rfl⟩
 obtain ⟨bs,hbs⟩:∃ bs,m.body.same k.body=bs:=⟨_,rfl⟩
 rw [hbs] at hC HS
 rw [hres] at HS ⊢
 clear hres hbs hm hk
 rcases m with ⟨name,star,count,⟨ad,cap,body⟩,pos⟩
 rcases k with ⟨name',star',count',⟨ad',cap',body'⟩,pos'⟩
 simp only [Ro.val,Ro.cells,Bl.slice] at hC HS ⊢
 cases h1:(name.toList == name'.toList)
 ·go_enter Tryz.func41,Tryz.ntmps41
  go_wp2
  go_ret
  exact ⟨ret_bool (by rw [HS.out,h1];rfl),((Below.refl _ _).al le_rfl' _).al le_rfl' _⟩
 cases h2:(star == star')
 ·go_enter Tryz.func41,Tryz.ntmps41
  go_wp2
  go_ret
  exact ⟨ret_bool (by rw [HS.out,h1,h2];rfl),((Below.refl _ _).al le_rfl' _).al le_rfl' _⟩
 cases h3:(count == count')
 ·go_enter Tryz.func41,Tryz.ntmps41
  go_wp2
  go_ret
  exact ⟨ret_bool (by rw [HS.out,h1,h2,h3];rfl),((Below.refl _ _).al le_rfl' _).al le_rfl' _⟩
 ·go_enter Tryz.func41,Tryz.ntmps41
  go_wp2_with (go_at_call 80;refine (hC _ (((Below.refl n₀ w).al hn _).al hn _)).mono ?_;rintro r w1 ⟨rfl,hb1⟩)
  go_ret
  exact ⟨ret_bool (by rw [HS.out,h1,h2,h3];rfl),(((Below.refl _ _).al le_rfl' _).al le_rfl' _).tr le_rfl' hb1⟩
set_option maxHeartbeats 1000000 in
theorem sameMonitor_any (n₀:Nat) (m k:Mo) (w:World) (hn:n₀≤w.heap.size) (hm:m.Is n₀ w) (hk:k.Is n₀ w) :
  Calls Tryz.prog 39 #[m.val,k.val] w fun r w'=>r=.returned (.bool (m.same k))∧Below w.heap.size w w':=by
 have HS:Hid (m.same k=((m.name.toList == k.name.toList) && all2 Va.same m.vars k.vars && all2 Me.same m.meths k.meths)):=rfl
 have hC:∀ W,Below n₀ w W→Calls Tryz.prog 76 #[.slice m.vad m.vars.length m.vcap,.slice k.vad k.vars.length k.vcap,.func (.func 77) #[] #[]] W fun r w'=>r=.returned (.bool (all2 Va.same m.vars k.vars))∧Below W.heap.size W w':=fun W hW =>
  eqf63 Va.same n₀ m.vars k.vars m.vad k.vad m.vcap k.vcap W (by have:=hW.size;omega) (hm.2.1.1.below hW) (hk.2.1.1.below hW)
   (fun j k1 k2 W' _=>sameVar_any m.vars[j] k.vars[j] W' (hm.2.1.2 _ (List.getElem_mem k1)) (hk.2.1.2 _ (List.getElem_mem k2)))
 have hD:∀ W,Below n₀ w W→Calls Tryz.prog 78 #[.slice m.mad m.meths.length m.mcap,.slice k.mad k.meths.length k.mcap,.func (.func 79) #[] #[]] W fun r w'=>r=.returned (.bool (all2 Me.same m.meths k.meths))∧Below W.heap.size W w':=fun W hW =>
  eqf65 Me.same n₀ m.meths k.meths m.mad k.mad m.mcap k.mcap W (by have:=hW.size;omega) (hm.2.2.1.below hW) (hk.2.2.1.below hW)
   (fun j k1 k2 W' hW'=>sameMethod_any n₀ m.meths[j] k.meths[j] W' (by have:=hW.size;have:=hW'.size;omega) ((hm.2.2.2 _ (List.getElem_mem k1)).below (hW.trans hW')) ((hk.2.2.2 _ (List.getElem_mem k2)).below (hW.trans hW')))
 obtain ⟨res,hres⟩:∃ res,m.same k=res:=⟨_,rfl⟩
 obtain ⟨bs,hbs⟩:∃ bs,all2 Va.same m.vars k.vars=bs:=⟨_,rfl⟩
 obtain ⟨cs,hcs⟩:∃ cs,all2 Me.same m.meths k.meths=cs:=⟨_,rfl⟩
 rw [hbs] at hC HS
 rw [hcs] at hD HS
 rw [hres] at HS ⊢
 clear hres hbs hcs hm hk
 rcases m with ⟨name,vad,vcap,vars,mad,mcap,meths,pos⟩
 rcases k with ⟨name',vad',vcap',vars',mad',mcap',meths',pos'⟩
 simp only [Mo.val,Mo.cells] at hC hD HS ⊢
 cases h1:(name.toList == name'.toList)
 ·go_enter Tryz.func39,Tryz.ntmps39
  go_wp2
  go_ret
  exact ⟨ret_bool (by rw [HS.out,h1];rfl),((Below.refl _ _).al le_rfl' _).al le_rfl' _⟩
 cases bs
 ·go_enter Tryz.func39,Tryz.ntmps39
  go_wp2_with (go_at_call 76;refine (hC _ (((Below.refl n₀ w).al hn _).al hn _)).mono ?_;rintro r w1 ⟨rfl,hb1⟩)
  go_ret
  exact ⟨ret_bool (by rw [HS.out,h1];rfl),(((Below.refl _ _).al le_rfl' _).al le_rfl' _).tr le_rfl' hb1⟩
 ·go_enter Tryz.func39,Tryz.ntmps39
  go_wp2_with (first
   | (go_at_call 76;refine (hC _ (((Below.refl n₀ w).al hn _).al hn _)).mono ?_;rintro r w1 ⟨rfl,hb1⟩;obtain ⟨hcc,hff⟩:=bcell hb1)
   | (go_at_call 78;refine (hD _ ((((Below.refl n₀ w).al hn _).al hn _).tr hn hb1)).mono ?_;rintro r w2 ⟨rfl,hb2⟩))
  go_ret
  exact ⟨ret_bool (by rw [HS.out,h1];rfl),((((Below.refl _ _).al le_rfl' _).al le_rfl' _).tr le_rfl' hb1).tr le_rfl' hb2⟩
set_option maxHeartbeats 1000000 in
theorem same_any (n₀:Nat) (m k:Pr) (w:World) (hn:n₀≤w.heap.size) (hm:m.Is n₀ w) (hk:k.Is n₀ w) :
  Calls Tryz.prog 16 #[m.val,k.val] w fun r w'=>r=.returned (.bool (m.same k))∧Below w.heap.size w w':=by
 have HS:Hid (m.same k=(all2 Mo.same m.mons k.mons && all2 Ro.same m.roles k.roles)):=rfl
 have hC:∀ W,Below n₀ w W→Calls Tryz.prog 38 #[.slice m.mad m.mons.length m.mcap,.slice k.mad k.mons.length k.mcap,.func (.func 39) #[] #[]] W fun r w'=>r=.returned (.bool (all2 Mo.same m.mons k.mons))∧Below W.heap.size W w':=fun W hW =>
  eqf40 Mo.same n₀ m.mons k.mons m.mad k.mad m.mcap k.mcap W (by have:=hW.size;omega) (hm.1.1.below hW) (hk.1.1.below hW)
   (fun j k1 k2 W' hW'=>sameMonitor_any n₀ m.mons[j] k.mons[j] W' (by have:=hW.size;have:=hW'.size;omega) ((hm.1.2 _ (List.getElem_mem k1)).below (hW.trans hW')) ((hk.1.2 _ (List.getElem_mem k2)).below (hW.trans hW')))
 have hD:∀ W,Below n₀ w W→Calls Tryz.prog 40 #[.slice m.rad m.roles.length m.rcap,.slice k.rad k.roles.length k.rcap,.func (.func 41) #[] #[]] W fun r w'=>r=.returned (.bool (all2 Ro.same m.roles k.roles))∧Below W.heap.size W w':=fun W hW =>
  eqf42 Ro.same n₀ m.roles k.roles m.rad k.rad m.rcap k.rcap W (by have:=hW.size;omega) (hm.2.1.below hW) (hk.2.1.below hW)
   (fun j k1 k2 W' hW'=>sameRole_any n₀ m.roles[j] k.roles[j] W' (by have:=hW.size;have:=hW'.size;omega) ((hm.2.2 _ (List.getElem_mem k1)).below (hW.trans hW')) ((hk.2.2 _ (List.getElem_mem k2)).below (hW.trans hW')))
 obtain ⟨res,hres⟩:∃ res,m.same k=res:=⟨_,rfl⟩
 obtain ⟨bs,hbs⟩:∃ bs,all2 Mo.same m.mons k.mons=bs:=⟨_,rfl⟩
 obtain ⟨cs,hcs⟩:∃ cs,all2 Ro.same m.roles k.roles=cs:=⟨_,rfl⟩
 rw [hbs] at hC HS
 rw [hcs] at hD HS
 rw [hres] at HS ⊢
 clear hres hbs hcs hm hk
 rcases m with ⟨mad,mcap,mons,rad,rcap,roles⟩
 rcases k with ⟨mad',mcap',mons',rad',rcap',roles'⟩
 simp only [Pr.val] at hC hD ⊢
 cases bs
 ·go_enter Tryz.func16,Tryz.ntmps16
  go_wp2_with (go_at_call 38;refine (hC _ (((Below.refl n₀ w).al hn _).al hn _)).mono ?_;rintro r w1 ⟨rfl,hb1⟩)
  go_ret
  exact ⟨ret_bool (by rw [HS.out];rfl),(((Below.refl _ _).al le_rfl' _).al le_rfl' _).tr le_rfl' hb1⟩
 ·go_enter Tryz.func16,Tryz.ntmps16
  go_wp2_with (first
   | (go_at_call 38;refine (hC _ (((Below.refl n₀ w).al hn _).al hn _)).mono ?_;rintro r w1 ⟨rfl,hb1⟩;obtain ⟨hcc,hff⟩:=bcell hb1)
   | (go_at_call 40;refine (hD _ ((((Below.refl n₀ w).al hn _).al hn _).tr hn hb1)).mono ?_;rintro r w2 ⟨rfl,hb2⟩))
  go_ret
  exact ⟨ret_bool (by rw [HS.out];rfl),((((Below.refl _ _).al le_rfl' _).al le_rfl' _).tr le_rfl' hb1).tr le_rfl' hb2⟩
end Go.Proofs.YtaekbgljbgmchaaGreatDoor
namespace Go.Proofs.YtaekbgljbgmchaaGreatDoor
open Go.RowKit
def Va.ok (v:Va):Bool:=Lx.name v.name && !(decide (v.lo=-9223372036854775808 ∨ v.hi=-9223372036854775808 ∨ v.init=-9223372036854775808)) &&
 decide ((v.type=1∧v.lo=0∧v.hi=0∧(v.init=0 ∨ v.init=1)) ∨ (v.type=2∧v.lo=0∧v.hi=0) ∨ (v.type=3∧v.lo≤v.hi))
set_option maxRecDepth 100000 in
set_option maxHeartbeats 2000000 in
theorem isVar_any (v:Va) (w:World) (hv:v.Is) :
  Calls Tryz.prog 138 #[v.val] w fun r w'=>r=.returned (.bool v.ok)∧Below w.heap.size w w':=by
 rcases v with ⟨name,type,lo,hi,init,pos⟩
 obtain ⟨h1,h2,h3,h4,h5,h6⟩:=hv
 simp only [Va.val,Va.cells] at *
 unfold I64 at h2 h3 h4 h5 h6
 obtain ⟨res,hres⟩:∃ res,Va.ok ⟨name,type,lo,hi,init,pos⟩=res:=⟨_,rfl⟩
 rw [hres]
 have HS:Hid ((Lx.name name && !(decide (lo=-9223372036854775808 ∨ hi=-9223372036854775808 ∨ init=-9223372036854775808)) &&
  decide ((type=1∧lo=0∧hi=0∧(init=0 ∨ init=1)) ∨ (type=2∧lo=0∧hi=0) ∨ (type=3∧lo≤hi)))=res):=hres
 clear hres
 have key:((if init < (if hi < lo then hi else lo) then init else (if hi < lo then hi else lo)) == (-9223372036854775808:Int))=decide (lo=-9223372036854775808 ∨ hi=-9223372036854775808 ∨ init=-9223372036854775808):=by
  rw [Bool.eq_iff_iff];simp only [beq_iff_eq,decide_eq_true_iff]
  (repeat' split) <;> omega
 cases hN:Lx.name name
 ·clear key
  go_enter Tryz.func138,Tryz.ntmps138
  go_wp2_with (go_at_call 137;refine (name_any _ _ h1).mono ?_;rintro e w' ⟨rfl,hw'⟩;have hw2:=hw'.symm;subst hw2)
  go_ret
  exact ⟨ret_bool (by rw [← HS.out,hN];rfl),(Below.refl _ _).al le_rfl' _⟩
 by_cases hM:lo=-9223372036854775808 ∨ hi=-9223372036854775808 ∨ init=-9223372036854775808
 ·rw [decide_eq_true hM] at key
  have HM:=hid hM
  clear hM
  go_enter Tryz.func138,Tryz.ntmps138
  go_wp2_with (go_at_call 137;refine (name_any _ _ h1).mono ?_;rintro e w' ⟨rfl,hw'⟩;have hw2:=hw'.symm;subst hw2)
  all_goals go_ret
  all_goals refine ⟨ret_bool ?_,(Below.refl _ _).al le_rfl' _⟩
  all_goals (rw [← HS.out,hN,decide_eq_true HM.out];rfl)
 ·rw [decide_eq_false hM] at key
  have HM:=hid hM
  clear hM
  rw [hN,decide_eq_false HM.out,Bool.not_false,Bool.true_and,Bool.true_and] at HS
  go_enter Tryz.func138,Tryz.ntmps138
  go_wp2_with (go_at_call 137;refine (name_any _ _ h1).mono ?_;rintro e w' ⟨rfl,hw'⟩;have hw2:=hw'.symm;subst hw2)
  all_goals go_ret
  all_goals refine ⟨ret_bool ?_,(Below.refl _ _).al le_rfl' _⟩
  all_goals rw [← HS.out]
  all_goals (clear key HS;simp only [beq_iff_eq,beq_eq_false_iff_ne,ne_eq] at *)
  all_goals (rw [Bool.eq_iff_iff];simp;omega)
end Go.Proofs.YtaekbgljbgmchaaGreatDoor
namespace Go.Proofs.YtaekbgljbgmchaaGreatDoor
open Go.RowKit
theorem allL_snoc {α:Type} (f:α→Bool) (l:List α) (k:Nat) (h:k < l.length):(l.take (k+1)).all f=((l.take k).all f && f l[k]):=by
 rw [List.take_succ_eq_append_getElem h,List.all_append];simp
theorem allL_cut {α:Type} (f:α→Bool) (l:List α) (k:Nat) (h:k < l.length) (hf:f l[k]=false):l.all f=false:=by
 rw [List.all_eq_false];exact ⟨l[k],List.getElem_mem h,by rw [hf];simp⟩
theorem bcell' {n:Nat} {W w1:World} (hb:Below n W w1):(∀ b o,b < n→w1.cell? ⟨b,o,none⟩=W.cell? ⟨b,o,none⟩)∧(∀ b o,b < n→w1.frozen? ⟨b,o,none⟩=W.frozen? ⟨b,o,none⟩):=
 ⟨fun b o h=>hb.cell (p:=⟨b,o,none⟩) h,fun b o h=>hb.frozen (p:=⟨b,o,none⟩) h⟩
def Ro.ok (r:Ro):Bool:=Lx.name r.name && fitsNum r.count (!r.star)
def Mo.ok (m:Mo):Bool:=Lx.name m.name && decide (m.vars.length≤16) && decide (m.meths.length≤16) && m.vars.all Va.ok && m.meths.all fun x=>Lx.name x.name
def Pr.decl (p:Pr):Bool:=decide (p.mons.length≤8) && decide (p.roles.length≤8) && p.mons.all Mo.ok && p.roles.all Ro.ok
set_option maxHeartbeats 1000000 in
theorem isRole_any (n₀:Nat) (r:Ro) (w:World) (hr:r.Is n₀ w) :
  Calls Tryz.prog 89 #[r.val] w fun e w'=>e=.returned (.bool r.ok)∧Below w.heap.size w w':=by
 have h1:=hr.1
 obtain ⟨res,hres⟩:∃ res,r.ok=res:=⟨_,rfl⟩
 rw [hres]
 have HS:Hid ((Lx.name r.name && fitsNum r.count (!r.star))=res):=hres
 clear hres hr
 rcases r with ⟨name,star,count,⟨ad,cap,body⟩,pos⟩
 simp only [Ro.val,Ro.cells,Bl.slice] at HS h1 ⊢
 cases hN:Lx.name name
 ·go_enter Tryz.func89,Tryz.ntmps89
  go_wp2_with (go_at_call 137;refine (name_any _ _ h1).mono ?_;rintro e w' ⟨rfl,hw'⟩;have hw2:=hw'.symm;subst hw2)
  go_ret
  exact ⟨ret_bool (by rw [← HS.out,hN];rfl),(Below.refl _ _).al le_rfl' _⟩
 ·go_enter Tryz.func89,Tryz.ntmps89
  go_wp2_with (first | (go_at_call 137;refine (name_any _ _ h1).mono ?_;rintro e w' ⟨rfl,hw'⟩;have hw2:=hw'.symm;subst hw2) | (go_at_call 93;refine (fitsNum_any _ _ _).mono ?_;rintro e w' ⟨rfl,hw'⟩;have hw2:=hw'.symm;subst hw2))
  go_ret
  exact ⟨ret_bool (by rw [← HS.out,hN];rfl),(Below.refl _ _).al le_rfl' _⟩
set_option maxRecDepth 100000 in
set_option maxHeartbeats 2000000 in
theorem isMonitor_any (n₀:Nat) (m:Mo) (w:World) (hn:n₀≤w.heap.size) (hm:m.Is n₀ w) :
  Calls Tryz.prog 88 #[m.val] w fun e w'=>e=.returned (.bool m.ok)∧Below w.heap.size w w':=by
 obtain ⟨res,hres⟩:∃ res,m.ok=res:=⟨_,rfl⟩
 rw [hres]
 have HS:Hid ((Lx.name m.name && decide (m.vars.length≤16) && decide (m.meths.length≤16) && m.vars.all Va.ok && m.meths.all fun x=>Lx.name x.name)=res):=hres
 clear hres
 rcases m with ⟨name,vad,vcap,vars,mad,mcap,meths,pos⟩
 obtain ⟨⟨h1,h2⟩,⟨h3,h4⟩,h5,h6⟩:=hm
 simp only [Mo.val,Mo.cells] at HS h1 h2 h3 h4 h5 h6 ⊢
 have hl1:=h3.1;have hl2:=h3.2.1;have hl3:=h5.1;have hl4:=h5.2.1
 unfold maxLen at hl2 hl4
 cases hN:Lx.name name
 ·go_enter Tryz.func88,Tryz.ntmps88
  go_wp2_with (go_at_call 137;refine (name_any _ _ h1).mono ?_;rintro e w' ⟨rfl,hw'⟩;have hw2:=hw'.symm;subst hw2)
  go_ret
  exact ⟨ret_bool (by rw [← HS.out,hN];rfl),(Below.refl _ _).al le_rfl' _⟩
 by_cases hv:vars.length≤16
 ·by_cases hv2:meths.length≤16
  ·rw [hN,decide_eq_true hv,decide_eq_true hv2,Bool.true_and,Bool.true_and,Bool.true_and] at HS
   go_enter Tryz.func88,Tryz.ntmps88
   go_wp2_with (go_at_call 137;refine (name_any _ _ h1).mono ?_;rintro e w' ⟨rfl,hw'⟩;have hw2:=hw'.symm;subst hw2)
   go_loopw [26] (fun i wr=>∃ k:Nat,k≤vars.length∧i=.int .i64 k∧Hid ((vars.take k).all Va.ok=true)∧Below (w.heap.size+1) (w.alloc (.cells #[.string name,.slice vad vars.length vcap,.slice mad meths.length mcap,.int .i64 pos] 80)) wr) (fun i _=>vars.length - (intOf i).toNat)
   case atStart=>exact ⟨0,by omega,rfl,rfl,Below.refl _ _⟩
   case round =>
    obtain ⟨k,hk,rfl,HA,hbw⟩:=hrel
    have hb0:Below n₀ w wr:=((Below.refl n₀ w).al hn _).trans (hbw.mono (by omega))
    have hz:=hbw.size
    simp at hz
    by_cases hlt:k < vars.length
    ·rcases h3.2.2 with h | ⟨b,off,rfl,hbn,hrow⟩
     ·subst h;simp at hlt
     have hbn1:b < wr.heap.size:=by omega
     have HSN:=hid (allL_snoc Va.ok vars k hlt)
     have HC:=hid (allL_cut Va.ok vars k hlt)
     have hq:=isVar_any vars[k] (wr.alloc (.cells (vars[k]).cells.toArray 86)) (h4 _ (List.getElem_mem hlt))
     have hr:=hrow.below hb0 hbn
     cases hf:Va.ok vars[k]
     ·rw [hf] at hq
      have HF:=hid hf
      clear hf
      rcases he:vars[k] with ⟨vname,vtype,vlo,vhi,vinit,vpos⟩
      obtain ⟨c0,c1,c2,c3,c4,c5⟩:=row6 hr k hlt (by rw [he];rfl)
      simp only [he,Va.val,Va.cells] at hq
      clear he
      go_wp2_with (go_at_call 138;refine hq.mono ?_;rintro e w1 ⟨rfl,hb1⟩)
      go_ret
      exact ⟨ret_bool (by rw [← HS.out,HC.out HF.out];rfl),((((Below.refl _ w).al le_rfl' _).trans (hbw.mono (by omega))).al le_rfl' _).tr le_rfl' hb1⟩
     ·rw [hf] at hq
      have HF:=hid hf
      clear hf
      rcases he:vars[k] with ⟨vname,vtype,vlo,vhi,vinit,vpos⟩
      obtain ⟨c0,c1,c2,c3,c4,c5⟩:=row6 hr k hlt (by rw [he];rfl)
      simp only [he,Va.val,Va.cells] at hq
      clear he
      go_wp2_with (go_at_call 138;refine hq.mono ?_;rintro e w1 ⟨rfl,hb1⟩)
      go_roundw
      case rel=>exact ⟨k+1,by omega,by go_num,by show _=_;rw [HSN.out,HA.out,HF.out];rfl,(hbw.al (by simp) _).tr (by simp) hb1⟩
      case measure=>simp [intOf];omega
    ·have HVA:Hid (vars.all Va.ok=true):=by
      show _=_
      have:=HA.out
      rw [List.take_of_length_le (by omega)] at this
      exact this
     obtain ⟨hcc,hff⟩:=bcell' hbw
     go_wp2
     go_loopw [37] (fun i wr=>∃ k:Nat,k≤meths.length∧i=.int .i64 k∧Hid ((meths.take k).all (fun x=>Lx.name x.name)=true)∧Below w.heap.size w wr) (fun i _=>meths.length - (intOf i).toNat)
     case atStart=>exact ⟨0,by omega,rfl,rfl,((Below.refl _ w).al le_rfl' _).trans (hbw.mono (by omega))⟩
     case round =>
      obtain ⟨k2,hk2,rfl,HA2,hbw2⟩:=hrel
      have hb2:=hbw2.mono hn
      have hz2:=hbw2.size
      by_cases hlt2:k2 < meths.length
      ·rcases h5.2.2 with h | ⟨b,off,rfl,hbn,hrow⟩
       ·subst h;simp at hlt2
       have hbn1:b < wr.heap.size:=by omega
       have HSN:=hid (allL_snoc (fun x:Me=>Lx.name x.name) meths k2 hlt2)
       have HC:=hid (allL_cut (fun x:Me=>Lx.name x.name) meths k2 hlt2)
       have hr:=hrow.below hb2 hbn
       have hMI:=h6 _ (List.getElem_mem hlt2)
       cases hf:Lx.name (meths[k2]).name
       ·rcases he:meths[k2] with ⟨mname,⟨bad,bcap,bbody⟩,mpos⟩
        obtain ⟨c0,c1,c2⟩:=row3 hr k2 hlt2 (by rw [he];rfl)
        simp only [Bl.slice] at c1
        have HF:=hid hf
        rw [he] at hf
        simp only at hf
        rw [he] at hMI
        have hLm:=hMI.1
        clear he
        go_wp2_with (go_at_call 137;refine (name_any _ _ hLm).mono ?_;rintro e w' ⟨rfl,hw'⟩;have hw2:=hw'.symm;subst hw2)
        go_ret
        exact ⟨ret_bool (by rw [← HS.out,HVA.out,HC.out HF.out];rfl),hbw2.al le_rfl' _⟩
       ·rcases he:meths[k2] with ⟨mname,⟨bad,bcap,bbody⟩,mpos⟩
        obtain ⟨c0,c1,c2⟩:=row3 hr k2 hlt2 (by rw [he];rfl)
        simp only [Bl.slice] at c1
        have HF:=hid hf
        rw [he] at hf
        simp only at hf
        rw [he] at hMI
        have hLm:=hMI.1
        clear he
        go_wp2_with (go_at_call 137;refine (name_any _ _ hLm).mono ?_;rintro e w' ⟨rfl,hw'⟩;have hw2:=hw'.symm;subst hw2)
        go_roundw
        case rel=>exact ⟨k2+1,by omega,by go_num,by show _=_;rw [HSN.out,HA2.out,HF.out];rfl,hbw2.al le_rfl' _⟩
        case measure=>simp [intOf];omega
      ·go_wp2
       go_ret
       refine ⟨ret_bool ?_,hbw2⟩
       have:=HA2.out
       rw [List.take_of_length_le (by omega)] at this
       rw [← HS.out,HVA.out,this];rfl
  ·rw [decide_eq_false hv2,Bool.and_false,Bool.false_and,Bool.false_and] at HS
   go_enter Tryz.func88,Tryz.ntmps88
   go_wp2_with (go_at_call 137;refine (name_any _ _ h1).mono ?_;rintro e w' ⟨rfl,hw'⟩;have hw2:=hw'.symm;subst hw2)
   go_ret
   exact ⟨ret_bool HS.out,(Below.refl _ _).al le_rfl' _⟩
 ·rw [decide_eq_false hv,Bool.and_false,Bool.false_and,Bool.false_and,Bool.false_and] at HS
  go_enter Tryz.func88,Tryz.ntmps88
  go_wp2_with (go_at_call 137;refine (name_any _ _ h1).mono ?_;rintro e w' ⟨rfl,hw'⟩;have hw2:=hw'.symm;subst hw2)
  go_ret
  exact ⟨ret_bool HS.out,(Below.refl _ _).al le_rfl' _⟩
end Go.Proofs.YtaekbgljbgmchaaGreatDoor
namespace Go.Proofs.YtaekbgljbgmchaaGreatDoor
open Go.RowKit
set_option maxRecDepth 100000 in
set_option maxHeartbeats 2000000 in
theorem declares_any (n₀:Nat) (p:Pr) (w:World) (hn:n₀≤w.heap.size) (hp:p.Is n₀ w) :
  Calls Tryz.prog 50 #[p.val] w fun e w'=>e=.returned (.bool p.decl)∧Below w.heap.size w w':=by
 obtain ⟨res,hres⟩:∃ res,p.decl=res:=⟨_,rfl⟩
 rw [hres]
 have HS:Hid ((decide (p.mons.length≤8) && decide (p.roles.length≤8) && p.mons.all Mo.ok && p.roles.all Ro.ok)=res):=hres
 clear hres
 rcases p with ⟨mad,mcap,mons,rad,rcap,roles⟩
 obtain ⟨⟨h3,h4⟩,h5,h6⟩:=hp
 simp only [Pr.val] at HS h3 h4 h5 h6 ⊢
 have hl1:=h3.1;have hl2:=h3.2.1;have hl3:=h5.1;have hl4:=h5.2.1
 unfold maxLen at hl2 hl4
 by_cases hv:mons.length≤8
 ·by_cases hv2:roles.length≤8
  ·rw [decide_eq_true hv,decide_eq_true hv2,Bool.true_and,Bool.true_and] at HS
   go_enter Tryz.func50,Tryz.ntmps50
   go_wp2
   go_loopw [20] (fun i wr=>∃ k:Nat,k≤mons.length∧i=.int .i64 k∧Hid ((mons.take k).all Mo.ok=true)∧Below (w.heap.size+1) (w.alloc (.cells #[.slice mad mons.length mcap,.slice rad roles.length rcap] 37)) wr) (fun i _=>mons.length - (intOf i).toNat)
   case atStart=>exact ⟨0,by omega,rfl,rfl,Below.refl _ _⟩
   case round =>
    obtain ⟨k,hk,rfl,HA,hbw⟩:=hrel
    have hb0:Below n₀ w wr:=((Below.refl n₀ w).al hn _).trans (hbw.mono (by omega))
    have hz:=hbw.size
    simp at hz
    by_cases hlt:k < mons.length
    ·rcases h3.2.2 with h | ⟨b,off,rfl,hbn,hrow⟩
     ·subst h;simp at hlt
     have hbn1:b < wr.heap.size:=by omega
     have HSN:=hid (allL_snoc Mo.ok mons k hlt)
     have HC:=hid (allL_cut Mo.ok mons k hlt)
     have hq:=isMonitor_any n₀ mons[k] (wr.alloc (.cells (mons[k]).cells.toArray 80)) (by simp;omega) ((h4 _ (List.getElem_mem hlt)).below (hb0.al hn _))
     have hr:=hrow.below hb0 hbn
     cases hf:Mo.ok mons[k]
     ·rw [hf] at hq
      have HF:=hid hf
      clear hf
      rcases he:mons[k] with ⟨vname,vvad,vvcap,vvars,vmad,vmcap,vmeths,vpos⟩
      obtain ⟨c0,c1,c2,c3⟩:=row4 hr k hlt (by rw [he];rfl)
      simp only [he,Mo.val,Mo.cells] at hq
      clear he
      go_wp2_with (go_at_call 88;refine hq.mono ?_;rintro e w1 ⟨rfl,hb1⟩)
      go_ret
      exact ⟨ret_bool (by rw [← HS.out,HC.out HF.out];rfl),((((Below.refl _ w).al le_rfl' _).trans (hbw.mono (by omega))).al le_rfl' _).tr le_rfl' hb1⟩
     ·rw [hf] at hq
      have HF:=hid hf
      clear hf
      rcases he:mons[k] with ⟨vname,vvad,vvcap,vvars,vmad,vmcap,vmeths,vpos⟩
      obtain ⟨c0,c1,c2,c3⟩:=row4 hr k hlt (by rw [he];rfl)
      simp only [he,Mo.val,Mo.cells] at hq
      clear he
      go_wp2_with (go_at_call 88;refine hq.mono ?_;rintro e w1 ⟨rfl,hb1⟩)
      go_roundw
      case rel=>exact ⟨k+1,by omega,by go_num,by show _=_;rw [HSN.out,HA.out,HF.out];rfl,(hbw.al (by simp) _).tr (by simp) hb1⟩
      case measure=>simp [intOf];omega
    ·have HVA:Hid (mons.all Mo.ok=true):=by
      show _=_
      have:=HA.out
      rw [List.take_of_length_le (by omega)] at this
      exact this
     obtain ⟨hcc,hff⟩:=bcell' hbw
     go_wp2
     go_loopw [31] (fun i wr=>∃ k:Nat,k≤roles.length∧i=.int .i64 k∧Hid ((roles.take k).all Ro.ok=true)∧Below w.heap.size w wr) (fun i _=>roles.length - (intOf i).toNat)
     case atStart=>exact ⟨0,by omega,rfl,rfl,((Below.refl _ w).al le_rfl' _).trans (hbw.mono (by omega))⟩
     case round =>
      obtain ⟨k2,hk2,rfl,HA2,hbw2⟩:=hrel
      have hb2:=hbw2.mono hn
      have hz2:=hbw2.size
      by_cases hlt2:k2 < roles.length
      ·rcases h5.2.2 with h | ⟨b,off,rfl,hbn,hrow⟩
       ·subst h;simp at hlt2
       have hbn1:b < wr.heap.size:=by omega
       have HSN:=hid (allL_snoc Ro.ok roles k2 hlt2)
       have HC:=hid (allL_cut Ro.ok roles k2 hlt2)
       have hr:=hrow.below hb2 hbn
       have hq:=isRole_any n₀ roles[k2] (wr.alloc (.cells (roles[k2]).cells.toArray 62)) ((h6 _ (List.getElem_mem hlt2)).below (hb2.al hn _))
       cases hf:Ro.ok roles[k2]
       ·rw [hf] at hq
        have HF:=hid hf
        clear hf
        rcases he:roles[k2] with ⟨mname,mstar,mcount,⟨bad,bcap,bbody⟩,mpos⟩
        obtain ⟨c0,c1,c2,c3,c4⟩:=row5 hr k2 hlt2 (by rw [he];rfl)
        simp only [he,Ro.val,Ro.cells,Bl.slice] at hq c3
        clear he
        go_wp2_with (go_at_call 89;refine hq.mono ?_;rintro e w1 ⟨rfl,hb1⟩)
        go_ret
        exact ⟨ret_bool (by rw [← HS.out,HVA.out,HC.out HF.out];rfl),(hbw2.al le_rfl' _).tr le_rfl' hb1⟩
       ·rw [hf] at hq
        have HF:=hid hf
        clear hf
        rcases he:roles[k2] with ⟨mname,mstar,mcount,⟨bad,bcap,bbody⟩,mpos⟩
        obtain ⟨c0,c1,c2,c3,c4⟩:=row5 hr k2 hlt2 (by rw [he];rfl)
        simp only [he,Ro.val,Ro.cells,Bl.slice] at hq c3
        clear he
        go_wp2_with (go_at_call 89;refine hq.mono ?_;rintro e w1 ⟨rfl,hb1⟩)
        go_roundw
        case rel=>exact ⟨k2+1,by omega,by go_num,by show _=_;rw [HSN.out,HA2.out,HF.out];rfl,(hbw2.al le_rfl' _).tr le_rfl' hb1⟩
        case measure=>simp [intOf];omega
      ·go_wp2
       go_ret
       refine ⟨ret_bool ?_,hbw2⟩
       have:=HA2.out
       rw [List.take_of_length_le (by omega)] at this
       rw [← HS.out,HVA.out,this];rfl
  ·rw [decide_eq_false hv2,Bool.and_false,Bool.false_and,Bool.false_and] at HS
   go_enter Tryz.func50,Tryz.ntmps50
   go_wp2
   go_ret
   exact ⟨ret_bool HS.out,(Below.refl _ _).al le_rfl' _⟩
 ·rw [decide_eq_false hv,Bool.false_and,Bool.false_and,Bool.false_and] at HS
  go_enter Tryz.func50,Tryz.ntmps50
  go_wp2
  go_ret
  exact ⟨ret_bool HS.out,(Below.refl _ _).al le_rfl' _⟩
def Ex.none (e:Ex):Bool:=e.same (.mk 0 ⟨#[]⟩ ⟨#[]⟩ 0 Option.none 0 [] 0)
def fitsEx (e:Ex) (b:Bool):Bool:=if b then e.ok else e.none
set_option maxHeartbeats 1000000 in
theorem fitsExpr_any (n₀:Nat) (e:Ex) (b:Bool) (w:World) (hn:n₀≤w.heap.size) (he:e.Is n₀ w) (hS:Shapes w) :
  Calls Tryz.prog 94 #[e.val,.bool b] w fun r w'=>r=.returned (.bool (fitsEx e b))∧Below w.heap.size w w':=by
 have hC:=checkExpr_any e n₀ (w.alloc (.cells e.cells.toArray 25)) (by simp;omega) (he.below ((Below.refl _ _).al hn _)) (hS.below ((Below.refl w.heap.size w).al le_rfl' _) hS.size)
 have hD:=isNone_any n₀ e (w.alloc (.cells e.cells.toArray 25)) (by simp;omega) (he.below ((Below.refl _ _).al hn _))
 cases b
 ·obtain ⟨res,hres⟩:∃ res,fitsEx e false=res:=⟨_,rfl⟩
  rw [hres]
  have hr:e.same (.mk 0 ⟨#[]⟩ ⟨#[]⟩ 0 Option.none 0 [] 0)=res:=hres
  rw [hr] at hD
  clear hr hres he hC
  rcases e with ⟨op,mon,name,n,ad,cap,kids,pos⟩
  simp only [Ex.val,Ex.cells] at hD ⊢
  go_enter Tryz.func94,Tryz.ntmps94
  go_wp2_with (go_at_call 139;refine hD.mono ?_;rintro e w' ⟨rfl,hb1⟩)
  go_ret
  exact ⟨rfl,((Below.refl _ _).al le_rfl' _).tr le_rfl' hb1⟩
 ·obtain ⟨res,hres⟩:∃ res,fitsEx e true=res:=⟨_,rfl⟩
  rw [hres]
  have hr:e.ok=res:=hres
  rw [hr] at hC
  clear hr hres he hD
  rcases e with ⟨op,mon,name,n,ad,cap,kids,pos⟩
  simp only [Ex.val,Ex.cells] at hC ⊢
  cases res
  ·go_enter Tryz.func94,Tryz.ntmps94
   go_wp2_with (go_at_call 53;refine hC.mono ?_;rintro e w' ⟨rfl,hb1⟩)
   go_ret
   exact ⟨rfl,((Below.refl _ _).al le_rfl' _).tr le_rfl' hb1⟩
  ·go_enter Tryz.func94,Tryz.ntmps94
   go_wp2_with (go_at_call 53;refine hC.mono ?_;rintro e w' ⟨rfl,hb1⟩)
   go_ret
   exact ⟨rfl,((Below.refl _ _).al le_rfl' _).tr le_rfl' hb1⟩
def St.ok1:St→Bool
 | .mk kind mon name n e _ _ blocks _=>decide (1≤kind) && decide (kind≤11) && (fitsName mon (stMon kind.toNat) && fitsName name (stName kind.toNat) && fitsNum n (stNumber kind.toNat) && fitsEx e (stExpr kind.toNat) && decide (stLeast kind.toNat≤blocks.length) && decide (blocks.length≤stMost kind.toNat))
set_option maxRecDepth 100000 in
set_option maxHeartbeats 2000000 in
theorem isStmt_any (n₀:Nat) (s:St) (w:World) (hn2:2≤n₀) (hn:n₀≤w.heap.size) (hI:s.Is n₀ w) (hS:Shapes w) :
  Calls Tryz.prog 52 #[s.val] w fun r w'=>r=.returned (.bool s.ok1)∧Below w.heap.size w w':=by
 rcases s with ⟨kind,mon,name,n,e,ad,cap,blocks,pos⟩
 obtain ⟨⟨h1,h2,h3,h4,h5⟩,h6,h7,_⟩:=hI.down
 unfold I64 at h1 h2 h3
 have hl1:=h7.1;have hl2:=h7.2.1
 unfold maxLen at hl2
 obtain ⟨res,hres⟩:∃ res,(St.mk kind mon name n e ad cap blocks pos).ok1=res:=⟨_,rfl⟩
 rw [hres]
 have HR:Hid ((decide (1≤kind) && decide (kind≤11) && (fitsName mon (stMon kind.toNat) && fitsName name (stName kind.toNat) && fitsNum n (stNumber kind.toNat) && fitsEx e (stExpr kind.toNat) && decide (stLeast kind.toNat≤blocks.length) && decide (blocks.length≤stMost kind.toNat)))=res):=hres
 clear hres
 have hE:∀ b W,Below n₀ w W→Calls Tryz.prog 94 #[e.val,.bool b] W fun r w'=>r=.returned (.bool (fitsEx e b))∧Below W.heap.size W w':=fun b W hW=>fitsExpr_any n₀ e b W (by have:=hW.size;omega) (h6.below hW) (hS.below hW hn2)
 clear h6 h7 hI
 by_cases ho1:1≤kind
 ·by_cases ho2:kind≤11
  ·obtain ⟨k,rfl⟩:∃ k:Nat,kind=(k:Int):=⟨kind.toNat,by omega⟩
   have hk1:1≤k:=by omega
   have hk2:k < 12:=by omega
   obtain ⟨s0,s1,s2,s3,s4,s5⟩:=hS.st k hk2
   have hsz:0 < w.heap.size:=by have:=hS.size;omega
   have HR2:Hid ((fitsName mon (stMon k) && fitsName name (stName k) && fitsNum n (stNumber k) && fitsEx e (stExpr k) && decide (stLeast k≤blocks.length) && decide (blocks.length≤stMost k))=res):=by
    show _=_
    rw [← HR.out,decide_eq_true ho1,decide_eq_true ho2,Int.toNat_natCast,Bool.true_and,Bool.true_and]
   clear HR ho1 ho2
   have hE:=hE (stExpr k)
   obtain ⟨fe,hfe⟩:∃ fe,fitsEx e (stExpr k)=fe:=⟨_,rfl⟩
   rw [hfe] at hE HR2
   clear hfe
   rcases e with ⟨eop,emon,ename,en,ead,ecap,ekids,epos⟩
   simp only [St.val,St.cells,Ex.val,Ex.cells,List.cons_append,List.nil_append] at hE ⊢
   cases q1:fitsName mon (stMon k)
   ·go_enter Tryz.func52,Tryz.ntmps52
    go_wp2_with (first | (go_at_call 92;refine (fitsName_any _ _ _ ‹_›).mono ?_;rintro e w' ⟨rfl,hw'⟩;have hw2:=hw'.symm;subst hw2) | (go_at_call 93;refine (fitsNum_any _ _ _).mono ?_;rintro e w' ⟨rfl,hw'⟩;have hw2:=hw'.symm;subst hw2))
    go_ret
    exact ⟨ret_bool (by rw [← HR2.out,q1];rfl),((Below.refl _ _).al le_rfl' _).al le_rfl' _⟩
   cases q2:fitsName name (stName k)
   ·go_enter Tryz.func52,Tryz.ntmps52
    go_wp2_with (first | (go_at_call 92;refine (fitsName_any _ _ _ ‹_›).mono ?_;rintro e w' ⟨rfl,hw'⟩;have hw2:=hw'.symm;subst hw2) | (go_at_call 93;refine (fitsNum_any _ _ _).mono ?_;rintro e w' ⟨rfl,hw'⟩;have hw2:=hw'.symm;subst hw2))
    go_ret
    exact ⟨ret_bool (by rw [← HR2.out,q1,q2];rfl),((Below.refl _ _).al le_rfl' _).al le_rfl' _⟩
   cases q3:fitsNum n (stNumber k)
   ·go_enter Tryz.func52,Tryz.ntmps52
    go_wp2_with (first | (go_at_call 92;refine (fitsName_any _ _ _ ‹_›).mono ?_;rintro e w' ⟨rfl,hw'⟩;have hw2:=hw'.symm;subst hw2) | (go_at_call 93;refine (fitsNum_any _ _ _).mono ?_;rintro e w' ⟨rfl,hw'⟩;have hw2:=hw'.symm;subst hw2))
    go_ret
    exact ⟨ret_bool (by rw [← HR2.out,q1,q2,q3];rfl),((Below.refl _ _).al le_rfl' _).al le_rfl' _⟩
   cases fe
   ·go_enter Tryz.func52,Tryz.ntmps52
    go_wp2_with (first | (go_at_call 92;refine (fitsName_any _ _ _ ‹_›).mono ?_;rintro e w' ⟨rfl,hw'⟩;have hw2:=hw'.symm;subst hw2) | (go_at_call 93;refine (fitsNum_any _ _ _).mono ?_;rintro e w' ⟨rfl,hw'⟩;have hw2:=hw'.symm;subst hw2) | (go_at_call 94;refine (hE _ (((Below.refl n₀ w).al hn _).al hn _)).mono ?_;rintro e w1 ⟨rfl,hb1⟩;obtain ⟨hcc,hff⟩:=bcell hb1))
    go_ret
    exact ⟨ret_bool (by rw [← HR2.out,q1,q2,q3];rfl),(((Below.refl _ _).al le_rfl' _).al le_rfl' _).tr le_rfl' hb1⟩
   by_cases q5:stLeast k≤blocks.length
   ·by_cases q6:blocks.length≤stMost k
    ·go_enter Tryz.func52,Tryz.ntmps52
     go_wp2_with (first | (go_at_call 92;refine (fitsName_any _ _ _ ‹_›).mono ?_;rintro e w' ⟨rfl,hw'⟩;have hw2:=hw'.symm;subst hw2) | (go_at_call 93;refine (fitsNum_any _ _ _).mono ?_;rintro e w' ⟨rfl,hw'⟩;have hw2:=hw'.symm;subst hw2) | (go_at_call 94;refine (hE _ (((Below.refl n₀ w).al hn _).al hn _)).mono ?_;rintro e w1 ⟨rfl,hb1⟩;obtain ⟨hcc,hff⟩:=bcell hb1))
     go_ret
     exact ⟨ret_bool (by rw [← HR2.out,q1,q2,q3,decide_eq_true q5,decide_eq_true q6];rfl),(((Below.refl _ _).al le_rfl' _).al le_rfl' _).tr le_rfl' hb1⟩
    ·go_enter Tryz.func52,Tryz.ntmps52
     go_wp2_with (first | (go_at_call 92;refine (fitsName_any _ _ _ ‹_›).mono ?_;rintro e w' ⟨rfl,hw'⟩;have hw2:=hw'.symm;subst hw2) | (go_at_call 93;refine (fitsNum_any _ _ _).mono ?_;rintro e w' ⟨rfl,hw'⟩;have hw2:=hw'.symm;subst hw2) | (go_at_call 94;refine (hE _ (((Below.refl n₀ w).al hn _).al hn _)).mono ?_;rintro e w1 ⟨rfl,hb1⟩;obtain ⟨hcc,hff⟩:=bcell hb1))
     go_ret
     exact ⟨ret_bool (by rw [← HR2.out,q1,q2,q3,decide_eq_true q5,decide_eq_false q6];rfl),(((Below.refl _ _).al le_rfl' _).al le_rfl' _).tr le_rfl' hb1⟩
   ·go_enter Tryz.func52,Tryz.ntmps52
    go_wp2_with (first | (go_at_call 92;refine (fitsName_any _ _ _ ‹_›).mono ?_;rintro e w' ⟨rfl,hw'⟩;have hw2:=hw'.symm;subst hw2) | (go_at_call 93;refine (fitsNum_any _ _ _).mono ?_;rintro e w' ⟨rfl,hw'⟩;have hw2:=hw'.symm;subst hw2) | (go_at_call 94;refine (hE _ (((Below.refl n₀ w).al hn _).al hn _)).mono ?_;rintro e w1 ⟨rfl,hb1⟩;obtain ⟨hcc,hff⟩:=bcell hb1))
    go_ret
    exact ⟨ret_bool (by rw [← HR2.out,q1,q2,q3,decide_eq_false q5];rfl),(((Below.refl _ _).al le_rfl' _).al le_rfl' _).tr le_rfl' hb1⟩
  ·rw [decide_eq_false ho2,Bool.and_false,Bool.false_and] at HR
   rcases e with ⟨eop,emon,ename,en,ead,ecap,ekids,epos⟩
   simp only [St.val,St.cells,Ex.cells,List.cons_append,List.nil_append]
   go_enter Tryz.func52,Tryz.ntmps52
   go_wp2
   go_ret
   exact ⟨ret_bool HR.out,(Below.refl _ _).al le_rfl' _⟩
 ·rw [decide_eq_false ho1,Bool.false_and,Bool.false_and] at HR
  rcases e with ⟨eop,emon,ename,en,ead,ecap,ekids,epos⟩
  simp only [St.val,St.cells,Ex.cells,List.cons_append,List.nil_append]
  go_enter Tryz.func52,Tryz.ntmps52
  go_wp2
  go_ret
  exact ⟨ret_bool HR.out,(Below.refl _ _).al le_rfl' _⟩
end Go.Proofs.YtaekbgljbgmchaaGreatDoor
namespace Go.Proofs.YtaekbgljbgmchaaGreatDoor
open Go.RowKit Go.Shelf
attribute [local go_sem] Oper.semAt_some
abbrev StA (n₀:Nat) (w:World):={ x:St // x.Is n₀ w }
def St.blocks:St→List Bl
 | .mk _ _ _ _ _ _ _ blocks _=>blocks
theorem flatMap_prefix {α β:Type} (f:α→List β) (l:List α) (k:Nat):(l.take k).flatMap f <+: l.flatMap f:=by
 refine ⟨(l.drop k).flatMap f,?_⟩
 rw [← List.flatMap_append,List.take_append_drop]
theorem flatMap_len {α β:Type} (f:α→List β) (l:List α) (k:Nat):((l.take k).flatMap f).length≤(l.flatMap f).length:=(flatMap_prefix f l k).length_le
set_option maxRecDepth 100000 in
set_option maxHeartbeats 4000000 in
theorem passBlock_in (F:Fence) (hd:F.depth=none) (h91:F.fn 91) (hro:F.round=none) (l n₀ B N:Nat) (w:World) (hn₀:n₀≤w.heap.size) (hBw:B≤w.heap.size) (J Jx:List (StA n₀ w)→World→Prop)
  (hJA:∀ pre W o,J pre W→J pre (W.alloc o))
  (hY:∀ m pre (x:StA n₀ w) W,J pre W→pre.length < N→YieldAt F m Tryz.prog l #[x.1.val] W fun e W' =>
   (e=.returned (.bool true)∧J (pre++[x]) W'∧Kpi n₀ B W W') ∨ (e=.returned (.bool false)∧Jx (pre++[x]) W')) (b:Bl) :
  ∀ (n:Nat) (pre:List (StA n₀ w)) (W:World),b.Is n₀ w→Below n₀ w W→J pre W→pre.length+b.subs.length≤N →
   CallsIn F n Tryz.prog 91 #[b.slice,.func (.yield l) #[] #[]] W fun e W' =>
    (e=.returned (.bool true)∧∃ q,q.map Subtype.val=b.subs∧J (pre++q) W'∧Kpi n₀ B W W') ∨ (e=.returned (.bool false)∧∃ q,q.map Subtype.val <+: b.subs∧Jx (pre++q) W'):=by
 refine Bl.ind (P:=fun s=>∀ b ∈ s.blocks,∀ (n:Nat) (pre:List (StA n₀ w)) (W:World),b.Is n₀ w→Below n₀ w W→J pre W→pre.length+b.subs.length≤N →
   CallsIn F n Tryz.prog 91 #[b.slice,.func (.yield l) #[] #[]] W fun e W' =>
    (e=.returned (.bool true)∧∃ q,q.map Subtype.val=b.subs∧J (pre++q) W'∧Kpi n₀ B W W') ∨ (e=.returned (.bool false)∧∃ q,q.map Subtype.val <+: b.subs∧Jx (pre++q) W'))
  (Q:=fun b=>∀ (n:Nat) (pre:List (StA n₀ w)) (W:World),b.Is n₀ w→Below n₀ w W→J pre W→pre.length+b.subs.length≤N →
   CallsIn F n Tryz.prog 91 #[b.slice,.func (.yield l) #[] #[]] W fun e W' =>
    (e=.returned (.bool true)∧∃ q,q.map Subtype.val=b.subs∧J (pre++q) W'∧Kpi n₀ B W W') ∨ (e=.returned (.bool false)∧∃ q,q.map Subtype.val <+: b.subs∧Jx (pre++q) W')) ?_ ?_ b
 ·intro kind mon name n e ad cap blocks pos ih b hb
  exact ih b hb
 ·intro ad cap body ih n pre W hT hB hJ hN
  have hT':=hT.down
  have hdd:∀ k:Nat,(F.depth.isSome=true→1≤k):=fun k h=>by rw [hd] at h;cases h
  have hlW:=hB.size
  have hl1:=hT'.1.1;have hl2:=hT'.1.2.1
  unfold maxLen at hl2
  rw [Bl.subs_mk] at hN
  have HSU:=hid (Bl.subs_mk ad cap body)
  simp only [Bl.slice]
  refine callsIn_of_wp Tryz.func91 rfl h91 ?_ hro
  simp only [Tryz.ntmps91,List.size_toArray,List.length_cons,List.length_nil,Nat.reduceAdd,Nat.reduceSub,Array.replicate_succ,Array.replicate_zero,List.push_toArray,List.append_toArray,List.nil_append,List.cons_append]
  gi_wp2
  gi_loopw [11] (fun i wr=>∃ (j:Nat) (q:List (StA n₀ w)),j≤body.length∧i=.int .i64 j∧Hid (q.map Subtype.val=(body.take j).flatMap St.subs)∧J (pre++q) wr∧Kpi n₀ B W wr)
   (fun i _=>body.length - (intOf i).toNat)
  case atStart=>exact ⟨0,[],by omega,rfl,by simp [Hid],by simpa using hJ,Kpi.refl _ _ _⟩
  case round =>
   obtain ⟨j,q,hj,rfl,HQ,hJj,hkj⟩:=hrel
   by_cases hlt:j < body.length
   ·rcases hT'.1.2.2 with h | ⟨bb,off,rfl,hbn,hrow⟩
    ·subst h;simp at hlt
    have hB2:=hB.trans hkj.1
    have hr:=hrow.below hB2 hbn
    have hbr:bb < wr.heap.size:=by have:=hB2.size;omega
    have HSN:=hid (flatMap_snoc St.subs body j hlt)
    have hlen:q.length=((body.take j).flatMap St.subs).length:=by have:=congrArg List.length HQ.out;simpa using this
    have hcnt:=flatMap_len St.subs body (j+1)
    rw [HSN.out,List.length_append] at hcnt
    have hih:=ih _ (List.getElem_mem hlt)
    clear ih
    rcases he:body[j] with ⟨kind,mon,name,k,⟨eop,emon,ename,en,ead,ecap,ekids,epos⟩,sad,scap,blocks,pos⟩
    obtain ⟨c0,c1,c2,c3,c4,c5,c6,c7,c8,c9,c10,c11⟩:=row12 hr j hlt (by rw [he];rfl)
    have HE:=hid he
    have hI:(St.mk kind mon name k ⟨eop,emon,ename,en,ead,ecap,ekids,epos⟩ sad scap blocks pos).Is n₀ w:=he ▸ hT'.2 _ (List.getElem_mem hlt)
    have hsub:((St.mk kind mon name k ⟨eop,emon,ename,en,ead,ecap,ekids,epos⟩ sad scap blocks pos).subs).length=1+(blocks.flatMap Bl.subs).length:=by rw [St.subs_mk,List.length_cons];omega
    rw [he,hsub] at hcnt
    rw [he] at hih
    simp only [St.blocks] at hih
    have HSS:Hid ((body.take (j+1)).flatMap St.subs=(body.take j).flatMap St.subs++(St.mk kind mon name k ⟨eop,emon,ename,en,ead,ecap,ekids,epos⟩ sad scap blocks pos) :: blocks.flatMap Bl.subs):=by
     show _=_
     rw [HSN.out,HE.out,St.subs_mk]
    clear he HSN
    have hy0:=hY (n - 1) (pre++q) ⟨_,hI⟩ (wr.alloc (.cells (St.mk kind mon name k ⟨eop,emon,ename,en,ead,ecap,ekids,epos⟩ sad scap blocks pos).cells.toArray 108)) (hJA _ _ _ hJj) (by rw [List.length_append];omega)
    have hy0:=YieldAt.mono hy0 (R':=fun e W'=>(e=.returned (.bool true)∧J (pre++q++[⟨_,hI⟩]) W'∧Kpi n₀ B W W'∧W'.cell? ⟨wr.heap.size,10,none⟩=some (.slice sad blocks.length scap)) ∨ (e=.returned (.bool false)∧Jx (pre++q++[⟨_,hI⟩]) W')) fun e W' h=>h.elim
     (fun ⟨he,hj,hk⟩=>.inl ⟨he,hj,hkj.t ((Kpi.alloc (by have:=hB2.size;omega) _).t hk),by rw [cell_of (hk.2 _ _ _ _ (by have:=hB2.size;omega) (by decide) (World.alloc_heap_new wr _))];rfl⟩) .inr
    simp only [St.val,St.cells,Ex.cells,List.cons_append,List.nil_append] at hy0
    obtain ⟨fn,tmps,assign,bdy,hy,hR⟩:=hy0
    clear hY
    have hID:=hI.down
    have hm1:=hID.2.2.1.1;have hm2:=hID.2.2.1.2.1
    unfold maxLen at hm2
    gi_wp2_with (first
     | ((try refine ⟨hdd _,?_⟩);refine hR.mono ?_;clear hR;rintro e W1 (⟨rfl,hJ1,hk1,hc1⟩ | ⟨rfl,hx1⟩)))
    ·have hkW:=hk1.1.size
     gi_loopw [22] (fun i wr2=>∃ (j2:Nat) (q2:List (StA n₀ w)),j2≤blocks.length∧i=.int .i64 j2∧Hid (q2.map Subtype.val=(body.take j).flatMap St.subs++(St.mk kind mon name k ⟨eop,emon,ename,en,ead,ecap,ekids,epos⟩ sad scap blocks pos) :: (blocks.take j2).flatMap Bl.subs)∧J (pre++q2) wr2∧Kpi n₀ B W wr2)
      (fun i _=>blocks.length - (intOf i).toNat)
     case atStart =>
      refine ⟨0,q++[⟨_,hI⟩],by omega,rfl,?_,by rw [← List.append_assoc];exact hJ1,hk1⟩
      show _=_
      rw [List.map_append,HQ.out];rfl
     case round =>
      obtain ⟨j2,q2,hj2,rfl,HQ2,hJj2,hkj2⟩:=hrel
      by_cases hlt2:j2 < blocks.length
      ·rcases hID.2.2.1.2.2 with h | ⟨b3,off3,rfl,hbn3,hrow3⟩
       ·subst h;simp at hlt2
       have hB3:=hB.trans hkj2.1
       have hr3:=hrow3.below hB3 hbn3
       have hbr3:b3 < wr.heap.size:=by have:=hB3.size;omega
       have HSN2:=hid (flatMap_snoc Bl.subs blocks j2 hlt2)
       have hlen2:q2.length=((body.take j).flatMap St.subs).length+(1+((blocks.take j2).flatMap Bl.subs).length):=by have:=congrArg List.length HQ2.out;simp at this;simp;omega
       have hcnt2:=flatMap_len Bl.subs blocks (j2+1)
       rw [HSN2.out,List.length_append] at hcnt2
       have hq:=hih blocks[j2] (List.getElem_mem hlt2) (n - 1) (pre++q2) wr (hID.2.2.2 _ (List.getElem_mem hlt2)) hB3 hJj2 (by rw [List.length_append];omega)
       have hq:=hq.mono (R':=fun e W'=>(e=.returned (.bool true)∧(∃ q3,Hid (q3.map Subtype.val=(body.take j).flatMap St.subs++(St.mk kind mon name k ⟨eop,emon,ename,en,ead,ecap,ekids,epos⟩ (some ⟨b3,off3,none⟩) scap blocks pos) :: (blocks.take (j2+1)).flatMap Bl.subs)∧J (pre++q3) W'∧Kpi n₀ B W W')) ∨ (e=.returned (.bool false)∧∃ q3,q3.map Subtype.val <+: (Bl.mk (some ⟨bb,off,none⟩) cap body).subs∧Jx (pre++q3) W')) (by
        rintro e W' (⟨rfl,q3,hq3,hJ3,hk3⟩ | ⟨rfl,q3,hq3,hx3⟩)
        ·refine .inl ⟨rfl,q2++q3,?_,by rw [← List.append_assoc];exact hJ3,hkj2.t hk3⟩
         show _=_
         rw [List.map_append,HQ2.out,hq3,HSN2.out,List.append_assoc,List.cons_append]
        ·refine .inr ⟨rfl,q2++q3,?_,by rw [← List.append_assoc];exact hx3⟩
         rw [List.map_append,HQ2.out,HSU.out]
         refine List.IsPrefix.trans (List.prefix_append_right_inj _ |>.2 hq3) ?_
         rw [List.append_assoc,List.cons_append,← HSN2.out]
         refine List.IsPrefix.trans ?_ (flatMap_prefix St.subs body (j+1))
         rw [HSS.out]
         exact List.prefix_append_right_inj _ |>.2 (List.prefix_cons_inj _ |>.2 (flatMap_prefix Bl.subs blocks (j2+1))))
       rcases he2:blocks[j2] with ⟨bad,bcap,bbody⟩
       have d0:=row1 hr3 j2 hlt2 (by rw [he2];rfl)
       simp only [he2,Bl.slice] at hq d0
       have HF:=hid he2
       clear he2
       gi_wp2_with ((try refine ⟨hdd _,?_⟩);gi_at_call 91;refine hq.mono ?_;clear hq;rintro e W2 (⟨rfl,q3,hq3,hJ3,hk3⟩ | ⟨rfl,q3,hq3,hx3⟩))
       ·go_roundw
        case rel=>exact ⟨j2+1,q3,by omega,by go_num,hq3,hJ3,hk3⟩
        case measure=>simp [intOf];omega
       ·go_ret
        exact .inr ⟨rfl,q3,hq3,hx3⟩
      ·have hj2':j2=blocks.length:=by omega
       gi_wp2
       go_roundw
       case rel =>
        refine ⟨j+1,q2,by omega,by go_num,?_,hJj2,hkj2⟩
        show _=_
        rw [HQ2.out,HSS.out,hj2',List.take_length]
       case measure=>simp [intOf];omega
    ·go_ret
     refine .inr ⟨rfl,q++[⟨_,hI⟩],?_,by rw [← List.append_assoc];exact hx1⟩
     rw [List.map_append,HQ.out,HSU.out]
     refine List.IsPrefix.trans ?_ (flatMap_prefix St.subs body (j+1))
     rw [HSS.out]
     exact List.prefix_append_right_inj _ |>.2 (by simp)
   ·have hj':j=body.length:=by omega
    gi_wp2
    go_ret
    refine .inl ⟨rfl,q,?_,hJj,hkj⟩
    rw [HQ.out,HSU.out,hj',List.take_length]
end Go.Proofs.YtaekbgljbgmchaaGreatDoor
namespace Go.Proofs.YtaekbgljbgmchaaGreatDoor
open Go.RowKit Go.Shelf
attribute [local go_sem] Oper.semAt_some
def PrBox (W:World) (b:Nat) (p:Pr):Prop:=W.heap[b]?=some (.cells #[.slice p.mad p.mons.length p.mcap,.slice p.rad p.roles.length p.rcap] 37 (0,0))
theorem PrBox.lt {W:World} {b:Nat} {p:Pr} (h:PrBox W b p):b < W.heap.size:=(Array.getElem?_eq_some_iff.1 h).1
theorem PrBox.below {W W':World} {b n:Nat} {p:Pr} (h:PrBox W b p) (hb:Below n W W') (hlt:b < n):PrBox W' b p:=(hb.block b hlt).trans h
def monSubs (m:Mo):List St:=m.meths.flatMap fun x=>x.body.subs
set_option maxRecDepth 100000 in
set_option maxHeartbeats 4000000 in
theorem statements1_in (F:Fence) (hd:F.depth=none) (n:Nat) (h90:F.fn 90) (h91:F.fn 91) (hro:F.round=none) (l Bt n₀ B:Nat) (w:World) (hn₀:n₀≤w.heap.size) (hBw:B≤w.heap.size) (hBt0:B≤Bt) (p:Pr) (hT:p.Is n₀ w) (J Jx:List (StA n₀ w)→World→Prop)
  (hJA:∀ pre W o,J pre W→J pre (W.alloc o))
  (hY:∀ pre (x:StA n₀ w) W,J pre W→pre.length < p.stmts.length→YieldAt F (n - 1) Tryz.prog l #[x.1.val] W fun e W' =>
   (e=.returned (.bool true)∧J (pre++[x]) W'∧Kpi n₀ B W W') ∨ (e=.returned (.bool false)∧Jx (pre++[x]) W'))
  (W:World) (hW:Below n₀ w W) (hBt:PrBox W Bt p) (h0:J [] W) :
  CallsIn F n Tryz.prog 90 #[.func (.yield l) #[] #[],.pointer (some ⟨Bt,0,none⟩)] W fun e W'=>(∃ v,e=.returned v) ∧
   ((∃ ys:List (StA n₀ w),ys.map Subtype.val=p.stmts∧J ys W') ∨ (∃ pre:List (StA n₀ w),pre.map Subtype.val <+: p.stmts∧Jx pre W')):=by
 have hdd:∀ k:Nat,(F.depth.isSome=true→1≤k):=fun k h=>by rw [hd] at h;cases h
 have hp:=passBlock_in F hd h91 hro l n₀ B p.stmts.length w hn₀ hBw J Jx hJA (fun m pre x W hj hl=>yieldAt_anyDepth hd m (hY pre x W hj hl))
 clear hY
 rcases p with ⟨mad,mcap,mons,rad,rcap,roles⟩
 have HST:Hid (Pr.stmts ⟨mad,mcap,mons,rad,rcap,roles⟩=mons.flatMap monSubs++roles.flatMap fun r=>r.body.subs):=rfl
 have hlW:=hW.size
 have b0:=cell_of hBt 0
 have b1:=cell_of hBt 1
 simp at b0 b1
 have hl1:=hT.1.1.1;have hl2:=hT.1.1.2.1;have hl3:=hT.2.1.1;have hl4:=hT.2.1.2.1
 unfold maxLen at hl2 hl4
 simp only at hl1 hl2 hl3 hl4
 refine callsIn_of_wp Tryz.func90 rfl h90 ?_ hro
 simp only [Tryz.ntmps90,List.size_toArray,List.length_cons,List.length_nil,Nat.reduceAdd,Nat.reduceSub,Array.replicate_succ,Array.replicate_zero,List.push_toArray,List.append_toArray,List.nil_append,List.cons_append]
 gi_wp2
 gi_loopw [12] (fun i wr=>∃ (j:Nat) (q:List (StA n₀ w)),j≤mons.length∧i=.int .i64 j∧Hid (q.map Subtype.val=(mons.take j).flatMap monSubs)∧J q wr∧Kpi n₀ B W wr)
  (fun i _=>mons.length - (intOf i).toNat)
 case atStart=>exact ⟨0,[],by omega,rfl,by simp [Hid],h0,Kpi.refl _ _ _⟩
 case round =>
  obtain ⟨j,q,hj,rfl,HQ,hJj,hkj⟩:=hrel
  have hkz:=hkj.1.size
  by_cases hlt:j < mons.length
  ·rcases hT.1.1.2.2 with h | ⟨bb,off,rfl,hbn,hrow⟩
   ·simp only at h;subst h;simp at hlt
   simp only at hrow
   have hB2:=hW.trans hkj.1
   have hr:=hrow.below hB2 hbn
   have hbr:bb < wr.heap.size:=by omega
   have HSN:=hid (flatMap_snoc monSubs mons j hlt)
   have hlen:q.length=((mons.take j).flatMap monSubs).length:=by have:=congrArg List.length HQ.out;simpa using this
   have hcnt:=flatMap_len monSubs mons (j+1)
   rw [HSN.out,List.length_append] at hcnt
   have hI:(mons[j]).Is n₀ w:=hT.1.2 _ (List.getElem_mem hlt)
   have HST2:=hid (congrArg List.length HST.out)
   rw [List.length_append] at HST2
   rcases he:mons[j] with ⟨name,vad,vcap,vars,xad,xcap,meths,pos⟩
   rw [he] at hI hcnt
   obtain ⟨c0,c1,c2,c3⟩:=row4 hr j hlt (by rw [he];rfl)
   have HSS:Hid ((mons.take (j+1)).flatMap monSubs=(mons.take j).flatMap monSubs++meths.flatMap fun x=>x.body.subs):=by
    show _=_
    rw [HSN.out,he];rfl
   have hcnt':((mons.take j).flatMap monSubs).length+(meths.flatMap fun x=>x.body.subs).length≤(mons.flatMap monSubs).length:=hcnt
   clear he HSN hcnt
   have hm1:=hI.2.2.1.1;have hm2:=hI.2.2.1.2.1
   unfold maxLen at hm2
   simp only at hm1 hm2
   gi_wp2
   gi_loopw [19] (fun i wr2=>∃ (j2:Nat) (q2:List (StA n₀ w)),j2≤meths.length∧i=.int .i64 j2∧Hid (q2.map Subtype.val=(mons.take j).flatMap monSubs++(meths.take j2).flatMap fun x=>x.body.subs)∧J q2 wr2∧Kpi n₀ B W wr2)
    (fun i _=>meths.length - (intOf i).toNat)
   case atStart=>exact ⟨0,q,by omega,rfl,by show _=_;rw [HQ.out];simp,hJA _ _ _ hJj,hkj.t (Kpi.alloc (by omega) _)⟩
   case round =>
    obtain ⟨j2,q2,hj2,rfl,HQ2,hJj2,hkj2⟩:=hrel
    have hkz2:=hkj2.1.size
    by_cases hlt2:j2 < meths.length
    ·rcases hI.2.2.1.2.2 with h | ⟨b3,off3,rfl,hbn3,hrow3⟩
     ·simp only at h;subst h;simp at hlt2
     simp only at hrow3
     have hB3:=hW.trans hkj2.1
     have hr3:=hrow3.below hB3 hbn3
     have hbr3:b3 < wr.heap.size:=by omega
     have HSN2:=hid (flatMap_snoc (fun x:Me=>x.body.subs) meths j2 hlt2)
     have hlen2:q2.length=((mons.take j).flatMap monSubs).length+((meths.take j2).flatMap fun x=>x.body.subs).length:=by have:=congrArg List.length HQ2.out;rw [List.length_map,List.length_append] at this;exact this
     have hcnt2:=flatMap_len (fun x:Me=>x.body.subs) meths (j2+1)
     rw [HSN2.out,List.length_append] at hcnt2
     have hq:=hp (meths[j2]).body (n - 1) q2 (wr.alloc (.cells (meths[j2]).cells.toArray 88)) (hI.2.2.2 _ (List.getElem_mem hlt2)).2.2 (hB3.al hn₀ _) (hJA _ _ _ hJj2) (by have:=HST2.out;omega)
     have hq:=hq.mono (R':=fun e W'=>(e=.returned (.bool true)∧(∃ q3,Hid (q3.map Subtype.val=(mons.take j).flatMap monSubs++(meths.take (j2+1)).flatMap fun x=>x.body.subs)∧J q3 W'∧Kpi n₀ B W W')) ∨ (e=.returned (.bool false)∧∃ q3,q3.map Subtype.val <+: (Pr.stmts ⟨some ⟨bb,off,none⟩,mcap,mons,rad,rcap,roles⟩)∧Jx q3 W')) (by
      rintro e W' (⟨rfl,q3,hq3,hJ3,hk3⟩ | ⟨rfl,q3,hq3,hx3⟩)
      ·refine .inl ⟨rfl,q2++q3,?_,hJ3,hkj2.t ((Kpi.alloc (by omega) _).t hk3)⟩
       show _=_
       rw [List.map_append,HQ2.out,hq3,HSN2.out,List.append_assoc]
      ·refine .inr ⟨rfl,q2++q3,?_,hx3⟩
       rw [List.map_append,HQ2.out,HST.out]
       refine List.IsPrefix.trans (List.prefix_append_right_inj _ |>.2 hq3) ?_
       rw [List.append_assoc,← HSN2.out]
       refine List.IsPrefix.trans ?_ (List.prefix_append _ _)
       refine List.IsPrefix.trans ?_ (flatMap_prefix monSubs mons (j+1))
       rw [HSS.out]
       exact List.prefix_append_right_inj _ |>.2 (flatMap_prefix _ meths (j2+1)))
     rcases he2:meths[j2] with ⟨mname,⟨bad,bcap,bbody⟩,mpos⟩
     obtain ⟨d0,d1,d2⟩:=row3 hr3 j2 hlt2 (by rw [he2];rfl)
     simp only [he2,Bl.slice,Me.cells] at hq d1
     have HF:=hid he2
     clear he2
     gi_wp2_with ((try refine ⟨hdd _,?_⟩);gi_at_call 91;refine hq.mono ?_;clear hq;rintro e W2 (⟨rfl,q3,hq3,hJ3,hk3⟩ | ⟨rfl,q3,hq3,hx3⟩))
     ·go_roundw
      case rel=>exact ⟨j2+1,q3,by omega,by go_num,hq3,hJ3,hk3⟩
      case measure=>simp [intOf];omega
     ·refine bodyPost_ret (results_none rfl _ _ _) rfl ?_
      exact ⟨⟨_,rfl⟩,.inr ⟨q3,hq3,hx3⟩⟩
    ·have hj2':j2=meths.length:=by omega
     gi_wp2
     go_roundw
     case rel =>
      refine ⟨j+1,q2,by omega,by go_num,?_,hJj2,hkj2⟩
      show _=_
      rw [HQ2.out,HSS.out,hj2',List.take_length]
     case measure=>simp [intOf];omega
  ·have hj':j=mons.length:=by omega
   have bq1:=cell_of (hkj.2 _ _ _ _ hBt0 (by decide) hBt) 1
   simp at bq1
   have hqm:Hid (q.map Subtype.val=mons.flatMap monSubs):=by
    show _=_
    rw [HQ.out,hj',List.take_length]
   clear hj'
   gi_wp2
   gi_loopw [33] (fun i wr2=>∃ (j2:Nat) (q2:List (StA n₀ w)),j2≤roles.length∧i=.int .i64 j2∧Hid (q2.map Subtype.val=mons.flatMap monSubs++(roles.take j2).flatMap fun x=>x.body.subs)∧J q2 wr2∧Kpi n₀ B W wr2)
    (fun i _=>roles.length - (intOf i).toNat)
   case atStart=>exact ⟨0,q,by omega,rfl,by show _=_;rw [hqm.out];simp,hJj,hkj⟩
   case round =>
    obtain ⟨j2,q2,hj2,rfl,HQ2,hJj2,hkj2⟩:=hrel
    have hkz2:=hkj2.1.size
    by_cases hlt2:j2 < roles.length
    ·rcases hT.2.1.2.2 with h | ⟨b3,off3,rfl,hbn3,hrow3⟩
     ·simp only at h;subst h;simp at hlt2
     simp only at hrow3
     have hB3:=hW.trans hkj2.1
     have hr3:=hrow3.below hB3 hbn3
     have hbr3:b3 < wr.heap.size:=by omega
     have HSN2:=hid (flatMap_snoc (fun x:Ro=>x.body.subs) roles j2 hlt2)
     have hlen2:q2.length=(mons.flatMap monSubs).length+((roles.take j2).flatMap fun x=>x.body.subs).length:=by have:=congrArg List.length HQ2.out;rw [List.length_map,List.length_append] at this;exact this
     have hcnt2:=flatMap_len (fun x:Ro=>x.body.subs) roles (j2+1)
     rw [HSN2.out,List.length_append] at hcnt2
     have HST2:=hid (congrArg List.length HST.out)
     rw [List.length_append] at HST2
     have hq:=hp (roles[j2]).body (n - 1) q2 (wr.alloc (.cells (roles[j2]).cells.toArray 62)) (hT.2.2 _ (List.getElem_mem hlt2)).2.2.2 (hB3.al hn₀ _) (hJA _ _ _ hJj2) (by have:=HST2.out;omega)
     have hq:=hq.mono (R':=fun e W'=>(e=.returned (.bool true)∧(∃ q3,Hid (q3.map Subtype.val=mons.flatMap monSubs++(roles.take (j2+1)).flatMap fun x=>x.body.subs)∧J q3 W'∧Kpi n₀ B W W')) ∨ (e=.returned (.bool false)∧∃ q3,q3.map Subtype.val <+: (Pr.stmts ⟨mad,mcap,mons,some ⟨b3,off3,none⟩,rcap,roles⟩)∧Jx q3 W')) (by
      rintro e W' (⟨rfl,q3,hq3,hJ3,hk3⟩ | ⟨rfl,q3,hq3,hx3⟩)
      ·refine .inl ⟨rfl,q2++q3,?_,hJ3,hkj2.t ((Kpi.alloc (by omega) _).t hk3)⟩
       show _=_
       rw [List.map_append,HQ2.out,hq3,HSN2.out,List.append_assoc]
      ·refine .inr ⟨rfl,q2++q3,?_,hx3⟩
       rw [List.map_append,HQ2.out,HST.out]
       refine List.IsPrefix.trans (List.prefix_append_right_inj _ |>.2 hq3) ?_
       rw [List.append_assoc,← HSN2.out]
       exact List.prefix_append_right_inj _ |>.2 (flatMap_prefix _ roles (j2+1)))
     rcases he2:roles[j2] with ⟨mname,mstar,mcount,⟨bad,bcap,bbody⟩,mpos⟩
     obtain ⟨d0,d1,d2,d3,d4⟩:=row5 hr3 j2 hlt2 (by rw [he2];rfl)
     simp only [he2,Bl.slice,Ro.cells] at hq d3
     have HF:=hid he2
     clear he2
     gi_wp2_with ((try refine ⟨hdd _,?_⟩);gi_at_call 91;refine hq.mono ?_;clear hq;rintro e W2 (⟨rfl,q3,hq3,hJ3,hk3⟩ | ⟨rfl,q3,hq3,hx3⟩))
     ·go_roundw
      case rel=>exact ⟨j2+1,q3,by omega,by go_num,hq3,hJ3,hk3⟩
      case measure=>simp [intOf];omega
     ·refine bodyPost_ret (results_none rfl _ _ _) rfl ?_
      exact ⟨⟨_,rfl⟩,.inr ⟨q3,hq3,hx3⟩⟩
    ·have hj2':j2=roles.length:=by omega
     gi_wp2
     go_end0
     refine ⟨⟨_,rfl⟩,.inl ⟨q2,?_,hJj2⟩⟩
     rw [HQ2.out,HST.out,hj2',List.take_length]
set_option maxHeartbeats 1000000 in
theorem statements_in (F:Fence) (n:Nat) (h51:F.fn 51) (hro:F.round=none) (p:Pr) (w:World) :
  CallsIn F n Tryz.prog 51 #[p.val] w fun e w'=>e=.returned (.func (.func 90) #[] #[.pointer (some ⟨w.heap.size,0,none⟩)])∧w'=w.alloc (.cells #[.slice p.mad p.mons.length p.mcap,.slice p.rad p.roles.length p.rcap] 37):=by
 simp only [Pr.val]
 refine callsIn_of_wp Tryz.func51 rfl h51 ?_ hro
 simp only [Tryz.ntmps51,List.size_toArray,List.length_cons,List.length_nil,Nat.reduceAdd,Nat.reduceSub,Array.replicate_succ,Array.replicate_zero,List.push_toArray,List.append_toArray,List.nil_append,List.cons_append]
 gi_wp2
 go_ret
 exact ⟨rfl,rfl⟩
theorem statements_stops (F:Fence) (hd:F.depth=none) (n:Nat) (h90:F.fn 90) (h91:F.fn 91) (hro:F.round=none) (Bt n₀ B:Nat) (w:World) (hn₀:n₀≤w.heap.size) (hBw:B≤w.heap.size) (hBt0:B≤Bt) (p:Pr) (hT:p.Is n₀ w) (hBt:PrBox w Bt p) :
  SeqStopsK F n Tryz.prog 90 #[.pointer (some ⟨Bt,0,none⟩)] (fun x:StA n₀ w=>#[x.1.val]) (Kpi n₀ B) (fun ys=>ys.map Subtype.val=p.stmts) (fun pre=>pre.map Subtype.val <+: p.stmts) p.stmts.length w:=fun l J Jx W hW hJ _ hY h0 =>
 statements1_in F hd n h90 h91 hro l Bt n₀ B w hn₀ hBw hBt0 p hT J Jx (fun pre W' o hj=>hJ pre W' _ none hj (World.grownBy_alloc W' o none) (fun r e=>by cases e)) hY W (hW.mono hn₀) (hBt.below hW hBt.lt) h0
end Go.Proofs.YtaekbgljbgmchaaGreatDoor
namespace Go.Proofs.YtaekbgljbgmchaaGreatDoor
open Go.RowKit Go.Shelf
attribute [local go_sem] Oper.semAt_some
def Pr.ok (p:Pr):Bool:=p.decl && p.stmts.all St.ok1
def StBox (W:World) (b:Nat) (s:St):Prop:=W.heap[b]?=some (.cells s.cells.toArray 108 (0,0))
theorem StBox.lt {W:World} {b:Nat} {s:St} (h:StBox W b s):b < W.heap.size:=(Array.getElem?_eq_some_iff.1 h).1
theorem StBox.new (W:World) (s:St):StBox (W.alloc (.cells s.cells.toArray 108)) W.heap.size s:=World.alloc_heap_new W _
theorem stBox_kept {W W':World} {row:Option Nat} {b:Nat} {s:St} (h:StBox W b s) (hg:W.grownBy W' row) (hr:∀ r,row=some r→∃ o:Obj,W.heap[r]?=some o∧o.isCells=false):StBox W' b s:=
 (hg.block b h.lt (fun e'=>by obtain ⟨o,ho,hc⟩:=hr b e'.symm;rw [show W.heap[b]?=_ from h] at ho;cases ho;cases hc)).trans h
theorem StBox.cells {W:World} {b:Nat} {kind:Int} {mon name:ByteArray} {n:Int} {eop:Int} {emon ename:ByteArray} {en:Int} {ead:Option Addr} {ecap:Nat} {ekids:List Ex} {epos:Int} {ad:Option Addr} {cap:Nat} {blocks:List Bl} {pos:Int}
  (h:StBox W b (.mk kind mon name n ⟨eop,emon,ename,en,ead,ecap,ekids,epos⟩ ad cap blocks pos)) :
  (W.cell? ⟨b,0,none⟩=some (.int .i64 kind)∧W.cell? ⟨b,1,none⟩=some (.string mon)∧W.cell? ⟨b,2,none⟩=some (.string name)∧W.cell? ⟨b,3,none⟩=some (.int .i64 n)) ∧
  (W.cell? ⟨b,4,none⟩=some (.int .i64 eop)∧W.cell? ⟨b,5,none⟩=some (.string emon)∧W.cell? ⟨b,6,none⟩=some (.string ename)∧W.cell? ⟨b,7,none⟩=some (.int .i64 en)∧W.cell? ⟨b,8,none⟩=some (.slice ead ekids.length ecap)∧W.cell? ⟨b,9,none⟩=some (.int .i64 epos)) ∧
  W.cell? ⟨b,10,none⟩=some (.slice ad blocks.length cap)∧W.cell? ⟨b,11,none⟩=some (.int .i64 pos):=by
 have h':W.heap[b]?=some (.cells #[.int .i64 kind,.string mon,.string name,.int .i64 n,.int .i64 eop,.string emon,.string ename,.int .i64 en,.slice ead ekids.length ecap,.int .i64 epos,.slice ad blocks.length cap,.int .i64 pos] 108 (0,0)):=h
 exact ⟨⟨cell_of h' 0,cell_of h' 1,cell_of h' 2,cell_of h' 3⟩,⟨cell_of h' 4,cell_of h' 5,cell_of h' 6,cell_of h' 7,cell_of h' 8,cell_of h' 9⟩,cell_of h' 10,cell_of h' 11⟩
set_option maxRecDepth 100000 in
set_option maxHeartbeats 2000000 in
theorem check_in (n:Nat) (hn9:9≤n) (p:Pr) (w:World) (hT:p.Is w.heap.size w) (hS:Shapes w) :
  CallsIn Fence.wide n Tryz.prog 21 #[p.val] w fun e w'=>e=.returned (.int .i64 (if p.ok then 0 else 20))∧Below w.heap.size w w':=by
 have hd:Fence.wide.depth=none:=rfl
 have hro:Fence.wide.round=none:=rfl
 have h1:1≤n:=by omega
 have hsz2:=hS.size
 have hpart:=statements_in Fence.wide (n - 1) trivial rfl p
 have hdecl:=declares_any w.heap.size p ((w.alloc (.cells #[.slice p.mad p.mons.length p.mcap,.slice p.rad p.roles.length p.rcap] 37)).alloc (.cells #[.int .i64 0] 26)) (by simp;omega) (hT.below (((Below.refl _ w).al le_rfl' _).al le_rfl' _))
 obtain ⟨res,hres⟩:∃ res:Int,(if p.ok then (0:Int) else 20)=res:=⟨_,rfl⟩
 rw [hres]
 have HR:=hid hres
 clear hres
 rcases hpp:p with ⟨mad,mcap,mons,rad,rcap,roles⟩
 cases hdc:p.decl
 ·rw [hdc] at hdecl
  have HDC:=hid hdc
  clear hdc
  simp only [hpp,Pr.val] at hpart hdecl ⊢
  refine callsIn_of_wp_marks Tryz.func21 rfl trivial ?_ hro
  simp only [Tryz.ntmps21,List.size_toArray,List.length_cons,List.length_nil,Nat.reduceAdd,Nat.reduceSub,Array.replicate_succ,Array.replicate_zero,List.push_toArray,List.append_toArray,List.nil_append,List.cons_append]
  gi_wp2_with (refine ⟨trivial,?_⟩;gi_at_call 50;refine (callsIn_wide.2 hdecl).mono ?_;rintro e w1 ⟨rfl,hb1⟩;obtain ⟨hcc,hff⟩:=bcell hb1)
  have bR:Boxed w1 (w.heap.size+1) 26 (.int .i64 0):=by
   have:=Boxed.new (w.alloc (.cells #[.slice mad mons.length mcap,.slice rad roles.length rcap] 37)) 26 (.int .i64 0)
   rw [World.size_alloc] at this
   exact boxed_of this hb1
  have hc5:=(bR.set (.int .i64 20)).cell
  refine ⟨.int .i64 20,?_,?_,((((Below.refl _ w).al le_rfl' _).al le_rfl' _).tr le_rfl' hb1).setCell (p:=⟨w.heap.size+1,0,none⟩) (by simp) _⟩
  ·simp [results,Tryz.f21,go_sem,hc5]
  ·rw [← HR.out,if_neg]
   rw [Pr.ok,HDC.out];simp
 ·rw [hdc] at hdecl
  have HDC:=hid hdc
  clear hdc
  have HPP:=hid hpp
  simp only [hpp,Pr.val] at hpart hdecl ⊢
  clear hpp
  refine callsIn_of_wp_marks Tryz.func21 rfl trivial ?_ hro
  simp only [Tryz.ntmps21,List.size_toArray,List.length_cons,List.length_nil,Nat.reduceAdd,Nat.reduceSub,Array.replicate_succ,Array.replicate_zero,List.push_toArray,List.append_toArray,List.nil_append,List.cons_append]
  gi_wp2_with (first
   | (refine ⟨trivial,?_⟩;gi_at_call 50;refine (callsIn_wide.2 hdecl).mono ?_;rintro e w1 ⟨rfl,hb1⟩;obtain ⟨hcc,hff⟩:=bcell hb1)
   | (refine ⟨trivial,?_⟩;gi_at_call 51;refine (hpart _).mono ?_;rintro e w' ⟨rfl,rfl⟩))
  have bR0:Boxed w1 (w.heap.size+1) 26 (.int .i64 0):=by
   have:=Boxed.new (w.alloc (.cells #[.slice mad mons.length mcap,.slice rad roles.length rcap] 37)) 26 (.int .i64 0)
   rw [World.size_alloc] at this
   exact boxed_of this hb1
  have bR:=bR0.alloc (.cells #[.slice mad mons.length mcap,.slice rad roles.length rcap] 37)
  have bA:PrBox (w1.alloc (.cells #[.slice mad mons.length mcap,.slice rad roles.length rcap] 37)) w1.heap.size p:=by
   rw [HPP.out]
   exact World.alloc_heap_new w1 _
  have hz1:=hb1.size
  simp at hz1
  have hB0:Below w.heap.size w (w1.alloc (.cells #[.slice mad mons.length mcap,.slice rad roles.length rcap] 37)):=((((Below.refl _ w).al le_rfl' _).al le_rfl' _).tr le_rfl' hb1).al le_rfl' _
  have hsz:(w1.alloc (.cells #[.slice mad mons.length mcap,.slice rad roles.length rcap] 37)).heap.size=w1.heap.size+1:=by simp
  obtain ⟨W0,hW0⟩:∃ W0,w1.alloc (.cells #[.slice mad mons.length mcap,.slice rad roles.length rcap] 37)=W0:=⟨_,rfl⟩
  obtain ⟨tv,htv⟩:∃ tv:Value,Value.agg #[.slice mad mons.length mcap,.slice rad roles.length rcap]=tv:=⟨_,rfl⟩
  rw [hW0] at bR bA hB0 hsz ⊢
  clear hW0
  rw [htv]
  clear hpart htv hdecl hcc hff
  refine wpIn_rangeFunc_ownH hro h1 (gf:=90) (lb:=#[.pointer (some ⟨w1.heap.size,0,none⟩)]) rfl trivial (enters_of Tryz.func90 (by kernel_rfl) rfl)
   (statements_stops Fence.wide hd (n - 1) trivial trivial hro w1.heap.size w.heap.size w1.heap.size W0 (by omega) (by omega) (Nat.le_refl _) p (hT.below hB0) bA) Kpi.t (Kpi.b (by omega)) (Below.refl _ _) (fun _=>rfl)
   (fun pre W=>(Boxed W (w.heap.size+1) 26 (.int .i64 0)∧pre.all (fun x=>x.1.ok1)=true)∧Below w.heap.size W0 W)
   (fun c pre W=>(c=.ret∧Boxed W (w.heap.size+1) 26 (.int .i64 20)∧∃ x ∈ pre,x.1.ok1=false)∧Below w.heap.size W0 W)
   (OwnFrom.and (OwnFrom.and (Own.from (boxed_own _ _ _) _) (ownFrom_pure _ _)) (ownFrom_below (by omega) (by omega)))
   (fun c=>OwnFrom.and (OwnFrom.and (ownFrom_pure _ (fun _=>c=.ret)) (OwnFrom.and (Own.from (boxed_own _ _ _) _) (ownFrom_pure _ _))) (ownFrom_below (by omega) (by omega)))
   ⟨⟨bR,rfl⟩,Below.refl _ _⟩
   (fun x a' W=>∃ Bx,W0.heap.size≤Bx∧StBox W Bx x.1∧a'={ tmps:=#[tv,.pointer (some ⟨w.heap.size,0,none⟩),.pointer (some ⟨w.heap.size+1,0,none⟩),.pointer (some ⟨Bx,0,none⟩),tv,.bool true,.bool false,tv,.func (.func 90) #[] #[.pointer (some ⟨w1.heap.size,0,none⟩)],x.1.val,undef,undef,undef],defers:=[] })
   (fun x a' _ X Y row hs hg hr=>by obtain ⟨Bx,h1,h2,h3⟩:=hs;exact ⟨Bx,h1,stBox_kept h2 hg (fun r e=>(hr r e).2),h3⟩)
   ?assign ?body ?done ?stop
  case assign =>
   rintro l pre ⟨⟨kind',mon',name',k',⟨eop',emon',ename',en',ead',ecap',ekids',epos'⟩,ad',cap',blocks',pos'⟩,hx⟩ W K ⟨⟨bR1,hall⟩,hB1⟩ hK
   simp only [St.val,St.cells,Ex.cells,List.cons_append,List.nil_append]
   gi_wp2
   have hs1:=hB1.size
   exact hK _ _ ((KeepsOthers.alloc _ _).from _) (Kpi.alloc (by omega) _) ⟨⟨bR1.alloc _,hall⟩,hB1.al (by omega) _⟩ ⟨W.heap.size,hs1,StBox.new W (.mk kind' mon' name' k' ⟨eop',emon',ename',en',ead',ecap',ekids',epos'⟩ ad' cap' blocks' pos'),rfl⟩
  case body =>
   rintro l pre ⟨⟨kind',mon',name',k',⟨eop',emon',ename',en',ead',ecap',ekids',epos'⟩,ad',cap',blocks',pos'⟩,hx⟩ a' W hl ⟨r,hr⟩ ⟨⟨bR1,hall⟩,hB1⟩ ⟨Bx,hBx,bX,rfl⟩ hlt
   have hs1:=hB1.size
   have hcall:=isStmt_any w.heap.size _ W hsz2 (by omega) (hx.below hB1) ((hS.below hB0 hsz2).below hB1 hsz2)
   obtain ⟨⟨c0,c1,c2,c3⟩,⟨c4,c5,c6,c7,c8,c9⟩,c10,c11⟩:=bX.cells
   have HALL:=hid hall
   clear hall
   have cR:=bR1.cell
   have fR:=bR1.frozen
   cases hok:(St.mk kind' mon' name' k' ⟨eop',emon',ename',en',ead',ecap',ekids',epos'⟩ ad' cap' blocks' pos').ok1
   ·rw [hok] at hcall
    have HOK:=hid hok
    clear hok
    simp only [St.val,St.cells,Ex.cells,List.cons_append,List.nil_append] at hcall
    gi_wp2_with (refine ⟨trivial,?_⟩;gi_at_call 52;refine (CallsIn.inRound l (callsIn_wide.2 hcall)).mono ?_;rintro e w' ⟨rfl,hbel⟩;have bR2:=boxed_of bR1 hbel;have cR2:=bR2.cell;have fR2:=bR2.frozen)
    exact ⟨(keepsFrom_of hbel).trans ((KeepsOthers.setCell _ _ _).from _),⟨rfl,bR2.set _,⟨_,hx⟩,List.mem_append.2 (.inr (List.mem_singleton.2 rfl)),HOK.out⟩,(hB1.tr (by omega) hbel).setCell (p:=⟨w.heap.size+1,0,none⟩) (by simp) _⟩
   ·rw [hok] at hcall
    have HOK:=hid hok
    clear hok
    simp only [St.val,St.cells,Ex.cells,List.cons_append,List.nil_append] at hcall
    gi_wp2_with (refine ⟨trivial,?_⟩;gi_at_call 52;refine (CallsIn.inRound l (callsIn_wide.2 hcall)).mono ?_;rintro e w' ⟨rfl,hbel⟩;have bR2:=boxed_of bR1 hbel)
    refine ⟨keepsFrom_of hbel,Kpi.of (by omega) hbel,⟨bR2,?_⟩,hB1.tr (by omega) hbel⟩
    rw [List.all_append,HALL.out]
    simp only [List.all_cons,List.all_nil,HOK.out,Bool.and_true]
  case done =>
   rintro D ys W hD hys ⟨⟨bR1,hall⟩,hB1⟩ hK
   have cR:=bR1.cell
   have fR:=bR1.frozen
   have HALL:=hid hall
   clear hall
   gi_wp2
   have hK':=(KeepsOthers.setCell W ⟨w.heap.size+1,0,none⟩ (.int .i64 0)).same D _ hK rfl
   refine ⟨by simp,.inl ⟨_,_,rfl,run_takeDeferred hK',?_⟩⟩
   have hc5:=cell_kept (World.cell?_setCell_same' W ⟨w.heap.size+1,0,none⟩ (.int .i64 0) (by rw [cR];rfl)) (grownBy_putObj' _ D (.deferred none)) (fun r e=>by cases e;exact ⟨_,hK',rfl⟩)
   refine ⟨.int .i64 0,?_,?_,((hB0.trans hB1).setCell (p:=⟨w.heap.size+1,0,none⟩) (by simp) _).trans (belowK_b (w:=w) (Nat.le_refl _) _ D _ _ (by omega) hK' rfl rfl)⟩
   ·simp [results,Tryz.f21,go_sem,hc5]
   ·rw [← HR.out,if_pos]
    rw [Pr.ok,HDC.out,← hys,List.all_map,Bool.true_and]
    exact HALL.out
  case stop =>
   rintro D c pre W hD hpre ⟨⟨rfl,bR1,x,hx,hok⟩,hB1⟩ hK
   have cR:=bR1.cell
   have HOK:=hid hok
   clear hok
   gi_wp2
   refine ⟨by simp,.inl ⟨_,_,rfl,run_takeDeferred hK,?_⟩⟩
   have hc5:=cell_kept cR (grownBy_putObj' _ D (.deferred none)) (fun r e=>by cases e;exact ⟨_,hK,rfl⟩)
   refine ⟨.int .i64 20,?_,?_,(hB0.trans hB1).trans (belowK_b (w:=w) (Nat.le_refl _) W D _ _ (by omega) hK rfl rfl)⟩
   ·simp [results,Tryz.f21,go_sem,hc5]
   ·rw [← HR.out,if_neg]
    intro h
    rw [Pr.ok,HDC.out,Bool.true_and] at h
    have h2:=(List.all_eq_true.1 h) x.1 (hpre.subset (List.mem_map.2 ⟨x,hx,rfl⟩))
    rw [HOK.out] at h2
    cases h2
theorem check_any (p:Pr) (n₀:Nat) (w:World) (hn:n₀≤w.heap.size) (hT:p.Is n₀ w) (hS:Shapes w) :
  Calls Tryz.prog 21 #[p.val] w fun e w'=>e=.returned (.int .i64 (if p.ok then 0 else 20))∧Below w.heap.size w w':=
 (callsIn_wide (n:=9)).1 (check_in 9 (Nat.le_refl _) p w (hT.mono hn) hS)
end Go.Proofs.YtaekbgljbgmchaaGreatDoor
namespace Go.Proofs.YtaekbgljbgmchaaGreatDoor
open Go.RowKit Go.Shelf
attribute [local go_sem] Oper.semAt_some
def St.sz (s:St):Nat:=1+if s.e.none then 0 else s.e.subs.length
def Pr.size (p:Pr):Nat:=(p.stmts.map St.sz).sum
end Go.Proofs.YtaekbgljbgmchaaGreatDoor
namespace Go.Proofs.YtaekbgljbgmchaaGreatDoor
open Go.RowKit
theorem stCells_len (a:St):a.cells.length=12:=by cases a with | mk _ _ _ _ e _ _ _ _=>cases e;rfl
end Go.Proofs.YtaekbgljbgmchaaGreatDoor
namespace Go.Proofs.YtaekbgljbgmchaaGreatDoor
open Go.RowKit
theorem cell_of' {W:World} {B:Nat} {c:Array Value} {t:TypeId} {z:Nat × Nat} (h:W.heap[B]?=some (.cells c t z)) (i:Nat):W.cell? ⟨B,i,none⟩=c[i]?:=by
 simp [World.cell?,h]
mutual
def restE:Ex→Int→Int
 | .mk _ mon name _ _ _ kids _,n=>if 200 < mon.size ∨ 200 < name.size ∨ n < kids.length then -1 else restL kids (n - 1)
def restL:List Ex→Int→Int
 | [],n=>n
 | e :: es,n=>if 0≤n then restL es (restE e n) else n
end
theorem restL_neg (l:List Ex) (n:Int) (h:n < 0):restL l n=n:=by
 cases l with
 | nil=>rw [restL]
 | cons e es=>rw [restL,if_neg (by omega)]
theorem restE_mk (op:Int) (mon name:ByteArray) (k:Int) (ad:Option Addr) (cap:Nat) (kids:List Ex) (pos n:Int):restE (.mk op mon name k ad cap kids pos) n=if 200 < mon.size ∨ 200 < name.size ∨ n < kids.length then -1 else restL kids (n - 1):=by rw [restE]
theorem rest_bounds (e:Ex):∀ n:Int,0≤n→-1≤restE e n∧restE e n≤n:=by
 induction e using Ex.ind with
 | h op mon name k ad cap kids pos ih =>
  intro n hn
  rw [restE_mk]
  split
  ·omega
  ·have hL:∀ (l:List Ex),(∀ x ∈ l,∀ n:Int,0≤n→-1≤restE x n∧restE x n≤n)→∀ m:Int,-1≤m→-1≤restL l m∧restL l m≤m:=by
    intro l
    induction l with
    | nil=>intro _ m hm;rw [restL];omega
    | cons x r ihr =>
     intro hx m hm
     rw [restL]
     split
     ·have h1:=hx x (List.mem_cons_self ..) m (by omega)
      have h2:=ihr (fun y hy=>hx y (List.mem_cons_of_mem _ hy)) (restE x m) h1.1
      omega
     ·omega
   have:=hL kids ih (n - 1) (by omega)
   omega
theorem restL_drop (l:List Ex) (k:Nat) (n:Int) (hk:k < l.length) (hn:0≤n):restL (l.drop k) n=restL (l.drop (k+1)) (restE l[k] n):=by
 rw [List.drop_eq_getElem_cons hk,restL,if_pos hn]
set_option maxRecDepth 100000 in
set_option maxHeartbeats 2000000 in
theorem restExpr_any (n₀:Nat) (e:Ex):∀ (n:Int) (w:World),-1≤n→n≤1000→n₀≤w.heap.size→e.Is n₀ w →
  Calls Tryz.prog 22 #[e.val,.int .i64 n] w fun r w'=>r=.returned (.int .i64 (restE e n))∧Below w.heap.size w w':=by
 induction e using Ex.ind with
 | h op mon name k ad cap kids pos ih =>
  intro n w hn0 hn1 hn he
  have HR:=hid (restE_mk op mon name k ad cap kids pos n)
  have hd:=he.down
  have hl1:=hd.2.1.1;have hl2:=hd.2.1.2.1
  have hs1:=hd.1.2.2.2.1;have hs2:=hd.1.2.2.2.2
  unfold maxLen at hl2
  unfold Len at hs1 hs2
  simp only [Ex.val,Ex.cells]
  by_cases h1:200 < mon.size
  ·rw [if_pos (.inl h1)] at HR
   have h1':(200:Int) < (mon.size:Int):=by omega
   go_enter Tryz.func22,Tryz.ntmps22
   go_wp2
   go_ret
   exact ⟨ret_i64 HR.out.symm,(Below.refl _ _).al le_rfl' _⟩
  by_cases h2:200 < name.size
  ·rw [if_pos (.inr (.inl h2))] at HR
   have h2':(200:Int) < (name.size:Int):=by omega
   have h1':(mon.size:Int)≤200:=by omega
   go_enter Tryz.func22,Tryz.ntmps22
   go_wp2
   go_ret
   exact ⟨ret_i64 HR.out.symm,(Below.refl _ _).al le_rfl' _⟩
  by_cases h3:n < (kids.length:Int)
  ·rw [if_pos (.inr (.inr h3))] at HR
   have h1':(mon.size:Int)≤200:=by omega
   have h2':(name.size:Int)≤200:=by omega
   go_enter Tryz.func22,Tryz.ntmps22
   go_wp2
   go_ret
   exact ⟨ret_i64 HR.out.symm,(Below.refl _ _).al le_rfl' _⟩
  rw [if_neg (by omega)] at HR
  have h1':(mon.size:Int)≤200:=by omega
  have h2':(name.size:Int)≤200:=by omega
  have h3':(kids.length:Int)≤n:=by omega
  go_enter Tryz.func22,Tryz.ntmps22
  go_wp2
  go_loopw [1,5] (fun m i wr=>∃ (j:Nat) (c:Int),j≤kids.length∧i=.int .i64 j∧m=.int .i64 c∧-1≤c∧c≤1000∧Hid (restL kids (n - 1)=restL (kids.drop j) c)∧Below (w.heap.size+1) (w.alloc (.cells #[.int .i64 op,.string mon,.string name,.int .i64 k,.slice ad kids.length cap,.int .i64 pos] 25)) wr)
   (fun _ i _=>kids.length - (intOf i).toNat)
  case atStart=>exact ⟨0,n - 1,by omega,rfl,by go_num,by omega,by omega,rfl,Below.refl _ _⟩
  case round =>
   obtain ⟨j,c,hj,rfl,rfl,hc0,hc1,HQ,hbw⟩:=hrel
   have hb0:Below n₀ w wr:=((Below.refl n₀ w).al hn _).trans (hbw.mono (by omega))
   have hbF:Below w.heap.size w wr:=((Below.refl _ w).al le_rfl' _).trans (hbw.mono (by omega))
   have hz:=hbw.size
   simp at hz
   have bx:=cell_of' ((hbw.block w.heap.size (by omega)).trans (World.alloc_heap_new w _)) 4
   simp at bx
   by_cases hlt:j < kids.length
   ·by_cases hcp:0≤c
    ·rcases hd.2.1.2.2 with h | ⟨b,off,rfl,hbn,hrow⟩
     ·subst h;simp at hlt
     have hbn2:b < wr.heap.size:=by omega
     have HD:=hid (restL_drop kids j c hlt hcp)
     have hB:=rest_bounds kids[j] c hcp
     have hr:=hrow.below hb0 hbn
     have hq:=ih _ (List.getElem_mem hlt) c wr (by omega) hc1 (by omega) ((hd.2.2 _ (List.getElem_mem hlt)).below hb0)
     obtain ⟨c',hc'⟩:∃ c',restE kids[j] c=c':=⟨_,rfl⟩
     rw [hc'] at hq hB
     rw [hc'] at HD
     clear hc' ih
     rcases he':kids[j] with ⟨op',mon',name',n',ad',cp',kids',pos'⟩
     obtain ⟨c0,c1,c2,c3,c4,c5⟩:=row6 hr j hlt (by rw [he'];rfl)
     simp only [he',Ex.val,Ex.cells] at hq
     clear he'
     go_wp2_with (go_at_call 22;refine hq.mono ?_;rintro r w1 ⟨rfl,hb1⟩)
     go_roundw
     case rel=>exact ⟨j+1,c',by omega,by go_num,rfl,by omega,by omega,by show _=_;rw [HQ.out,HD.out],hbw.tr (by simp) hb1⟩
     case measure=>simp [intOf];omega
    ·have HN:=hid (restL_neg (kids.drop j) c (by omega))
     have hcd:decide (0≤c)=false:=by simp;omega
     go_wp2
     go_ret
     exact ⟨ret_i64 (by rw [HR.out,HQ.out,HN.out]),hbF⟩
   ·have hjd:decide ((j:Int) < (kids.length:Int))=false:=by simp;omega
    go_wp2
    go_ret
    refine ⟨ret_i64 ?_,hbF⟩
    rw [HR.out,HQ.out,List.drop_of_length_le (by omega),restL]
end Go.Proofs.YtaekbgljbgmchaaGreatDoor
namespace Go.Proofs.YtaekbgljbgmchaaGreatDoor
open Go.RowKit
end Go.Proofs.YtaekbgljbgmchaaGreatDoor
namespace Go.Proofs.YtaekbgljbgmchaaGreatDoor
open Go.RowKit
def Ex.opOf:Ex→Int
 | .mk op _ _ _ _ _ _ _=>op
theorem rest_count (e:Ex):∀ n:Int,0≤restE e n→(e.subs.length:Int)≤n - restE e n:=by
 induction e using Ex.ind with
 | h op mon name k ad cap kids pos ih =>
  intro n h
  rw [restE_mk] at h ⊢
  split at h
  ·omega
  ·rename_i hc
   rw [if_neg hc]
   have hL:∀ (l:List Ex),(∀ x ∈ l,∀ n:Int,0≤restE x n→(x.subs.length:Int)≤n - restE x n)→∀ m:Int,0≤restL l m→((Ex.subsL l).length:Int)≤m - restL l m:=by
    intro l
    induction l with
    | nil=>intro _ m _;rw [restL,Ex.subsL];simp
    | cons x r ihr =>
     intro hx m hm
     rw [restL] at hm ⊢
     split at hm
     ·rename_i hm0
      rw [if_pos hm0]
      have h2:=ihr (fun y hy=>hx y (List.mem_cons_of_mem _ hy)) (restE x m) hm
      rcases Int.lt_or_le (restE x m) 0 with hneg | hpos
      ·rw [restL_neg _ _ hneg] at hm;omega
      ·have h1:=hx x (List.mem_cons_self ..) m hpos
       rw [Ex.subsL,List.length_append];omega
     ·omega
   have:=hL kids ih (n - 1) h
   rw [Ex.subs_mk,List.length_cons];omega
theorem ok_op {e:Ex} (h:e.ok=true):e.ok1=true:=by
 rcases e with ⟨op,mon,name,n,ad,cap,kids,pos⟩
 rw [Ex.ok,Ex.subs_mk,List.all_cons,Bool.and_eq_true] at h
 exact h.1
theorem ok_none {e:Ex} (h:e.ok=true):e.none=false:=by
 have h1:=ok_op h
 rcases e with ⟨op,mon,name,n,ad,cap,kids,pos⟩
 simp only [Ex.ok1,Bool.and_eq_true,decide_eq_true_eq] at h1
 have h2:(op == 0)=false:=by rw [beq_eq_false_iff_ne];omega
 simp [Ex.none,Ex.same,h2]
end Go.Proofs.YtaekbgljbgmchaaGreatDoor
namespace Go.Proofs.YtaekbgljbgmchaaGreatDoor
open Go.RowKit Px
namespace Px
def atL (l:Nat) (op:Int) (s:List UInt8):List UInt8:=if own op < l then 40 :: (s++[41]) else s
def kid (ks:List (Int × List UInt8)) (i l:Nat):List UInt8:=atL l (ks.getD i (0,[])).1 (ks.getD i (0,[])).2
def bareOf (op:Int) (mon name:ByteArray) (n:Int) (ks:List (Int × List UInt8)):List UInt8:=
 if op=1 then Lib.itoa n
 else if op=2 then [116,114,117,101]
 else if op=3 then [102,97,108,115,101]
 else if op=4 then mon.data.toList++46 :: name.data.toList
 else if op=5 ∨ op=6 then (sgnOf op).1.data.toList++kid ks 0 (sgnOf op).2.2.2
 else if op=7 then Lib.itoa n++((sgnOf op).1.data.toList++kid ks 0 (sgnOf op).2.2.2)
 else kid ks 0 (sgnOf op).2.2.1++((sgnOf op).1.data.toList++kid ks 1 (sgnOf op).2.2.2)
def nestL (l:Nat) (op:Int) (k:Nat):Nat:=(if own op < l then 1 else 0)+k
def nkid (ks:List (Int × Nat)) (i l:Nat):Nat:=nestL l (ks.getD i (0,0)).1 (ks.getD i (0,0)).2
def nestOf (op:Int) (ks:List (Int × Nat)):Nat:=
 if ks.length=1 then 1+nkid ks 0 (sgnOf op).2.2.2
 else if ks.length=2 then max (nkid ks 0 (sgnOf op).2.2.1) (nkid ks 1 (sgnOf op).2.2.2)
 else 0
end Px
mutual
def Ex.bare:Ex→List UInt8
 | .mk op mon name n _ _ kids _=>bareOf op mon name n (Ex.bareL kids)
def Ex.bareL:List Ex→List (Int × List UInt8)
 | []=>[]
 | e :: es=>(e.opOf,e.bare) :: Ex.bareL es
end
theorem Ex.bareL_eq (l:List Ex):Ex.bareL l=l.map fun e=>(e.opOf,e.bare):=by
 induction l with
 | nil=>simp [Ex.bareL]
 | cons a l ih=>simp [Ex.bareL,ih]
theorem Ex.bare_mk (op:Int) (mon name:ByteArray) (n:Int) (ad:Option Addr) (cap:Nat) (kids:List Ex) (pos:Int):(Ex.mk op mon name n ad cap kids pos).bare=bareOf op mon name n (kids.map fun e=>(e.opOf,e.bare)):=by rw [Ex.bare,Ex.bareL_eq]
def Ex.txt (e:Ex) (l:Nat):List UInt8:=atL l e.opOf e.bare
mutual
def Ex.nst:Ex→Nat
 | .mk op _ _ _ _ _ kids _=>nestOf op (Ex.nstL kids)
def Ex.nstL:List Ex→List (Int × Nat)
 | []=>[]
 | e :: es=>(e.opOf,e.nst) :: Ex.nstL es
end
theorem Ex.nstL_eq (l:List Ex):Ex.nstL l=l.map fun e=>(e.opOf,e.nst):=by
 induction l with
 | nil=>simp [Ex.nstL]
 | cons a l ih=>simp [Ex.nstL,ih]
theorem Ex.nst_mk (op:Int) (mon name:ByteArray) (n:Int) (ad:Option Addr) (cap:Nat) (kids:List Ex) (pos:Int):(Ex.mk op mon name n ad cap kids pos).nst=nestOf op (kids.map fun e=>(e.opOf,e.nst)):=by rw [Ex.nst,Ex.nstL_eq]
def Ex.nest (e:Ex) (l:Nat):Nat:=nestL l e.opOf e.nst
theorem kid_at (kids:List Ex) (i l:Nat) (h:i < kids.length):kid (kids.map fun e=>(e.opOf,e.bare)) i l=kids[i].txt l:=by
 simp [kid,Ex.txt,List.getD,h]
theorem nkid_at (kids:List Ex) (i l:Nat) (h:i < kids.length):nkid (kids.map fun e=>(e.opOf,e.nst)) i l=kids[i].nest l:=by
 simp [nkid,Ex.nest,List.getD,h]
theorem decDigits_len (u:Nat):∀ k:Nat,u < 10 ^ (k+1)→(Lib.decDigits u).length≤k+1:=by
 intro k
 induction k generalizing u with
 | zero=>intro h;rw [Lib.decDigits,dif_pos (by simpa using h)];simp
 | succ k ih =>
  intro h
  by_cases h10:u < 10
  ·rw [Lib.decDigits,dif_pos h10];simp
  ·rw [Lib.decDigits,dif_neg h10,List.length_append]
   have:=ih (u / 10) (by rw [Nat.pow_succ] at h;omega)
   simp;omega
theorem itoa_len (n:Int) (h:I64 n):(Lib.itoa n).length≤20:=by
 unfold I64 at h
 unfold Lib.itoa
 split
 ·have:=decDigits_len n.natAbs 18 (by omega)
  simp;omega
 ·have:=decDigits_len n.toNat 18 (by omega)
  omega
theorem atL_len (l:Nat) (op:Int) (s:List UInt8):(atL l op s).length≤s.length+2:=by
 unfold atL;split <;> simp
theorem sgn_len (k:Nat):(sgn k).1.data.toList.length≤4:=by
 unfold sgn;split <;> simp
theorem sgnOf_len (op:Int):(sgnOf op).1.data.toList.length≤4:=by
 unfold sgnOf;split
 ·exact sgn_len _
 ·simp
theorem own_le (op:Int):own op≤6:=by
 unfold own
 split
 ·unfold sgn;split <;> simp
 ·exact Nat.le_refl _
theorem name_len {s:ByteArray} (h:Lx.name s=true):s.data.toList.length≤32:=by
 have:s.size≤32:=by unfold Lx.name at h;simp at h;omega
 simpa using this
theorem fits_len {s:ByteArray} {b:Bool} (h:fitsName s b=true):s.data.toList.length≤32:=by
 unfold fitsName at h
 split at h
 ·exact name_len h
 ·have:=of_decide_eq_true h
  have e:s.data.toList.length=s.size:=by simp
  omega
theorem Ex.ok_mk {op:Int} {mon name:ByteArray} {n:Int} {ad:Option Addr} {cap:Nat} {kids:List Ex} {pos:Int} (h:(Ex.mk op mon name n ad cap kids pos).ok=true):(Ex.mk op mon name n ad cap kids pos).ok1=true∧∀ x ∈ kids,x.ok=true:=by
 refine ⟨ok_op h,fun x hx=>?_⟩
 unfold Ex.ok at h ⊢
 rw [List.all_eq_true] at h ⊢
 intro y hy
 apply h
 rw [Ex.subs_mk,Ex.subsL_eq]
 exact List.mem_cons_of_mem _ (List.mem_flatMap.2 ⟨x,hx,hy⟩)
theorem kid_len (kids:List Ex) (i l:Nat) (hb:∀ x ∈ kids,x.bare.length≤100 * x.subs.length):(kid (kids.map fun e=>(e.opOf,e.bare)) i l).length≤100 * (kids[i]?.map (·.subs.length)).getD 0+2:=by
 by_cases h:i < kids.length
 ·rw [kid_at kids i l h]
  have h1:=atL_len l kids[i].opOf kids[i].bare
  have h2:=hb _ (List.getElem_mem h)
  simp [h,Ex.txt];omega
 ·have h1:=atL_len l 0 []
  simp [kid,List.getD,h] at h1 ⊢
  exact h1
theorem subs_two (kids:List Ex):(kids[0]?.map (·.subs.length)).getD 0+(kids[1]?.map (·.subs.length)).getD 0≤(Ex.subsL kids).length:=by
 match kids with
 | []=>simp
 | [a]=>simp [Ex.subsL]
 | a :: b :: r=>simp [Ex.subsL]
theorem bare_len (e:Ex) (n₀:Nat) (W:World):e.Is n₀ W→e.ok=true→e.bare.length≤100 * e.subs.length:=by
 induction e using Ex.ind with
 | h op mon name n ad cap kids pos ih =>
  intro hI hok
  obtain ⟨h1,hks⟩:=Ex.ok_mk hok
  have hb:=fun x hx=>ih x hx (hI.down.2.2 x hx) (hks x hx)
  have hi:=itoa_len n hI.down.1.2.1
  have hs:=sgnOf_len op
  have k0:=fun l=>kid_len kids 0 l hb
  have k1:=fun l=>kid_len kids 1 l hb
  have h2:=subs_two kids
  have hm:mon.data.toList.length≤32∧name.data.toList.length≤32:=by
   simp only [Ex.ok1,Bool.and_eq_true] at h1
   exact ⟨fits_len h1.2.1.1.1,fits_len h1.2.1.1.2⟩
  rw [Ex.bare_mk,Ex.subs_mk,List.length_cons]
  unfold bareOf
  have k00:=k0 (sgnOf op).2.2.2
  have k01:=k0 (sgnOf op).2.2.1
  have k11:=k1 (sgnOf op).2.2.2
  split
  ·omega
  split
  ·simp;omega
  split
  ·simp;omega
  split
  ·simp only [List.length_append,List.length_cons];omega
  split
  ·simp only [List.length_append];omega
  split
  ·simp only [List.length_append];omega
  ·simp only [List.length_append];omega
theorem nst_le (e:Ex):e.nst≤2 * e.subs.length - 1:=by
 induction e using Ex.ind with
 | h op mon name n ad cap kids pos ih =>
  rw [Ex.nst_mk,Ex.subs_mk,List.length_cons]
  have h2:=subs_two kids
  have hk:∀ i l,nkid (kids.map fun e=>(e.opOf,e.nst)) i l≤2 * (kids[i]?.map (·.subs.length)).getD 0 ∨ kids.length≤i:=by
   intro i l
   by_cases h:i < kids.length
   ·refine .inl ?_
    rw [nkid_at kids i l h]
    have h3:=ih _ (List.getElem_mem h)
    have h4:1≤kids[i].subs.length:=by rcases kids[i] with ⟨⟩;rw [Ex.subs_mk,List.length_cons];omega
    simp only [Ex.nest,nestL,h,List.getElem?_eq_getElem,Option.map_some,Option.getD_some]
    split <;> omega
   ·exact .inr (by omega)
  unfold nestOf
  split
  ·rename_i hl
   rw [List.length_map] at hl
   rcases hk 0 (sgnOf op).2.2.2 with h | h <;> omega
  split
  ·rename_i hl
   rw [List.length_map] at hl
   rcases hk 0 (sgnOf op).2.2.1 with h | h <;> rcases hk 1 (sgnOf op).2.2.2 with h' | h' <;> omega
  ·omega
end Go.Proofs.YtaekbgljbgmchaaGreatDoor
namespace Go.Proofs.YtaekbgljbgmchaaGreatDoor
open Go.RowKit Px
def ExprLays (e:Ex):Prop:=∀ (n₀ b m o l:Nat) (t:List UInt8) (w:World),n₀≤b→e.Is n₀ w→Sh b m o t w→t.length+(100 * e.subs.length+2)≤1000000000000 →
 Calls Tryz.prog 55 #[.pointer (some ⟨b,0,none⟩),e.val,.int .i64 (l:Int)] w fun r w'=>r=.returned (.tuple #[])∧Sh b m o (t++e.txt l) w'∧Kept b w w'
def BareLays (e:Ex):Prop:=∀ (n₀ b m o:Nat) (t:List UInt8) (w:World),n₀≤b→e.Is n₀ w→Sh b m o t w→t.length+100 * e.subs.length≤1000000000000 →
 Calls Tryz.prog 99 #[.pointer (some ⟨b,0,none⟩),e.val] w fun r w'=>r=.returned (.tuple #[])∧Sh b m o (t++e.bare) w'∧Kept b w w'
theorem below_drewE {B:Nat} {w w':World} (h:Below B w w'):Below B w w'.drew:=⟨h.os,h.tape,h.output,h.size,h.block⟩
set_option maxRecDepth 100000 in
set_option maxHeartbeats 4000000 in
theorem p_expr_of (e:Ex) (hok:e.ok=true) (hbare:BareLays e):ExprLays e:=by
 intro n₀ b m o l t w hn hI hs hlen
 have hbl:=hs.bl
 have hbare2:=bare_len e n₀ w hI hok
 rcases he:e with ⟨op,mon,name,n,ad,cap,kids,pos⟩
 have HE:=hid he
 have hop:e.opOf=op:=by rw [he];rfl
 have HT:Hid (e.txt l=atL l op e.bare):=by show _=_;rw [Ex.txt,hop]
 clear hop
 obtain ⟨tx,htx⟩:∃ tx,e.txt l=tx:=⟨_,rfl⟩
 obtain ⟨bx,hbx⟩:∃ bx,e.bare=bx:=⟨_,rfl⟩
 rw [← he,htx]
 rw [htx,hbx] at HT
 rw [hbx] at hbare2
 have hbareW:∀ t' W,Sh b m o t' W→Below b w W→t'.length+100 * e.subs.length≤1000000000000→Calls Tryz.prog 99 #[.pointer (some ⟨b,0,none⟩),e.val] W fun r w'=>r=.returned (.tuple #[])∧Sh b m o (t'++bx) w'∧Kept b W w':=fun t' W h1 h2 h3=>by
  rw [← hbx];exact hbare n₀ b m o t' W hn (hI.below (h2.mono hn)) h1 h3
 have hvv:e.val=.agg #[.int .i64 op,.string mon,.string name,.int .i64 n,.slice ad kids.length cap,.int .i64 pos]:=by rw [he];rfl
 rw [hvv]
 simp only [hvv] at hbareW
 obtain ⟨sz,hsz⟩:∃ sz,e.subs.length=sz:=⟨_,rfl⟩
 rw [hsz] at hlen hbare2
 simp only [hsz] at hbareW
 clear hvv he htx hbx hsz hbare hok
 have bB:ExBox (w.alloc (.cells #[.int .i64 op,.string mon,.string name,.int .i64 n,.slice ad kids.length cap,.int .i64 pos] 25)) w.heap.size (.mk op mon name n ad cap kids pos):=ExBox.new w (.mk op mon name n ad cap kids pos)
 have hK0:Kept b w (w.alloc (.cells #[.int .i64 op,.string mon,.string name,.int .i64 n,.slice ad kids.length cap,.int .i64 pos] 25)):=(Kept.refl b w).al (by omega) _
 have hs0:=hs.al (.cells #[.int .i64 op,.string mon,.string name,.int .i64 n,.slice ad kids.length cap,.int .i64 pos] 25)
 have hz0:(w.alloc (.cells #[.int .i64 op,.string mon,.string name,.int .i64 n,.slice ad kids.length cap,.int .i64 pos] 25)).heap.size=w.heap.size+1:=by simp
 have hne:w.heap.size ≠ b:=by omega
 go_enter Tryz.func55,Tryz.ntmps55
 go_wp2_with fail
 obtain ⟨W0,hW0⟩:∃ W0,w.alloc (.cells #[.int .i64 op,.string mon,.string name,.int .i64 n,.slice ad kids.length cap,.int .i64 pos] 25)=W0:=⟨_,rfl⟩
 rw [hW0] at bB hK0 hs0 hz0 ⊢
 clear hW0
 obtain ⟨c,hO,hSh⟩:=hs0.sheet
 have hf:=full_any b _ _ c W0 hSh
 cases hd:decide (20000 < c.length)
 ·rw [hd] at hf
  have c2:W0.cell? ⟨b,2,none⟩=some (.map (some m)):=hSh.cells.1
  obtain ⟨d0,d1,d2,d3,d4,d5⟩:=bB.cells
  go_wp2_with (go_at_call 87;refine hf.mono ?_;rintro e w' ⟨rfl,hw'⟩;have hw2:=hw'.symm;subst hw2)
  clear hf hd
  have hq:∀ W,Below W0.heap.size W0 W→Calls Tryz.prog 97 #[.map (some m),.int .i64 op,.int .i64 (l:Int)] W fun e w'=>e=.returned (.bool (decide ((own op:Int) < l)))∧Below W.heap.size W w':=fun W hW=>p_enclosed_any m op l W ((hs0.below hW).signs)
  have HK:Hid (∀ W,Below W0.heap.size W0 W→W.cell? ⟨b,2,none⟩=some (.map (some m))∧W.cell? ⟨w.heap.size,0,none⟩=some (.int .i64 op)):=fun W hW=>⟨(hW.cell (p:=⟨b,2,none⟩) (by show b < _;omega)).trans c2,(hW.cell (p:=⟨w.heap.size,0,none⟩) (by show w.heap.size < _;omega)).trans d0⟩
  have B:=below_drewE (Below.refl W0.heap.size W0)
  cases henc:decide ((own op:Int) < l)
  ·simp only [henc] at hq
   have HTX:Hid (tx=bx):=by
    have:=of_decide_eq_false henc
    show _=_
    rw [HT.out,atL,if_neg (by omega)]
   clear henc HT
   go_region_held3 (fun W=>W.cell? ⟨b,2,none⟩=some (.map (some m))∧W.cell? ⟨w.heap.size,0,none⟩=some (.int .i64 op)) (exact HK.out _ B)
    ((go_at_call 97;refine (hq _ B).mono ?_;rintro r u1 ⟨rfl,bb⟩;have B:=B.tr le_rfl' bb))
   have hs1:=hs0.below B
   have hK1:=hK0.of (by omega) B
   obtain ⟨e0,e1,e2,e3,e4,e5⟩:=(bB.below B (by omega)).cells
   have hcall:=hbareW t u1 hs1 hK1.1 (by omega)
   go_wp2_with (go_at_call 99;refine hcall.mono ?_;rintro e w2 ⟨rfl,s2,k2⟩)
   go_end0
   exact ⟨rfl,by rw [HTX.out];exact s2,hK1.trans k2⟩
  ·simp only [henc] at hq
   have HTX:Hid (tx=40 :: (bx++[41])):=by
    have:=of_decide_eq_true henc
    show _=_
    rw [HT.out,atL,if_pos (by omega)]
   clear henc HT
   go_region_held3 (fun W=>W.cell? ⟨b,2,none⟩=some (.map (some m))∧W.cell? ⟨w.heap.size,0,none⟩=some (.int .i64 op)) (exact HK.out _ B)
    ((go_at_call 97;refine (hq _ B).mono ?_;rintro r u1 ⟨rfl,bb⟩;have B:=B.tr le_rfl' bb))
   have hs1:=hs0.below B
   have hK1:=hK0.of (by omega) B
   have bB1:=bB.below B (by omega)
   have hz1:=B.size
   have hl1:=lay_new [⟨#[40]⟩] b m o t u1 hs1 (by simp) (by simp [cat];omega)
   simp only [List.map_cons,List.map_nil,List.length_cons,List.length_nil,Nat.zero_add,cat,List.flatMap_cons,List.flatMap_nil,List.append_nil] at hl1
   have hb2:∀ W,Sh b m o (t++[40]) W→Kept b u1 W→Calls Tryz.prog 99 #[.pointer (some ⟨b,0,none⟩),.agg #[.int .i64 op,.string mon,.string name,.int .i64 n,.slice ad kids.length cap,.int .i64 pos]] W fun r w'=>r=.returned (.tuple #[])∧Sh b m o (t++[40]++bx) w'∧Kept b W w':=fun W h1 h2 =>
    hbareW (t++[40]) W h1 (hK1.trans h2).1 (by simp;omega)
   have hl2:∀ W,Sh b m o (t++[40]++bx) W→Calls Tryz.prog 98 #[.pointer (some ⟨b,0,none⟩),.slice (some ⟨W.heap.size,0,none⟩) 1 1] (W.alloc (.cells #[.string ⟨#[41]⟩] 9)) fun e w'=>e=.returned (.tuple #[])∧Sh b m o (t++[40]++bx++[41]) w'∧Kept b W w':=fun W h1=>by
    have:=lay_new [⟨#[41]⟩] b m o (t++[40]++bx) W h1 (by simp) (by simp [cat];omega)
    simpa [cat] using this
   go_wp2_with (first
    | (go_at_call 98;refine hl1.mono ?_;rintro e w2 ⟨rfl,s2,k2⟩;obtain ⟨e0,e1,e2,e3,e4,e5⟩:=(show ExBox w2 w.heap.size _ from k2.box bB1 hne (by decide)).cells;clear hl1)
    | (go_at_call 99;refine (hb2 _ s2 k2).mono ?_;rintro e w3 ⟨rfl,s3,k3⟩)
    | (go_at_call 98;refine (hl2 _ s3).mono ?_;rintro e w4 ⟨rfl,s4,k4⟩))
   go_end0
   refine ⟨rfl,?_,((hK1.trans k2).trans k3).trans k4⟩
   rw [HTX.out]
   simpa using s4
 ·rw [hd] at hf
  have hd2:=of_decide_eq_true hd
  go_wp2_with (go_at_call 87;refine hf.mono ?_;rintro e w' ⟨rfl,hw'⟩;have hw2:=hw'.symm;subst hw2)
  ((try simp only [Exit.inBlock,Exit.then]);refine bodyPost_ret (results_none rfl _ _ _) rfl ?_)
  exact ⟨rfl,hs0.next (Below.refl _ _) (hO.full hd2 tx) hSh,hK0⟩
end Go.Proofs.YtaekbgljbgmchaaGreatDoor
namespace Go.Proofs.YtaekbgljbgmchaaGreatDoor
open Go.RowKit Px
theorem Kept.drew {b:Nat} {u v:World} (h:Kept b u v):Kept b u v.drew:=⟨below_drewE h.1,h.2⟩
theorem Sh.drew {b m o:Nat} {t:List UInt8} {w:World} (h:Sh b m o t w):Sh b m o t w.drew:=h.below (below_drewE (Below.refl _ _))
theorem subs_one (kids:List Ex) (h:0 < kids.length):kids[0].subs.length≤(Ex.subsL kids).length:=by
 match kids,h with
 | a :: r,_=>simp [Ex.subsL]
theorem subs_both (kids:List Ex) (h:1 < kids.length):kids[0].subs.length+kids[1].subs.length≤(Ex.subsL kids).length:=by
 match kids,h with
 | a :: b :: r,_=>simp [Ex.subsL]
set_option maxRecDepth 100000 in
set_option maxHeartbeats 2000000 in
theorem bare_of (e:Ex) (hok:e.ok=true) (hkids:∀ x ∈ e.kids,ExprLays x):BareLays e:=by
 intro n₀ b m o t w hn hI hs hlen
 have hbl:=hs.bl
 rcases e with ⟨op,mon,name,n,ad,cap,kids,pos⟩
 obtain ⟨mt,mo,mf,ml,hm⟩:∃ mt mo mf ml,sgnOf op=(mt,mo,mf,ml):=⟨_,_,_,_,rfl⟩
 have HM:=hid hm
 have hl0:∀ W,SignsAt W m→(Instr.lookup 91 (.map (some m)) (.int .i64 op) false).run Tryz.prog W=.ok (.agg #[.string mt,.int .i64 (mo:Int),.int .i64 (mf:Int),.int .i64 (ml:Int)]) W:=fun W h=>by
  rw [lookup_one h op,hm];rfl
 have hmt:mt.data.toList.length≤4:=by have:=sgnOf_len op;rw [hm] at this;exact this
 clear hm
 have bB:ExBox (w.alloc (.cells #[.int .i64 op,.string mon,.string name,.int .i64 n,.slice ad kids.length cap,.int .i64 pos] 25)) w.heap.size (.mk op mon name n ad cap kids pos):=ExBox.new w (.mk op mon name n ad cap kids pos)
 have hK0:Kept b w (w.alloc (.cells #[.int .i64 op,.string mon,.string name,.int .i64 n,.slice ad kids.length cap,.int .i64 pos] 25)):=(Kept.refl b w).al (by omega) _
 have hs0:=hs.al (.cells #[.int .i64 op,.string mon,.string name,.int .i64 n,.slice ad kids.length cap,.int .i64 pos] 25)
 have hz0:(w.alloc (.cells #[.int .i64 op,.string mon,.string name,.int .i64 n,.slice ad kids.length cap,.int .i64 pos] 25)).heap.size=w.heap.size+1:=by simp
 have hne:w.heap.size ≠ b:=by omega
 have hne1:w.heap.size+1 ≠ b:=by omega
 have hnm:I64 n:=hI.down.1.2.1
 have hIk:=hI.down.2.2
 have hsl:=hI.down.2.1
 have hl1:=hsl.1;have hl2:=hsl.2.1
 unfold maxLen at hl2
 have HB:=hid (Ex.bare_mk op mon name n ad cap kids pos)
 have hio:=itoa_len n hnm
 obtain ⟨h1,hoks⟩:=Ex.ok_mk hok
 simp only [Ex.ok1,Bool.and_eq_true,decide_eq_true_iff] at h1
 obtain ⟨⟨ho1,ho2⟩,⟨⟨hfm,hfn⟩,-⟩,hkl⟩:=h1
 have hmon:=fits_len hfm
 have hname:=fits_len hfn
 have hkl2:Hid (kids.length=exKids op.toNat):=by have:=eq_of_beq hkl;show _=_;omega
 rw [Ex.subs_mk,List.length_cons] at hlen
 clear hfm hfn hkl hok hI
 simp only [Ex.val,Ex.cells]
 go_enter Tryz.func99,Tryz.ntmps99
 go_wp2_with fail
 obtain ⟨W0,hW0⟩:∃ W0,w.alloc (.cells #[.int .i64 op,.string mon,.string name,.int .i64 n,.slice ad kids.length cap,.int .i64 pos] 25)=W0:=⟨_,rfl⟩
 rw [hW0] at bB hK0 hs0 hz0 ⊢
 clear hW0
 have c2:W0.cell? ⟨b,2,none⟩=some (.map (some m)):=by obtain ⟨c,_,h⟩:=hs0.sheet;exact h.cells.1
 obtain ⟨d0,d1,d2,d3,d4,d5⟩:=bB.cells
 have l1:=hl0 W0.drew hs0.signs
 have l2:=fun o=>hl0 (W0.alloc o).drew (hs0.al o).signs
 go_region
 have hB1:Below W0.heap.size W0 (W0.alloc (.cells #[.string mt,.int .i64 (mo:Int),.int .i64 (mf:Int),.int .i64 (ml:Int)] 137)).drew:=below_drewE ((Below.refl _ W0).al le_rfl' _)
 have hs1:=hs0.below hB1
 have hK1:=hK0.of (by omega) hB1
 have bB1:=bB.below hB1 (by omega)
 have bS1:(W0.alloc (.cells #[.string mt,.int .i64 (mo:Int),.int .i64 (mf:Int),.int .i64 (ml:Int)] 137)).drew.heap[w.heap.size+1]?=some (.cells #[.string mt,.int .i64 (mo:Int),.int .i64 (mf:Int),.int .i64 (ml:Int)] 137 (0,0)):=by rw [← hz0];exact heap_alloc_new W0 _
 have hz1:(W0.alloc (.cells #[.string mt,.int .i64 (mo:Int),.int .i64 (mf:Int),.int .i64 (ml:Int)] 137)).drew.heap.size=w.heap.size+2:=by show (W0.alloc _).heap.size=_;simp [hz0]
 obtain ⟨W1,hW1⟩:∃ W1,(W0.alloc (.cells #[.string mt,.int .i64 (mo:Int),.int .i64 (mf:Int),.int .i64 (ml:Int)] 137)).drew=W1:=⟨_,rfl⟩
 rw [hW1] at hB1 hs1 hK1 bB1 bS1 hz1 ⊢
 have HZ1:=hid hz1
 clear hz1 hW1 d0 d1 d2 d3 d4 d5 l1 l2 c2 hl0 bB hs0 hK0 hB1
 obtain ⟨d0,d1,d2,d3,d4,d5⟩:=bB1.cells
 have m0:=cell_of' bS1 0
 have m2:=cell_of' bS1 2
 have m3:=cell_of' bS1 3
 simp at m0 m2 m3
 by_cases q1:op=1
 ·subst q1
  have HB2:Hid ((Ex.mk 1 mon name n ad cap kids pos).bare=Lib.itoa n):=by show _=_;rw [HB.out];simp [bareOf]
  have hnum:=number_any n W1 hnm hs1.tab
  have hlay:∀ W,Below W1.heap.size W1 W→Calls Tryz.prog 98 #[.pointer (some ⟨b,0,none⟩),.slice (some ⟨W.heap.size,0,none⟩) 1 1] (W.alloc (.cells #[.string ⟨(Lib.itoa n).toArray⟩] 9)) fun e w'=>e=.returned (.tuple #[])∧Sh b m o (t++Lib.itoa n) w'∧Kept b W w':=fun W h=>by
   have:=lay_new [⟨(Lib.itoa n).toArray⟩] b m o t W (hs1.below h) (by simp) (by simp [cat];omega)
   simpa [cat] using this
  go_wp2_with (first
   | (go_at_call 84;refine hnum.mono ?_;rintro e w2 ⟨rfl,b2⟩)
   | (go_at_call 98;refine (hlay _ b2).mono ?_;rintro e w3 ⟨rfl,s3,k3⟩))
  go_end0
  exact ⟨rfl,by rw [HB2.out];exact s3,(hK1.of (by omega) b2).trans k3⟩
 by_cases q2:op=2
 ·subst q2
  have HB2:Hid ((Ex.mk 2 mon name n ad cap kids pos).bare=[116,114,117,101]):=by show _=_;rw [HB.out];simp [bareOf]
  have hlay:=lay_new [⟨#[116,114,117,101]⟩] b m o t W1 hs1 (by simp) (by simp [cat];omega)
  simp only [List.map_cons,List.map_nil,List.length_cons,List.length_nil,Nat.zero_add,cat,List.flatMap_cons,List.flatMap_nil,List.append_nil] at hlay
  go_wp2_with (go_at_call 98;refine hlay.mono ?_;rintro e w3 ⟨rfl,s3,k3⟩)
  go_end0
  exact ⟨rfl,by rw [HB2.out];exact s3,hK1.trans k3⟩
 by_cases q3:op=3
 ·subst q3
  have HB2:Hid ((Ex.mk 3 mon name n ad cap kids pos).bare=[102,97,108,115,101]):=by show _=_;rw [HB.out];simp [bareOf]
  have hlay:=lay_new [⟨#[102,97,108,115,101]⟩] b m o t W1 hs1 (by simp) (by simp [cat];omega)
  simp only [List.map_cons,List.map_nil,List.length_cons,List.length_nil,Nat.zero_add,cat,List.flatMap_cons,List.flatMap_nil,List.append_nil] at hlay
  go_wp2_with (go_at_call 98;refine hlay.mono ?_;rintro e w3 ⟨rfl,s3,k3⟩)
  go_end0
  exact ⟨rfl,by rw [HB2.out];exact s3,hK1.trans k3⟩
 by_cases q4:op=4
 ·subst q4
  have HB2:Hid ((Ex.mk 4 mon name n ad cap kids pos).bare=mon.data.toList++46 :: name.data.toList):=by show _=_;rw [HB.out];simp [bareOf]
  have hlay:=lay_new [mon,⟨#[46]⟩,name] b m o t W1 hs1 (by simp) (by simp only [cat,List.flatMap_cons,List.flatMap_nil,List.append_nil,List.length_append,List.length_cons,List.length_nil];omega)
  simp only [List.map_cons,List.map_nil,List.length_cons,List.length_nil,Nat.zero_add,Nat.reduceAdd,cat,List.flatMap_cons,List.flatMap_nil,List.append_nil] at hlay
  go_wp2_with (go_at_call 98;refine hlay.mono ?_;rintro e w3 ⟨rfl,s3,k3⟩)
  go_end0
  exact ⟨rfl,by rw [HB2.out];exact s3,hK1.trans k3⟩
 have hk0:0 < kids.length:=by
  rw [hkl2.out,exKids];split
  ·omega
  ·split <;> omega
 obtain ⟨kb,koff,rfl,hkb0,hrow0⟩:=hsl.2.2.resolve_left (by intro h;rw [h] at hk0;simp at hk0)
 have hkb:kb < b:=by omega
 have hrow:=hrow0.below (hK1.1.mono hn) hkb0
 have KK:Kept b W1 W1:=Kept.refl _ _
 have hb0:=subs_one kids hk0
 by_cases q5:op=5
 ·subst q5
  have hkl3:Hid (kids.length=1):=by show _=_;rw [hkl2.out];rfl
  have HB2:Hid ((Ex.mk 5 mon name n (some ⟨kb,koff,none⟩) cap kids pos).bare=mt.data.toList++kids[0].txt ml):=by show _=_;rw [HB.out,← kid_at kids 0 ml hk0];simp [bareOf,HM.out]
  have hlay:=lay_new [mt] b m o t W1 hs1 (by simp) (by simp only [cat,List.flatMap_cons,List.flatMap_nil,List.append_nil];omega)
  simp only [List.map_cons,List.map_nil,List.length_cons,List.length_nil,Nat.zero_add,cat,List.flatMap_cons,List.flatMap_nil,List.append_nil] at hlay
  have hkl4:(0:Int) < (kids.length:Int):=by omega
  rcases hx0:kids[0] with ⟨xop0,xmon0,xname0,xn0,xad0,xcap0,xkids0,xpos0⟩
  have hc0:∀ (t':List UInt8) (W:World) (l:Nat),Kept b W1 W→Sh b m o t' W→t'.length+(100 * (kids[0]).subs.length+2)≤1000000000000→Calls Tryz.prog 55 #[.pointer (some ⟨b,0,none⟩),.agg #[.int .i64 xop0,.string xmon0,.string xname0,.int .i64 xn0,.slice xad0 xkids0.length xcap0,.int .i64 xpos0],.int .i64 (l:Int)] W fun r w'=>r=.returned (.tuple #[])∧Sh b m o (t'++kids[0].txt l) w'∧Kept b W w':=fun t' W l h1 h2 h3=>by
   have:=hkids kids[0] (List.getElem_mem _) n₀ b m o l t' W hn ((hIk kids[0] (List.getElem_mem _)).below ((hK1.trans h1).1.mono hn)) h2 h3
   rw [show kids[0].val=Value.agg #[.int .i64 xop0,.string xmon0,.string xname0,.int .i64 xn0,.slice xad0 xkids0.length xcap0,.int .i64 xpos0] by rw [hx0];rfl] at this
   exact this
  obtain ⟨a00,a01,a02,a03,a04,a05⟩:=row6 hrow 0 (by omega) (by rw [hx0];rfl)
  clear hx0
  simp only [Nat.zero_mul,Nat.add_zero] at a00 a01 a02 a03 a04 a05
  have HK:Hid (∀ W,Kept b W1 W→W.cell? ⟨w.heap.size,4,none⟩=some (.slice (some ⟨kb,koff,none⟩) kids.length cap)∧W.cell? ⟨w.heap.size+1,3,none⟩=some (.int .i64 (ml:Int))∧W.cell? ⟨kb,koff,none⟩=some (.int .i64 xop0)∧W.cell? ⟨kb,koff+1,none⟩=some (.string xmon0)∧W.cell? ⟨kb,koff+2,none⟩=some (.string xname0)∧W.cell? ⟨kb,koff+3,none⟩=some (.int .i64 xn0)∧W.cell? ⟨kb,koff+4,none⟩=some (.slice xad0 xkids0.length xcap0)∧W.cell? ⟨kb,koff+5,none⟩=some (.int .i64 xpos0)):=fun W hW=>by
   obtain ⟨f0,f1,f2,f3,f4,f5⟩:=(show ExBox W w.heap.size _ from hW.box bB1 hne (by decide)).cells
   have g:=hW.box bS1 hne1 (by decide)
   exact ⟨f4,cell_of' g 3,(hW.1.cell (p:=⟨kb,_,none⟩) hkb).trans a00,(hW.1.cell (p:=⟨kb,_,none⟩) hkb).trans a01,(hW.1.cell (p:=⟨kb,_,none⟩) hkb).trans a02,(hW.1.cell (p:=⟨kb,_,none⟩) hkb).trans a03,(hW.1.cell (p:=⟨kb,_,none⟩) hkb).trans a04,(hW.1.cell (p:=⟨kb,_,none⟩) hkb).trans a05⟩
  clear a00 a01 a02 a03 a04 a05
  go_wp2_with (go_at_call 98;refine hlay.mono ?_;rintro e w3 ⟨rfl,s3,k3⟩;have KK:=(KK.trans k3).drew;have s3:=s3.drew)
  go_region_held3 (fun W=>W.cell? ⟨w.heap.size,4,none⟩=some (.slice (some ⟨kb,koff,none⟩) kids.length cap)∧W.cell? ⟨w.heap.size+1,3,none⟩=some (.int .i64 (ml:Int))∧W.cell? ⟨kb,koff,none⟩=some (.int .i64 xop0)∧W.cell? ⟨kb,koff+1,none⟩=some (.string xmon0)∧W.cell? ⟨kb,koff+2,none⟩=some (.string xname0)∧W.cell? ⟨kb,koff+3,none⟩=some (.int .i64 xn0)∧W.cell? ⟨kb,koff+4,none⟩=some (.slice xad0 xkids0.length xcap0)∧W.cell? ⟨kb,koff+5,none⟩=some (.int .i64 xpos0)) (exact HK.out _ KK)
    ((go_at_call 55;refine (hc0 (t++mt.data.toList) _ ml KK s3 (by (try simp only [List.length_append]);omega)).mono ?_;rintro r u4 ⟨rfl,su4,ku4⟩;have KK:=KK.trans ku4))
  go_wp2
  go_end0
  exact ⟨rfl,by rw [HB2.out,← List.append_assoc];exact su4,hK1.trans KK⟩
 by_cases q6:op=6
 ·subst q6
  have hkl3:Hid (kids.length=1):=by show _=_;rw [hkl2.out];rfl
  have HB2:Hid ((Ex.mk 6 mon name n (some ⟨kb,koff,none⟩) cap kids pos).bare=mt.data.toList++kids[0].txt ml):=by show _=_;rw [HB.out,← kid_at kids 0 ml hk0];simp [bareOf,HM.out]
  have hlay:=lay_new [mt] b m o t W1 hs1 (by simp) (by simp only [cat,List.flatMap_cons,List.flatMap_nil,List.append_nil];omega)
  simp only [List.map_cons,List.map_nil,List.length_cons,List.length_nil,Nat.zero_add,cat,List.flatMap_cons,List.flatMap_nil,List.append_nil] at hlay
  have hkl4:(0:Int) < (kids.length:Int):=by omega
  rcases hx0:kids[0] with ⟨xop0,xmon0,xname0,xn0,xad0,xcap0,xkids0,xpos0⟩
  have hc0:∀ (t':List UInt8) (W:World) (l:Nat),Kept b W1 W→Sh b m o t' W→t'.length+(100 * (kids[0]).subs.length+2)≤1000000000000→Calls Tryz.prog 55 #[.pointer (some ⟨b,0,none⟩),.agg #[.int .i64 xop0,.string xmon0,.string xname0,.int .i64 xn0,.slice xad0 xkids0.length xcap0,.int .i64 xpos0],.int .i64 (l:Int)] W fun r w'=>r=.returned (.tuple #[])∧Sh b m o (t'++kids[0].txt l) w'∧Kept b W w':=fun t' W l h1 h2 h3=>by
   have:=hkids kids[0] (List.getElem_mem _) n₀ b m o l t' W hn ((hIk kids[0] (List.getElem_mem _)).below ((hK1.trans h1).1.mono hn)) h2 h3
   rw [show kids[0].val=Value.agg #[.int .i64 xop0,.string xmon0,.string xname0,.int .i64 xn0,.slice xad0 xkids0.length xcap0,.int .i64 xpos0] by rw [hx0];rfl] at this
   exact this
  obtain ⟨a00,a01,a02,a03,a04,a05⟩:=row6 hrow 0 (by omega) (by rw [hx0];rfl)
  clear hx0
  simp only [Nat.zero_mul,Nat.add_zero] at a00 a01 a02 a03 a04 a05
  have HK:Hid (∀ W,Kept b W1 W→W.cell? ⟨w.heap.size,4,none⟩=some (.slice (some ⟨kb,koff,none⟩) kids.length cap)∧W.cell? ⟨w.heap.size+1,3,none⟩=some (.int .i64 (ml:Int))∧W.cell? ⟨kb,koff,none⟩=some (.int .i64 xop0)∧W.cell? ⟨kb,koff+1,none⟩=some (.string xmon0)∧W.cell? ⟨kb,koff+2,none⟩=some (.string xname0)∧W.cell? ⟨kb,koff+3,none⟩=some (.int .i64 xn0)∧W.cell? ⟨kb,koff+4,none⟩=some (.slice xad0 xkids0.length xcap0)∧W.cell? ⟨kb,koff+5,none⟩=some (.int .i64 xpos0)):=fun W hW=>by
   obtain ⟨f0,f1,f2,f3,f4,f5⟩:=(show ExBox W w.heap.size _ from hW.box bB1 hne (by decide)).cells
   have g:=hW.box bS1 hne1 (by decide)
   exact ⟨f4,cell_of' g 3,(hW.1.cell (p:=⟨kb,_,none⟩) hkb).trans a00,(hW.1.cell (p:=⟨kb,_,none⟩) hkb).trans a01,(hW.1.cell (p:=⟨kb,_,none⟩) hkb).trans a02,(hW.1.cell (p:=⟨kb,_,none⟩) hkb).trans a03,(hW.1.cell (p:=⟨kb,_,none⟩) hkb).trans a04,(hW.1.cell (p:=⟨kb,_,none⟩) hkb).trans a05⟩
  clear a00 a01 a02 a03 a04 a05
  go_wp2_with (go_at_call 98;refine hlay.mono ?_;rintro e w3 ⟨rfl,s3,k3⟩;have KK:=(KK.trans k3).drew;have s3:=s3.drew)
  go_region_held3 (fun W=>W.cell? ⟨w.heap.size,4,none⟩=some (.slice (some ⟨kb,koff,none⟩) kids.length cap)∧W.cell? ⟨w.heap.size+1,3,none⟩=some (.int .i64 (ml:Int))∧W.cell? ⟨kb,koff,none⟩=some (.int .i64 xop0)∧W.cell? ⟨kb,koff+1,none⟩=some (.string xmon0)∧W.cell? ⟨kb,koff+2,none⟩=some (.string xname0)∧W.cell? ⟨kb,koff+3,none⟩=some (.int .i64 xn0)∧W.cell? ⟨kb,koff+4,none⟩=some (.slice xad0 xkids0.length xcap0)∧W.cell? ⟨kb,koff+5,none⟩=some (.int .i64 xpos0)) (exact HK.out _ KK)
    ((go_at_call 55;refine (hc0 (t++mt.data.toList) _ ml KK s3 (by (try simp only [List.length_append]);omega)).mono ?_;rintro r u4 ⟨rfl,su4,ku4⟩;have KK:=KK.trans ku4))
  go_wp2
  go_end0
  exact ⟨rfl,by rw [HB2.out,← List.append_assoc];exact su4,hK1.trans KK⟩
 by_cases q7:op=7
 ·subst q7
  have hkl3:Hid (kids.length=1):=by show _=_;rw [hkl2.out];rfl
  have HB2:Hid ((Ex.mk 7 mon name n (some ⟨kb,koff,none⟩) cap kids pos).bare=Lib.itoa n++(mt.data.toList++kids[0].txt ml)):=by show _=_;rw [HB.out,← kid_at kids 0 ml hk0];simp [bareOf,HM.out]
  have hkl4:(0:Int) < (kids.length:Int):=by omega
  rcases hx0:kids[0] with ⟨xop0,xmon0,xname0,xn0,xad0,xcap0,xkids0,xpos0⟩
  have hc0:∀ (t':List UInt8) (W:World) (l:Nat),Kept b W1 W→Sh b m o t' W→t'.length+(100 * (kids[0]).subs.length+2)≤1000000000000→Calls Tryz.prog 55 #[.pointer (some ⟨b,0,none⟩),.agg #[.int .i64 xop0,.string xmon0,.string xname0,.int .i64 xn0,.slice xad0 xkids0.length xcap0,.int .i64 xpos0],.int .i64 (l:Int)] W fun r w'=>r=.returned (.tuple #[])∧Sh b m o (t'++kids[0].txt l) w'∧Kept b W w':=fun t' W l h1 h2 h3=>by
   have:=hkids kids[0] (List.getElem_mem _) n₀ b m o l t' W hn ((hIk kids[0] (List.getElem_mem _)).below ((hK1.trans h1).1.mono hn)) h2 h3
   rw [show kids[0].val=Value.agg #[.int .i64 xop0,.string xmon0,.string xname0,.int .i64 xn0,.slice xad0 xkids0.length xcap0,.int .i64 xpos0] by rw [hx0];rfl] at this
   exact this
  obtain ⟨a00,a01,a02,a03,a04,a05⟩:=row6 hrow 0 (by omega) (by rw [hx0];rfl)
  clear hx0
  simp only [Nat.zero_mul,Nat.add_zero] at a00 a01 a02 a03 a04 a05
  have HK:Hid (∀ W,Kept b W1 W→W.cell? ⟨w.heap.size,4,none⟩=some (.slice (some ⟨kb,koff,none⟩) kids.length cap)∧W.cell? ⟨w.heap.size+1,3,none⟩=some (.int .i64 (ml:Int))∧W.cell? ⟨kb,koff,none⟩=some (.int .i64 xop0)∧W.cell? ⟨kb,koff+1,none⟩=some (.string xmon0)∧W.cell? ⟨kb,koff+2,none⟩=some (.string xname0)∧W.cell? ⟨kb,koff+3,none⟩=some (.int .i64 xn0)∧W.cell? ⟨kb,koff+4,none⟩=some (.slice xad0 xkids0.length xcap0)∧W.cell? ⟨kb,koff+5,none⟩=some (.int .i64 xpos0)):=fun W hW=>by
   obtain ⟨f0,f1,f2,f3,f4,f5⟩:=(show ExBox W w.heap.size _ from hW.box bB1 hne (by decide)).cells
   have g:=hW.box bS1 hne1 (by decide)
   exact ⟨f4,cell_of' g 3,(hW.1.cell (p:=⟨kb,_,none⟩) hkb).trans a00,(hW.1.cell (p:=⟨kb,_,none⟩) hkb).trans a01,(hW.1.cell (p:=⟨kb,_,none⟩) hkb).trans a02,(hW.1.cell (p:=⟨kb,_,none⟩) hkb).trans a03,(hW.1.cell (p:=⟨kb,_,none⟩) hkb).trans a04,(hW.1.cell (p:=⟨kb,_,none⟩) hkb).trans a05⟩
  clear a00 a01 a02 a03 a04 a05
  have hnum:∀ W,Below W1.heap.size W1 W→Calls Tryz.prog 84 #[.int .i64 n] W fun e w'=>e=.returned (.string ⟨(Lib.itoa n).toArray⟩)∧Below W.heap.size W w':=fun W h=>number_any n W hnm (hs1.below h).tab
  have hlay:∀ W,Below W1.heap.size W1 W→Calls Tryz.prog 98 #[.pointer (some ⟨b,0,none⟩),.slice (some ⟨W.heap.size,0,none⟩) 2 2] (W.alloc (.cells #[.string ⟨(Lib.itoa n).toArray⟩,.string mt] 9)) fun e w'=>e=.returned (.tuple #[])∧Sh b m o (t++(Lib.itoa n++mt.data.toList)) w'∧Kept b W w':=fun W h=>by
   have:=lay_new [⟨(Lib.itoa n).toArray⟩,mt] b m o t W (hs1.below h) (by simp) (by simp only [cat,List.flatMap_cons,List.flatMap_nil,List.append_nil,List.length_append];omega)
   simpa [cat] using this
  have HJ:Hid (∀ W,Kept b W1 W→W.cell? ⟨w.heap.size,3,none⟩=some (.int .i64 n)∧W.cell? ⟨w.heap.size+1,0,none⟩=some (.string mt)):=fun W hW=>by
   obtain ⟨f0,f1,f2,f3,f4,f5⟩:=(show ExBox W w.heap.size _ from hW.box bB1 hne (by decide)).cells
   exact ⟨f3,cell_of' (hW.box bS1 hne1 (by decide)) 0⟩
  have B:=below_drewE (Below.refl W1.heap.size W1)
  have hb1:b≤W1.heap.size:=by have:=HZ1.out;omega
  have KK:=KK.drew
  go_wp2_with fail
  go_region_held3 (fun W=>W.cell? ⟨w.heap.size,3,none⟩=some (.int .i64 n)∧W.cell? ⟨w.heap.size+1,0,none⟩=some (.string mt)) (first | exact HJ.out _ KK | exact HJ.out _ (KK.al hb1 _))
   (first
    | (go_at_call 84;refine (hnum _ B).mono ?_;rintro r u1 ⟨rfl,bb⟩;have B:=B.tr le_rfl' bb;have KK:=KK.of hb1 bb)
    | (go_at_call 98;refine (hlay _ B).mono ?_;rintro r u2 ⟨rfl,s3,k3⟩;have KK:=KK.trans k3))
  have KK:=KK.drew
  have s3:=s3.drew
  go_wp2_with fail
  go_region_held3 (fun W=>W.cell? ⟨w.heap.size,4,none⟩=some (.slice (some ⟨kb,koff,none⟩) kids.length cap)∧W.cell? ⟨w.heap.size+1,3,none⟩=some (.int .i64 (ml:Int))∧W.cell? ⟨kb,koff,none⟩=some (.int .i64 xop0)∧W.cell? ⟨kb,koff+1,none⟩=some (.string xmon0)∧W.cell? ⟨kb,koff+2,none⟩=some (.string xname0)∧W.cell? ⟨kb,koff+3,none⟩=some (.int .i64 xn0)∧W.cell? ⟨kb,koff+4,none⟩=some (.slice xad0 xkids0.length xcap0)∧W.cell? ⟨kb,koff+5,none⟩=some (.int .i64 xpos0)) (exact HK.out _ KK)
    ((go_at_call 55;refine (hc0 (t++(Lib.itoa n++mt.data.toList)) _ ml KK s3 (by (try simp only [List.length_append]);omega)).mono ?_;rintro r u4 ⟨rfl,su4,ku4⟩;have KK:=KK.trans ku4))
  go_wp2
  go_end0
  exact ⟨rfl,by rw [HB2.out,← List.append_assoc,← List.append_assoc];rw [← List.append_assoc] at su4;exact su4,hK1.trans KK⟩
 have q8:8≤op:=by omega
 have q1b:(op == 1)=false:=by rw [beq_eq_false_iff_ne];omega
 have q2b:(op == 2)=false:=by rw [beq_eq_false_iff_ne];omega
 have q3b:(op == 3)=false:=by rw [beq_eq_false_iff_ne];omega
 have q4b:(op == 4)=false:=by rw [beq_eq_false_iff_ne];omega
 have q5b:(op == 5)=false:=by rw [beq_eq_false_iff_ne];omega
 have q6b:(op == 6)=false:=by rw [beq_eq_false_iff_ne];omega
 have q7b:(op == 7)=false:=by rw [beq_eq_false_iff_ne];omega
 have hkl3:Hid (kids.length=2):=by show _=_;rw [hkl2.out,exKids,if_neg (by omega),if_neg (by omega)]
 have hk1:1 < kids.length:=by rw [hkl3.out];omega
 have HB2:Hid ((Ex.mk op mon name n (some ⟨kb,koff,none⟩) cap kids pos).bare=kids[0].txt mf++(mt.data.toList++kids[1].txt ml)):=by
  show _=_
  rw [HB.out,← kid_at kids 0 mf hk0,← kid_at kids 1 ml hk1]
  simp [bareOf,HM.out,q1,q2,q3,q4,q5,q6,q7]
 have hkl4:(0:Int) < (kids.length:Int):=by omega
 have hkl5:(1:Int) < (kids.length:Int):=by omega
 have hb2:=subs_both kids hk1
 rcases hx0:kids[0] with ⟨xop0,xmon0,xname0,xn0,xad0,xcap0,xkids0,xpos0⟩
 have hc0:∀ (t':List UInt8) (W:World) (l:Nat),Kept b W1 W→Sh b m o t' W→t'.length+(100 * (kids[0]).subs.length+2)≤1000000000000→Calls Tryz.prog 55 #[.pointer (some ⟨b,0,none⟩),.agg #[.int .i64 xop0,.string xmon0,.string xname0,.int .i64 xn0,.slice xad0 xkids0.length xcap0,.int .i64 xpos0],.int .i64 (l:Int)] W fun r w'=>r=.returned (.tuple #[])∧Sh b m o (t'++kids[0].txt l) w'∧Kept b W w':=fun t' W l h1 h2 h3=>by
  have:=hkids kids[0] (List.getElem_mem _) n₀ b m o l t' W hn ((hIk kids[0] (List.getElem_mem _)).below ((hK1.trans h1).1.mono hn)) h2 h3
  rw [show kids[0].val=Value.agg #[.int .i64 xop0,.string xmon0,.string xname0,.int .i64 xn0,.slice xad0 xkids0.length xcap0,.int .i64 xpos0] by rw [hx0];rfl] at this
  exact this
 obtain ⟨a00,a01,a02,a03,a04,a05⟩:=row6 hrow 0 (by omega) (by rw [hx0];rfl)
 clear hx0
 rcases hx1:kids[1] with ⟨xop1,xmon1,xname1,xn1,xad1,xcap1,xkids1,xpos1⟩
 have hc1:∀ (t':List UInt8) (W:World) (l:Nat),Kept b W1 W→Sh b m o t' W→t'.length+(100 * (kids[1]).subs.length+2)≤1000000000000→Calls Tryz.prog 55 #[.pointer (some ⟨b,0,none⟩),.agg #[.int .i64 xop1,.string xmon1,.string xname1,.int .i64 xn1,.slice xad1 xkids1.length xcap1,.int .i64 xpos1],.int .i64 (l:Int)] W fun r w'=>r=.returned (.tuple #[])∧Sh b m o (t'++kids[1].txt l) w'∧Kept b W w':=fun t' W l h1 h2 h3=>by
  have:=hkids kids[1] (List.getElem_mem _) n₀ b m o l t' W hn ((hIk kids[1] (List.getElem_mem _)).below ((hK1.trans h1).1.mono hn)) h2 h3
  rw [show kids[1].val=Value.agg #[.int .i64 xop1,.string xmon1,.string xname1,.int .i64 xn1,.slice xad1 xkids1.length xcap1,.int .i64 xpos1] by rw [hx1];rfl] at this
  exact this
 obtain ⟨a10,a11,a12,a13,a14,a15⟩:=row6 hrow 1 (by omega) (by rw [hx1];rfl)
 clear hx1
 simp only [Nat.zero_mul,Nat.one_mul,Nat.add_zero,Nat.add_assoc,Nat.reduceAdd] at a00 a01 a02 a03 a04 a05 a10 a11 a12 a13 a14 a15
 have HK:Hid (∀ W,Kept b W1 W→W.cell? ⟨w.heap.size,4,none⟩=some (.slice (some ⟨kb,koff,none⟩) kids.length cap)∧W.cell? ⟨w.heap.size+1,2,none⟩=some (.int .i64 (mf:Int))∧W.cell? ⟨kb,koff,none⟩=some (.int .i64 xop0)∧W.cell? ⟨kb,koff+1,none⟩=some (.string xmon0)∧W.cell? ⟨kb,koff+2,none⟩=some (.string xname0)∧W.cell? ⟨kb,koff+3,none⟩=some (.int .i64 xn0)∧W.cell? ⟨kb,koff+4,none⟩=some (.slice xad0 xkids0.length xcap0)∧W.cell? ⟨kb,koff+5,none⟩=some (.int .i64 xpos0)):=fun W hW=>by
  obtain ⟨f0,f1,f2,f3,f4,f5⟩:=(show ExBox W w.heap.size _ from hW.box bB1 hne (by decide)).cells
  have g:=hW.box bS1 hne1 (by decide)
  exact ⟨f4,cell_of' g 2,(hW.1.cell (p:=⟨kb,_,none⟩) hkb).trans a00,(hW.1.cell (p:=⟨kb,_,none⟩) hkb).trans a01,(hW.1.cell (p:=⟨kb,_,none⟩) hkb).trans a02,(hW.1.cell (p:=⟨kb,_,none⟩) hkb).trans a03,(hW.1.cell (p:=⟨kb,_,none⟩) hkb).trans a04,(hW.1.cell (p:=⟨kb,_,none⟩) hkb).trans a05⟩
 have HJ:Hid (∀ W,Kept b W1 W→W.cell? ⟨w.heap.size,4,none⟩=some (.slice (some ⟨kb,koff,none⟩) kids.length cap)∧W.cell? ⟨w.heap.size+1,3,none⟩=some (.int .i64 (ml:Int))∧W.cell? ⟨kb,koff+6,none⟩=some (.int .i64 xop1)∧W.cell? ⟨kb,koff+7,none⟩=some (.string xmon1)∧W.cell? ⟨kb,koff+8,none⟩=some (.string xname1)∧W.cell? ⟨kb,koff+9,none⟩=some (.int .i64 xn1)∧W.cell? ⟨kb,koff+10,none⟩=some (.slice xad1 xkids1.length xcap1)∧W.cell? ⟨kb,koff+11,none⟩=some (.int .i64 xpos1)):=fun W hW=>by
  obtain ⟨f0,f1,f2,f3,f4,f5⟩:=(show ExBox W w.heap.size _ from hW.box bB1 hne (by decide)).cells
  have g:=hW.box bS1 hne1 (by decide)
  exact ⟨f4,cell_of' g 3,(hW.1.cell (p:=⟨kb,_,none⟩) hkb).trans a10,(hW.1.cell (p:=⟨kb,_,none⟩) hkb).trans a11,(hW.1.cell (p:=⟨kb,_,none⟩) hkb).trans a12,(hW.1.cell (p:=⟨kb,_,none⟩) hkb).trans a13,(hW.1.cell (p:=⟨kb,_,none⟩) hkb).trans a14,(hW.1.cell (p:=⟨kb,_,none⟩) hkb).trans a15⟩
 clear a00 a01 a02 a03 a04 a05 a10 a11 a12 a13 a14 a15
 have hle0:(kids[0].txt mf).length≤100 * kids[0].subs.length+2:=by
  have h1:=bare_len kids[0] n₀ w (hIk _ (List.getElem_mem _)) (hoks _ (List.getElem_mem _))
  have h2:=atL_len mf kids[0].opOf kids[0].bare
  unfold Ex.txt;omega
 have hlay:∀ W,Sh b m o (t++kids[0].txt mf) W→Calls Tryz.prog 98 #[.pointer (some ⟨b,0,none⟩),.slice (some ⟨W.heap.size,0,none⟩) 1 1] (W.alloc (.cells #[.string mt] 9)) fun e w'=>e=.returned (.tuple #[])∧Sh b m o (t++kids[0].txt mf++mt.data.toList) w'∧Kept b W w':=fun W h=>by
  have:=lay_new [mt] b m o _ W h (by simp) (by simp only [cat,List.flatMap_cons,List.flatMap_nil,List.append_nil,List.length_append];omega)
  simpa [cat] using this
 have KK:=KK.drew
 have s1:=hs1.drew
 go_wp2_with fail
 go_region_held3 (fun W=>W.cell? ⟨w.heap.size,4,none⟩=some (.slice (some ⟨kb,koff,none⟩) kids.length cap)∧W.cell? ⟨w.heap.size+1,2,none⟩=some (.int .i64 (mf:Int))∧W.cell? ⟨kb,koff,none⟩=some (.int .i64 xop0)∧W.cell? ⟨kb,koff+1,none⟩=some (.string xmon0)∧W.cell? ⟨kb,koff+2,none⟩=some (.string xname0)∧W.cell? ⟨kb,koff+3,none⟩=some (.int .i64 xn0)∧W.cell? ⟨kb,koff+4,none⟩=some (.slice xad0 xkids0.length xcap0)∧W.cell? ⟨kb,koff+5,none⟩=some (.int .i64 xpos0)) (exact HK.out _ KK)
   ((go_at_call 55;refine (hc0 t _ mf KK s1 (by (try simp only [List.length_append]);omega)).mono ?_;rintro r u3 ⟨rfl,su3,ku3⟩;have KK:=KK.trans ku3))
 have m0b:=cell_of' (KK.box bS1 hne1 (by decide)) 0
 simp at m0b
 go_wp2_with (go_at_call 98;refine (hlay _ su3).mono ?_;rintro e w4 ⟨rfl,s4,k4⟩)
 have KK:=(KK.trans k4).drew
 have s4:=s4.drew
 go_wp2_with fail
 go_region_held3 (fun W=>W.cell? ⟨w.heap.size,4,none⟩=some (.slice (some ⟨kb,koff,none⟩) kids.length cap)∧W.cell? ⟨w.heap.size+1,3,none⟩=some (.int .i64 (ml:Int))∧W.cell? ⟨kb,koff+6,none⟩=some (.int .i64 xop1)∧W.cell? ⟨kb,koff+7,none⟩=some (.string xmon1)∧W.cell? ⟨kb,koff+8,none⟩=some (.string xname1)∧W.cell? ⟨kb,koff+9,none⟩=some (.int .i64 xn1)∧W.cell? ⟨kb,koff+10,none⟩=some (.slice xad1 xkids1.length xcap1)∧W.cell? ⟨kb,koff+11,none⟩=some (.int .i64 xpos1)) (exact HJ.out _ KK)
   ((go_at_call 55;refine (hc1 (t++kids[0].txt mf++mt.data.toList) _ ml KK s4 (by (try simp only [List.length_append]);omega)).mono ?_;rintro r u5 ⟨rfl,su5,ku5⟩;have KK:=KK.trans ku5))
 go_wp2
 go_end0
 exact ⟨rfl,by rw [HB2.out,← List.append_assoc,← List.append_assoc];exact su5,hK1.trans KK⟩
theorem expr_any (e:Ex):e.ok=true→ExprLays e:=by
 induction e using Ex.ind with
 | h op mon name n ad cap kids pos ih =>
  intro hok
  exact p_expr_of _ hok (bare_of _ hok (fun x hx=>ih x hx ((Ex.ok_mk hok).2 x hx)))
end Go.Proofs.YtaekbgljbgmchaaGreatDoor
namespace Go.Proofs.YtaekbgljbgmchaaGreatDoor
open Go.RowKit Px
theorem wrap_id (x:Int) (h1:-9223372036854775808≤x) (h2:x≤9223372036854775807):IntKind.i64.wrap x=x:=by
 rw [IntKind.wrap_i64];omega
set_option maxRecDepth 100000 in
set_option maxHeartbeats 4000000 in
theorem nest_any (e:Ex):∀ (n₀ m l:Nat) (w:World),n₀≤w.heap.size→e.Is n₀ w→SignsAt w m→e.subs.length≤1000000 →
  Calls Tryz.prog 54 #[.map (some m),e.val,.int .i64 (l:Int)] w fun r w'=>r=.returned (.int .i64 ((e.nest l:Nat):Int))∧Below w.heap.size w w':=by
 induction e using Ex.ind with
 | h op mon name n ad cap kids pos ih =>
 intro n₀ m l w hn hI hs hlen
 have hml:=hs.lt
 obtain ⟨mt,mo,mf,ml,hm⟩:∃ mt mo mf ml,sgnOf op=(mt,mo,mf,ml):=⟨_,_,_,_,rfl⟩
 have HM:=hid hm
 have hl0:∀ W,SignsAt W m→(Instr.lookup 91 (.map (some m)) (.int .i64 op) false).run Tryz.prog W=.ok (.agg #[.string mt,.int .i64 (mo:Int),.int .i64 (mf:Int),.int .i64 (ml:Int)]) W:=fun W h=>by
  rw [lookup_one h op,hm];rfl
 clear hm
 have bB:ExBox (w.alloc (.cells #[.int .i64 op,.string mon,.string name,.int .i64 n,.slice ad kids.length cap,.int .i64 pos] 25)) w.heap.size (.mk op mon name n ad cap kids pos):=ExBox.new w (.mk op mon name n ad cap kids pos)
 have hB0:Below n₀ w (w.alloc (.cells #[.int .i64 op,.string mon,.string name,.int .i64 n,.slice ad kids.length cap,.int .i64 pos] 25)):=(Below.refl _ w).al hn _
 have hB9:Below w.heap.size w (w.alloc (.cells #[.int .i64 op,.string mon,.string name,.int .i64 n,.slice ad kids.length cap,.int .i64 pos] 25)):=(Below.refl _ w).al le_rfl' _
 have hs0:=hs.below hB9 hml
 have hz0:(w.alloc (.cells #[.int .i64 op,.string mon,.string name,.int .i64 n,.slice ad kids.length cap,.int .i64 pos] 25)).heap.size=w.heap.size+1:=by simp
 have hIk:=hI.down.2.2
 have hsl:=hI.down.2.1
 have hl1:=hsl.1;have hl2:=hsl.2.1
 unfold maxLen at hl2
 rw [Ex.subs_mk,List.length_cons] at hlen
 simp only [Ex.val,Ex.cells]
 go_enter Tryz.func54,Tryz.ntmps54
 go_wp2_with fail
 obtain ⟨W0,hW0⟩:∃ W0,w.alloc (.cells #[.int .i64 op,.string mon,.string name,.int .i64 n,.slice ad kids.length cap,.int .i64 pos] 25)=W0:=⟨_,rfl⟩
 rw [hW0] at bB hB0 hB9 hs0 hz0 ⊢
 clear hW0
 obtain ⟨d0,d1,d2,d3,d4,d5⟩:=bB.cells
 have hq:=p_enclosed_any m op l W0 hs0
 cases henc:decide ((own op:Int) < l)
 ·rw [henc] at hq
  have HN:Hid (∀ ad:Option Addr,(Ex.mk op mon name n ad cap kids pos).nest l=0+(Ex.mk op mon name n ad cap kids pos).nst):=fun ad=>by
   have:=of_decide_eq_false henc
   rw [Ex.nest,nestL]
   show (if own op < l then 1 else 0)+_=_
   rw [if_neg (by omega)]
  clear henc
  by_cases hk1:kids.length=1
  ·have hk1b:((kids.length:Int) == 1)=true:=by rw [beq_iff_eq];omega
   have HKL:=hid hk1
   have hk0:0 < kids.length:=by omega
   have hk0':(0:Int) < (kids.length:Int):=by omega
   have hbk0:kids[0].subs.length≤1000000:=by have:=subs_one kids hk0;omega
   obtain ⟨kb,koff,rfl,hkb0,hrow0⟩:=hsl.2.2.resolve_left (by intro h;rw [h] at hk0;simp at hk0)
   clear hk1
   go_wp2_with (go_at_call 97;(refine hq.mono ?_;rintro e u1 ⟨rfl,B⟩;have hs1:=hs0.below B (by omega);have l1:=hl0 u1 hs1;have bB1:=bB.below B (by omega);obtain ⟨d0,d1,d2,d3,d4,d5⟩:=bB1.cells;have hz1:=B.size;have d4b:=fun o=>((bB1.below ((Below.refl _ u1).al le_rfl' o) (by omega)).cells).2.2.2.2.1))
   have hB:Below n₀ w (u1.alloc (.cells #[.string mt,.int .i64 (mo:Int),.int .i64 (mf:Int),.int .i64 (ml:Int)] 137)):=((hB0.trans (B.mono (by omega))).al hn _)
   have hB9:Below w.heap.size w (u1.alloc (.cells #[.string mt,.int .i64 (mo:Int),.int .i64 (mf:Int),.int .i64 (ml:Int)] 137)):=((hB9.trans (B.mono (by omega))).al le_rfl' _)
   have hs1:=hs1.below ((Below.refl _ u1).al le_rfl' (.cells #[.string mt,.int .i64 (mo:Int),.int .i64 (mf:Int),.int .i64 (ml:Int)] 137)) (by omega)
   have bB1:=bB1.below ((Below.refl _ u1).al le_rfl' (.cells #[.string mt,.int .i64 (mo:Int),.int .i64 (mf:Int),.int .i64 (ml:Int)] 137)) (by omega)
   have bS1:(u1.alloc (.cells #[.string mt,.int .i64 (mo:Int),.int .i64 (mf:Int),.int .i64 (ml:Int)] 137)).heap[u1.heap.size]?=some (.cells #[.string mt,.int .i64 (mo:Int),.int .i64 (mf:Int),.int .i64 (ml:Int)] 137 (0,0)):=heap_alloc_new u1 _
   have hzz:(u1.alloc (.cells #[.string mt,.int .i64 (mo:Int),.int .i64 (mf:Int),.int .i64 (ml:Int)] 137)).heap.size=u1.heap.size+1:=by simp
   obtain ⟨Bs,hBs⟩:∃ Bs,u1.heap.size=Bs:=⟨_,rfl⟩
   obtain ⟨W1,hW1⟩:∃ W1,u1.alloc (.cells #[.string mt,.int .i64 (mo:Int),.int .i64 (mf:Int),.int .i64 (ml:Int)] 137)=W1:=⟨_,rfl⟩
   rw [hW1] at hB hB9 hs1 bB1 bS1 hzz ⊢
   rw [hBs] at bS1 hzz hz1 ⊢
   have hkb:kb < W1.heap.size:=by omega
   have hrow:=hrow0.below hB hkb0
   clear hBs hW1 l1 d0 d1 d2 d3 d4 d5 d4b hq B
   rcases hx0:kids[0] with ⟨xop0,xmon0,xname0,xn0,xad0,xcap0,xkids0,xpos0⟩
   obtain ⟨y0,hy0⟩:∃ y,kids[0].nest ml=y:=⟨_,rfl⟩
   have hyl0:y0≤4000000:=by
    have h1:=nst_le kids[0]
    have h2:=hbk0
    rw [← hy0]
    unfold Ex.nest nestL
    split <;> omega
   have hc0:∀ (W:World),Below W1.heap.size W1 W→Calls Tryz.prog 54 #[.map (some m),.agg #[.int .i64 xop0,.string xmon0,.string xname0,.int .i64 xn0,.slice xad0 xkids0.length xcap0,.int .i64 xpos0],.int .i64 (ml:Int)] W fun r w'=>r=.returned (.int .i64 (y0:Int))∧Below W.heap.size W w':=fun W h1=>by
    have:=ih kids[0] (List.getElem_mem _) n₀ m ml W (by have:=h1.size;omega) ((hIk kids[0] (List.getElem_mem _)).below (hB.trans (h1.mono (by omega)))) (hs1.below h1 (by omega)) (by omega)
    rw [show kids[0].val=Value.agg #[.int .i64 xop0,.string xmon0,.string xname0,.int .i64 xn0,.slice xad0 xkids0.length xcap0,.int .i64 xpos0] by rw [hx0];rfl,hy0] at this
    exact this
   obtain ⟨a00,a01,a02,a03,a04,a05⟩:=row6 hrow 0 (by omega) (by rw [hx0];rfl)
   have HY0:=hid hy0
   clear hx0 hy0
   simp only [Nat.zero_mul,Nat.add_zero] at a00 a01 a02 a03 a04 a05
   have HK:Hid (∀ W,Below W1.heap.size W1 W→W.cell? ⟨w.heap.size,4,none⟩=some (.slice (some ⟨kb,koff,none⟩) kids.length cap)∧W.cell? ⟨Bs,2,none⟩=some (.int .i64 (mf:Int))∧W.cell? ⟨Bs,3,none⟩=some (.int .i64 (ml:Int))∧W.cell? ⟨kb,koff,none⟩=some (.int .i64 xop0)∧W.cell? ⟨kb,koff+1,none⟩=some (.string xmon0)∧W.cell? ⟨kb,koff+2,none⟩=some (.string xname0)∧W.cell? ⟨kb,koff+3,none⟩=some (.int .i64 xn0)∧W.cell? ⟨kb,koff+4,none⟩=some (.slice xad0 xkids0.length xcap0)∧W.cell? ⟨kb,koff+5,none⟩=some (.int .i64 xpos0)):=fun W hW=>by
    obtain ⟨f0,f1,f2,f3,f4,f5⟩:=(bB1.below hW (by omega)).cells
    have g:=(hW.block Bs (by omega)).trans bS1
    exact ⟨f4,cell_of' g 2,cell_of' g 3,(hW.cell (p:=⟨kb,_,none⟩) hkb).trans a00,(hW.cell (p:=⟨kb,_,none⟩) hkb).trans a01,(hW.cell (p:=⟨kb,_,none⟩) hkb).trans a02,(hW.cell (p:=⟨kb,_,none⟩) hkb).trans a03,(hW.cell (p:=⟨kb,_,none⟩) hkb).trans a04,(hW.cell (p:=⟨kb,_,none⟩) hkb).trans a05⟩
   have HZZ:=hid hzz
   clear a00 a01 a02 a03 a04 a05 hzz
   have B:=below_drewE (Below.refl W1.heap.size W1)
   have HR:Hid ((Ex.mk op mon name n (some ⟨kb,koff,none⟩) cap kids pos).nest l=0+(1+y0)):=by
    show _=_
    rw [HN.out,Ex.nst_mk,nestOf,if_pos (by rw [List.length_map];exact HKL.out),nkid_at kids 0 _ hk0,HM.out]
    show _+(1+kids[0].nest ml)=_
    rw [HY0.out]
   go_region_held3 (fun W=>W.cell? ⟨w.heap.size,4,none⟩=some (.slice (some ⟨kb,koff,none⟩) kids.length cap)∧W.cell? ⟨Bs,2,none⟩=some (.int .i64 (mf:Int))∧W.cell? ⟨Bs,3,none⟩=some (.int .i64 (ml:Int))∧W.cell? ⟨kb,koff,none⟩=some (.int .i64 xop0)∧W.cell? ⟨kb,koff+1,none⟩=some (.string xmon0)∧W.cell? ⟨kb,koff+2,none⟩=some (.string xname0)∧W.cell? ⟨kb,koff+3,none⟩=some (.int .i64 xn0)∧W.cell? ⟨kb,koff+4,none⟩=some (.slice xad0 xkids0.length xcap0)∧W.cell? ⟨kb,koff+5,none⟩=some (.int .i64 xpos0)) (exact HK.out _ B) ((go_at_call 54;with_reducible refine (hc0 _ B).mono ?_;rintro r u0 ⟨rfl,bb⟩;have B:=B.tr le_rfl' bb))
   go_wp2
   go_ret
   have e1:IntKind.i64.wrap (IntKind.i64.wrap (1+(y0:Int)))=((0+(1+y0):Nat):Int):=by rw [wrap_id (1+(y0:Int)) (by omega) (by omega),wrap_id _ (by omega) (by omega)];omega
   exact ⟨by rw [HR.out,← e1];rfl,hB9.trans (B.mono (by have:=HZZ.out;omega))⟩
  by_cases hk2:kids.length=2
  ·have hk1b:((kids.length:Int) == 1)=false:=by rw [beq_eq_false_iff_ne];omega
   have hk2b:((kids.length:Int) == 2)=true:=by rw [beq_iff_eq];omega
   have HKL:=hid hk2
   have hk0:0 < kids.length:=by omega
   have hk0':(0:Int) < (kids.length:Int):=by omega
   have hk1':(1:Int) < (kids.length:Int):=by omega
   have hkx:1 < kids.length:=by omega
   have hbk0:kids[0].subs.length≤1000000:=by have:=subs_both kids hkx;omega
   have hbk1:kids[1].subs.length≤1000000:=by have:=subs_both kids hkx;omega
   obtain ⟨kb,koff,rfl,hkb0,hrow0⟩:=hsl.2.2.resolve_left (by intro h;rw [h] at hk0;simp at hk0)
   clear hk2 hk1
   go_wp2_with (go_at_call 97;(refine hq.mono ?_;rintro e u1 ⟨rfl,B⟩;have hs1:=hs0.below B (by omega);have l1:=hl0 u1 hs1;have bB1:=bB.below B (by omega);obtain ⟨d0,d1,d2,d3,d4,d5⟩:=bB1.cells;have hz1:=B.size;have d4b:=fun o=>((bB1.below ((Below.refl _ u1).al le_rfl' o) (by omega)).cells).2.2.2.2.1))
   have hB:Below n₀ w (u1.alloc (.cells #[.string mt,.int .i64 (mo:Int),.int .i64 (mf:Int),.int .i64 (ml:Int)] 137)):=((hB0.trans (B.mono (by omega))).al hn _)
   have hB9:Below w.heap.size w (u1.alloc (.cells #[.string mt,.int .i64 (mo:Int),.int .i64 (mf:Int),.int .i64 (ml:Int)] 137)):=((hB9.trans (B.mono (by omega))).al le_rfl' _)
   have hs1:=hs1.below ((Below.refl _ u1).al le_rfl' (.cells #[.string mt,.int .i64 (mo:Int),.int .i64 (mf:Int),.int .i64 (ml:Int)] 137)) (by omega)
   have bB1:=bB1.below ((Below.refl _ u1).al le_rfl' (.cells #[.string mt,.int .i64 (mo:Int),.int .i64 (mf:Int),.int .i64 (ml:Int)] 137)) (by omega)
   have bS1:(u1.alloc (.cells #[.string mt,.int .i64 (mo:Int),.int .i64 (mf:Int),.int .i64 (ml:Int)] 137)).heap[u1.heap.size]?=some (.cells #[.string mt,.int .i64 (mo:Int),.int .i64 (mf:Int),.int .i64 (ml:Int)] 137 (0,0)):=heap_alloc_new u1 _
   have hzz:(u1.alloc (.cells #[.string mt,.int .i64 (mo:Int),.int .i64 (mf:Int),.int .i64 (ml:Int)] 137)).heap.size=u1.heap.size+1:=by simp
   obtain ⟨Bs,hBs⟩:∃ Bs,u1.heap.size=Bs:=⟨_,rfl⟩
   obtain ⟨W1,hW1⟩:∃ W1,u1.alloc (.cells #[.string mt,.int .i64 (mo:Int),.int .i64 (mf:Int),.int .i64 (ml:Int)] 137)=W1:=⟨_,rfl⟩
   rw [hW1] at hB hB9 hs1 bB1 bS1 hzz ⊢
   rw [hBs] at bS1 hzz hz1 ⊢
   have hkb:kb < W1.heap.size:=by omega
   have hrow:=hrow0.below hB hkb0
   clear hBs hW1 l1 d0 d1 d2 d3 d4 d5 d4b hq B
   rcases hx0:kids[0] with ⟨xop0,xmon0,xname0,xn0,xad0,xcap0,xkids0,xpos0⟩
   obtain ⟨y0,hy0⟩:∃ y,kids[0].nest mf=y:=⟨_,rfl⟩
   have hyl0:y0≤4000000:=by
    have h1:=nst_le kids[0]
    have h2:=hbk0
    rw [← hy0]
    unfold Ex.nest nestL
    split <;> omega
   have hc0:∀ (W:World),Below W1.heap.size W1 W→Calls Tryz.prog 54 #[.map (some m),.agg #[.int .i64 xop0,.string xmon0,.string xname0,.int .i64 xn0,.slice xad0 xkids0.length xcap0,.int .i64 xpos0],.int .i64 (mf:Int)] W fun r w'=>r=.returned (.int .i64 (y0:Int))∧Below W.heap.size W w':=fun W h1=>by
    have:=ih kids[0] (List.getElem_mem _) n₀ m mf W (by have:=h1.size;omega) ((hIk kids[0] (List.getElem_mem _)).below (hB.trans (h1.mono (by omega)))) (hs1.below h1 (by omega)) (by omega)
    rw [show kids[0].val=Value.agg #[.int .i64 xop0,.string xmon0,.string xname0,.int .i64 xn0,.slice xad0 xkids0.length xcap0,.int .i64 xpos0] by rw [hx0];rfl,hy0] at this
    exact this
   obtain ⟨a00,a01,a02,a03,a04,a05⟩:=row6 hrow 0 (by omega) (by rw [hx0];rfl)
   have HY0:=hid hy0
   clear hx0 hy0
   rcases hx1:kids[1] with ⟨xop1,xmon1,xname1,xn1,xad1,xcap1,xkids1,xpos1⟩
   obtain ⟨y1,hy1⟩:∃ y,kids[1].nest ml=y:=⟨_,rfl⟩
   have hyl1:y1≤4000000:=by
    have h1:=nst_le kids[1]
    have h2:=hbk1
    rw [← hy1]
    unfold Ex.nest nestL
    split <;> omega
   have hc1:∀ (W:World),Below W1.heap.size W1 W→Calls Tryz.prog 54 #[.map (some m),.agg #[.int .i64 xop1,.string xmon1,.string xname1,.int .i64 xn1,.slice xad1 xkids1.length xcap1,.int .i64 xpos1],.int .i64 (ml:Int)] W fun r w'=>r=.returned (.int .i64 (y1:Int))∧Below W.heap.size W w':=fun W h1=>by
    have:=ih kids[1] (List.getElem_mem _) n₀ m ml W (by have:=h1.size;omega) ((hIk kids[1] (List.getElem_mem _)).below (hB.trans (h1.mono (by omega)))) (hs1.below h1 (by omega)) (by omega)
    rw [show kids[1].val=Value.agg #[.int .i64 xop1,.string xmon1,.string xname1,.int .i64 xn1,.slice xad1 xkids1.length xcap1,.int .i64 xpos1] by rw [hx1];rfl,hy1] at this
    exact this
   obtain ⟨a10,a11,a12,a13,a14,a15⟩:=row6 hrow 1 (by omega) (by rw [hx1];rfl)
   have HY1:=hid hy1
   clear hx1 hy1
   simp only [Nat.zero_mul,Nat.one_mul,Nat.add_zero,Nat.add_assoc,Nat.reduceAdd] at a00 a01 a02 a03 a04 a05 a10 a11 a12 a13 a14 a15
   have HK:Hid (∀ W,Below W1.heap.size W1 W→W.cell? ⟨w.heap.size,4,none⟩=some (.slice (some ⟨kb,koff,none⟩) kids.length cap)∧W.cell? ⟨Bs,2,none⟩=some (.int .i64 (mf:Int))∧W.cell? ⟨Bs,3,none⟩=some (.int .i64 (ml:Int))∧W.cell? ⟨kb,koff,none⟩=some (.int .i64 xop0)∧W.cell? ⟨kb,koff+1,none⟩=some (.string xmon0)∧W.cell? ⟨kb,koff+2,none⟩=some (.string xname0)∧W.cell? ⟨kb,koff+3,none⟩=some (.int .i64 xn0)∧W.cell? ⟨kb,koff+4,none⟩=some (.slice xad0 xkids0.length xcap0)∧W.cell? ⟨kb,koff+5,none⟩=some (.int .i64 xpos0)∧W.cell? ⟨kb,koff+6,none⟩=some (.int .i64 xop1)∧W.cell? ⟨kb,koff+7,none⟩=some (.string xmon1)∧W.cell? ⟨kb,koff+8,none⟩=some (.string xname1)∧W.cell? ⟨kb,koff+9,none⟩=some (.int .i64 xn1)∧W.cell? ⟨kb,koff+10,none⟩=some (.slice xad1 xkids1.length xcap1)∧W.cell? ⟨kb,koff+11,none⟩=some (.int .i64 xpos1)):=fun W hW=>by
    obtain ⟨f0,f1,f2,f3,f4,f5⟩:=(bB1.below hW (by omega)).cells
    have g:=(hW.block Bs (by omega)).trans bS1
    exact ⟨f4,cell_of' g 2,cell_of' g 3,(hW.cell (p:=⟨kb,_,none⟩) hkb).trans a00,(hW.cell (p:=⟨kb,_,none⟩) hkb).trans a01,(hW.cell (p:=⟨kb,_,none⟩) hkb).trans a02,(hW.cell (p:=⟨kb,_,none⟩) hkb).trans a03,(hW.cell (p:=⟨kb,_,none⟩) hkb).trans a04,(hW.cell (p:=⟨kb,_,none⟩) hkb).trans a05,(hW.cell (p:=⟨kb,_,none⟩) hkb).trans a10,(hW.cell (p:=⟨kb,_,none⟩) hkb).trans a11,(hW.cell (p:=⟨kb,_,none⟩) hkb).trans a12,(hW.cell (p:=⟨kb,_,none⟩) hkb).trans a13,(hW.cell (p:=⟨kb,_,none⟩) hkb).trans a14,(hW.cell (p:=⟨kb,_,none⟩) hkb).trans a15⟩
   have HZZ:=hid hzz
   clear a00 a01 a02 a03 a04 a05 a10 a11 a12 a13 a14 a15 hzz
   have B:=below_drewE (Below.refl W1.heap.size W1)
   have HR:Hid ((Ex.mk op mon name n (some ⟨kb,koff,none⟩) cap kids pos).nest l=0+max y0 y1):=by
    show _=_
    rw [HN.out,Ex.nst_mk,nestOf,if_neg (by rw [List.length_map,HKL.out];omega),if_pos (by rw [List.length_map];exact HKL.out),nkid_at kids 0 _ hk0,nkid_at kids 1 _ hkx,HM.out]
    show _+max (kids[0].nest mf) (kids[1].nest ml)=_
    rw [HY0.out,HY1.out]
   go_region_held3 (fun W=>W.cell? ⟨w.heap.size,4,none⟩=some (.slice (some ⟨kb,koff,none⟩) kids.length cap)∧W.cell? ⟨Bs,2,none⟩=some (.int .i64 (mf:Int))∧W.cell? ⟨Bs,3,none⟩=some (.int .i64 (ml:Int))∧W.cell? ⟨kb,koff,none⟩=some (.int .i64 xop0)∧W.cell? ⟨kb,koff+1,none⟩=some (.string xmon0)∧W.cell? ⟨kb,koff+2,none⟩=some (.string xname0)∧W.cell? ⟨kb,koff+3,none⟩=some (.int .i64 xn0)∧W.cell? ⟨kb,koff+4,none⟩=some (.slice xad0 xkids0.length xcap0)∧W.cell? ⟨kb,koff+5,none⟩=some (.int .i64 xpos0)∧W.cell? ⟨kb,koff+6,none⟩=some (.int .i64 xop1)∧W.cell? ⟨kb,koff+7,none⟩=some (.string xmon1)∧W.cell? ⟨kb,koff+8,none⟩=some (.string xname1)∧W.cell? ⟨kb,koff+9,none⟩=some (.int .i64 xn1)∧W.cell? ⟨kb,koff+10,none⟩=some (.slice xad1 xkids1.length xcap1)∧W.cell? ⟨kb,koff+11,none⟩=some (.int .i64 xpos1)) (exact HK.out _ B) (first | (go_at_call 54;with_reducible refine (hc0 _ B).mono ?_;rintro r u0 ⟨rfl,bb⟩;have B:=B.tr le_rfl' bb) | (go_at_call 54;with_reducible refine (hc1 _ B).mono ?_;rintro r u1 ⟨rfl,bb⟩;have B:=B.tr le_rfl' bb))
   all_goals go_wp2
   all_goals go_ret
   all_goals have e1:IntKind.i64.wrap (max (y0:Int) y1)=((0+max y0 y1:Nat):Int):=by rw [wrap_id _ (by omega) (by omega)];omega
   all_goals exact ⟨by rw [HR.out,← e1];rfl,hB9.trans (B.mono (by have:=HZZ.out;omega))⟩
  ·have hk1b:((kids.length:Int) == 1)=false:=by rw [beq_eq_false_iff_ne];omega
   have hk2b:((kids.length:Int) == 2)=false:=by rw [beq_eq_false_iff_ne];omega
   have HR:Hid ((Ex.mk op mon name n ad cap kids pos).nest l=0):=by
    show _=_
    rw [HN.out,Ex.nst_mk,nestOf,if_neg (by rw [List.length_map];exact hk1),if_neg (by rw [List.length_map];exact hk2)]
   go_wp2_with (go_at_call 97;(refine hq.mono ?_;rintro e u1 ⟨rfl,B⟩;have hs1:=hs0.below B (by omega);have l1:=hl0 u1 hs1;have bB1:=bB.below B (by omega);obtain ⟨d0,d1,d2,d3,d4,d5⟩:=bB1.cells;have hz1:=B.size;have d4b:=fun o=>((bB1.below ((Below.refl _ u1).al le_rfl' o) (by omega)).cells).2.2.2.2.1))
   go_ret
   exact ⟨by rw [HR.out];rfl,(hB9.trans (B.mono (by omega))).al le_rfl' _⟩
 ·rw [henc] at hq
  have HN:Hid (∀ ad:Option Addr,(Ex.mk op mon name n ad cap kids pos).nest l=1+(Ex.mk op mon name n ad cap kids pos).nst):=fun ad=>by
   have:=of_decide_eq_true henc
   rw [Ex.nest,nestL]
   show (if own op < l then 1 else 0)+_=_
   rw [if_pos (by omega)]
  clear henc
  by_cases hk1:kids.length=1
  ·have hk1b:((kids.length:Int) == 1)=true:=by rw [beq_iff_eq];omega
   have HKL:=hid hk1
   have hk0:0 < kids.length:=by omega
   have hk0':(0:Int) < (kids.length:Int):=by omega
   have hbk0:kids[0].subs.length≤1000000:=by have:=subs_one kids hk0;omega
   obtain ⟨kb,koff,rfl,hkb0,hrow0⟩:=hsl.2.2.resolve_left (by intro h;rw [h] at hk0;simp at hk0)
   clear hk1
   go_wp2_with (go_at_call 97;(refine hq.mono ?_;rintro e u1 ⟨rfl,B⟩;have hs1:=hs0.below B (by omega);have l1:=hl0 u1 hs1;have bB1:=bB.below B (by omega);obtain ⟨d0,d1,d2,d3,d4,d5⟩:=bB1.cells;have hz1:=B.size;have d4b:=fun o=>((bB1.below ((Below.refl _ u1).al le_rfl' o) (by omega)).cells).2.2.2.2.1))
   have hB:Below n₀ w (u1.alloc (.cells #[.string mt,.int .i64 (mo:Int),.int .i64 (mf:Int),.int .i64 (ml:Int)] 137)):=((hB0.trans (B.mono (by omega))).al hn _)
   have hB9:Below w.heap.size w (u1.alloc (.cells #[.string mt,.int .i64 (mo:Int),.int .i64 (mf:Int),.int .i64 (ml:Int)] 137)):=((hB9.trans (B.mono (by omega))).al le_rfl' _)
   have hs1:=hs1.below ((Below.refl _ u1).al le_rfl' (.cells #[.string mt,.int .i64 (mo:Int),.int .i64 (mf:Int),.int .i64 (ml:Int)] 137)) (by omega)
   have bB1:=bB1.below ((Below.refl _ u1).al le_rfl' (.cells #[.string mt,.int .i64 (mo:Int),.int .i64 (mf:Int),.int .i64 (ml:Int)] 137)) (by omega)
   have bS1:(u1.alloc (.cells #[.string mt,.int .i64 (mo:Int),.int .i64 (mf:Int),.int .i64 (ml:Int)] 137)).heap[u1.heap.size]?=some (.cells #[.string mt,.int .i64 (mo:Int),.int .i64 (mf:Int),.int .i64 (ml:Int)] 137 (0,0)):=heap_alloc_new u1 _
   have hzz:(u1.alloc (.cells #[.string mt,.int .i64 (mo:Int),.int .i64 (mf:Int),.int .i64 (ml:Int)] 137)).heap.size=u1.heap.size+1:=by simp
   obtain ⟨Bs,hBs⟩:∃ Bs,u1.heap.size=Bs:=⟨_,rfl⟩
   obtain ⟨W1,hW1⟩:∃ W1,u1.alloc (.cells #[.string mt,.int .i64 (mo:Int),.int .i64 (mf:Int),.int .i64 (ml:Int)] 137)=W1:=⟨_,rfl⟩
   rw [hW1] at hB hB9 hs1 bB1 bS1 hzz ⊢
   rw [hBs] at bS1 hzz hz1 ⊢
   have hkb:kb < W1.heap.size:=by omega
   have hrow:=hrow0.below hB hkb0
   clear hBs hW1 l1 d0 d1 d2 d3 d4 d5 d4b hq B
   rcases hx0:kids[0] with ⟨xop0,xmon0,xname0,xn0,xad0,xcap0,xkids0,xpos0⟩
   obtain ⟨y0,hy0⟩:∃ y,kids[0].nest ml=y:=⟨_,rfl⟩
   have hyl0:y0≤4000000:=by
    have h1:=nst_le kids[0]
    have h2:=hbk0
    rw [← hy0]
    unfold Ex.nest nestL
    split <;> omega
   have hc0:∀ (W:World),Below W1.heap.size W1 W→Calls Tryz.prog 54 #[.map (some m),.agg #[.int .i64 xop0,.string xmon0,.string xname0,.int .i64 xn0,.slice xad0 xkids0.length xcap0,.int .i64 xpos0],.int .i64 (ml:Int)] W fun r w'=>r=.returned (.int .i64 (y0:Int))∧Below W.heap.size W w':=fun W h1=>by
    have:=ih kids[0] (List.getElem_mem _) n₀ m ml W (by have:=h1.size;omega) ((hIk kids[0] (List.getElem_mem _)).below (hB.trans (h1.mono (by omega)))) (hs1.below h1 (by omega)) (by omega)
    rw [show kids[0].val=Value.agg #[.int .i64 xop0,.string xmon0,.string xname0,.int .i64 xn0,.slice xad0 xkids0.length xcap0,.int .i64 xpos0] by rw [hx0];rfl,hy0] at this
    exact this
   obtain ⟨a00,a01,a02,a03,a04,a05⟩:=row6 hrow 0 (by omega) (by rw [hx0];rfl)
   have HY0:=hid hy0
   clear hx0 hy0
   simp only [Nat.zero_mul,Nat.add_zero] at a00 a01 a02 a03 a04 a05
   have HK:Hid (∀ W,Below W1.heap.size W1 W→W.cell? ⟨w.heap.size,4,none⟩=some (.slice (some ⟨kb,koff,none⟩) kids.length cap)∧W.cell? ⟨Bs,2,none⟩=some (.int .i64 (mf:Int))∧W.cell? ⟨Bs,3,none⟩=some (.int .i64 (ml:Int))∧W.cell? ⟨kb,koff,none⟩=some (.int .i64 xop0)∧W.cell? ⟨kb,koff+1,none⟩=some (.string xmon0)∧W.cell? ⟨kb,koff+2,none⟩=some (.string xname0)∧W.cell? ⟨kb,koff+3,none⟩=some (.int .i64 xn0)∧W.cell? ⟨kb,koff+4,none⟩=some (.slice xad0 xkids0.length xcap0)∧W.cell? ⟨kb,koff+5,none⟩=some (.int .i64 xpos0)):=fun W hW=>by
    obtain ⟨f0,f1,f2,f3,f4,f5⟩:=(bB1.below hW (by omega)).cells
    have g:=(hW.block Bs (by omega)).trans bS1
    exact ⟨f4,cell_of' g 2,cell_of' g 3,(hW.cell (p:=⟨kb,_,none⟩) hkb).trans a00,(hW.cell (p:=⟨kb,_,none⟩) hkb).trans a01,(hW.cell (p:=⟨kb,_,none⟩) hkb).trans a02,(hW.cell (p:=⟨kb,_,none⟩) hkb).trans a03,(hW.cell (p:=⟨kb,_,none⟩) hkb).trans a04,(hW.cell (p:=⟨kb,_,none⟩) hkb).trans a05⟩
   have HZZ:=hid hzz
   clear a00 a01 a02 a03 a04 a05 hzz
   have B:=below_drewE (Below.refl W1.heap.size W1)
   have HR:Hid ((Ex.mk op mon name n (some ⟨kb,koff,none⟩) cap kids pos).nest l=1+(1+y0)):=by
    show _=_
    rw [HN.out,Ex.nst_mk,nestOf,if_pos (by rw [List.length_map];exact HKL.out),nkid_at kids 0 _ hk0,HM.out]
    show _+(1+kids[0].nest ml)=_
    rw [HY0.out]
   go_region_held3 (fun W=>W.cell? ⟨w.heap.size,4,none⟩=some (.slice (some ⟨kb,koff,none⟩) kids.length cap)∧W.cell? ⟨Bs,2,none⟩=some (.int .i64 (mf:Int))∧W.cell? ⟨Bs,3,none⟩=some (.int .i64 (ml:Int))∧W.cell? ⟨kb,koff,none⟩=some (.int .i64 xop0)∧W.cell? ⟨kb,koff+1,none⟩=some (.string xmon0)∧W.cell? ⟨kb,koff+2,none⟩=some (.string xname0)∧W.cell? ⟨kb,koff+3,none⟩=some (.int .i64 xn0)∧W.cell? ⟨kb,koff+4,none⟩=some (.slice xad0 xkids0.length xcap0)∧W.cell? ⟨kb,koff+5,none⟩=some (.int .i64 xpos0)) (exact HK.out _ B) ((go_at_call 54;with_reducible refine (hc0 _ B).mono ?_;rintro r u0 ⟨rfl,bb⟩;have B:=B.tr le_rfl' bb))
   go_wp2
   go_ret
   have e1:IntKind.i64.wrap (1+IntKind.i64.wrap (1+(y0:Int)))=((1+(1+y0):Nat):Int):=by rw [wrap_id (1+(y0:Int)) (by omega) (by omega),wrap_id _ (by omega) (by omega)];omega
   exact ⟨by rw [HR.out,← e1];rfl,hB9.trans (B.mono (by have:=HZZ.out;omega))⟩
  by_cases hk2:kids.length=2
  ·have hk1b:((kids.length:Int) == 1)=false:=by rw [beq_eq_false_iff_ne];omega
   have hk2b:((kids.length:Int) == 2)=true:=by rw [beq_iff_eq];omega
   have HKL:=hid hk2
   have hk0:0 < kids.length:=by omega
   have hk0':(0:Int) < (kids.length:Int):=by omega
   have hk1':(1:Int) < (kids.length:Int):=by omega
   have hkx:1 < kids.length:=by omega
   have hbk0:kids[0].subs.length≤1000000:=by have:=subs_both kids hkx;omega
   have hbk1:kids[1].subs.length≤1000000:=by have:=subs_both kids hkx;omega
   obtain ⟨kb,koff,rfl,hkb0,hrow0⟩:=hsl.2.2.resolve_left (by intro h;rw [h] at hk0;simp at hk0)
   clear hk2 hk1
   go_wp2_with (go_at_call 97;(refine hq.mono ?_;rintro e u1 ⟨rfl,B⟩;have hs1:=hs0.below B (by omega);have l1:=hl0 u1 hs1;have bB1:=bB.below B (by omega);obtain ⟨d0,d1,d2,d3,d4,d5⟩:=bB1.cells;have hz1:=B.size;have d4b:=fun o=>((bB1.below ((Below.refl _ u1).al le_rfl' o) (by omega)).cells).2.2.2.2.1))
   have hB:Below n₀ w (u1.alloc (.cells #[.string mt,.int .i64 (mo:Int),.int .i64 (mf:Int),.int .i64 (ml:Int)] 137)):=((hB0.trans (B.mono (by omega))).al hn _)
   have hB9:Below w.heap.size w (u1.alloc (.cells #[.string mt,.int .i64 (mo:Int),.int .i64 (mf:Int),.int .i64 (ml:Int)] 137)):=((hB9.trans (B.mono (by omega))).al le_rfl' _)
   have hs1:=hs1.below ((Below.refl _ u1).al le_rfl' (.cells #[.string mt,.int .i64 (mo:Int),.int .i64 (mf:Int),.int .i64 (ml:Int)] 137)) (by omega)
   have bB1:=bB1.below ((Below.refl _ u1).al le_rfl' (.cells #[.string mt,.int .i64 (mo:Int),.int .i64 (mf:Int),.int .i64 (ml:Int)] 137)) (by omega)
   have bS1:(u1.alloc (.cells #[.string mt,.int .i64 (mo:Int),.int .i64 (mf:Int),.int .i64 (ml:Int)] 137)).heap[u1.heap.size]?=some (.cells #[.string mt,.int .i64 (mo:Int),.int .i64 (mf:Int),.int .i64 (ml:Int)] 137 (0,0)):=heap_alloc_new u1 _
   have hzz:(u1.alloc (.cells #[.string mt,.int .i64 (mo:Int),.int .i64 (mf:Int),.int .i64 (ml:Int)] 137)).heap.size=u1.heap.size+1:=by simp
   obtain ⟨Bs,hBs⟩:∃ Bs,u1.heap.size=Bs:=⟨_,rfl⟩
   obtain ⟨W1,hW1⟩:∃ W1,u1.alloc (.cells #[.string mt,.int .i64 (mo:Int),.int .i64 (mf:Int),.int .i64 (ml:Int)] 137)=W1:=⟨_,rfl⟩
   rw [hW1] at hB hB9 hs1 bB1 bS1 hzz ⊢
   rw [hBs] at bS1 hzz hz1 ⊢
   have hkb:kb < W1.heap.size:=by omega
   have hrow:=hrow0.below hB hkb0
   clear hBs hW1 l1 d0 d1 d2 d3 d4 d5 d4b hq B
   rcases hx0:kids[0] with ⟨xop0,xmon0,xname0,xn0,xad0,xcap0,xkids0,xpos0⟩
   obtain ⟨y0,hy0⟩:∃ y,kids[0].nest mf=y:=⟨_,rfl⟩
   have hyl0:y0≤4000000:=by
    have h1:=nst_le kids[0]
    have h2:=hbk0
    rw [← hy0]
    unfold Ex.nest nestL
    split <;> omega
   have hc0:∀ (W:World),Below W1.heap.size W1 W→Calls Tryz.prog 54 #[.map (some m),.agg #[.int .i64 xop0,.string xmon0,.string xname0,.int .i64 xn0,.slice xad0 xkids0.length xcap0,.int .i64 xpos0],.int .i64 (mf:Int)] W fun r w'=>r=.returned (.int .i64 (y0:Int))∧Below W.heap.size W w':=fun W h1=>by
    have:=ih kids[0] (List.getElem_mem _) n₀ m mf W (by have:=h1.size;omega) ((hIk kids[0] (List.getElem_mem _)).below (hB.trans (h1.mono (by omega)))) (hs1.below h1 (by omega)) (by omega)
    rw [show kids[0].val=Value.agg #[.int .i64 xop0,.string xmon0,.string xname0,.int .i64 xn0,.slice xad0 xkids0.length xcap0,.int .i64 xpos0] by rw [hx0];rfl,hy0] at this
    exact this
   obtain ⟨a00,a01,a02,a03,a04,a05⟩:=row6 hrow 0 (by omega) (by rw [hx0];rfl)
   have HY0:=hid hy0
   clear hx0 hy0
   rcases hx1:kids[1] with ⟨xop1,xmon1,xname1,xn1,xad1,xcap1,xkids1,xpos1⟩
   obtain ⟨y1,hy1⟩:∃ y,kids[1].nest ml=y:=⟨_,rfl⟩
   have hyl1:y1≤4000000:=by
    have h1:=nst_le kids[1]
    have h2:=hbk1
    rw [← hy1]
    unfold Ex.nest nestL
    split <;> omega
   have hc1:∀ (W:World),Below W1.heap.size W1 W→Calls Tryz.prog 54 #[.map (some m),.agg #[.int .i64 xop1,.string xmon1,.string xname1,.int .i64 xn1,.slice xad1 xkids1.length xcap1,.int .i64 xpos1],.int .i64 (ml:Int)] W fun r w'=>r=.returned (.int .i64 (y1:Int))∧Below W.heap.size W w':=fun W h1=>by
    have:=ih kids[1] (List.getElem_mem _) n₀ m ml W (by have:=h1.size;omega) ((hIk kids[1] (List.getElem_mem _)).below (hB.trans (h1.mono (by omega)))) (hs1.below h1 (by omega)) (by omega)
    rw [show kids[1].val=Value.agg #[.int .i64 xop1,.string xmon1,.string xname1,.int .i64 xn1,.slice xad1 xkids1.length xcap1,.int .i64 xpos1] by rw [hx1];rfl,hy1] at this
    exact this
   obtain ⟨a10,a11,a12,a13,a14,a15⟩:=row6 hrow 1 (by omega) (by rw [hx1];rfl)
   have HY1:=hid hy1
   clear hx1 hy1
   simp only [Nat.zero_mul,Nat.one_mul,Nat.add_zero,Nat.add_assoc,Nat.reduceAdd] at a00 a01 a02 a03 a04 a05 a10 a11 a12 a13 a14 a15
   have HK:Hid (∀ W,Below W1.heap.size W1 W→W.cell? ⟨w.heap.size,4,none⟩=some (.slice (some ⟨kb,koff,none⟩) kids.length cap)∧W.cell? ⟨Bs,2,none⟩=some (.int .i64 (mf:Int))∧W.cell? ⟨Bs,3,none⟩=some (.int .i64 (ml:Int))∧W.cell? ⟨kb,koff,none⟩=some (.int .i64 xop0)∧W.cell? ⟨kb,koff+1,none⟩=some (.string xmon0)∧W.cell? ⟨kb,koff+2,none⟩=some (.string xname0)∧W.cell? ⟨kb,koff+3,none⟩=some (.int .i64 xn0)∧W.cell? ⟨kb,koff+4,none⟩=some (.slice xad0 xkids0.length xcap0)∧W.cell? ⟨kb,koff+5,none⟩=some (.int .i64 xpos0)∧W.cell? ⟨kb,koff+6,none⟩=some (.int .i64 xop1)∧W.cell? ⟨kb,koff+7,none⟩=some (.string xmon1)∧W.cell? ⟨kb,koff+8,none⟩=some (.string xname1)∧W.cell? ⟨kb,koff+9,none⟩=some (.int .i64 xn1)∧W.cell? ⟨kb,koff+10,none⟩=some (.slice xad1 xkids1.length xcap1)∧W.cell? ⟨kb,koff+11,none⟩=some (.int .i64 xpos1)):=fun W hW=>by
    obtain ⟨f0,f1,f2,f3,f4,f5⟩:=(bB1.below hW (by omega)).cells
    have g:=(hW.block Bs (by omega)).trans bS1
    exact ⟨f4,cell_of' g 2,cell_of' g 3,(hW.cell (p:=⟨kb,_,none⟩) hkb).trans a00,(hW.cell (p:=⟨kb,_,none⟩) hkb).trans a01,(hW.cell (p:=⟨kb,_,none⟩) hkb).trans a02,(hW.cell (p:=⟨kb,_,none⟩) hkb).trans a03,(hW.cell (p:=⟨kb,_,none⟩) hkb).trans a04,(hW.cell (p:=⟨kb,_,none⟩) hkb).trans a05,(hW.cell (p:=⟨kb,_,none⟩) hkb).trans a10,(hW.cell (p:=⟨kb,_,none⟩) hkb).trans a11,(hW.cell (p:=⟨kb,_,none⟩) hkb).trans a12,(hW.cell (p:=⟨kb,_,none⟩) hkb).trans a13,(hW.cell (p:=⟨kb,_,none⟩) hkb).trans a14,(hW.cell (p:=⟨kb,_,none⟩) hkb).trans a15⟩
   have HZZ:=hid hzz
   clear a00 a01 a02 a03 a04 a05 a10 a11 a12 a13 a14 a15 hzz
   have B:=below_drewE (Below.refl W1.heap.size W1)
   have HR:Hid ((Ex.mk op mon name n (some ⟨kb,koff,none⟩) cap kids pos).nest l=1+max y0 y1):=by
    show _=_
    rw [HN.out,Ex.nst_mk,nestOf,if_neg (by rw [List.length_map,HKL.out];omega),if_pos (by rw [List.length_map];exact HKL.out),nkid_at kids 0 _ hk0,nkid_at kids 1 _ hkx,HM.out]
    show _+max (kids[0].nest mf) (kids[1].nest ml)=_
    rw [HY0.out,HY1.out]
   go_region_held3 (fun W=>W.cell? ⟨w.heap.size,4,none⟩=some (.slice (some ⟨kb,koff,none⟩) kids.length cap)∧W.cell? ⟨Bs,2,none⟩=some (.int .i64 (mf:Int))∧W.cell? ⟨Bs,3,none⟩=some (.int .i64 (ml:Int))∧W.cell? ⟨kb,koff,none⟩=some (.int .i64 xop0)∧W.cell? ⟨kb,koff+1,none⟩=some (.string xmon0)∧W.cell? ⟨kb,koff+2,none⟩=some (.string xname0)∧W.cell? ⟨kb,koff+3,none⟩=some (.int .i64 xn0)∧W.cell? ⟨kb,koff+4,none⟩=some (.slice xad0 xkids0.length xcap0)∧W.cell? ⟨kb,koff+5,none⟩=some (.int .i64 xpos0)∧W.cell? ⟨kb,koff+6,none⟩=some (.int .i64 xop1)∧W.cell? ⟨kb,koff+7,none⟩=some (.string xmon1)∧W.cell? ⟨kb,koff+8,none⟩=some (.string xname1)∧W.cell? ⟨kb,koff+9,none⟩=some (.int .i64 xn1)∧W.cell? ⟨kb,koff+10,none⟩=some (.slice xad1 xkids1.length xcap1)∧W.cell? ⟨kb,koff+11,none⟩=some (.int .i64 xpos1)) (exact HK.out _ B) (first | (go_at_call 54;with_reducible refine (hc0 _ B).mono ?_;rintro r u0 ⟨rfl,bb⟩;have B:=B.tr le_rfl' bb) | (go_at_call 54;with_reducible refine (hc1 _ B).mono ?_;rintro r u1 ⟨rfl,bb⟩;have B:=B.tr le_rfl' bb))
   all_goals go_wp2
   all_goals go_ret
   all_goals have e1:IntKind.i64.wrap (1+max (y0:Int) y1)=((1+max y0 y1:Nat):Int):=by rw [wrap_id _ (by omega) (by omega)];omega
   all_goals exact ⟨by rw [HR.out,← e1];rfl,hB9.trans (B.mono (by have:=HZZ.out;omega))⟩
  ·have hk1b:((kids.length:Int) == 1)=false:=by rw [beq_eq_false_iff_ne];omega
   have hk2b:((kids.length:Int) == 2)=false:=by rw [beq_eq_false_iff_ne];omega
   have HR:Hid ((Ex.mk op mon name n ad cap kids pos).nest l=1):=by
    show _=_
    rw [HN.out,Ex.nst_mk,nestOf,if_neg (by rw [List.length_map];exact hk1),if_neg (by rw [List.length_map];exact hk2)]
   go_wp2_with (go_at_call 97;(refine hq.mono ?_;rintro e u1 ⟨rfl,B⟩;have hs1:=hs0.below B (by omega);have l1:=hl0 u1 hs1;have bB1:=bB.below B (by omega);obtain ⟨d0,d1,d2,d3,d4,d5⟩:=bB1.cells;have hz1:=B.size;have d4b:=fun o=>((bB1.below ((Below.refl _ u1).al le_rfl' o) (by omega)).cells).2.2.2.2.1))
   go_ret
   exact ⟨by rw [HR.out];rfl,(hB9.trans (B.mono (by omega))).al le_rfl' _⟩
end Go.Proofs.YtaekbgljbgmchaaGreatDoor
