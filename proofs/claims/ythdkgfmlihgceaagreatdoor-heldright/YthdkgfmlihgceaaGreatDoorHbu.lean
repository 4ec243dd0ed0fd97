import Derived.Test.YthdkgfmlihgceaaGreatDoorProg
import Derived.WalkKit
import Derived.WalkSpells
import Derived.WalkLawsBesides
import Derived.ProofKit
import Derived.OpenShut
import Derived.RowKit3
import Derived.Below
import Derived.OwnWalk
import Derived.BigQuiet
import Derived.Deep.QuietTactic
import Derived.Deep.AppendLies
import Derived.Deep.AppendSrc
import Derived.Deep.RegionLaw
import Derived.Deep.RegionHeld3
import Derived.Deep.LoopGhost
import Derived.Deep.DeepCutAuto
import Derived.Deep.Cut
import Derived.MapKept
import Derived.ChangeMaps4
import Derived.Maps.RangeRun
import Derived.Maps.Range
namespace Go.Proofs.YthdkgfmlihgceaaGreatDoor
set_option maxRecDepth 100000
set_option maxHeartbeats 8000000
namespace Hd
open Go.RowKit
theorem hid {p:Prop}(h:p):Hid p:=h
theorem _root_.Go.RowKit.Below.al {nz:Nat}{A B:World}(h:Below nz A B) (hA:nz<=A.heap.size) (o:Obj):Below nz A (B.alloc o):=h.alloc (by have:=h.size;omega) o
theorem _root_.Go.RowKit.Below.tr {nz:Nat}{A B C:World}(h:Below nz A B) (hA:nz<=A.heap.size) (h2:Below B.heap.size B C):Below nz A C:=h.trans (h2.mono (by have:=h.size;omega))
theorem qaa {n:Nat}:n<=n:=Nat.le_refl n
def RowAt {α:Type}(size:Nat) (cells:α->List Value) (W:World) (b off:Nat) (l:List α):Prop:=∀(j:Nat) (h:j<l.length) (i:Nat),i<size->W.cell? ⟨b,off+j*size+i,none⟩=(cells l[j])[i]?
def SlAt {α:Type}(size:Nat) (cells:α->List Value) (nz:Nat) (W:World) (ad:Option Addr) (cap:Nat) (l:List α):Prop:=
 l.length<=cap/\cap<=maxLen/\(l=[]\/∃b off,ad=some ⟨b,off,none⟩/\b<nz/\RowAt size cells W b off l)
theorem RowAt.below {α:Type}{size:Nat}{cells:α->List Value}{nz:Nat}{W W':World}{b off:Nat}{l:List α}(h:RowAt size cells W b off l) (hb:Below nz W W') (hlt:b<nz):RowAt size cells W' b off l:=
 λj hj i hi=>(hb.cell (p:=⟨b,_,none⟩) hlt).trans (h j hj i hi)
theorem SlAt.below {α:Type}{size:Nat}{cells:α->List Value}{nz:Nat}{W W':World}{ad:Option Addr}{cap:Nat}{l:List α}(h:SlAt size cells nz W ad cap l) (hb:Below nz W W'):SlAt size cells nz W' ad cap l:=by
 obtain⟨h1,h2,h3⟩:=h
 refine⟨h1,h2,?_⟩
 rcases h3 with h3|⟨b,off,h4,h5,h6⟩
 ·exact .inl h3
 ·exact .inr ⟨b,off,h4,h5,h6.below hb h5⟩
theorem SlAt.mono {α:Type}{size:Nat}{cells:α->List Value}{nz n₁:Nat}{W:World}{ad:Option Addr}{cap:Nat}{l:List α}(h:SlAt size cells nz W ad cap l) (hn:nz<=n₁):SlAt size cells n₁ W ad cap l:=by
 obtain⟨h1,h2,h3⟩:=h
 refine⟨h1,h2,?_⟩
 rcases h3 with h3|⟨b,off,h4,h5,h6⟩
 ·exact .inl h3
 ·exact .inr ⟨b,off,h4,by omega,h6⟩
theorem cellOf {W:World}{B:Nat}{c:Array Value}{t:TypeId}{z:Nat × Nat}(h:W.heap[B]?=some (.cells c t z)) (i:Nat):W.cell? ⟨B,i,none⟩=c[i]?:=by
 simp[World.cell?,h]
theorem qaf (W:World) (o:Obj):(W.alloc o).heap[W.heap.size]?=some o:=(MapKept.heap_alloc W _).1
theorem qal (w:World) (a:Array Value) (s:TypeId):(w.alloc (.cells a s)).heap[w.heap.size]?=some (.cells a s (0,0))/\Below w.heap.size w (w.alloc (.cells a s))/\(w.alloc (.cells a s)).heap.size=w.heap.size+1:=
 ⟨qaf w _,(Below.refl _ w).al qaa _,by simp⟩
def I64 (n:Int):Prop:=-9223372036854775808<=n/\n<=9223372036854775807
def icell (z:Int):List Value:=[.int .i64 z]
def ints (l:List Int):List Value:=l.map (Value.int .i64 ·)
structure Eg where
 src:Int
 dst:Int
 kind:Int
 mon:Int
 var:Int
 op:Int
 s1:ByteArray
 s2:ByteArray
 k:Int
 kad:Option Addr
 kl:Nat
 kc:Nat
 epos:Int
 n:Int
 site:Int
 out:Int
 pos:Int
def Eg.cells (x:Eg):List Value:=[.int .i64 x.src,.int .i64 x.dst,.int .i64 x.kind,.int .i64 x.mon,.int .i64 x.var,.int .i64 x.op,.string x.s1,.string x.s2,.int .i64 x.k,.slice x.kad x.kl x.kc,.int .i64 x.epos,.int .i64 x.n,.int .i64 x.site,.int .i64 x.out,.int .i64 x.pos]
theorem qum {W:World}{b off:Nat}{l:List Eg}(h:RowAt 15 Eg.cells W b off l) (k:Nat) (hk:k<l.length) {x:Eg}(hx:l[k]=x) :
  W.cell? ⟨b,off+k*15,none⟩=some (.int .i64 x.src)/\W.cell? ⟨b,off+k*15+1,none⟩=some (.int .i64 x.dst)/\W.cell? ⟨b,off+k*15+2,none⟩=some (.int .i64 x.kind)/\W.cell? ⟨b,off+k*15+3,none⟩=some (.int .i64 x.mon)/\W.cell? ⟨b,off+k*15+4,none⟩=some (.int .i64 x.var)/\W.cell? ⟨b,off+k*15+5,none⟩=some (.int .i64 x.op)/\W.cell? ⟨b,off+k*15+6,none⟩=some (.string x.s1)/\W.cell? ⟨b,off+k*15+7,none⟩=some (.string x.s2)/\W.cell? ⟨b,off+k*15+8,none⟩=some (.int .i64 x.k)/\W.cell? ⟨b,off+k*15+9,none⟩=some (.slice x.kad x.kl x.kc)/\W.cell? ⟨b,off+k*15+10,none⟩=some (.int .i64 x.epos)/\W.cell? ⟨b,off+k*15+11,none⟩=some (.int .i64 x.n)/\W.cell? ⟨b,off+k*15+12,none⟩=some (.int .i64 x.site)/\W.cell? ⟨b,off+k*15+13,none⟩=some (.int .i64 x.out)/\W.cell? ⟨b,off+k*15+14,none⟩=some (.int .i64 x.pos):=by
 subst hx
 refine⟨?_,?_,?_,?_,?_,?_,?_,?_,?_,?_,?_,?_,?_,?_,?_⟩
 ·exact h k hk 0 (by omega)
 ·exact h k hk 1 (by omega)
 ·exact h k hk 2 (by omega)
 ·exact h k hk 3 (by omega)
 ·exact h k hk 4 (by omega)
 ·exact h k hk 5 (by omega)
 ·exact h k hk 6 (by omega)
 ·exact h k hk 7 (by omega)
 ·exact h k hk 8 (by omega)
 ·exact h k hk 9 (by omega)
 ·exact h k hk 10 (by omega)
 ·exact h k hk 11 (by omega)
 ·exact h k hk 12 (by omega)
 ·exact h k hk 13 (by omega)
 ·exact h k hk 14 (by omega)
structure Fl where
 name:ByteArray
 star:Bool
 locs:Int
 ead:Option Addr
 ecap:Nat
 es:List Eg
 gad:Option Addr
 gl:Nat
 gc:Nat
def Fl.cells (f:Fl):List Value:=[.string f.name,.bool f.star,.int .i64 f.locs,.slice f.ead f.es.length f.ecap,.slice f.gad f.gl f.gc]
def Fl.val (f:Fl):Value:=.agg f.cells.toArray
def Eg.Fine (x:Eg):Prop:=I64 x.src/\I64 x.dst/\I64 x.kind/\I64 x.mon
def Fl.Is (n:Nat) (W:World) (f:Fl):Prop:=SlAt 15 Eg.cells n W f.ead f.ecap f.es/\I64 f.locs/\∀x∈f.es,x.Fine
theorem Fl.Is.below {n:Nat}{W W':World}(hb:Below n W W') {f:Fl}(h:f.Is n W):f.Is n W':=⟨h.1.below hb,h.2⟩
theorem Fl.Is.mono {n m:Nat}{W:World}(hn:n<=m) {f:Fl}(h:f.Is n W):f.Is m W:=⟨h.1.mono hn,h.2⟩
theorem qe4 {P:Program}{e:TypeId}{z:Option Value}{s b:Nat}(h:(P.info? e).map (λi=>(i.zero,i.size,i.bytes))=some (z,s,b)):∃i,P.info? e=some i/\i.zero=z/\i.size=s/\i.bytes=b:=by
 cases hi:P.info? e with
 | none=>rw[hi] at h;cases h
 | some i =>
  rw[hi] at h
  simp only[Option.map_some,Option.some.injEq,Prod.mk.injEq] at h
  exact⟨i,rfl,h.1,h.2.1,h.2.2⟩
theorem info3:(Tryz.prog.info? 3).map (λi=>(i.zero,i.size,i.bytes))=some (some (.int .i64 0),1,8):=by kernel_rfl
theorem qBv:(Tryz.prog.info? 66).map (λi=>(i.zero,i.size,i.bytes))=some (some (.agg #[.int .i64 0,.int .i64 0]),2,16):=by kernel_rfl
theorem qaq {W W':World}{base size k:Nat}{e:TypeId}{v:Value}{xs:List Value}(h:W.ownsRow base e size v k xs) (hb:Below W.heap.size W W'):W'.ownsRow base e size v k xs:=by
 obtain⟨hl,⟨rfl,hn⟩|⟨g,cap,cur,rfl,hB,hh,hc,hm,hcs,hx⟩⟩:=h
 ·exact⟨hl,.inl ⟨rfl,hn⟩⟩
 ·exact⟨hl,.inr ⟨g,cap,cur,rfl,hB,(hb.block g (Array.getElem?_eq_some_iff.1 hh).1).trans hh,hc,hm,hcs,hx⟩⟩
theorem qjj {w:World}{base:Nat}{v:Value}{r:List Int}(h:w.ownsRow base 3 1 v r.length (ints r)):∃ad cp,v=.slice ad r.length cp/\SlAt 1 icell w.heap.size w ad cp r:=by
 have h0:=h
 obtain⟨hl,⟨rfl,hn⟩|⟨g,cap,cur,rfl,hB,hh,hc,hm,hcs,hx⟩⟩:=h
 ·have:r=[]:=List.eq_nil_of_length_eq_zero hn
  subst this
  exact⟨none,0,rfl,by simp,by unfold maxLen;omega,.inl rfl⟩
 ·refine⟨_,cap,rfl,hc,hm,.inr ⟨g,0,rfl,(Array.getElem?_eq_some_iff.1 hh).1,λj hj i hi=>?_⟩⟩
  have:=h0.cells (g:=g) rfl j (.int .i64 r[j]) (by rw[ints,List.getElem?_map,List.getElem?_eq_getElem hj];rfl)
  rw[Addr.add_lit] at this
  obtain rfl:i=0:=by omega
  simpa[icell] using this
def IMap (W:World) (k:Nat) (V:Int->Option Value):Prop:=∃es clock,W.heap[k]?=some (.map es clock)/\(∀x∈es.toList,MapKept.IsKey (.int .i64) x.key)/\MapKept.Stamped es clock/\∀n:Int,(∀x∈es.toList,x.key=.int .i64 n->V n=some x.val)/\((∀x∈es.toList,x.key≠.int .i64 n)->V n=none)
theorem IMap.lt {W:World}{k:Nat}{V:Int->Option Value}(h:IMap W k V):k<W.heap.size:=by
 obtain⟨es,c,h,_⟩:=h;exact (Array.getElem?_eq_some_iff.1 h).1
theorem IMap.kept {W W':World}{k:Nat}{V:Int->Option Value}(h:IMap W k V) (hb:W'.heap[k]?=W.heap[k]?):IMap W' k V:=by
 obtain⟨es,c,h1,h2⟩:=h;exact⟨es,c,hb.trans h1,h2⟩
theorem IMap.below {W W':World}{k n:Nat}{V:Int->Option Value}(h:IMap W k V) (hb:Below n W W') (hn:k<n):IMap W' k V:=h.kept (hb.block k hn)
theorem IMap.al {W:World}{k:Nat}{V:Int->Option Value}(h:IMap W k V) (o:Obj):IMap (W.alloc o) k V:=h.kept (Below.heap_alloc _ _ _ h.lt)
theorem IMap.grown {W W':World}{k:Nat}{V:Int->Option Value}{row:Option Nat}(h:IMap W k V) (hg:W.grownBy W' row) (hne:some k≠row):IMap W' k V:=h.kept (hg.block k h.lt hne)
theorem IMap.new (W:World):IMap (W.alloc (.map #[] 0)) W.heap.size (λ_=>none):=⟨#[],0,(MapKept.heap_alloc W _).1,by simp,MapKept.stamped_empty 0,λn=>⟨by simp,λ_=>rfl⟩⟩
theorem IMap.not_cells {W:World}{k:Nat}{V:Int->Option Value}(h:IMap W k V) {a:Array Value}{T:TypeId}{f:Nat × Nat}{j:Nat}(hj:W.heap[j]?=some (.cells a T f)):j≠k:=by
 obtain⟨es,c,h1,_⟩:=h
 rintro rfl
 rw[h1] at hj;cases hj
theorem qee (n:Int):MapKept.IsKey (.int .i64) (.int .i64 n):=rfl
theorem IMap.look {W:World}{k:Nat}{V:Int->Option Value}{T E:TypeId}{z:Value}(h:IMap W k V) (hT:Tryz.prog.underlying T=some (.map 3 E)) (hz:(zeroValue E).run Tryz.prog W=.ok z W) (n:Int) :
  (Instr.lookup T (.map (some k)) (.int .i64 n) false).run Tryz.prog W=.ok ((V n).getD z) W:=by
 obtain⟨es,c,hb,hks,-,h⟩:=h
 rcases MapKept.findNow_spec (qee n) es.toList 0 hks with ⟨h1,h2⟩|⟨j,e,h1,h2,h3⟩
 ·simp[Instr.lookup,run_underlying hT,MapKept.run_getObj_map hb,MapKept.run_checkKey Tryz.underlying3 (qee n),MapKept.run_findKey Tryz.underlying3 h1,Result.andThen,(h n).2 h2,hz]
 ·have:=(h n).1 e (List.mem_of_getElem? h2) h3
  simp[Instr.lookup,run_underlying hT,MapKept.run_getObj_map hb,MapKept.run_checkKey Tryz.underlying3 (qee n),MapKept.run_findKey Tryz.underlying3 h1,Result.andThen,this]
theorem IMap.look2 {W:World}{k:Nat}{V:Int->Option Value}{T E:TypeId}{z:Value}(h:IMap W k V) (hT:Tryz.prog.underlying T=some (.map 3 E)) (hz:(zeroValue E).run Tryz.prog W=.ok z W) (n:Int) :
  (Instr.lookup T (.map (some k)) (.int .i64 n) true).run Tryz.prog W=.ok (.tuple #[(V n).getD z,.bool (V n).isSome]) W:=by
 obtain⟨es,c,hb,hks,-,h⟩:=h
 rcases MapKept.findNow_spec (qee n) es.toList 0 hks with ⟨h1,h2⟩|⟨j,e,h1,h2,h3⟩
 ·simp[Instr.lookup,run_underlying hT,MapKept.run_getObj_map hb,MapKept.run_checkKey Tryz.underlying3 (qee n),MapKept.run_findKey Tryz.underlying3 h1,Result.andThen,(h n).2 h2,hz]
 ·have:=(h n).1 e (List.mem_of_getElem? h2) h3
  simp[Instr.lookup,run_underlying hT,MapKept.run_getObj_map hb,MapKept.run_checkKey Tryz.underlying3 (qee n),MapKept.run_findKey Tryz.underlying3 h1,Result.andThen,this]
def qxv (V:Int->Option Value) (n:Int) (v:Value):Int->Option Value:=λx=>if x=n then some v else V x
theorem qkj (V:Int->Option Value) (n:Int) (v:Value):qxv V n v n=some v:=if_pos rfl
theorem qgl (V:Int->Option Value) {n m:Int}(v:Value) (h:m≠n):qxv V n v m=V m:=if_neg h
theorem IMap.put {W:World}{k:Nat}{V:Int->Option Value}{T E:TypeId}(h:IMap W k V) (hT:Tryz.prog.underlying T=some (.map 3 E)) (n:Int) (v:Value) :
  ∃W',(Instr.mapUpdate T (.map (some k)) (.int .i64 n) v).run Tryz.prog W=.ok () W'/\IMap W' k (qxv V n v)/\W.grownBy W' (some k)/\W'.heap.size=W.heap.size:=by
 obtain⟨es,c,hb,hks,hst,h⟩:=h
 have hlt:=(Array.getElem?_eq_some_iff.1 hb).1
 have hg:∀o,W.grownBy { W with heap:=W.heap.setIfInBounds k o } (some k):=λo=>⟨rfl,rfl,rfl,by simp,λj _ hj=>by
  show (W.heap.setIfInBounds k _)[j]?=_
  rw[Array.getElem?_setIfInBounds_ne (λe=>hj (by rw[e]))]⟩
 rcases MapKept.findNow_spec (qee n) es.toList 0 hks with ⟨h1,h2⟩|⟨j,e,h1,h2,h3⟩
 ·refine⟨_,?_,?_,hg (.map (es.push ⟨.int .i64 n,v,c⟩) (c+1)),by simp⟩
  ·simp[Instr.mapUpdate,run_underlying hT,MapKept.run_getObj_map hb,MapKept.run_checkKey Tryz.underlying3 (qee n),MapKept.run_findKey Tryz.underlying3 h1,MapKept.run_setObj_map _ hb,Result.andThen]
  ·refine⟨es.push ⟨.int .i64 n,v,c⟩,c+1,by simp[hlt],?_,MapKept.stamped_push hst h2,?_⟩
   ·intro x hx
    rw[Array.toList_push,List.mem_append,List.mem_singleton] at hx
    rcases hx with hx|rfl
    ·exact hks x hx
    ·exact qee n
   ·intro m
    rw[Array.toList_push]
    constructor
    ·intro x hx he
     rw[List.mem_append,List.mem_singleton] at hx
     rcases hx with hx|rfl
     ·have hne:m≠n:=by rintro rfl;exact h2 x hx he
      rw[qgl _ _ hne];exact (h m).1 x hx he
     ·have hne:m=n:=by simpa using he.symm
      rw[hne,qkj]
    ·intro hx
     have hne:m≠n:=by rintro rfl;exact hx ⟨.int .i64 m,v,c⟩ (by simp) rfl
     rw[qgl _ _ hne]
     exact (h m).2 λx hx'=>hx x (List.mem_append.2 (.inl hx'))
 ·have hj:es[j]?=some e:=by rw[<- Array.getElem?_toList];exact h2
  have hkeys:(es.modify j λe=>{ e with key:=Value.int .i64 n,val:=v }).toList.map (·.key)=es.toList.map (·.key):=MapKept.modify_keys j _ λx hx=>by rw[hj] at hx;cases hx;exact h3.symm
  have hborn:(es.modify j λe=>{ e with key:=Value.int .i64 n,val:=v }).toList.map (·.born)=es.toList.map (·.born):=by
   apply List.ext_getElem?
   intro i
   rw[List.getElem?_map,List.getElem?_map,Array.toList_modify,List.getElem?_modify]
   by_cases hij:j=i
   ·subst hij;cases es.toList[j]? <;> simp
   ·simp[hij]
  have hst':MapKept.Stamped (es.modify j λe=>{ e with key:=Value.int .i64 n,val:=v }) c:=by
   obtain⟨g1,g2,g3⟩:=hst
   refine⟨λx hx=>?_,by rw[hborn];exact g2,by rw[hkeys];exact g3⟩
   have:x.born∈(es.modify j λe=>{ e with key:=Value.int .i64 n,val:=v }).toList.map (·.born):=List.mem_map.2 ⟨x,hx,rfl⟩
   rw[hborn] at this
   obtain⟨y,hy,hyb⟩:=List.mem_map.1 this
   rw[<- hyb];exact g1 y hy
  refine⟨_,?_,?_,hg (.map (es.modify j λe=>{ e with key:=.int .i64 n,val:=v }) c),by simp⟩
  ·simp[Instr.mapUpdate,run_underlying hT,MapKept.run_getObj_map hb,MapKept.run_checkKey Tryz.underlying3 (qee n),MapKept.run_findKey Tryz.underlying3 h1,hj,h3,MapKept.run_keyThatStays (qee n),MapKept.run_setObj_map _ hb,Result.andThen]
  ·have hmem:∀x∈(es.modify j λe=>{ e with key:=Value.int .i64 n,val:=v }).toList,(x.key=.int .i64 n/\x.val=v)\/(x∈es.toList/\x.key≠.int .i64 n):=by
    intro x hx
    obtain⟨i,hi⟩:=List.getElem?_of_mem hx
    rw[Array.toList_modify,List.getElem?_modify] at hi
    by_cases hij:j=i
    ·subst hij
     rw[h2] at hi
     simp at hi
     subst hi
     exact .inl ⟨rfl,rfl⟩
    ·have hi2:es.toList[i]?=some x:=by simpa[hij] using hi
     refine .inr ⟨List.mem_of_getElem? hi2,λhe=>?_⟩
     have g1:(es.toList.map (·.key))[i]?=some (.int .i64 n):=by rw[List.getElem?_map,hi2];simp[he]
     have g2:(es.toList.map (·.key))[j]?=some (.int .i64 n):=by rw[List.getElem?_map,h2];simp[h3]
     obtain⟨k1,k2⟩:=List.getElem?_eq_some_iff.1 g1
     obtain⟨k3,k4⟩:=List.getElem?_eq_some_iff.1 g2
     have hp:=List.pairwise_iff_getElem.1 hst.2.2
     rcases Nat.lt_or_gt_of_ne hij with hlt2|hlt2
     ·exact hp j i k3 k1 hlt2 (k4.trans k2.symm)
     ·exact hp i j k1 k3 hlt2 (k2.trans k4.symm)
   have hback:∀m:Int,(∀x∈(es.modify j λe=>{ e with key:=Value.int .i64 n,val:=v }).toList,x.key≠.int .i64 m)->∀x∈es.toList,x.key≠.int .i64 m:=by
    intro m hx y hy he
    have:Value.int .i64 m∈es.toList.map (·.key):=List.mem_map.2 ⟨y,hy,he⟩
    rw[<- hkeys] at this
    obtain⟨z,hz,hze⟩:=List.mem_map.1 this
    exact hx z hz hze
   refine⟨es.modify j λe=>{ e with key:=.int .i64 n,val:=v },c,by simp[hlt],?_,hst',?_⟩
   ·intro x hx
    rcases hmem x hx with ⟨g,_⟩|⟨g,_⟩
    ·rw[g];exact qee n
    ·exact hks x g
   ·intro m
    constructor
    ·intro x hx he
     rcases hmem x hx with ⟨g1,g2⟩|⟨g1,g2⟩
     ·have hne:m=n:=by rw[g1] at he;simpa using he.symm
      rw[hne,qkj,g2]
     ·have hne:m≠n:=by rintro rfl;exact g2 he
      rw[qgl _ _ hne];exact (h m).1 x g1 he
    ·intro hx
     have h5:=hback m hx
     have hne:m≠n:=by rintro rfl;exact h5 e (List.mem_of_getElem? h2) h3
     rw[qgl _ _ hne]
     exact (h m).2 h5
def IRan (W:World) (k r:Nat) (V:Int->Option Value) (left:Int->Prop) (cnt:Nat):Prop:=∃es clock since seen c0,W.heap[k]?=some (.map es clock)/\W.heap[r]?=some (.mapIter (some k) since seen c0)/\(∀x∈es.toList,MapKept.IsKey (.int .i64) x.key)/\MapKept.Stamped es clock/\(∀n:Int,(∀x∈es.toList,x.key=.int .i64 n->V n=some x.val)/\((∀x∈es.toList,x.key≠.int .i64 n)->V n=none))/\(∀x∈es.toList,x.born<since)/\since<=c0/\since<=clock/\(leftOf es seen).size=cnt /\
 (∀(n:Int),∀x∈es.toList,x.key=.int .i64 n->(left n↔seen.contains x.born=false))/\(∀n,left n->(V n).isSome=true)
theorem IRan.map {W:World}{k r:Nat}{V:Int->Option Value}{left:Int->Prop}{cnt:Nat}(h:IRan W k r V left cnt):IMap W k V:=by
 obtain⟨es,clock,since,seen,c0,h1,_,h2,h3,h4,_⟩:=h
 exact⟨es,clock,h1,h2,h3,h4⟩
theorem IRan.lt {W:World}{k r:Nat}{V:Int->Option Value}{left:Int->Prop}{cnt:Nat}(h:IRan W k r V left cnt):r<W.heap.size:=by
 obtain⟨es,clock,since,seen,c0,h1,h2,_⟩:=h
 exact (Array.getElem?_eq_some_iff.1 h2).1
theorem IRan.ne {W:World}{k r:Nat}{V:Int->Option Value}{left:Int->Prop}{cnt:Nat}(h:IRan W k r V left cnt):r≠k:=by
 obtain⟨es,clock,since,seen,c0,h1,h2,_⟩:=h
 rintro rfl
 rw[h1] at h2;cases h2
theorem IRan.kept {W W':World}{k r:Nat}{V:Int->Option Value}{left:Int->Prop}{cnt:Nat}(h:IRan W k r V left cnt) (hk:W'.heap[k]?=W.heap[k]?) (hr:W'.heap[r]?=W.heap[r]?):IRan W' k r V left cnt:=by
 obtain⟨es,clock,since,seen,c0,h1,h2,h3⟩:=h
 exact⟨es,clock,since,seen,c0,hk.trans h1,hr.trans h2,h3⟩
theorem IMap.range {W:World}{k:Nat}{V:Int->Option Value}{T E:TypeId}(h:IMap W k V) (hT:Tryz.prog.underlying T=some (.map 3 E)) :
  ∃W' cnt,(Instr.range T (.map (some k))).run Tryz.prog W=.ok (.pointer (some ⟨W.heap.size,0,none⟩)) W'/\IRan W' k W.heap.size V (λn=>(V n).isSome=true) cnt/\Below W.heap.size W W'/\W'.heap.size=W.heap.size+1:=by
 have hlt:=h.lt
 obtain⟨es,clock,hb,hks,hst,h⟩:=h
 refine⟨_,_,run_range_map W T 3 E k es clock hT hb,⟨es,clock,clock,#[],clock,(Below.heap_alloc _ _ _ hlt).trans hb,qaf W _,hks,hst,h,hst.1,Nat.le_refl _,Nat.le_refl _,rfl,λn x hx he=>?_,λn hn=>hn⟩,(Below.refl _ W).al qaa _,by simp⟩
 show (V n).isSome=true↔_
 rw[(h n).1 x hx he];simp
theorem IRan.next {W:World}{k r:Nat}{V:Int->Option Value}{left:Int->Prop}{cnt:Nat}(h:IRan W k r V left cnt) (ty:TypeId) :
  (cnt=0/\(∀n,¬ left n)/\(Instr.next (.pointer (some ⟨r,0,none⟩)) false ty).run Tryz.prog W=.ok (.tuple #[.bool false]) W) \/
  ∃(n:Int) (v:Value) (W':World) (cnt':Nat),left n/\V n=some v/\(Instr.next (.pointer (some ⟨r,0,none⟩)) false ty).run Tryz.prog W=.ok (.tuple #[.bool true,.int .i64 n,v]) W' /\
   IRan W' k r V (λm=>left m/\m≠n) cnt'/\cnt'<cnt/\W.grownBy W' (some r)/\W'.heap.size=W.heap.size/\(Instr.entry (.pointer (some ⟨r,0,none⟩))).run Tryz.prog W'=.ok (.tuple #[.int .i64 n,v]) W':=by
 have hne:=h.ne
 obtain⟨es,clock,since,seen,c0,hb,hr,hks,hst,h,hold,hs0,hsc,rfl,hl,hlV⟩:=h
 rcases run_next_at (P:=Tryz.prog) W ty r k since c0 seen es clock hr hb hold hs0 with ⟨h0,hrun⟩|⟨e,he,w1,hal,hrun⟩
 ·refine .inl ⟨h0,λn hn=>?_,hrun⟩
  have hV:=hlV n hn
  by_cases hx:∃x∈es.toList,x.key=.int .i64 n
  ·obtain⟨x,hx,hk⟩:=hx
   have:=(hl n x hx hk).1 hn
   have hs:=all_seen es seen h0 x hx
   rw[this] at hs;cases hs
  ·rw[(h n).2 (λx hx' hk=>hx ⟨x,hx',hk⟩)] at hV;cases hV
 ·obtain⟨hem,hes⟩:=mem_left he
  obtain⟨n,hn⟩:∃n,e.key=.int .i64 n:=by
   have:=hks e hem
   cases hk:e.key <;> rw[hk] at this <;> simp[MapKept.IsKey] at this
   subst this;exact⟨_,rfl⟩
  have hr1:w1.heap[r]?=some (.mapIter (some k) since seen c0):=by rcases hal with rfl|rfl <;> exact hr
  have hb1:w1.heap[k]?=some (.map es clock):=by rcases hal with rfl|rfl <;> exact hb
  have hset:=MapKept.heap_set (o':=.mapIter (some k) since (seen.push e.born) clock) hr1
  have hb':(ChangeMaps.setBlock w1 r (.mapIter (some k) since (seen.push e.born) clock)).heap[k]?=some (.map es clock):=(hset.2 k (λe1=>hne e1.symm)).trans hb1
  have hg:W.grownBy (ChangeMaps.setBlock w1 r (.mapIter (some k) since (seen.push e.born) clock)) (some r):=by
   have hw:w1.os=W.os/\w1.tape=W.tape/\w1.output=W.output/\w1.heap=W.heap:=by rcases hal with rfl|rfl <;> exact⟨rfl,rfl,rfl,rfl⟩
   refine⟨hw.1,hw.2.1,hw.2.2.1,by simp[ChangeMaps.setBlock,hw.2.2.2],λi _ hi=>?_⟩
   show (w1.heap.setIfInBounds r _)[i]?=_
   rw[Array.getElem?_setIfInBounds_ne (λe=>hi (by rw[e])),hw.2.2.2]
  have hsz:(ChangeMaps.setBlock w1 r (.mapIter (some k) since (seen.push e.born) clock)).heap.size=W.heap.size:=by
   rcases hal with rfl|rfl <;> simp[ChangeMaps.setBlock]
  have hV:V n=some e.val:=(h n).1 e hem hn
  rw[hn] at hrun
  refine .inr ⟨n,e.val,_,_,(hl n e hem hn).2 hes,hV,hrun,⟨es,clock,since,seen.push e.born,clock,hb',hset.1,hks,hst,h,hold,hsc,hsc,rfl,λm x hx hk=>?_,λm hm=>hlV m hm.1⟩,?_,hg,hsz,?_⟩
  ·have hborn:(x.born=e.born)↔m=n:=by
    constructor
    ·intro hbb
     have:=born_inj hst.2.1 hx hem hbb
     rw[this,hn] at hk;simpa using hk.symm
    ·rintro rfl
     have:=entry_eq_of_key ((MapKept.stamped_iff es clock).1 hst).2.2 hx hem (hk.trans hn.symm)
     rw[this]
   have e1:(seen.push e.born).contains x.born=(seen.contains x.born || (x.born==e.born)):=by
    rw[contains_push]
   rw[e1,Bool.or_eq_false_iff,<- hl m x hx hk]
   constructor
   ·rintro⟨h1,h2⟩
    exact⟨h1,by rw[beq_eq_false_iff_ne];exact λg=>h2 (hborn.1 g)⟩
   ·rintro⟨h1,h2⟩
    exact⟨h1,λg=>by rw[hborn.2 g] at h2;simp at h2⟩
  ·exact left_shrinks es seen e he
  ·have:=run_entry_at (P:=Tryz.prog) (ChangeMaps.setBlock w1 r (.mapIter (some k) since (seen.push e.born) clock)) r k since seen es clock e hset.1 hb' hem hst.2.1
   rw[hn] at this
   exact this
end Hd
namespace Hd
def behB (o:List Int) (x:Eg):Bool:=if x.kind=5 then decide (1<=o.getD x.mon.toNat 0) else true
def behL (o:List Int) (x:Eg):List Int:=
 if x.kind=4 then o.set x.mon.toNat (o.getD x.mon.toNat 0+1) else if x.kind=5 then o.set x.mon.toNat (o.getD x.mon.toNat 0-1) else o
theorem qet (o:List Int) (x:Eg):(behL o x).length=o.length:=by
 unfold behL;split
 ·simp
 ·split <;> simp
structure Con (N:Nat) (es:List Eg) (G:Int->Option (List Int)):Prop where
 zero:G 0=some (List.replicate N 0)
 next:∀x∈es,∀o,G x.src=some o->behB o x=true/\G x.dst=some (behL o x)
inductive Reach (es:List Eg):Int->Prop
 | zero:Reach es 0
 | next (x:Eg) (hx:x∈es) (h:Reach es x.src):Reach es x.dst
structure Lst (N:Nat) (es:List Eg) (G:Int->Option (List Int)):Prop where
 con:Con N es G
 only:∀k,(G k).isSome=true->Reach es k
theorem Con.reach {N:Nat}{es:List Eg}{G:Int->Option (List Int)}(h:Con N es G) {k:Int}(hk:Reach es k):∃o,G k=some o/\o.length=N:=by
 induction hk with
 | zero=>exact⟨_,h.zero,by simp⟩
 | next x hx _ ih =>
  obtain⟨o,ho,hl⟩:=ih
  exact⟨_,(h.next x hx o ho).2,by rw[qet,hl]⟩
theorem Con.same {N:Nat}{es:List Eg}{G G':Int->Option (List Int)}(h:Con N es G) (h':Con N es G') {k:Int}(hk:Reach es k):G k=G' k:=by
 induction hk with
 | zero=>rw[h.zero,h'.zero]
 | next x hx hr ih =>
  obtain⟨o,ho,_⟩:=h.reach hr
  rw[(h.next x hx o ho).2,(h'.next x hx o (ih▸ho)).2]
theorem Lst.same {N:Nat}{es:List Eg}{G G':Int->Option (List Int)}(h:Lst N es G) (h':Lst N es G'):G=G':=by
 funext k
 by_cases hk:Reach es k
 ·exact h.con.same h'.con hk
 ·have h1:G k=none:=by
   cases e:G k with
   | none=>rfl
   | some o=>exact absurd (h.only k (by rw[e];rfl)) hk
  have h2:G' k=none:=by
   cases e:G' k with
   | none=>rfl
   | some o=>exact absurd (h'.only k (by rw[e];rfl)) hk
  rw[h1,h2]
def rowsOf (G:Int->Option (List Int)) (locs:Nat):List (List Int):=(List.range locs).map λ(k:Nat)=>(G (k:Int)).getD []
open Classical in
noncomputable def qli (N locs:Nat) (es:List Eg):Option (List (List Int)):=if h:∃G,Lst N es G then some (rowsOf h.choose locs) else none
theorem heldV_some {N locs:Nat}{es:List Eg}{G:Int->Option (List Int)}(h:Lst N es G):qli N locs es=some (rowsOf G locs):=by
 have hx:∃G,Lst N es G:=⟨G,h⟩
 unfold qli
 rw[dif_pos hx,Lst.same hx.choose_spec h]
theorem qqi {N locs:Nat}{es:List Eg}(h:¬ ∃G,Con N es G):qli N locs es=none:=by
 unfold qli
 rw[dif_neg (λ⟨G,hG⟩=>h ⟨G,hG.con⟩)]
theorem Con.lst {N:Nat}{es:List Eg}{G:Int->Option (List Int)}(h:Con N es G):∃G',Lst N es G'/\∀k o,G' k=some o->G k=some o:=by
 classical
 refine⟨λk=>if Reach es k then G k else none,⟨⟨?_,?_⟩,?_⟩,?_⟩
 ·show (if _ then _ else _)=_
  rw[if_pos .zero];exact h.zero
 ·intro x hx o ho
  have ho':(if Reach es x.src then G x.src else none)=some o:=ho
  by_cases hr:Reach es x.src
  ·rw[if_pos hr] at ho'
   refine⟨(h.next x hx o ho').1,?_⟩
   show (if _ then _ else _)=_
   rw[if_pos (.next x hx hr)];exact (h.next x hx o ho').2
  ·rw[if_neg hr] at ho';cases ho'
 ·intro k hk
  have hk':(if Reach es k then G k else none).isSome=true:=hk
  by_cases hr:Reach es k
  ·exact hr
  ·rw[if_neg hr] at hk';cases hk'
 ·intro k o ho
  have ho':(if Reach es k then G k else none)=some o:=ho
  by_cases hr:Reach es k
  ·rwa [if_pos hr] at ho'
  ·rw[if_neg hr] at ho';cases ho'
structure Bi (N:Nat) (es:List Eg) (F:Int->Option (List Int)) (l:List Int) (D:Eg->Prop):Prop where
 zero:F 0=some (List.replicate N 0)
 mem:∀k,(F k).isSome=true↔k∈l
 nodup:l.Nodup
 pos:1<=l.length
 reach:∀k∈l,Reach es k
 all:∀G,Con N es G->∀k o,F k=some o->G k=some o
 size:∀k o,F k=some o->o.length=N/\∀v∈o,0<=v/\v<(l.length:Int)
 src:∀x∈es,D x->(F x.src).isSome=true
 done:∀x∈es,D x->∀o,F x.src=some o->behB o x=true/\F x.dst=some (behL o x)
theorem Bi.first (N:Nat) (es:List Eg):Bi N es (λk=>if k=0 then some (List.replicate N 0) else none) [0] (λ_=>False):=by
 refine⟨rfl,λk=>?_,by simp,by simp,λk hk=>?_,λG hG k o ho=>?_,λk o ho=>?_,λ_ _ h=>h.elim,λ_ _ h=>h.elim⟩
 ·by_cases h:k=0 <;> simp[h]
 ·rw[List.mem_singleton.1 hk];exact .zero
 ·by_cases h:k=0
  ·subst h;simp at ho;subst ho;exact hG.zero
  ·simp[h] at ho
 ·by_cases h:k=0
  ·subst h;simp at ho;subst ho
   exact⟨by simp,λv hv=>by rw[(List.mem_replicate.1 hv).2];simp⟩
  ·simp[h] at ho
variable {N:Nat}{es:List Eg}{F:Int->Option (List Int)}{l:List Int}{D:Eg->Prop}
theorem Bi.bad (h:Bi N es F l D) {x:Eg}(hx:x∈es) {o:List Int}(ho:F x.src=some o) (hb:behB o x=false):¬ ∃G,Con N es G:=by
 rintro⟨G,hG⟩
 have:=(hG.next x hx o (h.all G hG _ _ ho)).1
 rw[hb] at this;cases this
theorem Bi.clash (h:Bi N es F l D) {x:Eg}(hx:x∈es) {o o':List Int}(ho:F x.src=some o) (hd:F x.dst=some o') (hne:o'≠behL o x):¬ ∃G,Con N es G:=by
 rintro⟨G,hG⟩
 have h1:=(hG.next x hx o (h.all G hG _ _ ho)).2
 rw[h.all G hG _ _ hd] at h1
 exact hne (by simpa using h1)
theorem Bi.more (h:Bi N es F l D) {x:Eg}{o:List Int}(ho:F x.src=some o) (hb:behB o x=true) (hd:F x.dst=some (behL o x)):Bi N es F l (λy=>D y\/y=x):=by
 refine⟨h.zero,h.mem,h.nodup,h.pos,h.reach,h.all,h.size,λy hy hD=>?_,λy hy hD q hq=>?_⟩
 ·rcases hD with hD|rfl
  ·exact h.src y hy hD
  ·rw[ho];rfl
 rcases hD with hD|rfl
 ·exact h.done y hy hD q hq
 ·rw[ho] at hq;obtain rfl:=Option.some.inj hq
  exact⟨hb,hd⟩
theorem Bi.weak {D':Eg->Prop}(h:Bi N es F l D) (hD:∀x∈es,D' x->D x):Bi N es F l D':=
 ⟨h.zero,h.mem,h.nodup,h.pos,h.reach,h.all,h.size,λy hy hy'=>h.src y hy (hD y hy hy'),λy hy hy'=>h.done y hy (hD y hy hy')⟩
def upF (F:Int->Option (List Int)) (k:Int) (o:List Int):Int->Option (List Int):=λj=>if j=k then some o else F j
theorem qi2 {o:List Int}{x:Eg}{b:Int}(hm:∀v∈o,0<=v/\v<b) (hb:behB o x=true):∀v∈behL o x,0<=v/\v<b+1:=by
 have hg:∀i,i<o.length->0<=o.getD i 0/\o.getD i 0<b:=λi hi=>by
  have e:o.getD i 0=o[i]:=by simp[hi]
  rw[e];exact hm _ (List.getElem_mem hi)
 intro v hv
 unfold behL at hv
 split at hv
 ·by_cases hi:x.mon.toNat<o.length
  ·rcases List.mem_or_eq_of_mem_set hv with hv|rfl
   ·have:=hm v hv;omega
   ·have:=hg _ hi;omega
  ·rw[List.set_eq_of_length_le (by omega)] at hv
   have:=hm v hv;omega
 ·split at hv
  ·rename_i h4 h5
   simp only[behB,if_pos h5,decide_eq_true_eq] at hb
   by_cases hi:x.mon.toNat<o.length
   ·rcases List.mem_or_eq_of_mem_set hv with hv|rfl
    ·have:=hm v hv;omega
    ·have:=hg _ hi;omega
   ·rw[List.set_eq_of_length_le (by omega)] at hv
    have:=hm v hv;omega
  ·have:=hm v hv;omega
theorem Bi.grow (h:Bi N es F l D) {x:Eg}(hx:x∈es) {o:List Int}(ho:F x.src=some o) (hb:behB o x=true) (hd:F x.dst=none):Bi N es (upF F x.dst (behL o x)) (l++[x.dst]) (λy=>D y\/y=x):=by
 have hnm:x.dst ∉ l:=λhm=>by have:=(h.mem x.dst).2 hm;rw[hd] at this;cases this
 have hsz:=h.size _ _ ho
 have hne:x.src≠x.dst:=λe=>by rw[e,hd] at ho;cases ho
 have h0:(0:Int)≠x.dst:=λe=>by have:=h.zero;rw[e,hd] at this;cases this
 have hlen:((l++[x.dst]).length:Int)=l.length+1:=by simp
 refine⟨?_,λk=>?_,?_,by simp,λk hk=>?_,λG hG k q hq=>?_,λk q hq=>?_,λy hy hD=>?_,λy hy hD q hq=>?_⟩
 ·show (if _ then _ else _)=_
  rw[if_neg h0];exact h.zero
 ·unfold upF
  by_cases e:k=x.dst
  ·simp[e]
  ·rw[if_neg e]
   rw[h.mem k];simp[e]
 ·exact List.nodup_append.2 ⟨h.nodup,by simp,λa ha c hc=>by simp at hc;rintro rfl;exact hnm (hc▸ha)⟩
 ·rcases List.mem_append.1 hk with hk|hk
  ·exact h.reach k hk
  ·rw[List.mem_singleton.1 hk]
   exact .next x hx (h.reach _ ((h.mem _).1 (by rw[ho];rfl)))
 ·unfold upF at hq
  by_cases e:k=x.dst
  ·rw[if_pos e] at hq;obtain rfl:=Option.some.inj hq
   rw[e];exact (hG.next x hx o (h.all G hG _ _ ho)).2
  ·rw[if_neg e] at hq;exact h.all G hG _ _ hq
 ·unfold upF at hq
  by_cases e:k=x.dst
  ·rw[if_pos e] at hq;obtain rfl:=Option.some.inj hq
   exact⟨by rw[qet];exact hsz.1,λv hv=>by rw[hlen];exact qi2 hsz.2 hb v hv⟩
  ·rw[if_neg e] at hq
   have:=h.size _ _ hq
   exact⟨this.1,λv hv=>by rw[hlen];have:=this.2 v hv;omega⟩
 ·show (if _ then _ else _:Option (List Int)).isSome=true
  by_cases e:y.src=x.dst
  ·rw[if_pos e];rfl
  ·rw[if_neg e]
   rcases hD with hD|rfl
   ·exact h.src y hy hD
   ·rw[ho];rfl
 ·have hq':(if y.src=x.dst then some (behL o x) else F y.src)=some q:=hq
  have hys:(F y.src).isSome=true:=by
   rcases hD with hD|rfl
   ·exact h.src y hy hD
   ·rw[ho];rfl
  have e:y.src≠x.dst:=λe=>by rw[e,hd] at hys;cases hys
  rw[if_neg e] at hq'
  have hk:∀k q',F k=some q'->upF F x.dst (behL o x) k=some q':=λk q' hk=>by
   show (if _ then _ else _)=_
   rw[if_neg (λe=>by rw[e,hd] at hk;cases hk)];exact hk
  rcases hD with hD|rfl
  ·have:=h.done y hy hD q hq'
   exact⟨this.1,hk _ _ this.2⟩
  ·rw[ho] at hq';obtain rfl:=Option.some.inj hq'
   exact⟨hb,by show (if _ then _ else _)=_;rw[if_pos rfl]⟩
theorem Bi.end (h:Bi N es F l D) (hD:∀x∈es,x.src∈l->D x):Lst N es F:=
 ⟨⟨h.zero,λx hx o ho=>h.done x hx (hD x hx ((h.mem _).1 (by rw[ho];rfl))) o ho⟩,λk hk=>h.reach k ((h.mem k).1 hk)⟩
end Hd
namespace Hd
open Go.RowKit
def qms (a n:Int):Bool:=decide (0<=a)&&decide (a<n)
def hasM (k:Int):Bool:=decide (4<=k)&&decide (k<=8)
theorem isPl_iff {a n:Int}:qms a n=true↔0<=a/\a<n:=by simp[qms]
theorem hasM_iff {k:Int}:hasM k=true↔4<=k/\k<=8:=by simp[hasM]
theorem qdn {x y:Bool}(h:x=y):Ending.returned (.bool x)=.returned (.bool y):=by rw[h]
theorem qd4 (a n:Int) (w:World):Calls Tryz.prog 25 #[.int .i64 a,.int .i64 n] w λr w'=>r=.returned (.bool (qms a n))/\w'=w:=by
 have HB:=hid (show qms a n=(decide (0<=a)&&decide (a<n)) from rfl)
 by_cases h0:0<=a
 ·have hd:decide (0<=a)=true:=by simpa using h0
  rw[hd,Bool.true_and] at HB
  go_enter Tryz.func25,Tryz.ntmps25
  go_wp2
  go_ret
  exact⟨qdn HB.out.symm,rfl⟩
 ·have hd:decide (0<=a)=false:=by simpa using h0
  rw[hd,Bool.false_and] at HB
  go_enter Tryz.func25,Tryz.ntmps25
  go_wp2
  go_ret
  exact⟨qdn HB.out.symm,rfl⟩
theorem qiv (k:Int) (w:World):Calls Tryz.prog 38 #[.int .i64 k] w λr w'=>r=.returned (.bool (hasM k))/\w'=w:=by
 have HB:=hid (show hasM k=true↔4<=k/\k<=8 from hasM_iff)
 by_cases h4:k=4
 ·subst h4
  go_enter Tryz.func38,Tryz.ntmps38
  go_wp2
  go_ret
  exact⟨qdn rfl,rfl⟩
 by_cases h5:k=5
 ·subst h5
  go_enter Tryz.func38,Tryz.ntmps38
  go_wp2
  go_ret
  exact⟨qdn rfl,rfl⟩
 by_cases h6:k=6
 ·subst h6
  go_enter Tryz.func38,Tryz.ntmps38
  go_wp2
  go_ret
  exact⟨qdn rfl,rfl⟩
 by_cases h7:k=7
 ·subst h7
  go_enter Tryz.func38,Tryz.ntmps38
  go_wp2
  go_ret
  exact⟨qdn rfl,rfl⟩
 by_cases h8:k=8
 ·subst h8
  go_enter Tryz.func38,Tryz.ntmps38
  go_wp2
  go_ret
  exact⟨qdn rfl,rfl⟩
 have HF:Hid (hasM k=false):=by
  show _=_
  cases h:hasM k
  ·rfl
  ·have:=HB.out.1 h;omega
 clear HB
 go_enter Tryz.func38,Tryz.ntmps38
 go_wp2
 go_ret
 exact⟨qdn HF.out.symm,rfl⟩
end Hd
namespace Hd
open Go.RowKit
def edgeOk (locs mons:Int) (x:Eg):Bool:=qms x.src locs&&qms x.dst locs&&(!hasM x.kind || qms x.mon mons)
def sizesOk (locs mons:Int):Bool:=decide (1<=locs)&&decide (locs<=600)&&decide (0<=mons)&&decide (mons<=8)
def soundF (f:Fl) (mons:Int):Bool:=sizesOk f.locs mons&&f.es.all (edgeOk f.locs mons)
def Eg.val (x:Eg):Value:=.agg x.cells.toArray
theorem qri (x:Eg) (locs mons:Int) (bF bM:Nat) (w:World) (hF:w.cell? ⟨bF,2,none⟩=some (.int .i64 locs)) (hM:w.cell? ⟨bM,0,none⟩=some (.int .i64 mons)) (lF:bF<w.heap.size) (lM:bM<w.heap.size) :
  Calls Tryz.prog 37 #[x.val,.pointer (some ⟨bF,0,none⟩),.pointer (some ⟨bM,0,none⟩)] w λr w'=>r=.returned (.bool (!edgeOk locs mons x))/\Below w.heap.size w w':=by
 rcases x with ⟨src,dst,kind,mon,var,op,s1,s2,k,kad,kl,kc,epos,n,site,out,pos⟩
 simp only[Eg.val,Eg.cells]
 have HE:=hid (show edgeOk locs mons ⟨src,dst,kind,mon,var,op,s1,s2,k,kad,kl,kc,epos,n,site,out,pos⟩=(qms src locs&&qms dst locs&&(!hasM kind || qms mon mons)) from rfl)
 have q1:=λW=>qd4 src locs W
 have q2:=λW=>qd4 dst locs W
 have q3:=λW=>qiv kind W
 have q4:=λW=>qd4 mon mons W
 have hB:=(Below.refl w.heap.size w).al qaa (.cells #[.int .i64 src,.int .i64 dst,.int .i64 kind,.int .i64 mon,.int .i64 var,.int .i64 op,.string s1,.string s2,.int .i64 k,.slice kad kl kc,.int .i64 epos,.int .i64 n,.int .i64 site,.int .i64 out,.int .i64 pos] 50)
 generalize qms src locs=b1 at q1 HE
 generalize qms dst locs=b2 at q2 HE
 generalize hasM kind=b3 at q3 HE
 generalize qms mon mons=b4 at q4 HE
 cases b1 <;> cases b2 <;> cases b3 <;> cases b4
 all_goals
  go_enter Tryz.func37,Tryz.ntmps37
  go_wp2_with (first
   | (go_at_call 25;(with_reducible refine (q1 _).mono ?_);rintro r w' ⟨rfl,hw'⟩;have hw2:=hw'.symm;subst hw2)
   | (go_at_call 25;(with_reducible refine (q2 _).mono ?_);rintro r w' ⟨rfl,hw'⟩;have hw2:=hw'.symm;subst hw2)
   | (go_at_call 25;(with_reducible refine (q4 _).mono ?_);rintro r w' ⟨rfl,hw'⟩;have hw2:=hw'.symm;subst hw2)
   | (go_at_call 38;(with_reducible refine (q3 _).mono ?_);rintro r w' ⟨rfl,hw'⟩;have hw2:=hw'.symm;subst hw2))
  go_ret
  exact⟨qdn (by rw[HE.out];rfl),hB⟩
end Hd
namespace Hd
open Go.RowKit
def qed (locs mons:Int) (l:List Eg):Bool:=l.any λx=>!edgeOk locs mons x
theorem qmy (locs mons:Int) (l:List Eg) (k:Nat) (h:k<l.length):qed locs mons (l.take (k+1))=(qed locs mons (l.take k) || !edgeOk locs mons l[k]):=by
 rw[List.take_succ_eq_append_getElem h];simp only[qed,List.any_append,List.any_cons,List.any_nil,Bool.or_false]
theorem qsb (locs mons:Int) (l:List Eg) (k:Nat) (h:k<l.length) (hb:edgeOk locs mons l[k]=false):qed locs mons l=true:=
 List.any_eq_true.2 ⟨l[k],List.getElem_mem h,by rw[hb];rfl⟩
theorem qpw (locs mons:Int) (l:List Eg):l.all (edgeOk locs mons)=!qed locs mons l:=by
 induction l with
 | nil=>rfl
 | cons x l ih=>rw[List.all_cons,ih,qed,qed,List.any_cons,Bool.not_or,Bool.not_not]
def qr0 (b:Bool) (w:World) (r:Ending) (w':World):Prop:=(∃i:Int,r=.returned (.int .i64 i)/\decide (0<=i)=b)/\Below w.heap.size w w'
theorem qd1 (es:List Eg) (ad:Option Addr) (cap nz:Nat) (locs mons:Int) (bF bM:Nat) (w:World) (hn:nz<=w.heap.size) (hsl:SlAt 15 Eg.cells nz w ad cap es) (hF:w.cell? ⟨bF,2,none⟩=some (.int .i64 locs)) (hM:w.cell? ⟨bM,0,none⟩=some (.int .i64 mons)) (lF:bF<w.heap.size) (lM:bM<w.heap.size) :
  Calls Tryz.prog 51 #[.slice ad es.length cap,.func (.func 37) #[] #[.pointer (some ⟨bF,0,none⟩),.pointer (some ⟨bM,0,none⟩)]] w λr w'=>qr0 (qed locs mons es) w r w':=by
 have hl1:=hsl.1;have hl2:=hsl.2.1
 unfold maxLen at hl2
 have hq:=λ(x:Eg) (W:World) (h1:W.cell? ⟨bF,2,none⟩=some (.int .i64 locs)) (h2:W.cell? ⟨bM,0,none⟩=some (.int .i64 mons)) (h3:bF<W.heap.size) (h4:bM<W.heap.size)=>qri x locs mons bF bM W h1 h2 h3 h4
 go_enter Tryz.func51,Tryz.ntmps51
 go_wp2
 go_loopw [8] (λi wr=>∃k:Nat,k<=es.length/\i=.int .i64 k/\Hid (qed locs mons (es.take k)=false)/\Below w.heap.size w wr)
  (λi _=>es.length-(intOf i).toNat)
 case atStart=>exact⟨0,by omega,rfl,rfl,Below.refl _ _⟩
 case round =>
  obtain⟨k,hk,rfl,HK,hbw⟩:=hrel
  have hzw:=hbw.size
  by_cases hlt:k<es.length
  ·rcases hsl.2.2 with h|⟨eb,eoff,rfl,hen,herow⟩
   ·subst h;simp at hlt
   have hr2:=herow.below (hbw.mono hn) hen
   have hF2:=(hbw.cell (p:=⟨bF,2,none⟩) lF).trans hF
   have hM2:=(hbw.cell (p:=⟨bM,0,none⟩) lM).trans hM
   have HS:=hid (qmy locs mons es k hlt)
   have HA:=hid (qsb locs mons es k hlt)
   have hew:eb<wr.heap.size:=by omega
   rcases hx:es[k] with ⟨src,dst,kind,mon,var,op,s1,s2,kk,kad,kl,kc,epos,n,site,out,pos⟩
   obtain⟨d0,d1,d2,d3,d4,d5,d6,d7,d8,d9,d10,d11,d12,d13,d14⟩:=qum hr2 k hlt hx
   rw[hx] at HS HA
   have hq2:=λW (hW:Below wr.heap.size wr W)=>hq ⟨src,dst,kind,mon,var,op,s1,s2,kk,kad,kl,kc,epos,n,site,out,pos⟩ W ((hW.cell (p:=⟨bF,2,none⟩) (by show bF<_;omega)).trans hF2) ((hW.cell (p:=⟨bM,0,none⟩) (by show bM<_;omega)).trans hM2) (by have:=hW.size;omega) (by have:=hW.size;omega)
   simp only[Eg.val,Eg.cells] at hq2 d0 d1 d2 d3 d4 d5 d6 d7 d8 d9 d10 d11 d12 d13 d14
   have hq3:=hq2 wr (Below.refl _ _)
   obtain⟨b,hb⟩:∃b,edgeOk locs mons ⟨src,dst,kind,mon,var,op,s1,s2,kk,kad,kl,kc,epos,n,site,out,pos⟩=b:=⟨_,rfl⟩
   rw[hb] at hq3 HS HA
   clear hb hx hq2 hq hsl herow hr2 hF2 hM2 hF hM
   cases b
   ·have HA2:=hid (HA.out rfl)
    go_wp2_with (go_at_call 37;(with_reducible refine hq3.mono ?_);rintro r w1 ⟨rfl,hb1⟩)
    go_ret
    exact⟨⟨_,rfl,by rw[HA2.out];simp⟩,hbw.tr qaa hb1⟩
   ·have HS2:Hid (qed locs mons (es.take (k+1))=false):=by show _=_;rw[HS.out,HK.out];rfl
    clear HA HS HK
    go_wp2_with (go_at_call 37;(with_reducible refine hq3.mono ?_);rintro r w1 ⟨rfl,hb1⟩)
    go_roundw
    case rel=>exact⟨k+1,by omega,by go_num,HS2,hbw.tr qaa hb1⟩
    case measure=>simp[intOf];omega
  ·have hkd:decide ((k:Int)<(es.length:Int))=false:=by simp;omega
   have HE:Hid (qed locs mons es=false):=by
    have:=HK.out
    rwa [List.take_of_length_le (by omega)] at this
   go_wp2
   go_ret
   exact⟨⟨_,rfl,by rw[HE.out];rfl⟩,hbw⟩
theorem qcp (es:List Eg) (ad:Option Addr) (cap nz:Nat) (locs mons:Int) (bF bM:Nat) (w:World) (hn:nz<=w.heap.size) (hsl:SlAt 15 Eg.cells nz w ad cap es) (hF:w.cell? ⟨bF,2,none⟩=some (.int .i64 locs)) (hM:w.cell? ⟨bM,0,none⟩=some (.int .i64 mons)) (lF:bF<w.heap.size) (lM:bM<w.heap.size) :
  Calls Tryz.prog 36 #[.slice ad es.length cap,.func (.func 37) #[] #[.pointer (some ⟨bF,0,none⟩),.pointer (some ⟨bM,0,none⟩)]] w λr w'=>r=.returned (.bool (qed locs mons es))/\Below w.heap.size w w':=by
 have hq:=qd1 es ad cap nz locs mons bF bM w hn hsl hF hM lF lM
 go_enter Tryz.func36,Tryz.ntmps36
 go_wp2_with (go_at_call 51;(with_reducible refine hq.mono ?_);rintro r w1 ⟨⟨i,rfl,hi⟩,hb⟩;have HI:=hid hi;clear hi)
 go_ret
 exact⟨qdn HI.out,hb⟩
def qkw (f:Fl) (mons:Int) (w w':World) (r:Ending):Prop:=r=.returned (.bool (soundF f mons))/\Below w.heap.size w w'
theorem qnr (f:Fl) (mons:Int) (nz:Nat) (w:World) (hn:nz<=w.heap.size) (hf:f.Is nz w) :
  Calls Tryz.prog 20 #[f.val,.int .i64 mons] w λr w'=>qkw f mons w w' r:=by
 rcases f with ⟨name,star,locs,ead,ecap,es,gad,gl,gc⟩
 obtain⟨hsl,hlo,hfi⟩:=hf
 simp only at hsl hlo hfi
 simp only[Fl.val,Fl.cells]
 have HS:=hid (show soundF ⟨name,star,locs,ead,ecap,es,gad,gl,gc⟩ mons=(sizesOk locs mons&&es.all (edgeOk locs mons)) from rfl)
 rw[qpw] at HS
 have HZ:=hid (show sizesOk locs mons=(decide (1<=locs)&&decide (locs<=600)&&decide (0<=mons)&&decide (mons<=8)) from rfl)
 have hB1:=(Below.refl w.heap.size w).al qaa (.cells #[.string name,.bool star,.int .i64 locs,.slice ead es.length ecap,.slice gad gl gc] 43)
 have hB:=hB1.al qaa (.cells #[.int .i64 mons] 3)
 by_cases h1:1<=locs
 ·by_cases h2:locs<=600
  ·by_cases h3:0<=mons
   ·by_cases h4:mons<=8
    ·have HZ2:Hid (sizesOk locs mons=true):=by show _=_;rw[HZ.out];simp[h1,h2,h3,h4]
     clear HZ
     have c0:((w.alloc (.cells #[.string name,.bool star,.int .i64 locs,.slice ead es.length ecap,.slice gad gl gc] 43)).alloc (.cells #[.int .i64 mons] 3)).cell? ⟨w.heap.size,2,none⟩=some (.int .i64 locs):=by
      have e1:=((Below.refl _ (w.alloc (.cells #[.string name,.bool star,.int .i64 locs,.slice ead es.length ecap,.slice gad gl gc] 43))).al qaa (.cells #[.int .i64 mons] 3)).cell (p:=⟨w.heap.size,2,none⟩) (by show w.heap.size<_;rw[World.size_alloc];omega)
      exact e1.trans (cellOf (qaf w _) 2)
     have c1:((w.alloc (.cells #[.string name,.bool star,.int .i64 locs,.slice ead es.length ecap,.slice gad gl gc] 43)).alloc (.cells #[.int .i64 mons] 3)).cell? ⟨w.heap.size+1,0,none⟩=some (.int .i64 mons):=by
      have:=cellOf (qaf (w.alloc (.cells #[.string name,.bool star,.int .i64 locs,.slice ead es.length ecap,.slice gad gl gc] 43)) (.cells #[.int .i64 mons] 3)) 0
      rw[World.size_alloc] at this
      rw[this];rfl
     have hq:=qcp es ead ecap nz locs mons w.heap.size (w.heap.size+1) ((w.alloc (.cells #[.string name,.bool star,.int .i64 locs,.slice ead es.length ecap,.slice gad gl gc] 43)).alloc (.cells #[.int .i64 mons] 3)) (by rw[World.size_alloc,World.size_alloc];omega) (hsl.below (hB.mono hn)) c0 c1 (by rw[World.size_alloc,World.size_alloc];omega) (by rw[World.size_alloc,World.size_alloc];omega)
     clear c0 c1 hsl hfi
     go_enter Tryz.func20,Tryz.ntmps20
     go_wp2_with (go_at_call 36;(with_reducible refine hq.mono ?_);rintro r w1 ⟨rfl,hb⟩)
     go_ret
     exact⟨qdn (by rw[HS.out,HZ2.out];rfl),hB.tr qaa hb⟩
    ·have HZ2:Hid (sizesOk locs mons=false):=by show _=_;rw[HZ.out];simp[h4]
     have hd:¬ mons<=8:=h4
     clear HZ
     go_enter Tryz.func20,Tryz.ntmps20
     go_wp2
     go_ret
     exact⟨qdn (by rw[HS.out,HZ2.out];rfl),hB⟩
   ·have HZ2:Hid (sizesOk locs mons=false):=by show _=_;rw[HZ.out];simp[h3]
    clear HZ
    go_enter Tryz.func20,Tryz.ntmps20
    go_wp2
    go_ret
    exact⟨qdn (by rw[HS.out,HZ2.out];rfl),hB⟩
  ·have HZ2:Hid (sizesOk locs mons=false):=by show _=_;rw[HZ.out];simp[h2]
   clear HZ
   go_enter Tryz.func20,Tryz.ntmps20
   go_wp2
   go_ret
   exact⟨qdn (by rw[HS.out,HZ2.out];rfl),hB⟩
 ·have HZ2:Hid (sizesOk locs mons=false):=by show _=_;rw[HZ.out];simp[h1]
  clear HZ
  go_enter Tryz.func20,Tryz.ntmps20
  go_wp2
  go_ret
  exact⟨qdn (by rw[HS.out,HZ2.out];rfl),hB⟩
end Hd
namespace Hd
open Go.RowKit
theorem qtk {α:Type}{l:List α}(h:l.length=8):∃a b c d e f g i,l=[a,b,c,d,e,f,g,i]:=by
 match l,h with
 | [a,b,c,d,e,f,g,i],_=>exact⟨a,b,c,d,e,f,g,i,rfl⟩
theorem eight {m:Int}(h0:0<=m) (h8:m<8):m=0\/m=1\/m=2\/m=3\/m=4\/m=5\/m=6\/m=7:=by omega
theorem below_drewN {nz:Nat}{A B:World}(h:Below nz A B) (n:Nat):Below nz A (B.drewN n):=h.trans ⟨rfl,rfl,rfl,Nat.le_refl _,λ_ _=>rfl⟩
def qhf (o:List Int) (x:Eg) (w w':World) (r:Ending):Prop:=r=.returned (.tuple #[.agg (ints (behL o x)).toArray,.bool (behB o x)])/\Below w.heap.size w w'
theorem qky (o0 o1 o2 o3 o4 o5 o6 o7:Int) (x:Eg) (w:World) (hk:x.kind=4) (hm0:0<=x.mon) (hm8:x.mon<8) (ho:∀v∈[o0,o1,o2,o3,o4,o5,o6,o7],0<=v/\v<1000) :
  Calls Tryz.prog 39 #[.agg (ints [o0,o1,o2,o3,o4,o5,o6,o7]).toArray,x.val] w λr w'=>qhf [o0,o1,o2,o3,o4,o5,o6,o7] x w w' r:=by
 rcases x with ⟨src,dst,kind,mon,var,op,s1,s2,k,kad,kl,kc,epos,n,site,out,pos⟩
 simp only at hk hm0 hm8
 subst hk
 simp only[Eg.val,Eg.cells,ints,List.map_cons,List.map_nil]
 have b0:=ho o0 (by simp);have b1:=ho o1 (by simp);have b2:=ho o2 (by simp);have b3:=ho o3 (by simp)
 have b4:=ho o4 (by simp);have b5:=ho o5 (by simp);have b6:=ho o6 (by simp);have b7:=ho o7 (by simp)
 obtain⟨b00,b01⟩:=b0;obtain⟨b10,b11⟩:=b1;obtain⟨b20,b21⟩:=b2;obtain⟨b30,b31⟩:=b3
 obtain⟨b40,b41⟩:=b4;obtain⟨b50,b51⟩:=b5;obtain⟨b60,b61⟩:=b6;obtain⟨b70,b71⟩:=b7
 clear ho
 rcases eight hm0 hm8 with rfl|rfl|rfl|rfl|rfl|rfl|rfl|rfl
 all_goals
  clear hm0 hm8
  go_enter Tryz.func39,Tryz.ntmps39
  go_wp2
  refine bodyPost_ret (v:=.tuple #[.agg (ints (behL [o0,o1,o2,o3,o4,o5,o6,o7] ⟨src,dst,4,_,var,op,s1,s2,k,kad,kl,kc,epos,n,site,out,pos⟩)).toArray,.bool (behB [o0,o1,o2,o3,o4,o5,o6,o7] ⟨src,dst,4,_,var,op,s1,s2,k,kad,kl,kc,epos,n,site,out,pos⟩)]) ?_ rfl ⟨rfl,?_⟩
  ·simp[results,Tryz.results39,go_sem,ints,behL,behB]
  ·repeat (first|exact Below.refl _ _|with_reducible refine Below.drew ?_|with_reducible refine below_drewN ?_ _|with_reducible refine Below.al ?_ qaa _|refine Below.setCell ?_ (by simp) _)
theorem qkz (o0 o1 o2 o3 o4 o5 o6 o7:Int) (x:Eg) (w:World) (hk:x.kind=5) (hm0:0<=x.mon) (hm8:x.mon<8) (ho:∀v∈[o0,o1,o2,o3,o4,o5,o6,o7],0<=v/\v<1000) :
  Calls Tryz.prog 39 #[.agg (ints [o0,o1,o2,o3,o4,o5,o6,o7]).toArray,x.val] w λr w'=>qhf [o0,o1,o2,o3,o4,o5,o6,o7] x w w' r:=by
 rcases x with ⟨src,dst,kind,mon,var,op,s1,s2,k,kad,kl,kc,epos,n,site,out,pos⟩
 simp only at hk hm0 hm8
 subst hk
 simp only[Eg.val,Eg.cells,ints,List.map_cons,List.map_nil]
 have b0:=ho o0 (by simp);have b1:=ho o1 (by simp);have b2:=ho o2 (by simp);have b3:=ho o3 (by simp)
 have b4:=ho o4 (by simp);have b5:=ho o5 (by simp);have b6:=ho o6 (by simp);have b7:=ho o7 (by simp)
 obtain⟨b00,b01⟩:=b0;obtain⟨b10,b11⟩:=b1;obtain⟨b20,b21⟩:=b2;obtain⟨b30,b31⟩:=b3
 obtain⟨b40,b41⟩:=b4;obtain⟨b50,b51⟩:=b5;obtain⟨b60,b61⟩:=b6;obtain⟨b70,b71⟩:=b7
 clear ho
 rcases eight hm0 hm8 with rfl|rfl|rfl|rfl|rfl|rfl|rfl|rfl
 all_goals
  clear hm0 hm8
  go_enter Tryz.func39,Tryz.ntmps39
  go_wp2_with fail
  go_region
  all_goals
   go_wp2
   refine bodyPost_ret (v:=.tuple #[.agg (ints (behL [o0,o1,o2,o3,o4,o5,o6,o7] ⟨src,dst,5,_,var,op,s1,s2,k,kad,kl,kc,epos,n,site,out,pos⟩)).toArray,.bool (behB [o0,o1,o2,o3,o4,o5,o6,o7] ⟨src,dst,5,_,var,op,s1,s2,k,kad,kl,kc,epos,n,site,out,pos⟩)]) ?_ rfl ⟨rfl,?_⟩
   ·simp[results,Tryz.results39,go_sem,ints,behL,behB]
   ·repeat (first|exact Below.refl _ _|with_reducible refine Below.drew ?_|with_reducible refine below_drewN ?_ _|with_reducible refine Below.al ?_ qaa _|refine Below.setCell ?_ (by simp) _)
theorem qmz (o0 o1 o2 o3 o4 o5 o6 o7:Int) (x:Eg) (w:World) (hk:¬ x.kind=5) (hk4:¬ x.kind=4) (ho:∀v∈[o0,o1,o2,o3,o4,o5,o6,o7],0<=v/\v<1000) :
  Calls Tryz.prog 39 #[.agg (ints [o0,o1,o2,o3,o4,o5,o6,o7]).toArray,x.val] w λr w'=>qhf [o0,o1,o2,o3,o4,o5,o6,o7] x w w' r:=by
 rcases x with ⟨src,dst,kind,mon,var,op,s1,s2,k,kad,kl,kc,epos,n,site,out,pos⟩
 simp only at hk hk4
 have hB:behB [o0,o1,o2,o3,o4,o5,o6,o7] ⟨src,dst,kind,mon,var,op,s1,s2,k,kad,kl,kc,epos,n,site,out,pos⟩=true:=by simp[behB,hk]
 have hL:behL [o0,o1,o2,o3,o4,o5,o6,o7] ⟨src,dst,kind,mon,var,op,s1,s2,k,kad,kl,kc,epos,n,site,out,pos⟩=[o0,o1,o2,o3,o4,o5,o6,o7]:=by simp[behL,hk,hk4]
 have HB:=hid hB
 have HL:=hid hL
 clear hB hL
 simp only[Eg.val,Eg.cells,ints,List.map_cons,List.map_nil]
 have b0:=ho o0 (by simp);have b1:=ho o1 (by simp);have b2:=ho o2 (by simp);have b3:=ho o3 (by simp)
 have b4:=ho o4 (by simp);have b5:=ho o5 (by simp);have b6:=ho o6 (by simp);have b7:=ho o7 (by simp)
 obtain⟨b00,b01⟩:=b0;obtain⟨b10,b11⟩:=b1;obtain⟨b20,b21⟩:=b2;obtain⟨b30,b31⟩:=b3
 obtain⟨b40,b41⟩:=b4;obtain⟨b50,b51⟩:=b5;obtain⟨b60,b61⟩:=b6;obtain⟨b70,b71⟩:=b7
 clear ho
 go_enter Tryz.func39,Tryz.ntmps39
 go_wp2
 refine bodyPost_ret (v:=.tuple #[.agg (ints [o0,o1,o2,o3,o4,o5,o6,o7]).toArray,.bool true]) ?_ rfl ⟨by rw[HB.out,HL.out],?_⟩
 ·simp[results,Tryz.results39,go_sem,ints]
 ·repeat (first|exact Below.refl _ _|with_reducible refine Below.drew ?_|with_reducible refine below_drewN ?_ _|with_reducible refine Below.al ?_ qaa _|refine Below.setCell ?_ (by simp) _)
theorem qpz (o:List Int) (hl:o.length=8) (x:Eg) (w:World) (hm:x.kind=4\/x.kind=5->0<=x.mon/\x.mon<8) (ho:∀v∈o,0<=v/\v<1000) :
  Calls Tryz.prog 39 #[.agg (ints o).toArray,x.val] w λr w'=>qhf o x w w' r:=by
 obtain⟨o0,o1,o2,o3,o4,o5,o6,o7,rfl⟩:=qtk hl
 by_cases h4:x.kind=4
 ·exact qky _ _ _ _ _ _ _ _ x w h4 (hm (.inl h4)).1 (hm (.inl h4)).2 ho
 ·by_cases h5:x.kind=5
  ·exact qkz _ _ _ _ _ _ _ _ x w h5 (hm (.inr h5)).1 (hm (.inr h5)).2 ho
  ·exact qmz _ _ _ _ _ _ _ _ x w h5 h4 ho
end Hd
namespace Hd
open Go.RowKit
structure GMap (W:World) (base k:Nat) (G:Int->List Int):Prop where
 lo:base<=k
 val:∃V:Int->Option Value,IMap W k V/\(∀n,W.ownsRow base 3 1 ((V n).getD (.slice none 0 0)) (G n).length (ints (G n)))/\(∀n,(V n).isSome=true↔G n≠[]) /\
  ∀n m g,n≠m->((V n).getD (.slice none 0 0)).ownBlock=some g->((V m).getD (.slice none 0 0)).ownBlock≠some g
theorem GMap.lt {W:World}{base k:Nat}{G:Int->List Int}(h:GMap W base k G):k<W.heap.size:=by
 obtain⟨_,V,h,_⟩:=h;exact h.lt
theorem qbc {W:World}{base k:Nat}{V:Int->Option Value}{v:Value}{e size n:Nat}{xs:List Value}(hm:IMap W k V) (h:W.ownsRow base e size v n xs):v.ownBlock≠some k:=by
 rcases h.2 with ⟨rfl,_⟩|⟨g,cap,cur,rfl,hb,hgb,_⟩
 ·simp[Value.ownBlock]
 ·intro e'
  obtain rfl:g=k:=by simpa[Value.ownBlock] using e'
  exact hm.not_cells hgb rfl
theorem GMap.below {W W':World}{base k:Nat}{G:Int->List Int}(h:GMap W base k G) (hb:Below W.heap.size W W'):GMap W' base k G:=by
 obtain⟨h0,V,h1,h2,h3,h4⟩:=h
 exact⟨h0,V,h1.below hb h1.lt,λn=>qaq (h2 n) hb,h3,h4⟩
theorem GMap.new (W:World) (base:Nat) (hb:base<=W.heap.size):GMap (W.alloc (.map #[] 0)) base W.heap.size (λ_=>[]):=
 ⟨hb,_,IMap.new W,λn=>World.ownsRow_nil _ _ _ _,λn=>by simp,λn m g _ h=>by cases h⟩
def qAo (G:Int->List Int) (n:Int) (xs:List Int):Int->List Int:=λx=>if x=n then xs else G x
theorem qhw (V:Int->Option Value) (n m:Int) (v z:Value):(qxv V n v m).getD z=if m=n then v else (V m).getD z:=by
 by_cases h:m=n
 ·rw[h,qkj,if_pos rfl];rfl
 ·rw[qgl _ _ h,if_neg h]
theorem GMap.look {W₀:World}{base k:Nat}{G:Int->List Int}{T:TypeId}(h:GMap W₀ base k G) (hT:Tryz.prog.underlying T=some (.map 3 32)) (hz:∀W,(zeroValue 32).run Tryz.prog W=.ok (.slice none 0 0) W) (n:Int) :
  ∃v,(∀W,Below W₀.heap.size W₀ W->(Instr.lookup T (.map (some k)) (.int .i64 n) false).run Tryz.prog W=.ok v W)/\W₀.ownsRow base 3 1 v (G n).length (ints (G n)) /\
   ∀(W W1:World) (g len cap:Nat) (xs:List Int),Below W₀.heap.size W₀ W->W.grownBy W1 v.ownBlock->W1.ownsRow base 3 1 (.slice (some ⟨g,0,none⟩) len cap) xs.length (ints xs)->xs≠[]->(v.ownBlock=some g\/W₀.heap.size<=g) ->
    ∃W2,(Instr.mapUpdate T (.map (some k)) (.int .i64 n) (.slice (some ⟨g,0,none⟩) len cap)).run Tryz.prog W1=.ok () W2/\GMap W2 base k (qAo G n xs)/\W1.grownBy W2 (some k)/\W2.heap.size=W1.heap.size:=by
 obtain⟨h0,V,h1,h2,h3,h4⟩:=h
 refine⟨(V n).getD (.slice none 0 0),λW hW=>(h1.below hW h1.lt).look hT (hz W) n,h2 n,?_⟩
 intro W W1 g len cap xs hW hg hown hxs hat
 have hm1:IMap W1 k V:=(h1.below hW h1.lt).grown hg (λe=>qbc h1 (h2 n) e.symm)
 obtain⟨W2,r1,r2,r3,r4⟩:=hm1.put hT n (.slice (some ⟨g,0,none⟩) len cap)
 refine⟨W2,r1,⟨h0,_,r2,λm=>?_,λm=>?_,λm j q hne hq=>?_⟩,r3,r4⟩
 ·rw[qhw]
  unfold qAo
  by_cases e:m=n
  ·rw[if_pos e,if_pos e];exact hown.kept r3 (.inr (qbc hm1 hown))
  ·rw[if_neg e,if_neg e]
   have o1:=(qaq (h2 m) hW)
   have o2:=o1.kept hg (by
    cases hv:((V m).getD (.slice none 0 0)).ownBlock with
    | none=>exact .inl rfl
    | some q=>exact .inr (λe2=>h4 m n q e hv e2.symm))
   exact o2.kept r3 (.inr (qbc h1 (h2 m)))
 ·unfold qxv qAo
  by_cases e:m=n
  ·rw[if_pos e,if_pos e];simp[hxs]
  ·rw[if_neg e,if_neg e];exact h3 m
 ·rw[qhw] at hq ⊢
  have hnew:∀i,i≠n->((V i).getD (.slice none 0 0)).ownBlock≠some g:=by
   intro i hi e
   rcases hat with hat|hat
   ·exact h4 n i g (λx=>hi x.symm) hat e
   ·have:=((h2 i).lt g e).2;omega
  by_cases e:m=n
  ·rw[if_pos e] at hq
   rw[if_neg (λx=>hne (e.trans x.symm))]
   obtain rfl:g=q:=by simpa[Value.ownBlock] using hq
   exact hnew j (λx=>hne (e.trans x.symm))
  ·rw[if_neg e] at hq
   by_cases e2:j=n
   ·rw[if_pos e2]
    intro e3
    obtain rfl:g=q:=by simpa[Value.ownBlock] using e3
    exact hnew m e hq
   ·rw[if_neg e2];exact h4 m j q hne hq
def qf5 (v:Int):List Eg->Nat->List Int
 | [],_=>[]
 | x::l,i=>(if x.src=v then [(i:Int)] else [])++qf5 v l (i+1)
theorem qxl (v:Int) (l m:List Eg):∀i,qf5 v (l++m) i=qf5 v l i++qf5 v m (i+l.length):=by
 induction l with
 | nil=>intro i;simp[qf5]
 | cons x l ih=>intro i;rw[List.cons_append,qf5,qf5,ih,List.length_cons,List.append_assoc,show i+1+l.length=i+(l.length+1) by omega]
theorem qub (v:Int) (l:List Eg) (j:Nat) (h:j<l.length):qf5 v (l.take (j+1)) 0=qf5 v (l.take j) 0++if l[j].src=v then [(j:Int)] else []:=by
 rw[List.take_succ_eq_append_getElem h,qxl]
 simp[qf5,Nat.min_eq_left (Nat.le_of_lt h)]
theorem qo4 {v:Int}{l:List Eg}{z:Int}:∀ {i:Nat},z∈qf5 v l i↔∃(j:Nat) (h:j<l.length),z=((i+j:Nat):Int)/\l[j].src=v:=by
 induction l with
 | nil=>intro i;simp[qf5]
 | cons x l ih =>
  intro i
  rw[qf5,List.mem_append,ih]
  constructor
  ·rintro (h|⟨j,hj,h1,h2⟩)
   ·by_cases e:x.src=v
    ·rw[if_pos e] at h
     exact⟨0,by simp,by simpa using h,by simpa using e⟩
    ·rw[if_neg e] at h;cases h
   ·exact⟨j+1,by simp;omega,by rw[h1];congr 1;omega,by simpa using h2⟩
  ·rintro⟨j,hj,h1,h2⟩
   rcases j with _|j
   ·left
    have:x.src=v:=by simpa using h2
    rw[if_pos this];simpa using h1
   ·right
    exact⟨j,by simpa using hj,by rw[h1];congr 1;omega,by simpa using h2⟩
theorem qxm (v:Int) (l:List Eg):∀i,(qf5 v l i).length<=l.length:=by
 induction l with
 | nil=>intro i;simp[qf5]
 | cons x l ih =>
  intro i
  rw[qf5,List.length_append,List.length_cons]
  have:=ih (i+1)
  split <;> simp <;> omega
theorem qtj (l:List Eg) (j:Nat) (h:j<l.length):(λv=>qf5 v (l.take (j+1)) 0)=qAo (λv=>qf5 v (l.take j) 0) l[j].src (qf5 l[j].src (l.take j) 0++[(j:Int)]):=by
 funext v
 unfold qAo
 rw[qub v l j h]
 by_cases e:v=l[j].src
 ·rw[if_pos e,e,if_pos rfl]
 ·rw[if_neg e,if_neg (λx=>e x.symm),List.append_nil]
end Hd
namespace Hd
inductive Tr (l:List (Int × Int)):Int->Int->Prop
 | one {n:Int × Int}(h:n∈l):Tr l n.1 n.2
 | snoc {a:Int}{n:Int × Int}(h:Tr l a n.1) (hn:n∈l):Tr l a n.2
theorem Tr.trans {l:List (Int × Int)}{a b c:Int}(h:Tr l a b) (k:Tr l b c):Tr l a c:=by
 induction k with
 | one hn=>exact .snoc h hn
 | snoc _ hn ih=>exact .snoc (ih h) hn
def Rnd (l:List (Int × Int)):Prop:=∃a,Tr l a a
theorem Tr.head {l:List (Int × Int)}{a b:Int}(h:Tr l a b):∃n∈l,n.1=a/\(n.2=b\/Tr l n.2 b):=by
 induction h with
 | @one n hn=>exact⟨n,hn,rfl,.inl rfl⟩
 | @snoc a n h hn ih =>
  obtain⟨m,hm,h1,h2⟩:=ih
  refine⟨m,hm,h1,.inr ?_⟩
  rcases h2 with h2|h2
  ·rw[h2];exact .one hn
  ·exact .snoc h2 hn
theorem qB6 {R:Int->Int->Prop}(ht:∀a b c,R a b->R b c->R a c) (hi:∀a,¬ R a a):∀(L:List Int),L≠[]->∃m∈L,∀y∈L,¬ R y m:=by
 intro L
 induction L with
 | nil=>intro h;exact absurd rfl h
 | cons x L ih =>
  intro _
  by_cases hL:L=[]
  ·subst hL
   exact⟨x,by simp,λy hy=>by rw[List.mem_singleton.1 hy];exact hi x⟩
  ·obtain⟨m,hm,hmin⟩:=ih hL
   by_cases hx:R x m
   ·refine⟨x,by simp,λy hy hyx=>?_⟩
    rcases List.mem_cons.1 hy with rfl|hy
    ·exact hi _ hyx
    ·exact hmin y hy (ht _ _ _ hyx hx)
   ·refine⟨m,by simp[hm],λy hy=>?_⟩
    rcases List.mem_cons.1 hy with rfl|hy
    ·exact hx
    ·exact hmin y hy
def qdh (l:List (Int × Int)) (fr:List Int):List (Int × Int):=l.filter λn=>!fr.contains n.1
theorem qhb {l:List (Int × Int)}{fr:List Int}{n:Int × Int}:n∈qdh l fr↔n∈l/\n.1 ∉ fr:=by simp[qdh]
def qax (l:List (Int × Int)) (k:Int):Nat:=(l.filter λn=>decide (n.2=k)).length
def qbt (l:List (Int × Int)) (v:Int):List Int:=(l.filter λn=>decide (n.1=v)).map Prod.snd
theorem qjg (l:List (Int × Int)) (fr:List Int) (v:Int) (hv:v ∉ fr) (k:Int) :
  qax (qdh l fr) k=qax (qdh l (fr++[v])) k+(qbt l v).count k/\(qdh l fr).length=(qdh l (fr++[v])).length+(qbt l v).length:=by
 induction l with
 | nil=>exact⟨rfl,rfl⟩
 | cons n l ih =>
  obtain⟨h1,h2⟩:=ih
  by_cases e:n.1=v
  ·have e1:n.1 ∉ fr:=by rw[e];exact hv
   have r1:qdh (n::l) fr=n::qdh l fr:=by simp[qdh,e1]
   have r2:qdh (n::l) (fr++[v])=qdh l (fr++[v]):=by simp[qdh,e]
   have r3:qbt (n::l) v=n.2::qbt l v:=by simp[qbt,e]
   rw[r1,r2,r3]
   refine⟨?_,by simp only[List.length_cons];omega⟩
   by_cases ek:n.2=k
   ·have:qax (n::qdh l fr) k=qax (qdh l fr) k+1:=by simp[qax,ek]
    rw[this,List.count_cons,h1];simp[ek];omega
   ·have:qax (n::qdh l fr) k=qax (qdh l fr) k:=by simp[qax,ek]
    rw[this,List.count_cons,h1];simp[ek]
  ·have r3:qbt (n::l) v=qbt l v:=by simp[qbt,e]
   rw[r3]
   by_cases e1:n.1∈fr
   ·have r1:qdh (n::l) fr=qdh l fr:=by simp[qdh,e1]
    have r2:qdh (n::l) (fr++[v])=qdh l (fr++[v]):=by simp[qdh,e1]
    rw[r1,r2];exact⟨h1,h2⟩
   ·have r1:qdh (n::l) fr=n::qdh l fr:=by simp[qdh,e1]
    have r2:qdh (n::l) (fr++[v])=n::qdh l (fr++[v]):=by simp[qdh,e1,e]
    rw[r1,r2]
    refine⟨?_,by simp only[List.length_cons];omega⟩
    by_cases ek:n.2=k
    ·simp only[qax,ek,decide_true,List.filter_cons_of_pos,List.length_cons] at h1 ⊢;omega
    ·have a1:qax (n::qdh l fr) k=qax (qdh l fr) k:=by simp[qax,ek]
     have a2:qax (n::qdh l (fr++[v])) k=qax (qdh l (fr++[v])) k:=by simp[qax,ek]
     rw[a1,a2];exact h1
theorem qgd {l:List (Int × Int)}{k:Int}:0<qax l k↔∃n∈l,n.2=k:=by
 rw[qax,List.length_pos_iff_exists_mem]
 simp
structure Ki (l:List (Int × Int)) (fr:List Int) (i:Nat) (K:List Int) (into:Int->Int) (left:Int):Prop where
 le:i<=fr.length
 nodup:fr.Nodup
 cnt:∀k,into k=(qax (qdh l (fr.take i)) k:Int)+(K.count k:Int)
 lft:left=((qdh l (fr.take i)).length:Int)+(K.length:Int)
 zero:∀k∈fr,into k=0
 all:∀n∈l,into n.1=0->n.1∈fr
 top:∀(j:Nat) (h:j<fr.length),∀n∈l,n.2=fr[j]->n.1∈fr.take j
variable {l:List (Int × Int)}{fr:List Int}{i:Nat}{K:List Int}{into:Int->Int}{left:Int}
theorem Ki.first (hn:fr.Nodup) (h0:∀k,into k=(qax l k:Int)) (hz:∀k∈fr,into k=0) (ha:∀n∈l,into n.1=0->n.1∈fr):Ki l fr 0 [] into (l.length:Int):=by
 have hr:qdh l (fr.take 0)=l:=by simp[qdh]
 refine⟨Nat.zero_le _,hn,λk=>by rw[hr,h0];simp,by rw[hr];simp,hz,ha,λj h n hnl e=>?_⟩
 have h1:=hz _ (List.getElem_mem h)
 rw[h0] at h1
 have:0<qax l fr[j]:=qgd.2 ⟨n,hnl,e⟩
 omega
theorem Ki.begin (h:Ki l fr i [] into left) (hi:i<fr.length):Ki l fr (i+1) (qbt l fr[i]) into left:=by
 have hv:fr[i] ∉ fr.take i:=by
  intro hm
  obtain⟨j,hj,e⟩:=List.getElem_of_mem hm
  rw[List.getElem_take] at e
  have hj2:j<i:=by simp at hj;omega
  exact (List.pairwise_iff_getElem.1 h.nodup) j i (by omega) hi hj2 e
 have ht:fr.take (i+1)=fr.take i++[fr[i]]:=List.take_succ_eq_append_getElem hi
 refine⟨hi,h.nodup,λk=>?_,?_,h.zero,h.all,h.top⟩
 ·have:=h.cnt k
  rw[(qjg l (fr.take i) fr[i] hv k).1] at this
  rw[ht,this];simp
 ·have:=h.lft
  rw[(qjg l (fr.take i) fr[i] hv 0).2] at this
  rw[ht,this];simp
def qrr (into:Int->Int) (c:Int):Int->Int:=λk=>if k=c then into k-1 else into k
theorem Ki.bound (h:Ki l fr i K into left) (k:Int):0<=into k:=by rw[h.cnt k];omega
theorem Ki.skip {c:Int}(h:Ki l fr i (c::K) into left) (hc:into c≠1):Ki l fr i K (qrr into c) (left-1):=by
 have hpos:1<=into c:=by rw[h.cnt c];simp;omega
 refine⟨h.le,h.nodup,λk=>?_,by rw[h.lft];simp only[List.length_cons];omega,λk hk=>?_,λn hn hz=>?_,h.top⟩
 ·have:=h.cnt k
  unfold qrr
  by_cases e:k=c
  ·subst e;rw[if_pos rfl,this];simp;omega
  ·have e':¬ c=k:=λx=>e x.symm
   rw[if_neg e,this];simp[e']
 ·have:=h.zero k hk
  unfold qrr
  by_cases e:k=c
  ·subst e;omega
  ·rw[if_neg e];exact this
 ·unfold qrr at hz
  by_cases e:n.1=c
  ·rw[if_pos e] at hz;rw[e] at hz;omega
  ·rw[if_neg e] at hz;exact h.all n hn hz
theorem Ki.free {c:Int}(h:Ki l fr i (c::K) into left) (hc:into c=1):Ki l (fr++[c]) i K (qrr into c) (left-1):=by
 have hnm:c ∉ fr:=λhm=>by have:=h.zero c hm;omega
 have htk:(fr++[c]).take i=fr.take i:=List.take_append_of_le_length h.le
 have hK:qax (qdh l (fr.take i)) c=0/\K.count c=0:=by
  have:=h.cnt c
  rw[hc] at this;simp at this;omega
 refine⟨by simp;have:=h.le;omega,?_,λk=>?_,by rw[h.lft,htk];simp only[List.length_cons];omega,λk hk=>?_,λn hn hz=>?_,λj hj n hn e=>?_⟩
 ·exact List.nodup_append.2 ⟨h.nodup,by simp,λa ha b hb=>by simp at hb;rintro rfl;exact hnm (hb▸ha)⟩
 ·have:=h.cnt k
  rw[htk]
  unfold qrr
  by_cases e:k=c
  ·subst e;rw[if_pos rfl,this];simp;omega
  ·have e':¬ c=k:=λx=>e x.symm
   rw[if_neg e,this];simp[e']
 ·unfold qrr
  rcases List.mem_append.1 hk with hk|hk
  ·have:=h.zero k hk
   have e:k≠c:=λe=>hnm (e▸hk)
   rw[if_neg e];exact this
  ·rw[List.mem_singleton.1 hk,if_pos rfl,hc];rfl
 ·unfold qrr at hz
  by_cases e:n.1=c
  ·rw[e];simp
  ·rw[if_neg e] at hz;exact List.mem_append.2 (.inl (h.all n hn hz))
 ·by_cases hj2:j<fr.length
  ·rw[List.getElem_append_left hj2] at e
   rw[List.take_append_of_le_length (by omega)]
   exact h.top j hj2 n hn e
  ·have hj3:j=fr.length:=by simp at hj;omega
   subst hj3
   simp at e
   have:n.1∈fr.take i:=by
    refine Classical.byContradiction λhx=>?_
    have:0<qax (qdh l (fr.take i)) c:=qgd.2 ⟨n,qhb.2 ⟨hn,hx⟩,e⟩
    omega
   have h2:n.1∈fr:=List.mem_of_mem_take this
   simpa using h2
theorem Ki.before (h:Ki l fr i K into left) {a b:Int}(hab:Tr l a b):∀(j:Nat) (hj:j<fr.length),b=fr[j]->a∈fr.take j:=by
 induction hab with
 | @one n hn=>intro j hj e;exact h.top j hj n hn e
 | @snoc a n _ hn ih =>
  intro j hj e
  obtain⟨q,hq,e2⟩:=List.getElem_of_mem (h.top j hj n hn e)
  rw[List.getElem_take] at e2
  have hq2:q<j:=by simp at hq;omega
  obtain⟨r,hr,e3⟩:=List.getElem_of_mem (ih q (by omega) e2.symm)
  rw[List.getElem_take] at e3
  have hr2:r<q:=by simp at hr;omega
  rw[<- e3]
  exact List.mem_of_getElem (i:=r) (h:=by simp;omega) (by simp)
theorem Ki.end (h:Ki l fr fr.length [] into left):0<left↔Rnd l:=by
 have hl:=h.lft
 rw[List.take_length] at hl
 simp at hl
 constructor
 ·intro hp
  have hpos:0<(qdh l fr).length:=by omega
  refine Classical.byContradiction λhno=>?_
  have hne:(qdh l fr).map Prod.fst≠[]:=by intro e;rw[List.map_eq_nil_iff] at e;rw[e] at hpos;simp at hpos
  obtain⟨m,hm,hmin⟩:=qB6 (R:=Tr l) (λa b c=>Tr.trans) (λa ha=>hno ⟨a,ha⟩) _ hne
  obtain⟨n,hn,rfl⟩:=List.mem_map.1 hm
  obtain⟨hnl,hnf⟩:=qhb.1 hn
  have hz:into n.1≠0:=λe=>hnf (h.all n hnl e)
  have h1:=h.cnt n.1
  rw[List.take_length] at h1
  simp at h1
  have:0<qax (qdh l fr) n.1:=by omega
  obtain⟨k,hk,e⟩:=qgd.1 this
  refine hmin k.1 (List.mem_map.2 ⟨k,hk,rfl⟩) ?_
  rw[<- e]
  exact .one (qhb.1 hk).1
 ·rintro⟨a,ha⟩
  refine Classical.byContradiction λhno=>?_
  have hz:(qdh l fr).length=0:=by omega
  have hall:∀n∈l,n.1∈fr:=λn hn=>Classical.byContradiction λhx=>by
   have:=List.length_pos_of_mem (qhb.2 ⟨hn,hx⟩);omega
  obtain⟨n,hn,e,_⟩:=ha.head
  have haf:=hall n hn
  rw[e] at haf
  obtain⟨j,hj,e2⟩:=List.getElem_of_mem haf
  obtain⟨q,hq,e3⟩:=List.getElem_of_mem (h.before ha j hj e2.symm)
  rw[List.getElem_take] at e3
  have hq2:q<j:=by simp at hq;omega
  exact (List.pairwise_iff_getElem.1 h.nodup) q j (by omega) hj hq2 (e3.trans e2.symm)
theorem Rnd.ends {n:Int × Int}(he:∀x∈l,x.1≠n.2) (hn:n.2≠n.1) (h:Rnd (l++[n])):Rnd l:=by
 have key:∀a b,Tr (l++[n]) a b->b≠n.2->Tr l a b:=by
  intro a b h
  induction h with
  | @one x hx =>
   intro hb
   rcases List.mem_append.1 hx with hx|hx
   ·exact .one hx
   ·rw[List.mem_singleton.1 hx] at hb;exact absurd rfl hb
  | @snoc a x h hx ih =>
   intro hb
   rcases List.mem_append.1 hx with hx|hx
   ·exact .snoc (ih (he x hx)) hx
   ·rw[List.mem_singleton.1 hx] at hb;exact absurd rfl hb
 obtain⟨a,ha⟩:=h
 refine⟨a,key a a ha λe=>?_⟩
 obtain⟨x,hx,e1,_⟩:=ha.head
 rcases List.mem_append.1 hx with hx|hx
 ·exact he x hx (e1.trans e)
 ·rw[List.mem_singleton.1 hx] at e1;exact hn (e.symm.trans e1.symm)
end Hd
