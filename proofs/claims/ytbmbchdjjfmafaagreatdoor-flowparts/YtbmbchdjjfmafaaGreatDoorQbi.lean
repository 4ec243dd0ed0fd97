/-
  Own texts joined by program: FpH.
-/
import Derived.Test.YtbmbchdjjfmafaaGreatDoorQbh
import Derived.Laws.MakeOwn
namespace Go.Proofs.YtbmbchdjjfmafaaGreatDoor
open Go.RowKit
def RowF (W:World) (b n:Nat) (c:Nat→Int):Prop:=∃ cs:Array Value,W.heap[b]?=some (.cells cs 3 (0,0))∧cs.size=n∧∀ i,i<n→cs[i]?=some (.int .i64 (c i))
theorem RowF.lt {W:World} {b n:Nat} {c:Nat→Int} (h:RowF W b n c):b<W.heap.size:=by obtain⟨_,h,_⟩:=h;exact (Array.getElem?_eq_some_iff.1 h).1
theorem RowF.kept {W W':World} {b n:Nat} {c:Nat→Int} (h:RowF W b n c) (hb:W'.heap[b]?=W.heap[b]?):RowF W' b n c:=by obtain⟨cs,h,h2⟩:=h;exact⟨cs,hb.trans h,h2⟩
theorem RowF.below {W W':World} {b n m:Nat} {c:Nat→Int} (h:RowF W b n c) (hb:Below m W W') (hm:b<m):RowF W' b n c:=h.kept (hb.block b hm)
theorem RowF.cell {W:World} {b n:Nat} {c:Nat→Int} (h:RowF W b n c) {i:Nat} (hi:i<n):W.cell? ⟨b,i,none⟩=some (.int .i64 (c i)):=by
 obtain⟨cs,h,_,h3⟩:=h
 rw[cellOf h];exact h3 i hi
theorem RowF.frozen {W:World} {b n:Nat} {c:Nat→Int} (h:RowF W b n c) (i:Nat):W.frozen? ⟨b,i,none⟩=false:=by
 obtain⟨cs,h,_⟩:=h
 exact frozen_of h i
theorem RowF.put {W:World} {b n:Nat} {c:Nat→Int} (h:RowF W b n c) {i:Nat} (hi:i<n) (z:Int):RowF (W.setCell ⟨b,i,none⟩ (.int .i64 z)) b n (fun j=>if j=i then z else c j):=by
 obtain⟨cs,h,h2,h3⟩:=h
 refine⟨cs.setIfInBounds i (.int .i64 z),setBoxP h _,by simp[h2],fun j hj=>?_⟩
 rw[Array.getElem?_setIfInBounds]
 by_cases e:i=j
 ·subst e;simp[h2,hi]
 ·rw[if_neg e,h3 j hj];simp only[show ¬ j=i from fun h=>e h.symm,if_false]
theorem RowF.other {W:World} {b b' n i:Nat} {c:Nat→Int} (h:RowF W b n c) (hne:b≠b') (v:Value):RowF (W.setCell ⟨b',i,none⟩ v) b n c:=h.kept (Below.heap_setCell _ _ _ _ hne)
theorem RowF.cong {W:World} {b n:Nat} {c d:Nat→Int} (h:RowF W b n c) (e:∀ i,i<n→c i=d i):RowF W b n d:=by
 obtain⟨cs,h,h2,h3⟩:=h
 exact⟨cs,h,h2,fun i hi=>by rw[h3 i hi,e i hi]⟩
theorem RowF.new {W:World} {b n:Nat} (h:W.heap[b]?=some (.cells (Array.replicate n (.int .i64 0)) 3 (0,0))):RowF W b n (fun _=>0):=⟨_,h,by simp,fun i hi=>by simp[hi]⟩
theorem made_oneP (z:Value) (n:Nat):madeCells #[z] n=Array.replicate n z:=by
 apply Array.ext'
 simp[madeCells,List.range_eq_range',Nat.mod_one]
 apply List.ext_getElem?
 intro i
 by_cases h:i<n <;> simp[h]
theorem make_ints (n:Nat) (hn:n≤1000000) (W:World) :
  (Instr.makeSlice 51 (.int .i64 (n:Int)) (.int .i64 (n:Int))).run Tryz.prog W=.ok (.slice (some ⟨W.heap.size,0,none⟩) n n) (W.alloc (.cells (Array.replicate n (.int .i64 0)) 3)):=by
 obtain⟨i0,hi,hz0,hz1,hz2⟩:=info_parts info3
 have h:=run_make W 51 3 i0 _ Tryz.underlying51 hi hz0 .i64 .i64 n n (by omega) (by omega) (by rw[hz2];omega) (by omega)
 rw[hz1,show (Value.int IntKind.i64 0).cells=#[.int .i64 0] from rfl,Nat.mul_one] at h
 rw[← made_oneP]
 exact h
def cnt {α:Type} (f:α→Int) (l:List α) (k i:Nat):Int:=((l.take k).countP (fun x=>decide (f x=(i:Int))):Nat)
theorem cnt_zero {α:Type} (f:α→Int) (l:List α) (i:Nat):cnt f l 0 i=0:=by simp[cnt]
theorem cnt_le {α:Type} (f:α→Int) (l:List α) (k i:Nat):0≤cnt f l k i∧cnt f l k i≤l.length:=by
 unfold cnt
 have h1:(l.take k).countP (fun x=>decide (f x=(i:Int)))≤(l.take k).length:=List.countP_le_length
 have h2:(l.take k).length≤l.length:=List.length_take_le' ..
 omega
theorem cnt_succ {α:Type} (f:α→Int) (l:List α) (k:Nat) (hk:k<l.length) (s:Nat) (hs:f l[k]=(s:Int)) (i:Nat):cnt f l (k+1) i=if i=s then cnt f l k s+1 else cnt f l k i:=by
 unfold cnt
 rw[List.take_succ_eq_append_getElem hk,List.countP_append]
 by_cases e:i=s
 ·subst e;simp[hs]
 ·have:¬ (s:Int)=(i:Int):=by omega
  simp[hs,this,e]
theorem cnt_all {α:Type} (f:α→Int) (l:List α) (i:Nat):cnt f l l.length i=(l.countP (fun x=>decide (f x=(i:Int))):Nat):=by simp[cnt]
theorem wrap_nat (m:Nat) (h:m≤1000000):IntKind.i64.wrap (m:Int)=m:=Go.IntWalk.i64_in _ ⟨by omega,by omega⟩
theorem guards_at {es:List Ed} {gs:List Gu} (h:GuardsOk es gs) (k:Nat) (hk:k<es.length) {x:Ed} (hx:es[k]=x):∃ m8 m9:Nat,x.site=(m8:Int)∧x.out=(m9:Int)∧m8≤gs.length∧m9≤gs.length∧(x.kind=6↔m8≠0)∧(∀ i,m8=i+1→∃ hi:i<gs.length,gs[i].mon=x.mon)∧∀ i,m9=i+1→∃ hi:i<gs.length,gs[i].loop=true→x.kind=2∧x.e.same gs[i].e=true:=by
 subst hx
 obtain⟨g1,g2,g3,g4,g5,g6,g7⟩:=h.edge k hk
 refine⟨es[k].site.toNat,es[k].out.toNat,by omega,by omega,by omega,by omega,?_,fun i hi=>?_,fun i hi=>?_⟩
 ·by_cases h6:es[k].kind=6
  ·rw[h6] at g1
   have:¬ es[k].site=0:=by simpa using g1
   constructor
   ·intro _;omega
   ·intro _;exact h6
  ·have:es[k].site=0:=by simpa[h6] using g1
   constructor
   ·intro h;exact absurd h h6
   ·intro h;omega
 ·obtain⟨h1,h2⟩:=g6 (by omega)
  have e:(es[k].site-1).toNat=i:=by omega
  simp only[e] at h1 h2
  exact⟨h1,h2⟩
 ·obtain⟨h1,h2⟩:=g7 (by omega)
  have e:(es[k].out-1).toNat=i:=by omega
  simp only[e] at h1 h2
  exact⟨h1,h2⟩
end Go.Proofs.YtbmbchdjjfmafaaGreatDoor
