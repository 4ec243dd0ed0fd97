/-
  Own texts joined by program: TyA TyV TyT.
-/
import Derived.Test.YtpbjikncobnkjaaGreatDoorIas
namespace Go.Proofs.YtpbjikncobnkjaaGreatDoor
open Go.RowKit
def Va.is (v:Va):Int:=if v.type=2∨v.type=3 then 2 else 1
theorem allV_at (l:List Mo) (i:Nat) (hi:i<l.length) (k:Nat) (hk:k<l[i].vars.length):(allV l)[k+vsum (l.take i)]?=some l[i].vars[k]:=by
 induction l generalizing i with
 | nil=>simp at hi
 | cons m l ih=>cases i with
  | zero =>
   have hk':k<m.vars.length:=by simpa using hk
   simp[allV,vsum,List.getElem?_append_left,hk']
  | succ i =>
   have hi':i<l.length:=by simpa using hi
   have hk':k<l[i].vars.length:=by simpa using hk
   have h1:vsum ((m::l).take (i+1))=m.vars.length+vsum (l.take i):=by simp[vsum]
   have h2:allV (m::l)=m.vars++allV l:=by simp[allV]
   rw[h1,h2,List.getElem?_append_right (by omega),show k+(m.vars.length+vsum (l.take i))-m.vars.length=k+vsum (l.take i) by omega,ih i hi' hk']
   simp
def varTy (l:List Mo) (mon name:ByteArray):Option Int:=(slotIx l mon name).bind fun s=>((allV l)[s]?).map Va.is
theorem varTy_none {l:List Mo} {mon name:ByteArray} (h:slotIx l mon name=none):varTy l mon name=none:=by rw[varTy,h];rfl
theorem slotIx_parts {l:List Mo} {mon name:ByteArray} {s:Nat} (h:slotIx l mon name=some s):∃ (i:Nat) (hi:i<l.length) (k:Nat),k<l[i].vars.length∧s=k+vsum (l.take i)∧monIx l mon=some i∧l[i].vars.findIdx? (fun v=>decide (v.name=name))=some k:=by
 rcases hm:monIx l mon with _|i
 ·rw[slotIx_no hm] at h;cases h
 ·have hi:=fidx_lt hm
  rw[slotIx_at hm hi] at h
  rcases hv:l[i].vars.findIdx? (fun v=>decide (v.name=name)) with _|k
  ·rw[hv] at h;cases h
  ·rw[hv] at h
   simp only[Option.map_some,Option.some.injEq] at h
   exact⟨i,hi,k,fidx_lt hv,h.symm,rfl,hv⟩
theorem varTy_at {l:List Mo} {mon name:ByteArray} {i k:Nat} (hs:slotIx l mon name=some (k+vsum (l.take i))) (hi:i<l.length) (hk:k<l[i].vars.length):varTy l mon name=some l[i].vars[k].is:=by
 rw[varTy,hs,Option.bind_some,allV_at l i hi k hk];rfl
theorem varTy_some {l:List Mo} {mon name:ByteArray} {s:Nat} (h:slotIx l mon name=some s):∃ t,varTy l mon name=some t∧(t=1∨t=2):=by
 obtain⟨i,hi,k,hk,rfl,-,-⟩:=slotIx_parts h
 refine⟨_,varTy_at h hi hk,?_⟩
 unfold Va.is
 split
 ·exact .inr rfl
 ·exact .inl rfl
def Ex.mon:Ex→ByteArray
 | .mk _ mon _ _ _ _ _ _=>mon
def Ex.nm:Ex→ByteArray
 | .mk _ _ name _ _ _ _ _=>name
def Ex.pos:Ex→Int
 | .mk _ _ _ _ _ _ _ pos=>pos
def opIs (op:Int):Int:=if op=1∨(6≤op∧op≤9) then 2 else 1
def opWant (op:Int):Int:=if op=5∨op=16∨op=17 then 1 else if op=10∨op=11 then 0 else 2
def Ex.is (l:List Mo):Ex→Int
 | .mk op mon name _ _ _ _ _=>if op=4 then (varTy l mon name).getD 0 else opIs op
def wantOf (l:List Mo) (op:Int) (kids:List Ex):Int:=if opWant op=0 then (match kids with | []=>0|k::_=>k.is l) else opWant op
def misfit (l:List Mo) (want:Int):List Ex→Option (Int × Int)
 | []=>none
 | k::r=>if k.is l=want then misfit l want r else some (70,k.pos)
theorem misfit_drop (l:List Mo) (want:Int) (ks:List Ex) (j:Nat) (h:j<ks.length):misfit l want (ks.drop j)=if ks[j].is l=want then misfit l want (ks.drop (j+1)) else some (70,ks[j].pos):=by
 rw[List.drop_eq_getElem_cons h,misfit]
theorem misfit_end (l:List Mo) (want:Int) (ks:List Ex) (j:Nat) (h:ks.length≤j):misfit l want (ks.drop j)=none:=by
 rw[List.drop_of_length_le h,misfit]
theorem misfit_none (l:List Mo) (want:Int) (ks:List Ex):misfit l want ks=none↔∀ k∈ks,k.is l=want:=by
 induction ks with
 | nil=>simp[misfit]
 | cons k r ih =>
  rw[misfit]
  split
  ·rename_i h;rw[ih];simp[h]
  ·rename_i h;simp[h]
mutual
def Ex.ter (l:List Mo):Ex→Option (Int × Int)
 | .mk op mon name _ _ _ kids pos=>if op=4 then (if (varTy l mon name).isSome then Option.none else some (61,pos)) else (Ex.terL l kids).or (misfit l (wantOf l op kids) kids)
def Ex.terL (l:List Mo):List Ex→Option (Int × Int)
 | []=>Option.none
 | e::r=>(Ex.ter l e).or (Ex.terL l r)
end
theorem Ex.ter_mk (l:List Mo) (op:Int) (mon name:ByteArray) (n:Int) (ad:Option Addr) (cap:Nat) (kids:List Ex) (pos:Int):(Ex.mk op mon name n ad cap kids pos).ter l=if op=4 then (if (varTy l mon name).isSome then Option.none else some (61,pos)) else (Ex.terL l kids).or (misfit l (wantOf l op kids) kids):=by rw[Ex.ter]
theorem Ex.terL_drop (l:List Mo) (ks:List Ex) (j:Nat) (h:j<ks.length):Ex.terL l (ks.drop j)=(ks[j].ter l).or (Ex.terL l (ks.drop (j+1))):=by
 rw[List.drop_eq_getElem_cons h,Ex.terL]
theorem Ex.terL_end (l:List Mo) (ks:List Ex) (j:Nat) (h:ks.length≤j):Ex.terL l (ks.drop j)=Option.none:=by
 rw[List.drop_of_length_le h,Ex.terL]
theorem Ex.terL_none (l:List Mo) (ks:List Ex):Ex.terL l ks=Option.none↔∀ k∈ks,k.ter l=Option.none:=by
 induction ks with
 | nil=>simp[Ex.terL]
 | cons k r ih=>rw[Ex.terL,Option.or_eq_none_iff,ih];simp
theorem misfit_pos (l:List Mo) (want:Int) (ks:List Ex) (c a:Int) (h:misfit l want ks=some (c,a)):c=70:=by
 induction ks with
 | nil=>cases h
 | cons k r ih =>
  rw[misfit] at h
  split at h
  ·exact ih h
  ·cases h;rfl
theorem Ex.ter_pos (l:List Mo) (e:Ex):∀ c a,e.ter l=some (c,a)→c=61∨c=70:=by
 induction e using Ex.ind with
 | h op mon name n ad cap kids pos ih =>
  intro c a h
  rw[Ex.ter_mk] at h
  split at h
  ·split at h
   ·cases h
   ·cases h;exact .inl rfl
  ·have hk:∀ ks:List Ex,(∀ x∈ks,x∈kids)→∀ c a,Ex.terL l ks=some (c,a)→c=61∨c=70:=by
    intro ks
    induction ks with
    | nil=>intro _ c a h;cases h
    | cons x r ih2 =>
     intro hm c a h
     rw[Ex.terL] at h
     cases hx:x.ter l with
     | some y =>
      rw[hx] at h
      simp only[Option.some_or,Option.some.injEq] at h
      rw[h] at hx
      exact ih x (hm x (by simp)) c a hx
     | none =>
      rw[hx] at h
      exact ih2 (fun z hz=>hm z (by simp[hz])) c a h
   cases hl:Ex.terL l kids with
   | some y =>
    rw[hl] at h
    simp only[Option.some_or,Option.some.injEq] at h
    rw[h] at hl
    exact hk kids (fun _ h=>h) c a hl
   | none =>
    rw[hl] at h
    exact .inr (misfit_pos l _ kids c a h)
def Ex.tero (l:List Mo) (e:Ex):Option (Int × Int):=if e.ok then e.ter l else some (20,0)
theorem Ex.tero_pos (l:List Mo) (e:Ex) (c a:Int) (h:e.tero l=some (c,a)):c≠0:=by
 rw[Ex.tero] at h
 split at h
 ·rcases Ex.ter_pos l e c a h with rfl|rfl <;> decide
 ·cases h;decide
def TyBack (is:Int) (o:Option (Int × Int)) (w w':World) (r:Ending):Prop:=((o=none∧r=.returned (.tuple #[.int .i64 is,.int .i64 0,.int .i64 0]))∨(∃ c a,(c != 0)=true∧o=some (c,a)∧r=.returned (.tuple #[.int .i64 0,.int .i64 c,.int .i64 a])))∧Below w.heap.size w w'
theorem TyBack.no {f:FuncId} {args:Array Value} {is:Int} {o:Option (Int × Int)} {w:World} (h:Calls Tryz.prog f args w fun r w'=>TyBack is o w w' r) (ho:o=none):Calls Tryz.prog f args w fun r w'=>r=.returned (.tuple #[.int .i64 is,.int .i64 0,.int .i64 0])∧Below w.heap.size w w':=
 h.mono fun r w' hh=>by
  rcases hh.1 with ⟨_,h2⟩|⟨c,a,_,h1,_⟩
  ·exact⟨h2,hh.2⟩
  ·rw[ho] at h1;cases h1
theorem TyBack.yes {f:FuncId} {args:Array Value} {is:Int} {o:Option (Int × Int)} {w:World} (h:Calls Tryz.prog f args w fun r w'=>TyBack is o w w' r) {c a:Int} (ho:o=some (c,a)):Calls Tryz.prog f args w fun r w'=>r=.returned (.tuple #[.int .i64 0,.int .i64 c,.int .i64 a])∧Below w.heap.size w w':=
 h.mono fun r w' hh=>by
  rcases hh.1 with ⟨h1,_⟩|⟨c',a',_,h1,h2⟩
  ·rw[ho] at h1;cases h1
  ·rw[ho] at h1;cases h1;exact⟨h2,hh.2⟩
theorem tyBack_no {is:Int} {o:Option (Int × Int)} {w w':World} (h:o=none) (hb:Below w.heap.size w w'):TyBack is o w w' (.returned (.tuple #[.int .i64 is,.int .i64 0,.int .i64 0])):=⟨.inl ⟨h,rfl⟩,hb⟩
theorem tyBack_yes {is:Int} {o:Option (Int × Int)} {w w':World} {c a:Int} (hc:(c != 0)=true) (h:o=some (c,a)) (hb:Below w.heap.size w w'):TyBack is o w w' (.returned (.tuple #[.int .i64 0,.int .i64 c,.int .i64 a])):=⟨.inr ⟨c,a,hc,h,rfl⟩,hb⟩
def stWant (l:List Mo) (kind:Int) (mon name:ByteArray):Option Int:=if kind=2 then varTy l mon name else if kind=3∨kind=4 then some 1 else none
def stOwn (l:List Mo) (kind:Int) (mon name:ByteArray) (e:Ex):Option (Int × Int):=
 match stWant l kind mon name with
 | none=>none
 | some t=>(e.tero l).or (if e.is l=t then none else some (70,e.pos))
mutual
def St.tyc (l:List Mo):St→Option (Int × Int)
 | .mk kind mon name _ e _ _ blocks _=>(stOwn l kind mon name e).or (Bl.tycL l blocks)
def Bl.tyc (l:List Mo):Bl→Option (Int × Int)
 | .mk _ _ body=>St.tycL l body
def St.tycL (l:List Mo):List St→Option (Int × Int)
 | []=>none
 | s::r=>(St.tyc l s).or (St.tycL l r)
def Bl.tycL (l:List Mo):List Bl→Option (Int × Int)
 | []=>none
 | b::r=>(Bl.tyc l b).or (Bl.tycL l r)
end
theorem St.tyc_mk (l:List Mo) (kind:Int) (mon name:ByteArray) (n:Int) (e:Ex) (ad:Option Addr) (cap:Nat) (blocks:List Bl) (pos:Int):(St.mk kind mon name n e ad cap blocks pos).tyc l=(stOwn l kind mon name e).or (Bl.tycL l blocks):=by rw[St.tyc]
theorem Bl.tyc_mk (l:List Mo) (ad:Option Addr) (cap:Nat) (body:List St):(Bl.mk ad cap body).tyc l=St.tycL l body:=by rw[Bl.tyc]
theorem St.tycL_drop (k:List Mo) (l:List St) (j:Nat) (h:j<l.length):St.tycL k (l.drop j)=(l[j].tyc k).or (St.tycL k (l.drop (j+1))):=by
 rw[List.drop_eq_getElem_cons h,St.tycL]
theorem St.tycL_end (k:List Mo) (l:List St) (j:Nat) (h:l.length≤j):St.tycL k (l.drop j)=none:=by
 rw[List.drop_of_length_le h,St.tycL]
theorem Bl.tycL_drop (k:List Mo) (l:List Bl) (j:Nat) (h:j<l.length):Bl.tycL k (l.drop j)=(l[j].tyc k).or (Bl.tycL k (l.drop (j+1))):=by
 rw[List.drop_eq_getElem_cons h,Bl.tycL]
theorem Bl.tycL_end (k:List Mo) (l:List Bl) (j:Nat) (h:l.length≤j):Bl.tycL k (l.drop j)=none:=by
 rw[List.drop_of_length_le h,Bl.tycL]
def fstOf {α β:Type} (f:α→Option β):List α→Option β
 | []=>none
 | a::r=>(f a).or (fstOf f r)
theorem fstOf_drop {α β:Type} (f:α→Option β) (l:List α) (j:Nat) (h:j<l.length):fstOf f (l.drop j)=(f l[j]).or (fstOf f (l.drop (j+1))):=by
 rw[List.drop_eq_getElem_cons h,fstOf]
theorem fstOf_end {α β:Type} (f:α→Option β) (l:List α) (j:Nat) (h:l.length≤j):fstOf f (l.drop j)=none:=by
 rw[List.drop_of_length_le h,fstOf]
theorem fstOf_append {α β:Type} (f:α→Option β) (a b:List α):fstOf f (a++b)=(fstOf f a).or (fstOf f b):=by
 induction a with
 | nil=>simp[fstOf]
 | cons x a ih=>simp only[List.cons_append,fstOf,ih,Option.or_assoc]
theorem fstOf_flat {α β γ:Type} (f:β→Option γ) (g:α→List β) (l:List α):fstOf f (l.flatMap g)=fstOf (fun a=>fstOf f (g a)) l:=by
 induction l with
 | nil=>rfl
 | cons x l ih=>rw[List.flatMap_cons,fstOf_append,ih,fstOf]
theorem fstOf_none {α β:Type} (f:α→Option β) (l:List α):fstOf f l=none↔∀ x∈l,f x=none:=by
 induction l with
 | nil=>simp[fstOf]
 | cons x l ih=>rw[fstOf,Option.or_eq_none_iff,ih];simp
def Va.off (v:Va):Option (Int × Int):=if v.type=3∧(v.init<v.lo∨v.hi<v.init) then some (71,v.pos) else none
def Mo.offs (m:Mo):Option (Int × Int):=fstOf Va.off m.vars
def Me.tyc (l:List Mo) (m:Me):Option (Int × Int):=m.body.tyc l
def Mo.tyc (l:List Mo) (m:Mo):Option (Int × Int):=fstOf (Me.tyc l) m.meths
def Ro.tyc (l:List Mo) (r:Ro):Option (Int × Int):=r.body.tyc l
def Pr.tchk (p:Pr):Int × Int:=if p.nchk.1=0 then ((fstOf Mo.offs p.mons).or ((fstOf (Mo.tyc p.mons) p.mons).or (fstOf (Ro.tyc p.mons) p.roles))).getD (0,0) else p.nchk
open Go.RowKit
theorem vsum_take_le (l:List Mo) (i j:Nat) (h:j≤i):vsum (l.take j)≤vsum (l.take i):=by
 have:=vsum_le (l.take i) j
 rw[List.take_take,Nat.min_eq_left h] at this
 exact this
def VarBack (o:Option Int) (w w':World) (r:Ending):Prop:=((o=none∧r=.returned (.tuple #[.int .i64 0,.bool false]))∨(∃ t,(t=1∨t=2)∧o=some t∧r=.returned (.tuple #[.int .i64 t,.bool true])))∧Below w.heap.size w w'
theorem VarBack.no {f:FuncId} {args:Array Value} {o:Option Int} {w:World} (h:Calls Tryz.prog f args w fun r w'=>VarBack o w w' r) (ho:o=none):Calls Tryz.prog f args w fun r w'=>r=.returned (.tuple #[.int .i64 0,.bool false])∧Below w.heap.size w w':=
 h.mono fun r w' hh=>by
  rcases hh.1 with ⟨_,h2⟩|⟨t,_,h1,_⟩
  ·exact⟨h2,hh.2⟩
  ·rw[ho] at h1;cases h1
theorem VarBack.yes {f:FuncId} {args:Array Value} {o:Option Int} {w:World} (h:Calls Tryz.prog f args w fun r w'=>VarBack o w w' r) {t:Int} (ho:o=some t):Calls Tryz.prog f args w fun r w'=>r=.returned (.tuple #[.int .i64 t,.bool true])∧Below w.heap.size w w':=
 h.mono fun r w' hh=>by
  rcases hh.1 with ⟨h1,_⟩|⟨t',_,h1,h2⟩
  ·rw[ho] at h1;cases h1
  ·rw[ho] at h1;cases h1;exact⟨h2,hh.2⟩
set_option maxRecDepth 100000 in
set_option maxHeartbeats 8000000 in
theorem variable_any (p:Pr) (mon name:ByteArray) (n₀:Nat) (w:World) (hn:n₀≤w.heap.size) (hp:p.Is n₀ w) (hvs:vsum p.mons≤1000000) :
  Calls Tryz.prog 99 #[p.val,.string mon,.string name] w fun r w'=>VarBack (varTy p.mons mon name) w w' r:=by
 have h58:∀ W,Below w.heap.size w W→Calls Tryz.prog 107 #[p.val,.string mon,.string name] W fun r w'=>FirstBack (slotIx p.mons mon name) W w' r:=fun W hW=>slot_any p mon name n₀ W (by have:=hW.size;omega) (hp.below (hW.mono hn)) hvs
 rcases p with ⟨mad,mcap,mons,rad,rcap,roles⟩
 obtain⟨⟨h3,h4⟩,-⟩:=hp
 simp only[Pr.val] at h3 h4 h58 hvs ⊢
 have hl1:=h3.1;have hl2:=h3.2.1
 unfold maxLen at hl2
 go_enter Tryz.func99,Tryz.ntmps99
 go_upto_region 1 with fail
 obtain⟨bP,hB,hz⟩:=one_box w #[.slice mad mons.length mcap,.slice rad roles.length rcap] 25
 obtain⟨W0,hW0⟩:∃ W0,w.alloc (.cells #[.slice mad mons.length mcap,.slice rad roles.length rcap] 25)=W0:=⟨_,rfl⟩
 rw[hW0] at bP hB hz ⊢
 clear hW0
 have s0:=cellOf bP 0
 have s1:=cellOf bP 1
 simp at s0 s1
 have HZ:=hid hz
 clear hz bP
 have hq:=h58 W0 hB
 clear h58
 rcases hs:slotIx mons mon name with _|s
 ·have hq:=FirstBack.no hq hs
  have HV:=hid (varTy_none hs)
  clear hs
  go_wp2_with (go_at_call 107;(with_reducible refine hq.mono ?_);rintro r u ⟨rfl,bb⟩)
  go_ret2
  exact⟨.inl ⟨HV.out,rfl⟩,hB.tr le_rfl' bb⟩
 have hq:=FirstBack.yes hq hs
 obtain⟨i,hi,k,hk,hsk,-,-⟩:=slotIx_parts hs
 subst hsk
 have HV:=hid (varTy_at hs hi hk)
 clear hs
 have hsb:k+vsum (mons.take i)≤1000000:=by
  have h1:=vsum_snoc mons i hi
  have h2:=vsum_le mons (i+1)
  omega
 obtain⟨s,hs⟩:∃ s,k+vsum (mons.take i)=s:=⟨_,rfl⟩
 rw[hs] at hq hsb
 have HS:=hid hs
 clear hs
 have hmi:=(h4 _ (List.getElem_mem hi)).2.1.1
 rcases h3.2.2 with h|⟨kb,koff,rfl,hbn,hrow⟩
 ·subst h;simp at hi
 go_wp2_with (go_at_call 107;(with_reducible refine hq.mono ?_);rintro r u1 ⟨rfl,bb1⟩;have hz1:=bb1.size;have x0:=(bb1.cell (p:=⟨w.heap.size,0,none⟩) (by show w.heap.size<_;have:=HZ.out;omega)).trans s0)
 have hB1:=hB.tr le_rfl' bb1
 have hB1z:=hB1.size
 go_loopw [8,10] (fun m o wr=>∃ (j c:Nat),j≤i∧o=.int .i64 j∧m=.int .i64 (c:Int)∧c≤1000000∧Hid (c+vsum (mons.take j)=k+vsum (mons.take i))∧wr=u1)
  (fun _ o _=>i-(intOf o).toNat)
 case atStart=>exact⟨0,s,by omega,rfl,rfl,hsb,(by show _=_;rw[HS.out];simp[vsum]),rfl⟩
 case round =>
  obtain⟨j,c,hj,rfl,rfl,hc,HC,hwr⟩:=hrel
  have hw2:=hwr.symm
  subst hw2
  have hjl:j<mons.length:=by omega
  have hji:(j:Int)<(mons.length:Int):=by omega
  have hrj:=hrow.below (hB1.mono hn) hbn
  obtain⟨-,c1,-⟩:=namesSl (n₀:=n₀) hrj j hjl
  by_cases hlt:j<i
  ·have hcl:mons[j].vars.length≤c:=by
    have h1:=HC.out
    have h2:=vsum_snoc mons j hjl
    have h3:=vsum_take_le mons i (j+1) (by omega)
    omega
   have HN:Hid (c-mons[j].vars.length+vsum (mons.take (j+1))=k+vsum (mons.take i)):=by
    show _=_
    have h1:=HC.out
    have h2:=vsum_snoc mons j hjl
    omega
   have hvj:=vars_le mons j hjl
   obtain⟨vl,hvl⟩:∃ vl,mons[j].vars.length=vl:=⟨_,rfl⟩
   rw[hvl] at c1 hcl hvj
   rw[hvl] at HN
   clear hvl
   have hcl2:(vl:Int)≤(c:Int):=by omega
   have hcl3:decide ((c:Int)<(vl:Int))=false:=by simp;omega
   go_wp2
   go_roundw
   case rel=>exact⟨j+1,c-vl,by omega,by go_num,by go_num,by omega,HN,(by trivial)⟩
   case measure=>simp[intOf];omega
  ·obtain rfl:j=i:=by omega
   have hck:c=k:=by have:=HC.out;omega
   subst hck
   obtain⟨va,hva⟩:∃ va,mons[j].vars[c]=va:=⟨_,rfl⟩
   rw[hva] at HV
   obtain⟨vars,hvars⟩:∃ vars,mons[j].vars=vars:=⟨_,rfl⟩
   obtain⟨vad,hvad⟩:∃ vad,mons[j].vad=vad:=⟨_,rfl⟩
   obtain⟨vcap,hvcap⟩:∃ vcap,mons[j].vcap=vcap:=⟨_,rfl⟩
   have hkv:c<vars.length:=by rw[← hvars];exact hk
   have hva2:vars[c]=va:=by subst hvars;exact hva
   rw[hvars,hvad,hvcap] at c1 hmi
   clear hva hvars hvad hvcap
   have hw1:=hmi.1;have hw2:=hmi.2.1
   unfold maxLen at hw2
   rcases hmi.2.2 with h|⟨mb,moff,rfl,hmn,hmrow⟩
   ·subst h;simp at hkv
   have hmr:=hmrow.below (hB1.mono hn) hmn
   have d1:=hmr c hkv 1 (by omega)
   rcases va with ⟨vn,vt,vlo,vhi,vin,vps⟩
   have e1:(Va.cells vars[c])[1]?=some (.int .i64 vt):=by rw[hva2];rfl
   rw[e1] at d1
   clear e1 hva2 hmr hmrow
   have hck1:(c:Int)<(vars.length:Int):=by omega
   have hck2:decide ((vars.length:Int)≤(c:Int))=false:=by simp;omega
   have hck3:¬ vars.length≤c:=by omega
   by_cases t2:vt=2
   ·subst t2
    go_wp2
    go_ret2
    exact⟨.inr ⟨2,.inr rfl,HV.out,rfl⟩,hB1⟩
   ·have t2':(vt==2)=false:=by rw[beq_eq_false_iff_ne];exact t2
    by_cases t3:vt=3
    ·subst t3
     clear t2
     go_wp2
     go_ret2
     exact⟨.inr ⟨2,.inr rfl,HV.out,rfl⟩,hB1⟩
    ·have t3':(vt==3)=false:=by rw[beq_eq_false_iff_ne];exact t3
     have HV2:Hid (varTy mons mon name=some 1):=by
      show _=_
      rw[HV.out,Va.is,if_neg (by simp;exact⟨t2,t3⟩)]
     clear t2 t3
     go_wp2
     go_ret2
     exact⟨.inr ⟨1,.inl rfl,HV2.out,rfl⟩,hB1⟩
open Go.RowKit
theorem ok_kids {op:Int} {mon name:ByteArray} {n:Int} {ad:Option Addr} {cap:Nat} {kids:List Ex} {pos:Int} (h:(Ex.mk op mon name n ad cap kids pos).ok=true):(Ex.mk op mon name n ad cap kids pos).ok1=true∧∀ x∈kids,x.ok=true:=by
 rw[Ex.ok,Ex.subs_mk,List.all_cons,Bool.and_eq_true,Ex.subsL_eq,List.all_flatMap] at h
 exact⟨h.1,fun x hx=>List.all_eq_true.1 h.2 x hx⟩
theorem ok1_parts {op:Int} {mon name:ByteArray} {n:Int} {ad:Option Addr} {cap:Nat} {kids:List Ex} {pos:Int} (h:(Ex.mk op mon name n ad cap kids pos).ok1=true):1≤op∧op≤17∧kids.length=exKids op.toNat:=by
 simp only[Ex.ok1,Bool.and_eq_true,decide_eq_true_eq,beq_iff_eq] at h
 omega
theorem ruIs_op (k:Nat) (h1:1≤k) (h4:k≠4):ruIs k=opIs (k:Int):=by
 unfold ruIs opIs
 split
 ·omega
 ·split
  ·rw[if_pos (by omega)]
  ·rw[if_neg (by omega)]
theorem isOf_ru (l:List Mo) (k:Nat) (mon name:ByteArray) (n:Int) (ad:Option Addr) (cap:Nat) (kids:List Ex) (pos:Int) (h1:1≤k) (h4:k≠4):Ex.is l (.mk (k:Int) mon name n ad cap kids pos)=ruIs k:=by
 rw[Ex.is,if_neg (by omega),ruIs_op k h1 h4]
theorem want_rule (l:List Mo) (k:Nat) (kids:List Ex) (h1:1≤k) (h2:k<18) (hk:kids.length=exKids k) (hr:ruParts k≠-1):misfit l (wantOf l (k:Int) kids) kids=misfit l (ruParts k) kids:=by
 by_cases h5:k<5
 ·have:kids=[]:=by
   apply List.eq_nil_of_length_eq_zero
   rw[hk,exKids,if_pos h5]
  subst this
  rfl
 ·have hw:wantOf l (k:Int) kids=ruParts k:=by
   unfold ruParts at hr ⊢
   unfold wantOf opWant
   rw[if_neg h5] at hr ⊢
   by_cases h6:k=5∨16≤k
   ·rw[if_pos h6] at hr ⊢
    have h7:(k:Int)=5∨(k:Int)=16∨(k:Int)=17:=by omega
    rw[if_pos h7];rfl
   ·rw[if_neg h6] at hr ⊢
    have h7:¬ ((k:Int)=5∨(k:Int)=16∨(k:Int)=17):=by omega
    rw[if_neg h7]
    by_cases h8:k=10∨k=11
    ·rw[if_pos h8] at hr
     exact absurd rfl hr
    ·rw[if_neg h8] at hr ⊢
     have h9:¬ ((k:Int)=10∨(k:Int)=11):=by omega
     rw[if_neg h9];rfl
  rw[hw]
theorem want_alike (l:List Mo) (k:Nat) (kids:List Ex) (h2:k<18) (hk:kids.length=exKids k) (hr:ruParts k=-1):∃ h:0<kids.length,wantOf l (k:Int) kids=kids[0].is l:=by
 have h10:k=10∨k=11:=by
  unfold ruParts at hr
  split at hr
  ·omega
  ·split at hr
   ·omega
   ·split at hr
    ·assumption
    ·omega
 have h2k:kids.length=2:=by rw[hk];rcases h10 with rfl|rfl <;> rfl
 refine⟨by omega,?_⟩
 unfold wantOf opWant
 have h7:¬ ((k:Int)=5∨(k:Int)=16∨(k:Int)=17):=by omega
 have h9:(k:Int)=10∨(k:Int)=11:=by omega
 rw[if_neg h7,if_pos h9,if_pos rfl]
 cases kids with
 | nil=>simp at h2k
 | cons a r=>rfl
set_option maxRecDepth 100000 in
set_option maxHeartbeats 16000000 in
theorem typeOf_any (p:Pr) (hvs:vsum p.mons≤1000000) (e:Ex):∀ (n₀:Nat) (w:World),n₀≤w.heap.size→p.Is n₀ w→e.Is n₀ w→Shapes w→e.ok=true →
  Calls Tryz.prog 101 #[p.val,e.val] w fun r w'=>TyBack (e.is p.mons) (e.ter p.mons) w w' r:=by
 induction e using Ex.ind with
 | h op mon name n ad cap kids pos ih =>
 intro n₀ w hn hp hI hS hok
 have HU:=hid (Ex.ter_mk p.mons op mon name n ad cap kids pos)
 obtain⟨hok1,hokk⟩:=ok_kids hok
 obtain⟨ho1,ho2,hkl⟩:=ok1_parts hok1
 have HKL:=hid hkl
 clear hok hok1
 have hs3:=hS.size
 have hsl:=hI.down.2.1
 have hIk:=hI.down.2.2
 have hl1:=hsl.1;have hl2:=hsl.2.1
 unfold maxLen at hl2
 have hk2l:kids.length≤2:=by
  rw[hkl,exKids]
  split
  ·omega
  ·split <;> omega
 clear hkl
 have h35:∀ W,Below w.heap.size w W→Calls Tryz.prog 99 #[p.val,.string mon,.string name] W fun r w'=>VarBack (varTy p.mons mon name) W w' r:=fun W hW=>variable_any p mon name n₀ W (by have:=hW.size;omega) (hp.below (hW.mono hn)) hvs
 have h21:∀ x∈kids,∀ W,Below w.heap.size w W→Calls Tryz.prog 101 #[p.val,x.val] W fun r w'=>TyBack (x.is p.mons) (x.ter p.mons) W w' r:=fun x hx W hW=>ih x hx n₀ W (by have:=hW.size;omega) (hp.below (hW.mono hn)) ((hIk x hx).below (hW.mono hn)) (hS.below hW hs3) (hokk x hx)
 clear ih hIk hokk hI
 obtain⟨pad,hpad⟩:∃ a,p.mad=a:=⟨_,rfl⟩
 obtain⟨pml,hpml⟩:∃ a,p.mons.length=a:=⟨_,rfl⟩
 obtain⟨pmc,hpmc⟩:∃ a,p.mcap=a:=⟨_,rfl⟩
 obtain⟨prd,hprd⟩:∃ a,p.rad=a:=⟨_,rfl⟩
 obtain⟨prl,hprl⟩:∃ a,p.roles.length=a:=⟨_,rfl⟩
 obtain⟨prc,hprc⟩:∃ a,p.rcap=a:=⟨_,rfl⟩
 simp only[Pr.val,Ex.val,hpad,hpml,hpmc,hprd,hprl,hprc] at h35 h21 ⊢
 clear hpad hpml hpmc hprd hprl hprc hp
 simp only[Ex.cells] at ⊢
 go_enter Tryz.func101,Tryz.ntmps101
 go_upto_region 1 with fail
 obtain⟨bP,bE,hB,hz⟩:=two_box w #[.slice pad pml pmc,.slice prd prl prc] #[.int .i64 op,.string mon,.string name,.int .i64 n,.slice ad kids.length cap,.int .i64 pos] 25 61
 obtain⟨W0,hW0⟩:∃ W0,(w.alloc (.cells #[.slice pad pml pmc,.slice prd prl prc] 25)).alloc (.cells #[.int .i64 op,.string mon,.string name,.int .i64 n,.slice ad kids.length cap,.int .i64 pos] 61)=W0:=⟨_,rfl⟩
 rw[hW0] at bP bE hB hz ⊢
 clear hW0
 have r0:=cellOf bP 0
 have r1:=cellOf bP 1
 have s0:=cellOf bE 0
 have s1:=cellOf bE 1
 have s2:=cellOf bE 2
 have s4:=cellOf bE 4
 have s5:=cellOf bE 5
 simp at r0 r1 s0 s1 s2 s4 s5
 have HZ:=hid hz
 clear hz bP bE
 by_cases h4:op=4
 ·subst h4
  have HU2:=hid (HU.out.trans (if_pos rfl))
  have HIS:Hid (Ex.is p.mons (.mk 4 mon name n ad cap kids pos)=(varTy p.mons mon name).getD 0):=by show _=_;rw[Ex.is,if_pos rfl]
  clear HU h21
  have hq:=h35 W0 hB
  clear h35
  rcases hv:varTy p.mons mon name with _|t
  ·have hq:=VarBack.no hq hv
   have HU3:Hid (Ex.ter p.mons (.mk 4 mon name n ad cap kids pos)=some (61,pos)):=by show _=_;rw[HU2.out,hv];rfl
   clear hv HU2 HIS
   go_upto_region 4 with (go_at_call 99;(with_reducible refine hq.mono ?_);rintro r u1 ⟨rfl,bb1⟩;have hz1:=bb1.size;have x5:=(bb1.cell (p:=⟨w.heap.size+1,5,none⟩) (by show w.heap.size+1<_;have:=HZ.out;omega)).trans s5)
   go_quiet (fail)
   go_wp2
   go_ret3
   have hbf:=hB.tr le_rfl' bb1
   exact tyBack_yes rfl HU3.out ⟨hbf.os,hbf.tape,hbf.output,hbf.size,hbf.block⟩
  ·have hq:=VarBack.yes hq hv
   have HU3:Hid (Ex.ter p.mons (.mk 4 mon name n ad cap kids pos)=none):=by show _=_;rw[HU2.out,hv];rfl
   have HI3:Hid (Ex.is p.mons (.mk 4 mon name n ad cap kids pos)=t):=by show _=_;rw[HIS.out,hv];rfl
   clear hv HU2 HIS
   go_wp2_with (go_at_call 99;(with_reducible refine hq.mono ?_);rintro r u1 ⟨rfl,bb1⟩)
   go_ret3
   rw[HI3.out]
   exact tyBack_no HU3.out (hB.tr le_rfl' bb1)
 have h4':(op==4)=false:=by rw[beq_eq_false_iff_ne];exact h4
 have HU2:=hid (HU.out.trans (if_neg h4))
 clear HU h35
 obtain⟨k,rfl⟩:∃ k:Nat,op=(k:Int):=⟨op.toNat,by omega⟩
 have hk1:1≤k:=by omega
 have hk2:k<18:=by omega
 have hk4:k≠4:=by omega
 have HKL':Hid (kids.length=exKids k):=HKL
 clear HKL h4
 have HU:=HU2
 clear HU2
 go_upto_region 7 with fail
 obtain⟨bA,hBA,hzA⟩:=one_box W0 #[.int .i64 0,.int .i64 0] 152
 have hz0:=HZ.out
 rw[hz0] at bA
 have t0:=(hBA.cell (p:=⟨w.heap.size,0,none⟩) (by show w.heap.size<_;omega)).trans r0
 have t1:=(hBA.cell (p:=⟨w.heap.size,1,none⟩) (by show w.heap.size<_;omega)).trans r1
 have x0:=(hBA.cell (p:=⟨w.heap.size+1,0,none⟩) (by show w.heap.size+1<_;omega)).trans s0
 have x4:=(hBA.cell (p:=⟨w.heap.size+1,4,none⟩) (by show w.heap.size+1<_;omega)).trans s4
 have hBw:Below w.heap.size w (W0.alloc (.cells #[.int .i64 0,.int .i64 0] 152)):=hB.trans (hBA.mono (by omega))
 obtain⟨W1,hW1⟩:∃ W1,W0.alloc (.cells #[.int .i64 0,.int .i64 0] 152)=W1:=⟨_,rfl⟩
 rw[hW1] at bA hzA t0 t1 x0 x4 hBw ⊢
 clear hW1 r0 r1 s0 s1 s2 s4 s5 hB hBA
 simp only[hz0] at hzA ⊢
 clear hz0 HZ
 have HZA:=hid hzA
 have hzA2:w.heap.size+2<W1.heap.size:=by omega
 clear hzA
 go_wp2
 go_loopw [38] (fun i wr=>∃ (j:Nat) (cs:Array Value),j≤kids.length∧i=.int .i64 j∧cs.size=2∧wr.heap[w.heap.size+2]?=some (.cells cs 152 (0,0))∧Hid (∀ k (h:k<kids.length),k<j→cs[k]?=some (.int .i64 (kids[k].is p.mons)))∧Hid (Ex.terL p.mons kids=Ex.terL p.mons (kids.drop j))∧Below (w.heap.size+2) W1 wr)
  (fun i _=>kids.length-(intOf i).toNat)
 case atStart=>exact⟨0,_,by omega,rfl,rfl,bA,(fun _ _ h=>by omega),rfl,Below.refl _ _⟩
 case round =>
  obtain⟨j,cs,hj,rfl,hcs,bA1,HP,HQ,hbw⟩:=hrel
  have hz3:=hbw.size
  have hbF:Below w.heap.size w wr:=hBw.trans (hbw.mono (by omega))
  have hb0:Below n₀ w wr:=hbF.mono hn
  have y0:=(hbw.cell (p:=⟨w.heap.size,0,none⟩) (by show w.heap.size<_;omega)).trans t0
  have y1:=(hbw.cell (p:=⟨w.heap.size,1,none⟩) (by show w.heap.size<_;omega)).trans t1
  by_cases hlt:j<kids.length
  ·rcases hsl.2.2 with h|⟨kb,koff,rfl,hbn,hrow⟩
   ·subst h;simp at hlt
   have hbn2:kb<wr.heap.size:=by omega
   have hj2:j<2:=by omega
   have hj2i:(j:Int)<2:=by omega
   have HD:=hid (Ex.terL_drop p.mons kids j hlt)
   have hrj:=hrow.below hb0 hbn
   have hq:=h21 _ (List.getElem_mem hlt) (wr.alloc (.cells (kids[j]).cells.toArray 61)) (hbF.al le_rfl' _)
   have HPO:=hid (Ex.ter_pos p.mons kids[j])
   have HPN:Hid (∀ ki,kids[j].is p.mons=ki→∀ k (h:k<kids.length),k<j+1→(cs.setIfInBounds j (.int .i64 ki))[k]?=some (.int .i64 (kids[k].is p.mons))):=fun ki hki k h hk=>by
    by_cases e:k=j
    ·subst e;rw[Array.getElem?_setIfInBounds_self_of_lt (by omega),hki]
    ·rw[Array.getElem?_setIfInBounds_ne (by omega)];exact HP.out k h (by omega)
   obtain⟨ki,hki⟩:∃ ki,kids[j].is p.mons=ki:=⟨_,rfl⟩
   have HPN2:=hid (HPN.out ki hki)
   obtain⟨u,hu⟩:∃ u,kids[j].ter p.mons=u:=⟨_,rfl⟩
   rw[hu] at HPO
   rw[hu] at HD
   rw[hu,hki] at hq
   clear hu hki HPN
   have z0:∀ o,(wr.alloc o).cell? ⟨w.heap.size,0,none⟩=_:=fun o=>(((Below.refl _ wr).al le_rfl' o).cell (p:=⟨w.heap.size,0,none⟩) (by show w.heap.size<_;omega)).trans y0
   have z1:∀ o,(wr.alloc o).cell? ⟨w.heap.size,1,none⟩=_:=fun o=>(((Below.refl _ wr).al le_rfl' o).cell (p:=⟨w.heap.size,1,none⟩) (by show w.heap.size<_;omega)).trans y1
   rcases he':kids[j] with ⟨op',mon',name',n',ad',cap',kids',pos'⟩
   obtain⟨c0,c1,c2,c3,c4,c5⟩:=row6 hrj j hlt (by rw[he'];rfl)
   simp only[he',Ex.cells] at hq
   clear he' h21
   rcases u with _|⟨c,a⟩
   ·have hq:=TyBack.no hq rfl
    obtain⟨v,hv⟩:∃ v,cs[j]?=some v:=⟨cs[j],by rw[Array.getElem?_eq_getElem (by omega)]⟩
    have HV:=hid hv
    clear hv
    go_wp2_with (go_at_call 101;(with_reducible refine hq.mono ?_);rintro r u1 ⟨rfl,bb1⟩;have bA2:=(bb1.block (w.heap.size+2) (by simp;omega)).trans ((((Below.refl _ wr).al le_rfl' _).block (w.heap.size+2) (by omega)).trans bA1);have f2:=frozen_of bA2 j;have g2:=(cellOf bA2 j).trans HV.out)
    have hs1:=bb1.size
    go_roundw
    case rel=>exact⟨j+1,cs.setIfInBounds j (.int .i64 ki),by omega,by go_num,by simpa using hcs,heap_setCell_same u1 _ j cs 152 _ bA2,HPN2,by show _=_;rw[HQ.out,HD.out];rfl,((hbw.al (by omega) _).trans (bb1.mono (by simp;omega))).setCell (p:=⟨w.heap.size+2,j,none⟩) (by show w.heap.size+2≤w.heap.size+2;omega) _⟩
    case measure=>simp[intOf];omega
   ·have hq:=TyBack.yes hq rfl
    have hcb:(c != 0)=true:=by rw[bne_iff_ne];rcases HPO.out c a rfl with rfl|rfl <;> decide
    go_wp2_with (go_at_call 101;(with_reducible refine hq.mono ?_);rintro r u1 ⟨rfl,bb1⟩)
    go_ret3
    exact tyBack_yes hcb (by rw[HU.out,HQ.out,HD.out];rfl) ((hbF.al le_rfl' _).tr le_rfl' bb1)
  ·have hjd:decide ((j:Int)<(kids.length:Int))=false:=by simp;omega
   obtain rfl:j=kids.length:=by omega
   have HT:Hid (Ex.terL p.mons kids=none):=by show _=_;rw[HQ.out,Ex.terL_end _ _ _ (by omega)]
   clear h21 HQ y0 y1
   obtain⟨W2,hW2⟩:∃ W2,wr=W2:=⟨_,rfl⟩
   subst hW2
   have HP2:Hid (∀ k (h:k<kids.length),wr.cell? ⟨w.heap.size+2,k,none⟩=some (.int .i64 (kids[k].is p.mons))):=fun k h=>(cellOf bA1 k).trans (HP.out k h h)
   have y0:=(hbw.cell (p:=⟨w.heap.size+1,0,none⟩) (by show w.heap.size+1<_;omega)).trans x0
   have y4:=(hbw.cell (p:=⟨w.heap.size+1,4,none⟩) (by show w.heap.size+1<_;omega)).trans x4
   obtain⟨ru0,ru1⟩:=(hS.below hbF hs3).ru k hk2
   have hB2:=hbF
   clear HP hbF hb0 hbw t0 t1 x0 x4 bA hBw
   obtain⟨W2,hW2⟩:∃ W2,wr=W2:=⟨_,rfl⟩
   rw[hW2] at bA1 HP2 y0 y4 ru0 ru1 hB2 hz3 ⊢
   clear hW2
   by_cases hal:ruParts k=-1
   ·obtain⟨h0l,hwa⟩:=want_alike p.mons k kids hk2 HKL'.out hal
    have g0:=HP2.out 0 h0l
    obtain⟨WANT,hWANT⟩:∃ WANT,kids[0].is p.mons=WANT:=⟨_,rfl⟩
    rw[hWANT] at g0 hwa
    have HWANT:Hid (misfit p.mons (wantOf p.mons (k:Int) kids) kids=misfit p.mons WANT kids):=by show _=_;rw[hwa]
    rw[hal] at ru1
    clear hWANT hwa hal ru0
    go_wp2
    go_loopw [70] (fun i wr=>∃ j:Nat,j≤kids.length∧i=.int .i64 j∧Hid (misfit p.mons WANT kids=misfit p.mons WANT (kids.drop j))∧Below (w.heap.size+3) W2 wr)
     (fun i _=>kids.length-(intOf i).toNat)
    case atStart=>exact⟨0,by omega,rfl,rfl,Below.refl _ _⟩
    case round =>
     obtain⟨j,hj,rfl,HQ,hbw⟩:=hrel
     have hz3:=hbw.size
     have hbF:Below w.heap.size w wr:=hB2.trans (hbw.mono (by omega))
     have hb0:Below n₀ w wr:=hbF.mono hn
     by_cases hlt:j<kids.length
     ·rcases hsl.2.2 with h|⟨kb,koff,rfl,hbn,hrow⟩
      ·subst h;simp at hlt
      have hbn2:kb<wr.heap.size:=by omega
      have hj2:j<2:=by omega
      have hj2i:(j:Int)<2:=by omega
      have HD:=hid (misfit_drop p.mons WANT kids j hlt)
      have hrj:=hrow.below hb0 hbn
      have hpj:=(hbw.cell (p:=⟨w.heap.size+2,j,none⟩) (by show w.heap.size+2<_;omega)).trans (HP2.out j hlt)
      have hpj2:=fun o=>(((Below.refl _ wr).al le_rfl' o).cell (p:=⟨w.heap.size+2,j,none⟩) (by show w.heap.size+2<_;omega)).trans hpj
      obtain⟨ki,hki⟩:∃ ki,kids[j].is p.mons=ki:=⟨_,rfl⟩
      rw[hki] at HD
      rw[hki] at hpj
      simp only[hki] at hpj2
      clear hki
      rcases he':kids[j] with ⟨op',mon',name',n',ad',cap',kids',pos'⟩
      obtain⟨c0,c1,c2,c3,c4,c5⟩:=row6 hrj j hlt (by rw[he'];rfl)
      rw[he'] at HD
      simp only[Ex.pos] at HD
      clear he'
      by_cases hkw:ki=WANT
      ·have HD2:=hid (HD.out.trans (if_pos hkw))
       subst hkw
       clear HD
       go_wp2
       go_roundw
       case rel=>exact⟨j+1,by omega,by go_num,by show _=_;rw[HQ.out,HD2.out],hbw.al (by omega) _⟩
       case measure=>simp[intOf];omega
      ·have hkb:(ki != WANT)=true:=by rw[bne_iff_ne];exact hkw
       have HD2:=hid (HD.out.trans (if_neg hkw))
       clear HD hkw
       go_upto_region 22 with fail
       go_quiet (fail)
       go_wp2
       go_ret3
       have hbf:=hbF.al le_rfl' (.cells #[.int .i64 op',.string mon',.string name',.int .i64 n',.slice ad' kids'.length cap',.int .i64 pos'] 61)
       exact tyBack_yes rfl (by rw[HU.out,HT.out,HWANT.out,HQ.out,HD2.out];rfl) ⟨hbf.os,hbf.tape,hbf.output,hbf.size,hbf.block⟩
     ·have hjd:decide ((j:Int)<(kids.length:Int))=false:=by simp;omega
      have q0:=(hbw.cell (p:=⟨w.heap.size+1,0,none⟩) (by show w.heap.size+1<_;omega)).trans y0
      obtain⟨ru0,-⟩:=(hS.below hbF hs3).ru k hk2
      go_wp2
      go_ret3
      have HR:Hid (Ex.is p.mons (.mk (k:Int) mon name n ad cap kids pos)=ruIs k):=hid (isOf_ru p.mons k mon name n ad cap kids pos hk1 hk4)
      rw[HR.out]
      exact tyBack_no (by rw[HU.out,HT.out,HWANT.out,HQ.out,misfit_end _ _ _ _ (by omega)];rfl) hbF
   ·have HWANT:=hid (want_rule p.mons k kids hk1 hk2 HKL'.out hal)
    have hal':(ruParts k==-1)=false:=by rw[beq_eq_false_iff_ne];exact hal
    obtain⟨WANT,hWANT⟩:∃ WANT,ruParts k=WANT:=⟨_,rfl⟩
    rw[hWANT] at ru1 hal'
    rw[hWANT] at HWANT
    clear hWANT hal ru0
    go_wp2
    go_loopw [70] (fun i wr=>∃ j:Nat,j≤kids.length∧i=.int .i64 j∧Hid (misfit p.mons WANT kids=misfit p.mons WANT (kids.drop j))∧Below (w.heap.size+3) W2 wr)
     (fun i _=>kids.length-(intOf i).toNat)
    case atStart=>exact⟨0,by omega,rfl,rfl,Below.refl _ _⟩
    case round =>
     obtain⟨j,hj,rfl,HQ,hbw⟩:=hrel
     have hz3:=hbw.size
     have hbF:Below w.heap.size w wr:=hB2.trans (hbw.mono (by omega))
     have hb0:Below n₀ w wr:=hbF.mono hn
     by_cases hlt:j<kids.length
     ·rcases hsl.2.2 with h|⟨kb,koff,rfl,hbn,hrow⟩
      ·subst h;simp at hlt
      have hbn2:kb<wr.heap.size:=by omega
      have hj2:j<2:=by omega
      have hj2i:(j:Int)<2:=by omega
      have HD:=hid (misfit_drop p.mons WANT kids j hlt)
      have hrj:=hrow.below hb0 hbn
      have hpj:=(hbw.cell (p:=⟨w.heap.size+2,j,none⟩) (by show w.heap.size+2<_;omega)).trans (HP2.out j hlt)
      have hpj2:=fun o=>(((Below.refl _ wr).al le_rfl' o).cell (p:=⟨w.heap.size+2,j,none⟩) (by show w.heap.size+2<_;omega)).trans hpj
      obtain⟨ki,hki⟩:∃ ki,kids[j].is p.mons=ki:=⟨_,rfl⟩
      rw[hki] at HD
      rw[hki] at hpj
      simp only[hki] at hpj2
      clear hki
      rcases he':kids[j] with ⟨op',mon',name',n',ad',cap',kids',pos'⟩
      obtain⟨c0,c1,c2,c3,c4,c5⟩:=row6 hrj j hlt (by rw[he'];rfl)
      rw[he'] at HD
      simp only[Ex.pos] at HD
      clear he'
      by_cases hkw:ki=WANT
      ·have HD2:=hid (HD.out.trans (if_pos hkw))
       subst hkw
       clear HD
       go_wp2
       go_roundw
       case rel=>exact⟨j+1,by omega,by go_num,by show _=_;rw[HQ.out,HD2.out],hbw.al (by omega) _⟩
       case measure=>simp[intOf];omega
      ·have hkb:(ki != WANT)=true:=by rw[bne_iff_ne];exact hkw
       have HD2:=hid (HD.out.trans (if_neg hkw))
       clear HD hkw
       go_upto_region 22 with fail
       go_quiet (fail)
       go_wp2
       go_ret3
       have hbf:=hbF.al le_rfl' (.cells #[.int .i64 op',.string mon',.string name',.int .i64 n',.slice ad' kids'.length cap',.int .i64 pos'] 61)
       exact tyBack_yes rfl (by rw[HU.out,HT.out,HWANT.out,HQ.out,HD2.out];rfl) ⟨hbf.os,hbf.tape,hbf.output,hbf.size,hbf.block⟩
     ·have hjd:decide ((j:Int)<(kids.length:Int))=false:=by simp;omega
      have q0:=(hbw.cell (p:=⟨w.heap.size+1,0,none⟩) (by show w.heap.size+1<_;omega)).trans y0
      obtain⟨ru0,-⟩:=(hS.below hbF hs3).ru k hk2
      go_wp2
      go_ret3
      have HR:Hid (Ex.is p.mons (.mk (k:Int) mon name n ad cap kids pos)=ruIs k):=hid (isOf_ru p.mons k mon name n ad cap kids pos hk1 hk4)
      rw[HR.out]
      exact tyBack_no (by rw[HU.out,HT.out,HWANT.out,HQ.out,misfit_end _ _ _ _ (by omega)];rfl) hbF
set_option maxRecDepth 100000 in
set_option maxHeartbeats 4000000 in
theorem type_any (p:Pr) (hvs:vsum p.mons≤1000000) (e:Ex) (n₀:Nat) (w:World) (hn:n₀≤w.heap.size) (hp:p.Is n₀ w) (he:e.Is n₀ w) (hS:Shapes w) :
  Calls Tryz.prog 85 #[p.val,e.val] w fun r w'=>TyBack (e.is p.mons) (e.tero p.mons) w w' r:=by
 have hs3:=hS.size
 have h20:∀ W,Below w.heap.size w W→Calls Tryz.prog 100 #[e.val] W fun r w'=>r=.returned (.int .i64 (if e.ok then 0 else 20))∧Below W.heap.size W w':=fun W hW=>checkExpr_any e n₀ W (by have:=hW.size;omega) (he.below (hW.mono hn)) (hS.below hW hs3)
 have h21:e.ok=true→∀ W,Below w.heap.size w W→Calls Tryz.prog 101 #[p.val,e.val] W fun r w'=>TyBack (e.is p.mons) (e.ter p.mons) W w' r:=fun hok W hW=>typeOf_any p hvs e n₀ W (by have:=hW.size;omega) (hp.below (hW.mono hn)) (he.below (hW.mono hn)) (hS.below hW hs3) hok
 have HPO:=hid (Ex.ter_pos p.mons e)
 have HTE:Hid (e.tero p.mons=if e.ok then e.ter p.mons else some (20,0)):=by show _=_;rw[Ex.tero]
 obtain⟨ok,hok⟩:∃ ok,e.ok=ok:=⟨_,rfl⟩
 obtain⟨is,his⟩:∃ is,e.is p.mons=is:=⟨_,rfl⟩
 obtain⟨u,hu⟩:∃ u,e.ter p.mons=u:=⟨_,rfl⟩
 obtain⟨T,hT⟩:∃ T,e.tero p.mons=T:=⟨_,rfl⟩
 rw[hT,hok,hu] at HTE
 rw[hu] at HPO
 rw[hT,his]
 simp only[hok,his,hu] at h20 h21
 clear hok his hu hT
 rcases p with ⟨mad,mcap,mons,rad,rcap,roles⟩
 rcases e with ⟨op,mon,name,n,ad,cap,kids,pos⟩
 simp only[Pr.val,Ex.val,Ex.cells] at h20 h21 ⊢
 clear hp he hvs
 go_enter Tryz.func85,Tryz.ntmps85
 go_upto_region 1 with fail
 obtain⟨bP,bE,hB,hz⟩:=two_box w #[.slice mad mons.length mcap,.slice rad roles.length rcap] #[.int .i64 op,.string mon,.string name,.int .i64 n,.slice ad kids.length cap,.int .i64 pos] 25 61
 obtain⟨W0,hW0⟩:∃ W0,(w.alloc (.cells #[.slice mad mons.length mcap,.slice rad roles.length rcap] 25)).alloc (.cells #[.int .i64 op,.string mon,.string name,.int .i64 n,.slice ad kids.length cap,.int .i64 pos] 61)=W0:=⟨_,rfl⟩
 rw[hW0] at bP bE hB hz ⊢
 clear hW0
 have r0:=cellOf bP 0
 have r1:=cellOf bP 1
 have s0:=cellOf bE 0
 have s1:=cellOf bE 1
 have s2:=cellOf bE 2
 have s3:=cellOf bE 3
 have s4:=cellOf bE 4
 have s5:=cellOf bE 5
 simp at r0 r1 s0 s1 s2 s3 s4 s5
 have HZ:=hid hz
 clear hz bP bE
 have hq:=h20 W0 hB
 clear h20
 cases ok
 ·have HT:Hid (T=some (20,0)):=hid (HTE.out.trans (if_neg (by simp)))
  go_wp2_with (go_at_call 100;(with_reducible refine hq.mono ?_);rintro r u1 ⟨rfl,bb1⟩)
  go_ret3
  exact tyBack_yes rfl HT.out (hB.tr le_rfl' bb1)
 ·have HT:Hid (T=u):=hid (HTE.out.trans (if_pos rfl))
  have hq21:=h21 rfl
  clear h21
  rcases u with _|⟨c,a⟩
  ·go_wp2_with (first
    | (go_at_call 100;(with_reducible refine hq.mono ?_);rintro r u1 ⟨rfl,bb1⟩;have hz1:=bb1.size;have hz0:=HZ.out;have x0:=(bb1.cell (p:=⟨w.heap.size,0,none⟩) (by show w.heap.size<_;omega)).trans r0;have x1:=(bb1.cell (p:=⟨w.heap.size,1,none⟩) (by show w.heap.size<_;omega)).trans r1;have y0:=(bb1.cell (p:=⟨w.heap.size+1,0,none⟩) (by show w.heap.size+1<_;omega)).trans s0;have y1:=(bb1.cell (p:=⟨w.heap.size+1,1,none⟩) (by show w.heap.size+1<_;omega)).trans s1;have y2:=(bb1.cell (p:=⟨w.heap.size+1,2,none⟩) (by show w.heap.size+1<_;omega)).trans s2;have y3:=(bb1.cell (p:=⟨w.heap.size+1,3,none⟩) (by show w.heap.size+1<_;omega)).trans s3;have y4:=(bb1.cell (p:=⟨w.heap.size+1,4,none⟩) (by show w.heap.size+1<_;omega)).trans s4;have y5:=(bb1.cell (p:=⟨w.heap.size+1,5,none⟩) (by show w.heap.size+1<_;omega)).trans s5;clear hz0;have hq2:=TyBack.no (hq21 u1 (hB.tr le_rfl' bb1)) rfl)
    | (go_at_call 101;(with_reducible refine hq2.mono ?_);rintro r u2 ⟨rfl,bb2⟩))
   go_ret3
   exact tyBack_no HT.out ((hB.tr le_rfl' bb1).tr le_rfl' bb2)
  ·have hcb:(c != 0)=true:=by rw[bne_iff_ne];rcases HPO.out c a rfl with rfl|rfl <;> decide
   go_wp2_with (first
    | (go_at_call 100;(with_reducible refine hq.mono ?_);rintro r u1 ⟨rfl,bb1⟩;have hz1:=bb1.size;have hz0:=HZ.out;have x0:=(bb1.cell (p:=⟨w.heap.size,0,none⟩) (by show w.heap.size<_;omega)).trans r0;have x1:=(bb1.cell (p:=⟨w.heap.size,1,none⟩) (by show w.heap.size<_;omega)).trans r1;have y0:=(bb1.cell (p:=⟨w.heap.size+1,0,none⟩) (by show w.heap.size+1<_;omega)).trans s0;have y1:=(bb1.cell (p:=⟨w.heap.size+1,1,none⟩) (by show w.heap.size+1<_;omega)).trans s1;have y2:=(bb1.cell (p:=⟨w.heap.size+1,2,none⟩) (by show w.heap.size+1<_;omega)).trans s2;have y3:=(bb1.cell (p:=⟨w.heap.size+1,3,none⟩) (by show w.heap.size+1<_;omega)).trans s3;have y4:=(bb1.cell (p:=⟨w.heap.size+1,4,none⟩) (by show w.heap.size+1<_;omega)).trans s4;have y5:=(bb1.cell (p:=⟨w.heap.size+1,5,none⟩) (by show w.heap.size+1<_;omega)).trans s5;clear hz0;have hq2:=TyBack.yes (hq21 u1 (hB.tr le_rfl' bb1)) rfl)
    | (go_at_call 101;(with_reducible refine hq2.mono ?_);rintro r u2 ⟨rfl,bb2⟩))
   go_ret3
   exact tyBack_yes hcb HT.out ((hB.tr le_rfl' bb1).tr le_rfl' bb2)
end Go.Proofs.YtpbjikncobnkjaaGreatDoor
