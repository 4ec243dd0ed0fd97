/-
  Own texts joined by program: ClA.
-/
import Derived.Test.YtbmbchdjjfmafaaGreatDoorQad
import Derived.Test.YtbmbchdjjfmafaaGreatDoorQal
namespace Go.Proofs.YtbmbchdjjfmafaaGreatDoor
open Go.RowKit
instance decMemRef (r:Ref) (S:List Ref):Decidable (r∈S):=decidable_of_iff (∃ x∈S,x=r) ⟨fun ⟨_,h,e⟩=>e▸h,fun h=>⟨r,h,rfl⟩⟩
def St.kind:St→Int
 | .mk k _ _ _ _ _ _ _ _=>k
def St.ref:St→Ref
 | .mk _ mon name _ _ _ _ _ _=>(mon,name)
def cstep (S:List Ref) (s:St):List Ref:=if s.kind=8∧s.ref ∉ S then S++[s.ref] else S
def callsA (S:List Ref) (l:List St):List Ref:=l.foldl cstep S
def callsOf (b:Bl):List Ref:=callsA [] b.subs
theorem cstep_no {S:List Ref} {s:St} (h:¬ (s.kind=8∧s.ref ∉ S)):cstep S s=S:=by rw[cstep,if_neg h]
theorem cstep_yes {S:List Ref} {s:St} (h:s.kind=8∧s.ref ∉ S):cstep S s=S++[s.ref]:=by rw[cstep,if_pos h]
theorem callsA_append (S:List Ref) (l m:List St):callsA S (l++m)=callsA (callsA S l) m:=by simp[callsA]
theorem callsA_st (S:List Ref) (kind:Int) (mon name:ByteArray) (n:Int) (e:Ex) (ad:Option Addr) (cap:Nat) (blocks:List Bl) (pos:Int) :
  callsA S (St.mk kind mon name n e ad cap blocks pos).subs=callsA (cstep S (.mk kind mon name n e ad cap blocks pos)) (blocks.flatMap Bl.subs):=by rw[St.subs_mk];rfl
theorem callsA_blocks (S:List Ref) (blocks:List Bl) (j:Nat) (hj:j<blocks.length):callsA S ((blocks.take (j+1)).flatMap Bl.subs)=callsA (callsA S ((blocks.take j).flatMap Bl.subs)) blocks[j].subs:=by
 rw[flatMap_snoc Bl.subs blocks j hj,callsA_append]
theorem callsA_body (S:List Ref) (body:List St) (j:Nat) (hj:j<body.length):callsA S ((body.take (j+1)).flatMap St.subs)=callsA (callsA S ((body.take j).flatMap St.subs)) body[j].subs:=by
 rw[flatMap_snoc St.subs body j hj,callsA_append]
theorem callsA_mem (l:List St):∀ (S:List Ref) (x:Ref),x∈callsA S l↔x∈S∨∃ s∈l,s.kind=8∧s.ref=x:=by
 induction l with
 | nil=>intro S x;simp[callsA]
 | cons s l ih =>
  intro S x
  show x∈callsA (cstep S s) l↔_
  rw[ih]
  by_cases hc:s.kind=8∧s.ref ∉ S
  ·rw[cstep_yes hc]
   constructor
   ·rintro (h|⟨t,ht,h⟩)
    ·rcases List.mem_append.1 h with h|h
     ·exact .inl h
     ·exact .inr ⟨s,by simp,hc.1,(List.mem_singleton.1 h).symm⟩
    ·exact .inr ⟨t,by simp[ht],h⟩
   ·rintro (h|⟨t,ht,h⟩)
    ·exact .inl (List.mem_append.2 (.inl h))
    ·rcases List.mem_cons.1 ht with rfl|ht
     ·exact .inl (List.mem_append.2 (.inr (by simp[h.2])))
     ·exact .inr ⟨t,ht,h⟩
  ·rw[cstep_no hc]
   constructor
   ·rintro (h|⟨t,ht,h⟩)
    ·exact .inl h
    ·exact .inr ⟨t,by simp[ht],h⟩
   ·rintro (h|⟨t,ht,h⟩)
    ·exact .inl h
    ·rcases List.mem_cons.1 ht with rfl|ht
     ·by_cases hr:t.ref∈S
      ·exact .inl (h.2▸hr)
      ·exact absurd ⟨h.1,hr⟩ hc
     ·exact .inr ⟨t,ht,h⟩
theorem callsOf_mem (b:Bl) (x:Ref):x∈callsOf b↔∃ s∈b.subs,s.kind=8∧s.ref=x:=by
 rw[callsOf,callsA_mem];simp
theorem callsA_len (l:List St):∀ S:List Ref,(callsA S l).length≤S.length+l.length:=by
 induction l with
 | nil=>intro S;exact Nat.le_refl _
 | cons s l ih =>
  intro S
  have h1:=ih (cstep S s)
  have h2:(cstep S s).length≤S.length+1:=by unfold cstep;split <;> simp
  show (callsA (cstep S s) l).length≤_
  simp only[List.length_cons];omega
def dfs (G:Ref→List Ref):Nat→List Ref × List Ref→Ref→List Ref × List Ref
 | 0,st,_=>st
 | n+1,st,r=>if r∈st.1 then st else
   (((G r).foldl (dfs G n) (st.1++[r],st.2)).1,((G r).foldl (dfs G n) (st.1++[r],st.2)).2++[r])
theorem dfs_seen {G:Ref→List Ref} {n:Nat} {S A:List Ref} {r:Ref} (h:r∈S):dfs G n (S,A) r=(S,A):=by
 cases n with
 | zero=>rfl
 | succ n=>rw[dfs,if_pos h]
theorem dfs_new {G:Ref→List Ref} {n:Nat} {S A:List Ref} {r:Ref} (h:r ∉ S):dfs G (n+1) (S,A) r=(((G r).foldl (dfs G n) (S++[r],A)).1,((G r).foldl (dfs G n) (S++[r],A)).2++[r]):=by
 rw[dfs,if_neg h]
theorem fold_mono {α β:Type} {R:α→α→Prop} (hr:∀ a,R a a) (ht:∀ a b c,R a b→R b c→R a c) (f:α→β→α) (hf:∀ a b,R a (f a b)) (l:List β):∀ a,R a (l.foldl f a):=by
 induction l with
 | nil=>exact hr
 | cons x l ih=>intro a;exact ht _ _ _ (hf a x) (ih _)
theorem dfs_mono (G:Ref→List Ref) (n:Nat):∀ (st:List Ref × List Ref) (r:Ref),∀ x∈st.1,x∈(dfs G n st r).1:=by
 induction n with
 | zero=>intro st r x hx;exact hx
 | succ n ih =>
  rintro⟨S,A⟩ r x hx
  by_cases h:r∈S
  ·rw[dfs_seen h];exact hx
  ·rw[dfs_new h]
   exact fold_mono (R:=fun a b=>∀ x∈a.1,x∈b.1) (fun _ _ h=>h) (fun _ _ _ h1 h2 x hx=>h2 x (h1 x hx)) (dfs G n) (fun a b=>ih a b) (G r) (S++[r],A) x (List.mem_append.2 (.inl hx))
theorem fold_dfs_mono (G:Ref→List Ref) (n:Nat) (l:List Ref) (st:List Ref × List Ref):∀ x∈st.1,x∈(l.foldl (dfs G n) st).1:=
 fold_mono (R:=fun (a b:List Ref × List Ref)=>∀ x∈a.1,x∈b.1) (fun _ _ h=>h) (fun _ _ _ h1 h2 x hx=>h2 x (h1 x hx)) (dfs G n) (fun a b=>dfs_mono G n a b) l st
def left (U S:List Ref):Nat:=(U.filter fun x=>decide (x ∉ S)).length
theorem left_mono {U S S':List Ref} (h:∀ x∈S,x∈S'):left U S'≤left U S:=by
 unfold left
 induction U with
 | nil=>simp
 | cons u U ih =>
  by_cases h1:u∈S
  ·have h2:=h u h1
   simp only[List.filter_cons,h1,h2,not_true_eq_false,decide_false]
   exact ih
  ·by_cases h2:u∈S'
   ·simp only[List.filter_cons,h1,h2,not_true_eq_false,not_false_eq_true,decide_false,decide_true,if_true,List.length_cons]
    have:=ih
    simp only[Bool.false_eq_true,if_false]
    omega
   ·simp only[List.filter_cons,h1,h2,not_false_eq_true,decide_true,if_true,List.length_cons]
    omega
theorem left_snoc {U S:List Ref} {r:Ref} (hu:r∈U) (h:r ∉ S):left U (S++[r])+1≤left U S:=by
 induction U with
 | nil=>cases hu
 | cons u U ih =>
  by_cases e:u=r
  ·subst e
   have h1:u∈S++[u]:=by simp
   have h2:=left_mono (U:=U) (S:=S) (S':=S++[u]) (fun x hx=>List.mem_append.2 (.inl hx))
   unfold left at h2 ⊢
   simp only[List.filter_cons,h1,h,not_true_eq_false,not_false_eq_true,decide_false,decide_true,if_true,List.length_cons,Bool.false_eq_true,if_false]
   omega
  ·have hu':r∈U:=by
    rcases List.mem_cons.1 hu with rfl|h'
    ·exact absurd rfl e
    ·exact h'
   have h2:=ih hu'
   by_cases h1:u∈S
   ·have h3:u∈S++[r]:=List.mem_append.2 (.inl h1)
    unfold left at h2 ⊢
    simp only[List.filter_cons,h1,h3,not_true_eq_false,decide_false,Bool.false_eq_true,if_false]
    exact h2
   ·have h3:u ∉ S++[r]:=by simp[h1,e]
    unfold left at h2 ⊢
    simp only[List.filter_cons,h1,h3,not_false_eq_true,decide_true,if_true,List.length_cons]
    omega
def szGet (Z:List (Ref × Nat)) (r:Ref):Nat:=((Z.find? (fun x=>decide (x.1=r))).map Prod.snd).getD 0
def sown (Z:List (Ref × Nat)) (s:St):Nat:=if s.kind=8 then szGet Z s.ref else 1
def sumOf (Z:List (Ref × Nat)) (l:List St):Nat:=(l.map (sown Z)).sum
theorem sumOf_append (Z:List (Ref × Nat)) (l m:List St):sumOf Z (l++m)=sumOf Z l+sumOf Z m:=by simp[sumOf]
def tot (Z:List (Ref × Nat)) (b:Bl):Nat:=sumOf Z b.subs
theorem sumOf_body (Z:List (Ref × Nat)) (body:List St) (j:Nat) (hj:j<body.length):sumOf Z ((body.take (j+1)).flatMap St.subs)=sumOf Z ((body.take j).flatMap St.subs)+sumOf Z body[j].subs:=by
 rw[flatMap_snoc St.subs body j hj,sumOf_append]
theorem sumOf_st (Z:List (Ref × Nat)) (kind:Int) (mon name:ByteArray) (n:Int) (e:Ex) (ad:Option Addr) (cap:Nat) (blocks:List Bl) (pos:Int) :
  sumOf Z (St.mk kind mon name n e ad cap blocks pos).subs=sown Z (.mk kind mon name n e ad cap blocks pos)+sumOf Z (blocks.flatMap Bl.subs):=by rw[St.subs_mk];simp[sumOf]
theorem sumOf_le (Z:List (Ref × Nat)) (l:List St) (j:Nat):sumOf Z ((l.take j).flatMap St.subs)≤sumOf Z (l.flatMap St.subs):=by
 conv=>rhs;rw[← List.take_append_drop j l,List.flatMap_append,sumOf_append]
 omega
def sizesF (G:Ref→List Ref) (body:Ref→Bl):List Ref→List (Ref × Nat)→Option (List (Ref × Nat))
 | [],Z=>some Z
 | r::R,Z=>if ∃ x∈G r,szGet Z x=0 then none else sizesF G body R (Z++[(r,1+min 401 (tot Z (body r)))])
def bodyOf (p:Pr) (r:Ref):Bl:=match methIx p.mons r.1 r.2 with
 | some m=>m.body
 | none=>.mk none 0 []
def leadsOf (p:Pr) (r:Ref):List Ref:=callsOf (bodyOf p r)
def allRefs (p:Pr):List Ref:=p.mons.flatMap fun m=>m.meths.flatMap fun f=>callsOf f.body
def reachedOf (p:Pr) (l:List Ref):List Ref:=(l.foldl (dfs (leadsOf p) (l.length+(allRefs p).length)) ([],[])).2
def cntOf (p:Pr) (b:Bl):Nat × Int:=
 if ∃ r∈reachedOf p (callsOf b),methIx p.mons r.1 r.2=none then (0,61) else
 match sizesF (leadsOf p) (bodyOf p) (reachedOf p (callsOf b)) [] with
 | none=>(0,80)
 | some Z=>if 400<min 401 (tot Z b) then (0,81) else (min 401 (tot Z b),0)
end Go.Proofs.YtbmbchdjjfmafaaGreatDoor
