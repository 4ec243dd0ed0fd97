import Derived.Test.YthdkgfmlihgceaaGreatDoorHan
import Derived.Test.YthdkgfmlihgceaaGreatDoorHap
namespace Go.Proofs.YthdkgfmlihgceaaGreatDoor
open Go.RowKit
instance decMemRef (r:Ref) (S:List Ref):Decidable (r∈S):=decidable_of_iff (∃x∈S,x=r) ⟨λ⟨_,h,e⟩=>e▸h,λh=>⟨r,h,rfl⟩⟩
def St.kind:St->Int
 | .mk k _ _ _ _ _ _ _ _=>k
def St.ref:St->Ref
 | .mk _ mon name _ _ _ _ _ _=>(mon,name)
def qdx (S:List Ref) (s:St):List Ref:=if s.kind=8/\s.ref ∉ S then S++[s.ref] else S
def qav (S:List Ref) (l:List St):List Ref:=l.foldl qdx S
def qac (b:Bl):List Ref:=qav [] b.subs
theorem qjw {S:List Ref}{s:St}(h:¬ (s.kind=8/\s.ref ∉ S)):qdx S s=S:=by rw[qdx,if_neg h]
theorem qlc {S:List Ref}{s:St}(h:s.kind=8/\s.ref ∉ S):qdx S s=S++[s.ref]:=by rw[qdx,if_pos h]
theorem qfi (S:List Ref) (l m:List St):qav S (l++m)=qav (qav S l) m:=by simp[qav]
theorem qse (S:List Ref) (kind:Int) (mon name:ByteArray) (n:Int) (e:Ex) (ad:Option Addr) (cap:Nat) (blocks:List Bl) (pos:Int) :
  qav S (St.mk kind mon name n e ad cap blocks pos).subs=qav (qdx S (.mk kind mon name n e ad cap blocks pos)) (blocks.flatMap Bl.subs):=by rw[St.subs_mk];rfl
theorem qdw (S:List Ref) (blocks:List Bl) (j:Nat) (hj:j<blocks.length):qav S ((blocks.take (j+1)).flatMap Bl.subs)=qav (qav S ((blocks.take j).flatMap Bl.subs)) blocks[j].subs:=by
 rw[qa0 Bl.subs blocks j hj,qfi]
theorem qm1 (S:List Ref) (body:List St) (j:Nat) (hj:j<body.length):qav S ((body.take (j+1)).flatMap St.subs)=qav (qav S ((body.take j).flatMap St.subs)) body[j].subs:=by
 rw[qa0 St.subs body j hj,qfi]
theorem qp1 (l:List St):∀(S:List Ref) (x:Ref),x∈qav S l↔x∈S\/∃s∈l,s.kind=8/\s.ref=x:=by
 induction l with
 | nil=>intro S x;simp[qav]
 | cons s l ih =>
  intro S x
  show x∈qav (qdx S s) l↔_
  rw[ih]
  by_cases hc:s.kind=8/\s.ref ∉ S
  ·rw[qlc hc]
   constructor
   ·rintro (h|⟨t,ht,h⟩)
    ·rcases List.mem_append.1 h with h|h
     ·exact .inl h
     ·exact .inr ⟨s,by simp,hc.1,(List.mem_singleton.1 h).symm⟩
    ·exact .inr ⟨t,by simp[ht],h⟩
   ·rintro (h|⟨t,ht,h⟩)
    ·exact .inl (List.mem_append.2 (.inl h))
    ·rcases List.mem_cons.1 ht with rfl|ht
     ·exact .inl (List.mem_append.2 (.inr (by simp[h.2])))
     ·exact .inr ⟨t,ht,h⟩
  ·rw[qjw hc]
   constructor
   ·rintro (h|⟨t,ht,h⟩)
    ·exact .inl h
    ·exact .inr ⟨t,by simp[ht],h⟩
   ·rintro (h|⟨t,ht,h⟩)
    ·exact .inl h
    ·rcases List.mem_cons.1 ht with rfl|ht
     ·by_cases hr:t.ref∈S
      ·exact .inl (h.2▸hr)
      ·exact absurd ⟨h.1,hr⟩ hc
     ·exact .inr ⟨t,ht,h⟩
theorem qbp (b:Bl) (x:Ref):x∈qac b↔∃s∈b.subs,s.kind=8/\s.ref=x:=by
 rw[qac,qp1];simp
theorem qeu (l:List St):∀S:List Ref,(qav S l).length<=S.length+l.length:=by
 induction l with
 | nil=>intro S;exact Nat.le_refl _
 | cons s l ih =>
  intro S
  have h1:=ih (qdx S s)
  have h2:(qdx S s).length<=S.length+1:=by unfold qdx;split <;> simp
  show (qav (qdx S s) l).length<=_
  simp only[List.length_cons];omega
def dfs (G:Ref->List Ref):Nat->List Ref × List Ref->Ref->List Ref × List Ref
 | 0,st,_=>st
 | n+1,st,r=>if r∈st.1 then st else
   (((G r).foldl (dfs G n) (st.1++[r],st.2)).1,((G r).foldl (dfs G n) (st.1++[r],st.2)).2++[r])
theorem qcu {G:Ref->List Ref}{n:Nat}{S A:List Ref}{r:Ref}(h:r∈S):dfs G n (S,A) r=(S,A):=by
 cases n with
 | zero=>rfl
 | succ n=>rw[dfs,if_pos h]
theorem qdz {G:Ref->List Ref}{n:Nat}{S A:List Ref}{r:Ref}(h:r ∉ S):dfs G (n+1) (S,A) r=(((G r).foldl (dfs G n) (S++[r],A)).1,((G r).foldl (dfs G n) (S++[r],A)).2++[r]):=by
 rw[dfs,if_neg h]
theorem qfp {α β:Type}{R:α->α->Prop}(hr:∀a,R a a) (ht:∀a b c,R a b->R b c->R a c) (f:α->β->α) (hf:∀a b,R a (f a b)) (l:List β):∀a,R a (l.foldl f a):=by
 induction l with
 | nil=>exact hr
 | cons x l ih=>intro a;exact ht _ _ _ (hf a x) (ih _)
theorem qdy (G:Ref->List Ref) (n:Nat):∀(st:List Ref × List Ref) (r:Ref),∀x∈st.1,x∈(dfs G n st r).1:=by
 induction n with
 | zero=>intro st r x hx;exact hx
 | succ n ih =>
  rintro⟨S,A⟩ r x hx
  by_cases h:r∈S
  ·rw[qcu h];exact hx
  ·rw[qdz h]
   exact qfp (R:=λa b=>∀x∈a.1,x∈b.1) (λ_ _ h=>h) (λ_ _ _ h1 h2 x hx=>h2 x (h1 x hx)) (dfs G n) (λa b=>ih a b) (G r) (S++[r],A) x (List.mem_append.2 (.inl hx))
theorem qbx (G:Ref->List Ref) (n:Nat) (l:List Ref) (st:List Ref × List Ref):∀x∈st.1,x∈(l.foldl (dfs G n) st).1:=
 qfp (R:=λ(a b:List Ref × List Ref)=>∀x∈a.1,x∈b.1) (λ_ _ h=>h) (λ_ _ _ h1 h2 x hx=>h2 x (h1 x hx)) (dfs G n) (λa b=>qdy G n a b) l st
def left (U S:List Ref):Nat:=(U.filter λx=>decide (x ∉ S)).length
theorem qcb {U S S':List Ref}(h:∀x∈S,x∈S'):left U S'<=left U S:=by
 unfold left
 induction U with
 | nil=>simp
 | cons u U ih =>
  by_cases h1:u∈S
  ·have h2:=h u h1
   simp only[List.filter_cons,h1,h2,not_true_eq_false,decide_false]
   exact ih
  ·by_cases h2:u∈S'
   ·simp only[List.filter_cons,h1,h2,not_true_eq_false,not_false_eq_true,decide_false,decide_true,if_true,List.length_cons]
    have:=ih
    simp only[Bool.false_eq_true,if_false]
    omega
   ·simp only[List.filter_cons,h1,h2,not_false_eq_true,decide_true,if_true,List.length_cons]
    omega
theorem qdd {U S:List Ref}{r:Ref}(hu:r∈U) (h:r ∉ S):left U (S++[r])+1<=left U S:=by
 induction U with
 | nil=>cases hu
 | cons u U ih =>
  by_cases e:u=r
  ·subst e
   have h1:u∈S++[u]:=by simp
   have h2:=qcb (U:=U) (S:=S) (S':=S++[u]) (λx hx=>List.mem_append.2 (.inl hx))
   unfold left at h2 ⊢
   simp only[List.filter_cons,h1,h,not_true_eq_false,not_false_eq_true,decide_false,decide_true,if_true,List.length_cons,Bool.false_eq_true,if_false]
   omega
  ·have hu':r∈U:=by
    rcases List.mem_cons.1 hu with rfl|h'
    ·exact absurd rfl e
    ·exact h'
   have h2:=ih hu'
   by_cases h1:u∈S
   ·have h3:u∈S++[r]:=List.mem_append.2 (.inl h1)
    unfold left at h2 ⊢
    simp only[List.filter_cons,h1,h3,not_true_eq_false,decide_false,Bool.false_eq_true,if_false]
    exact h2
   ·have h3:u ∉ S++[r]:=by simp[h1,e]
    unfold left at h2 ⊢
    simp only[List.filter_cons,h1,h3,not_false_eq_true,decide_true,if_true,List.length_cons]
    omega
def qb1 (Z:List (Ref × Nat)) (r:Ref):Nat:=((Z.find? (λx=>decide (x.1=r))).map Prod.snd).getD 0
def qku (Z:List (Ref × Nat)) (s:St):Nat:=if s.kind=8 then qb1 Z s.ref else 1
def sumOf (Z:List (Ref × Nat)) (l:List St):Nat:=(l.map (qku Z)).sum
theorem qdk (Z:List (Ref × Nat)) (l m:List St):sumOf Z (l++m)=sumOf Z l+sumOf Z m:=by simp[sumOf]
def tot (Z:List (Ref × Nat)) (b:Bl):Nat:=sumOf Z b.subs
theorem qrk (Z:List (Ref × Nat)) (body:List St) (j:Nat) (hj:j<body.length):sumOf Z ((body.take (j+1)).flatMap St.subs)=sumOf Z ((body.take j).flatMap St.subs)+sumOf Z body[j].subs:=by
 rw[qa0 St.subs body j hj,qdk]
theorem qx9 (Z:List (Ref × Nat)) (kind:Int) (mon name:ByteArray) (n:Int) (e:Ex) (ad:Option Addr) (cap:Nat) (blocks:List Bl) (pos:Int) :
  sumOf Z (St.mk kind mon name n e ad cap blocks pos).subs=qku Z (.mk kind mon name n e ad cap blocks pos)+sumOf Z (blocks.flatMap Bl.subs):=by rw[St.subs_mk];simp[sumOf]
theorem qx8 (Z:List (Ref × Nat)) (l:List St) (j:Nat):sumOf Z ((l.take j).flatMap St.subs)<=sumOf Z (l.flatMap St.subs):=by
 conv=>rhs;rw[<- List.take_append_drop j l,List.flatMap_append,qdk]
 omega
def qb0 (G:Ref->List Ref) (body:Ref->Bl):List Ref->List (Ref × Nat)->Option (List (Ref × Nat))
 | [],Z=>some Z
 | r::R,Z=>if ∃x∈G r,qb1 Z x=0 then none else qb0 G body R (Z++[(r,1+min 401 (tot Z (body r)))])
def qam (p:Pr) (r:Ref):Bl:=match qar p.mons r.1 r.2 with
 | some m=>m.body
 | none=>.mk none 0 []
def qae (p:Pr) (r:Ref):List Ref:=qac (qam p r)
def qaj (p:Pr):List Ref:=p.mons.flatMap λm=>m.meths.flatMap λf=>qac f.body
def qab (p:Pr) (l:List Ref):List Ref:=(l.foldl (dfs (qae p) (l.length+(qaj p).length)) ([],[])).2
def qc9 (p:Pr) (b:Bl):Nat × Int:=
 if ∃r∈qab p (qac b),qar p.mons r.1 r.2=none then (0,61) else
 match qb0 (qae p) (qam p) (qab p (qac b)) [] with
 | none=>(0,80)
 | some Z=>if 400<min 401 (tot Z b) then (0,81) else (min 401 (tot Z b),0)
