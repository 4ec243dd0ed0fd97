/-
  Own texts joined by program: CmH.
-/
import Derived.Test.YtpbjikncobnkjaaGreatDoorQbf
namespace Go.Proofs.YtpbjikncobnkjaaGreatDoor
open Go.RowKit
theorem methIx_both {l:List Mo} {a c:ByteArray} {f:Me} (h:methIx l a c=some f):∃ m∈l,m.name=a∧f∈m.meths∧f.name=c:=by
 unfold methIx at h
 split at h
 ·cases h
 ·rename_i i hi
  split at h
  ·cases h
  ·rename_i m hm
   split at h
   ·cases h
   ·rename_i k hk
    have h1:m.name=a:=by
     have:=(List.findIdx?_eq_some_iff_getElem.1 hi).2.1
     have e:=(List.getElem?_eq_some_iff.1 hm).2
     simpa[e] using this
    have h2:f.name=c:=by
     have:=(List.findIdx?_eq_some_iff_getElem.1 hk).2.1
     have e:=(List.getElem?_eq_some_iff.1 h).2
     simpa[e] using this
    exact⟨m,List.mem_of_getElem? hm,h1,List.mem_of_getElem? h,h2⟩
def allCo (p:Pr):List (Ref × Nat):=p.mons.flatMap fun m=>m.meths.map fun f=>((m.name,f.name),f.body.cost)
theorem allCo_sum (p:Pr):((allCo p).map Prod.snd).sum=(p.mons.map Mo.mco).sum:=by
 unfold allCo
 induction p.mons with
 | nil=>rfl
 | cons m l ih =>
  rw[List.flatMap_cons,List.map_append,List.sum_append,ih,List.map_cons,List.sum_cons,List.map_map]
  rfl
def rco (p:Pr) (r:Ref):Nat:=(bodyOf p r).cost
theorem rco_mem {p:Pr} {r:Ref} (h:methIx p.mons r.1 r.2≠none):(r,rco p r)∈allCo p:=by
 cases hm:methIx p.mons r.1 r.2 with
 | none=>exact absurd hm h
 | some f =>
  obtain⟨m,h1,h2,h3,h4⟩:=methIx_both hm
  refine List.mem_flatMap.2 ⟨m,h1,List.mem_map.2 ⟨f,h3,?_⟩⟩
  rw[h2,h4,rco,bodyOf]
  simp only[hm]
theorem sum_sub {R:List Ref} (c:Ref→Nat):∀ {A:List (Ref × Nat)},R.Nodup→(∀ r∈R,(r,c r)∈A)→(R.map c).sum≤(A.map Prod.snd).sum:=by
 induction R with
 | nil=>intro A _ _;simp
 | cons r R ih =>
  intro A hn h
  obtain⟨h1,h2⟩:=List.nodup_cons.1 hn
  obtain⟨a,b,rfl⟩:=List.append_of_mem (h r (by simp))
  have h3:=ih (A:=a++b) h2 (fun x hx=>by
   have h4:=h x (by simp[hx])
   rcases List.mem_append.1 h4 with h5|h5
   ·exact List.mem_append.2 (.inl h5)
   ·rcases List.mem_cons.1 h5 with h6|h6
    ·have:x=r:=congrArg Prod.fst h6
     exact absurd (this▸hx) h1
    ·exact List.mem_append.2 (.inr h6))
  simp only[List.map_append,List.sum_append,List.map_cons,List.sum_cons] at h3 ⊢
  omega
def Lim (V C:Nat):Prop:=(V+4000)*19 ^ C≤4000*21 ^ C
theorem Lim.mono {V C D:Nat} (h:Lim V C) (hd:C≤D):Lim V D:=by
 obtain⟨d,rfl⟩:∃ d,D=C+d:=⟨D-C,by omega⟩
 unfold Lim at h ⊢
 rw[Nat.pow_add,Nat.pow_add,← Nat.mul_assoc,← Nat.mul_assoc]
 exact Nat.mul_le_mul h (pow_le d)
def topV (C:Nat):Nat:=4000*21 ^ C / 19 ^ C-4000
theorem top_eq (C:Nat):topV C+4000=4000*21 ^ C / 19 ^ C:=by
 have h1:4000≤4000*21 ^ C / 19 ^ C:=(Nat.le_div_iff_mul_le (Nat.pow_pos (by omega))).2 (Nat.mul_le_mul_left _ (pow_le C))
 unfold topV
 omega
theorem Lim.top {V C:Nat} (h:Lim V C):V≤topV C:=by
 have h1:V+4000≤4000*21 ^ C / 19 ^ C:=(Nat.le_div_iff_mul_le (Nat.pow_pos (by omega))).2 h
 have h2:=top_eq C
 omega
theorem Lim.body {f:Ref→Nat} {x:Bl} {C:Nat} (h:∀ s∈x.subs,s.kind=8→s.blocks=[]∧f s.ref≤topV C):Lim (x.cv f) (x.cost+C):=by
 obtain⟨nb,k,h1,h2,-,h4⟩:=cv_bound x h
 have h5:=grow h1 h2 h4
 have h6:(topV C+4000)*19 ^ C≤4000*21 ^ C:=by rw[top_eq];exact Nat.div_mul_le_self _ _
 unfold Lim
 calc (x.cv f+4000)*19 ^ (x.cost+C)=(x.cv f+4000)*19 ^ x.cost*19 ^ C:=by rw[Nat.pow_add,Nat.mul_assoc]
  _≤(topV C+4000)*21 ^ x.cost*19 ^ C:=Nat.mul_le_mul_right _ h5
  _=(topV C+4000)*19 ^ C*21 ^ x.cost:=by rw[Nat.mul_assoc,Nat.mul_comm (21 ^ x.cost),← Nat.mul_assoc]
  _≤4000*21 ^ C*21 ^ x.cost:=Nat.mul_le_mul_right _ h6
  _=4000*21 ^ (x.cost+C):=by rw[Nat.mul_assoc,← Nat.pow_add,Nat.add_comm C]
def preC (p:Pr) (R:List Ref) (i:Nat):Nat:=((R.take i).map (rco p)).sum
theorem preC_mono (p:Pr) (R:List Ref) {i j:Nat} (h:i≤j):preC p R i≤preC p R j:=by
 unfold preC
 obtain⟨d,rfl⟩:∃ d,j=i+d:=⟨j-i,by omega⟩
 rw[List.take_add,List.map_append,List.sum_append]
 omega
theorem preC_at {p:Pr} {R:List Ref} {r:Ref} (h:r∈R):preC p R (rkOf R r+1)=preC p R (rkOf R r)+rco p r:=by
 have h1:rkOf R r<R.length:=rkOf_lt h
 have h2:R[rkOf R r]=r:=by
  have:=List.findIdx_getElem (xs:=R) (p:=fun y=>decide (y=r)) (w:=h1)
  exact of_decide_eq_true this
 unfold preC
 rw[List.take_succ_eq_append_getElem h1,List.map_append,List.sum_append,h2]
 simp
theorem cvR_lim {p:Pr} {x:Bl} {R:List Ref} {Z:List (Ref × Nat)} (hg:Good p x R Z) (hok:p.ok=true):∀ (n:Nat) (r:Ref),r∈R→rkOf R r<n→Lim (cvR p n r) (preC p R (rkOf R r+1))
 | 0,r,_,h=>by omega
 | n+1,r,hr,h=>by
  have hb:∀ s∈(bodyOf p r).subs,s.ok1=true:=by
   cases hm:methIx p.mons r.1 r.2 with
   | none=>exact absurd hm (hg.known r hr)
   | some f =>
    obtain⟨m,h1,h2⟩:=methIx_mem hm
    have h3:=okB_iff.1 (ok_meth hok m h1 f h2)
    rw[bodyOf];simp only[hm];exact h3
  have h1:Lim ((bodyOf p r).cv (cvR p n)) ((bodyOf p r).cost+preC p R (rkOf R r)):=Lim.body (fun s hs hk=>⟨call_blocks (hb s hs) hk,by
   have h2:=hg.leads r hr s.ref ((callsOf_mem _ _).2 ⟨s,hs,hk,rfl⟩)
   exact ((cvR_lim hg hok n s.ref h2.1 (by omega)).mono (preC_mono p R (by omega))).top⟩)
  rw[preC_at hr,Nat.add_comm (preC p R (rkOf R r))]
  exact h1
set_option exponentiation.threshold 500 in
theorem cvAll_small {p:Pr} {x:Bl} (hok:p.ok=true) (hx:x.okB=true) (hc:(p.mons.map Mo.mco).sum+x.cost≤300)
  (hk:∀ r∈reachedOf p (callsOf x),methIx p.mons r.1 r.2≠none) (hg:∀ r∈reachedOf p (callsOf x),¬ Round p r):cvAll p x≤4611686018427387904:=by
 rcases cnt_cases p x with ⟨⟨r,h1,h3⟩,-⟩|⟨-,⟨r,h1,h3⟩,-⟩|⟨-,-,Z,h3,-⟩
 ·exact absurd h3 (hk r h1)
 ·exact absurd h3 (hg r h1)
 ·have hb:=okB_iff.1 hx
  have h4:Lim (cvAll p x) (x.cost+preC p (reachedOf p (callsOf x)) (reachedOf p (callsOf x)).length):=Lim.body (fun s hs hk=>⟨call_blocks (hb s hs) hk,by
   have h5:=h3.root s.ref ((callsOf_mem _ _).2 ⟨s,hs,hk,rfl⟩)
   exact ((cvR_lim h3 hok _ s.ref h5 (rkOf_lt h5)).mono (preC_mono p _ (rkOf_lt h5))).top⟩)
  have h6:preC p (reachedOf p (callsOf x)) (reachedOf p (callsOf x)).length≤(p.mons.map Mo.mco).sum:=by
   rw[← allCo_sum]
   unfold preC
   rw[List.take_length]
   exact sum_sub (rco p) h3.nodup (fun r hr=>rco_mem (hk r hr))
  have h7:Lim (cvAll p x) 300:=h4.mono (by omega)
  have h8:4000*21 ^ 300≤4611686018427387904*19 ^ 300:=by decide
  unfold Lim at h7
  have h9:(cvAll p x+4000)*19 ^ 300≤4611686018427387904*19 ^ 300:=Nat.le_trans h7 h8
  have h10:=Nat.le_of_mul_le_mul_right h9 (Nat.pow_pos (by omega))
  omega
end Go.Proofs.YtpbjikncobnkjaaGreatDoor
