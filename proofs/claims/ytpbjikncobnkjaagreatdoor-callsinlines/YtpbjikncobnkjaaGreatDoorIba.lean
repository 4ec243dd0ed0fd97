/-
  Own texts joined by program: ClP ClQ ClW ClX.
-/
import Derived.Test.YtpbjikncobnkjaaGreatDoorIaz
namespace Go.Proofs.YtpbjikncobnkjaaGreatDoor
open Go.RowKit
theorem countOf_ok {p:Pr} {x:Bl} {n:Nat} {e:Int} (h:countOf p x=(n,e)) (he:e=0):p.ok=true∧x.okB=true∧cntOf p x=(n,0):=by
 unfold countOf at h
 split at h
 ·rename_i hk
  have:=Bool.and_eq_true_iff.1 hk
  exact⟨this.1,this.2,by rw[h,he]⟩
 ·injection h with h1 h2;omega
theorem inlined {p:Pr} {x y:Bl} {n:Nat} (h:countOf p x=(n,0)) (hy:y.clr=x.inl (inlR p (reachedOf p (callsOf x)).length)) :
  y.subs.length=n∧n≤400∧callsOf y=[]∧countOf p y=(n,0)∧∀ z:Bl,z.clr=y.inl (inlR p (reachedOf p (callsOf y)).length)→y.same z=true:=by
 obtain⟨h1,h2,h3⟩:=countOf_ok h rfl
 obtain⟨h4,h5⟩:=inl_size h1 h2 h3
 have h6:y.subs.length=n:=by
  have:=congrArg List.length (clr_subs y)
  rw[List.length_map,hy,h4] at this
  exact this.symm
 have h7:∀ s∈y.subs,s.kind≠8:=fun s hs=>by
  have:s.clr∈y.clr.subs:=by rw[clr_subs];exact List.mem_map.2 ⟨s,hs,rfl⟩
  rw[hy] at this
  have:=inl_none p _ x _ this
  rwa [clr_kind] at this
 have h8:y.okB=true:=by
  rw[← clr_okB,hy];exact inl_okB h1 _ h2
 obtain⟨h9,h10⟩:=cnt_none (p:=p) h7 (by omega)
 refine⟨h6,h5,h10,?_,fun z hz=>same_of_clr y z ?_⟩
 ·unfold countOf
  rw[h1,h8]
  simp only[Bool.and_self,if_true]
  rw[h9,h6]
 ·rw[hz,inl_same _ _ h7]
open Go.RowKit
def Ord (G:Ref→List Ref) (A:List Ref):Prop:=∀ (i:Nat) (h:i<A.length),∀ y∈G A[i],y∈A.take i
theorem Ord.snoc {G:Ref→List Ref} {A:List Ref} (h:Ord G A) {r:Ref} (hr:∀ y∈G r,y∈A):Ord G (A++[r]):=by
 intro i hi y hy
 rw[List.length_append,List.length_singleton] at hi
 by_cases hlt:i<A.length
 ·rw[List.getElem_append_left hlt] at hy
  rw[List.take_append_of_le_length (by omega)]
  exact h i hlt y hy
 ·have hi2:i=A.length:=by omega
  subst hi2
  rw[List.getElem_append_right (by omega)] at hy
  simp at hy
  rw[List.take_left]
  exact hr y hy
theorem dfs_ord {G:Ref→List Ref} {U:List Ref} {D:Ref→Prop} {rk:Ref→Nat} (hUc:∀ r∈U,∀ x∈G r,x∈U) (hU:∀ r,D r→r∈U∧∀ x∈G r,D x∧rk x<rk r) (n:Nat):∀ (st:List Ref × List Ref) (r:Ref),D r→left U st.1≤n→Ord G st.2→(∀ x∈st.1,x∈st.2∨rk r<rk x)→Ord G (dfs G n st r).2:=by
 induction n with
 | zero=>intro st r _ _ h _;exact h
 | succ n ih =>
  rintro⟨S,A⟩ r hr hl ho hp
  by_cases hm:r∈S
  ·rw[dfs_seen hm];exact ho
  ·rw[dfs_new hm]
   have hl2:=left_snoc (hU r hr).1 hm
   simp only at hl ho hp
   have hf:∀ (l:List Ref),(∀ x∈l,D x∧rk x<rk r)→∀ st:List Ref × List Ref,left U st.1≤n→Ord G st.2→(∀ x∈st.1,x∈st.2∨rk r≤rk x) →
     Ord G (l.foldl (dfs G n) st).2∧(∀ x∈(l.foldl (dfs G n) st).1,x∈(l.foldl (dfs G n) st).2∨rk r≤rk x)∧∀ x∈l,x∈(l.foldl (dfs G n) st).1:=by
    intro l
    induction l with
    | nil=>intro _ st _ h1 h2;exact⟨h1,h2,fun x hx=>by cases hx⟩
    | cons y l ihl =>
     intro hl st hs h1 h2
     obtain⟨hy1,hy2⟩:=hl y (by simp)
     have hd:=dfs_done hUc n st y (hU y hy1).1 hs
     have ho:=ih st y hy1 hs h1 (fun x hx=>by
      rcases h2 x hx with h|h
      ·exact .inl h
      ·exact .inr (by omega))
     have hlm:=left_mono (U:=U) (dfs_mono G n st y)
     obtain⟨g1,g2,g3⟩:=ihl (fun z hz=>hl z (by simp[hz])) (dfs G n st y) (by omega) ho (fun x hx=>by
      rcases hd.2 x hx with h|h
      ·rcases h2 x h with h|h
       ·exact .inl (dfs_mono2 G n st y x h)
       ·exact .inr h
      ·exact .inl h)
     refine⟨g1,g2,fun x hx=>?_⟩
     rcases List.mem_cons.1 hx with rfl|hx
     ·exact fold_dfs_mono G n l _ x hd.1
     ·exact g3 x hx
   obtain⟨g1,g2,g3⟩:=hf (G r) (hU r hr).2 (S++[r],A) (by show left U (S++[r])≤n;omega) ho (fun x hx=>by
    rcases List.mem_append.1 hx with h|h
    ·rcases hp x h with h|h
     ·exact .inl h
     ·exact .inr (by omega)
    ·rw[List.mem_singleton.1 h];exact .inr (Nat.le_refl _))
   refine g1.snoc fun y hy=>?_
   rcases g2 y (g3 y hy) with h|h
   ·exact h
   ·have:=((hU r hr).2 y hy).2;omega
theorem reached_ord {p:Pr} {l:List Ref} {D:Ref→Prop} {rk:Ref→Nat} (hC:∀ r,D r→∀ x∈leadsOf p r,D x∧rk x<rk r) (hl:∀ x∈l,D x):Ord (leadsOf p) (reachedOf p l):=by
 have hU:=closedU p l
 have hD:∀ r,(D r∧r∈l++allRefs p)→r∈l++allRefs p∧∀ x∈leadsOf p r,(D x∧x∈l++allRefs p)∧rk x<rk r:=fun r hr=>⟨hr.2,fun x hx=>⟨⟨(hC r hr.1 x hx).1,hU r hr.2 x hx⟩,(hC r hr.1 x hx).2⟩⟩
 have key:∀ (m:List Ref),(∀ x∈m,D x∧x∈l++allRefs p)→∀ st:List Ref × List Ref,left (l++allRefs p) st.1≤l.length+(allRefs p).length→(∀ x∈st.1,x∈st.2)→Ord (leadsOf p) st.2→Ord (leadsOf p) (m.foldl (dfs (leadsOf p) (l.length+(allRefs p).length)) st).2:=by
  intro m
  induction m with
  | nil=>intro _ st _ _ h;exact h
  | cons y m ih =>
   intro hm st hs h ho
   have h1:=dfs_done hU _ st y (hm y (by simp)).2 hs
   have h2:=left_mono (U:=l++allRefs p) (dfs_mono (leadsOf p) (l.length+(allRefs p).length) st y)
   exact ih (fun x hx=>hm x (by simp[hx])) (dfs (leadsOf p) (l.length+(allRefs p).length) st y) (by omega) (fun x hx=>by
    rcases h1.2 x hx with h5|h5
    ·exact dfs_mono2 _ _ _ _ x (h x h5)
    ·exact h5) (dfs_ord hU hD _ st y (hm y (by simp)) hs ho fun x hx=>.inl (h x hx))
 have h2:left (l++allRefs p) []≤l.length+(allRefs p).length:=Nat.le_trans (List.length_filter_le _ _) (by simp)
 exact key l (fun x hx=>⟨hl x hx,List.mem_append.2 (.inl hx)⟩) ([],[]) h2 (fun x hx=>by cases hx) (fun i h=>by simp at h)
theorem reached_min {p:Pr} {l C:List Ref} (hC:∀ r∈C,∀ x∈leadsOf p r,x∈C) (hl:∀ x∈l,x∈C):∀ x∈reachedOf p l,x∈C:=
 fold_dfs_sub hC _ l hl ([],[]) (fun x hx=>by cases hx)
theorem sizesF_ord {body:Ref→Bl}:∀ (R:List Ref) (Z:List (Ref × Nat)),(∀ x∈Z.map Prod.fst,szGet Z x≠0)→(Z.map Prod.fst++R).Nodup→(∀ (i:Nat) (h:i<R.length),∀ y∈callsOf (body R[i]),y∈Z.map Prod.fst++R.take i)→∃ Z',sizesF (fun r=>callsOf (body r)) body R Z=some Z':=by
 intro R
 induction R with
 | nil=>intro Z _ _ _;exact⟨Z,rfl⟩
 | cons r R ih =>
  intro Z hz hn ho
  have h0:¬ ∃ x∈callsOf (body r),szGet Z x=0:=by
   rintro⟨x,hx,h⟩
   have:=ho 0 (by simp) x hx
   simp only[List.take_zero,List.append_nil] at this
   exact hz x this h
  have hrn:r ∉ Z.map Prod.fst:=by
   intro hm
   exact (List.nodup_append.1 hn).2.2 r hm r (by simp) rfl
  rw[sizesF,if_neg h0]
  refine ih _ (fun x hx=>?_) (by simpa using hn) (fun i hi y hy=>?_)
  ·by_cases hxz:x∈Z.map Prod.fst
   ·rw[szGet_app hxz];exact hz x hxz
   ·have hxr:x=r:=by
     rw[List.map_append] at hx
     rcases List.mem_append.1 hx with h|h
     ·exact absurd h hxz
     ·simpa using h
    subst hxr
    have:=szGet_new (E:=[]) (v:=1+min 401 (tot Z (body x))) hrn
    rw[List.append_nil] at this
    rw[this];omega
  ·have:=ho (i+1) (by simpa using hi) y hy
   simpa[or_assoc] using this
theorem cnt_closed {p:Pr} {x:Bl} {C:List Ref} {rk:Ref→Nat} (hC:∀ r∈C,∀ y∈leadsOf p r,y∈C∧rk y<rk r) (hroot:∀ r∈callsOf x,r∈C) (hk:∀ r∈C,methIx p.mons r.1 r.2≠none) :
  ∃ Z,Good p x (reachedOf p (callsOf x)) Z∧cntOf p x=if 400<min 401 (tot Z x) then (0,81) else (min 401 (tot Z x),0):=by
 have hmin:=reached_min (fun r hr y hy=>(hC r hr y hy).1) hroot
 have hord:=reached_ord (D:=fun r=>r∈C) hC hroot
 have hnd:=reached_nodup p (callsOf x)
 have hkn:¬ ∃ r∈reachedOf p (callsOf x),methIx p.mons r.1 r.2=none:=fun ⟨r,hr,h⟩=>hk r (hmin r hr) h
 obtain⟨Z,hz⟩:=sizesF_ord (body:=bodyOf p) (reachedOf p (callsOf x)) [] (fun x hx=>by cases hx) (by simpa using hnd) (fun i hi y hy=>by simpa using hord i hi y hy)
 obtain⟨-,g2,g3,g4⟩:=sizesF_some (body:=bodyOf p) _ _ _ hz (by simpa using hnd)
 refine⟨Z,⟨reached_has p _,hnd,fun r hr y hy=>?_,g4,fun r hr=>hk r (hmin r hr)⟩,?_⟩
 ·obtain⟨i,hi,rfl⟩:=List.getElem_of_mem hr
  have h2:=hord i hi y hy
  obtain⟨k,hk2,rfl⟩:=List.getElem_of_mem h2
  rw[List.length_take] at hk2
  rw[List.getElem_take]
  exact⟨List.getElem_mem _,by rw[rkOf_at hnd,rkOf_at hnd hi];omega⟩
 ·rw[cntOf_eq,if_neg hkn]
  show cntRes _ (sizesF (fun r=>callsOf (bodyOf p r)) (bodyOf p) (reachedOf p (callsOf x)) [])=_
  rw[hz];rfl
theorem size_uniq {p:Pr} {x x':Bl} {R R':List Ref} {Z Z':List (Ref × Nat)} (h:Good p x R Z) (h':Good p x' R' Z'):∀ (n:Nat) (r:Ref),r∈R→r∈R'→rkOf R r<n→szGet Z r=szGet Z' r:=by
 intro n
 induction n with
 | zero=>intro r _ _ hn;omega
 | succ n ih =>
  intro r hr hr' hn
  rw[h.size r hr,h'.size r hr']
  congr 2
  unfold tot
  refine sumOf_congr fun t ht hk=>?_
  have ht2:t.ref∈leadsOf p r:=(callsOf_mem _ _).2 ⟨t,ht,hk,rfl⟩
  have:=h.leads r hr _ ht2
  exact ih _ this.1 (h'.leads r hr' _ ht2).1 (by omega)
theorem tot_uniq {p:Pr} {x x':Bl} {R R':List Ref} {Z Z':List (Ref × Nat)} (h:Good p x R Z) (h':Good p x' R' Z') (y:Bl) (hy:∀ r∈callsOf y,r∈R∧r∈R'):tot Z y=tot Z' y:=by
 unfold tot
 refine sumOf_congr fun t ht hk=>?_
 have:=hy t.ref ((callsOf_mem _ _).2 ⟨t,ht,hk,rfl⟩)
 exact size_uniq h h' _ _ this.1 this.2 (Nat.lt_succ_self _)
theorem inl_congr {f g:Ref→Bl} (x:Bl):(∀ s∈x.subs,s.kind=8→f s.ref=g s.ref)→x.inl f=x.inl g:=
 Bl.ind (P:=fun s=>(∀ t∈s.subs,t.kind=8→f t.ref=g t.ref)→s.inl f=s.inl g) (Q:=fun b=>(∀ t∈b.subs,t.kind=8→f t.ref=g t.ref)→b.inl f=b.inl g)
  (fun kind mon name n e ad cap blocks pos ih h=>by
   by_cases hk:kind=8
   ·subst hk
    rw[St.inl_call,St.inl_call]
    have:=h _ (subs_self _) rfl
    rw[show f (mon,name)=g (mon,name) from this]
   ·rw[St.inl_other f kind hk,St.inl_other g kind hk]
    congr 1
    refine List.map_congr_left fun b hb=>ih b hb fun t ht=>h t ?_
    exact subs_block (s:=St.mk kind mon name n e ad cap blocks pos) hb t ht)
  (fun ad cap body ih h=>by
   rw[Bl.inl_mk,Bl.inl_mk]
   congr 1
   refine List.map_congr_left fun s hs=>ih s hs fun t ht=>h t ?_
   rw[Bl.subs_mk]
   exact List.mem_flatMap.2 ⟨s,hs,ht⟩) x
theorem inlR_uniq {p:Pr} {x x':Bl} {R R':List Ref} {Z Z':List (Ref × Nat)} (h:Good p x R Z) (h':Good p x' R' Z'):∀ (n m:Nat) (r:Ref),r∈R→r∈R'→rkOf R r<n→rkOf R' r<m→inlR p n r=inlR p m r:=by
 intro n
 induction n with
 | zero=>intro m r _ _ hn;omega
 | succ n ih =>
  intro m r hr hr' hn hm
  cases m with
  | zero=>omega
  | succ m =>
   show (bodyOf p r).inl _=(bodyOf p r).inl _
   refine inl_congr _ fun t ht hk=>?_
   have ht2:t.ref∈leadsOf p r:=(callsOf_mem _ _).2 ⟨t,ht,hk,rfl⟩
   have h1:=h.leads r hr _ ht2
   have h2:=h'.leads r hr' _ ht2
   exact ih m _ h1.1 h2.1 (by omega) (by omega)
theorem cat_subs {x y z:Bl} (hz:z.body=x.body++y.body):z.subs=x.subs++y.subs:=by
 rcases x with ⟨a1,c1,b1⟩
 rcases y with ⟨a2,c2,b2⟩
 rcases z with ⟨a3,c3,b3⟩
 have hz:b3=b1++b2:=hz
 rw[Bl.subs_mk,Bl.subs_mk,Bl.subs_mk,hz,List.flatMap_append]
theorem cat_calls {x y z:Bl} (hz:z.body=x.body++y.body) (r:Ref):r∈callsOf z↔r∈callsOf x∨r∈callsOf y:=by
 rw[callsOf_mem,callsOf_mem,callsOf_mem,cat_subs hz]
 constructor
 ·rintro⟨s,hs,h⟩
  rcases List.mem_append.1 hs with hs|hs
  ·exact .inl ⟨s,hs,h⟩
  ·exact .inr ⟨s,hs,h⟩
 ·rintro (⟨s,hs,h⟩|⟨s,hs,h⟩)
  ·exact⟨s,List.mem_append.2 (.inl hs),h⟩
  ·exact⟨s,List.mem_append.2 (.inr hs),h⟩
theorem cat_tot {x y z:Bl} (hz:z.body=x.body++y.body) (Z:List (Ref × Nat)):tot Z z=tot Z x+tot Z y:=by
 unfold tot;rw[cat_subs hz,sumOf_append]
theorem cat_ok {x y z:Bl} (hz:z.body=x.body++y.body):z.okB=(x.okB&&y.okB):=by
 unfold Bl.okB;rw[cat_subs hz,List.all_append]
theorem cnt_small {p:Pr} {x:Bl} {Z:List (Ref × Nat)} (h:cntOf p x=if 400<min 401 (tot Z x) then (0,81) else (min 401 (tot Z x),0)) (ht:tot Z x≤400):(cntOf p x).2=0:=by
 rw[h,if_neg (by omega)]
theorem part_zero {p:Pr} {x z:Bl} {n:Nat} (hpk:p.ok=true) (hxk:x.okB=true) (hc:cntOf p z=(n,0)) (hx:∀ r∈callsOf x,r∈callsOf z) (ht:∀ Z,tot Z x≤tot Z z):(countOf p x).2=0∧x.inl (inlR p (reachedOf p (callsOf x)).length)=x.inl (inlR p (reachedOf p (callsOf z)).length):=by
 obtain⟨Z,hg,h1,h2⟩:=good_of hc
 obtain⟨Z',hg',h3⟩:=cnt_closed hg.leads (fun r hr=>hg.root r (hx r hr)) hg.known
 have hsub:=reached_min (fun r hr y hy=>(hg.leads r hr y hy).1) (fun r hr=>hg.root r (hx r hr))
 have h4:=tot_uniq hg' hg x (fun r hr=>⟨hg'.root r hr,hg.root r (hx r hr)⟩)
 have h5:=ht Z
 refine⟨?_,?_⟩
 ·unfold countOf
  rw[hpk,hxk]
  simp only[Bool.and_self,if_true]
  exact cnt_small h3 (by omega)
 ·refine inl_congr x fun s hs hk=>?_
  have h6:s.ref∈callsOf x:=(callsOf_mem _ _).2 ⟨s,hs,hk,rfl⟩
  have h7:=hg'.root _ h6
  have h8:=hg.root _ (hx _ h6)
  exact inlR_uniq hg' hg _ _ _ h7 h8 (rkOf_lt h7) (rkOf_lt h8)
theorem parts_ok {p:Pr} {x y z:Bl} (hz:z.body=x.body++y.body) (h:(countOf p z).2=0) :
  (countOf p x).2=0∧(countOf p y).2=0∧∀ a b c d:Bl,a.clr=x.inl (inlR p (reachedOf p (callsOf x)).length)→b.clr=y.inl (inlR p (reachedOf p (callsOf y)).length)→c.clr=z.inl (inlR p (reachedOf p (callsOf z)).length)→d.body=a.body++b.body→c.same d=true:=by
 obtain⟨hpk,hzk,hc⟩:=countOf_ok (n:=(countOf p z).1) (e:=(countOf p z).2) rfl h
 rw[cat_ok hz] at hzk
 obtain⟨hxk,hyk⟩:=Bool.and_eq_true_iff.1 hzk
 obtain⟨hx1,hx2⟩:=part_zero hpk hxk hc (fun r hr=>(cat_calls hz r).2 (.inl hr)) (fun Z=>by rw[cat_tot hz];omega)
 obtain⟨hy1,hy2⟩:=part_zero hpk hyk hc (fun r hr=>(cat_calls hz r).2 (.inr hr)) (fun Z=>by rw[cat_tot hz];omega)
 refine⟨hx1,hy1,fun a b c d ha hb hc hd=>same_of_clr c d ?_⟩
 rw[hx2] at ha
 rw[hy2] at hb
 rw[hc]
 generalize inlR p (reachedOf p (callsOf z)).length=f at ha hb ⊢
 rcases x with ⟨a1,c1,b1⟩
 rcases y with ⟨a2,c2,b2⟩
 rcases z with ⟨a3,c3,b3⟩
 rcases a with ⟨a4,c4,b4⟩
 rcases b with ⟨a5,c5,b5⟩
 rcases d with ⟨a6,c6,b6⟩
 have hz:b3=b1++b2:=hz
 have hd:b6=b4++b5:=hd
 rw[Bl.clr_mk,Bl.inl_mk] at ha hb
 injection ha with _ _ ha
 injection hb with _ _ hb
 rw[Bl.inl_mk,Bl.clr_mk,hz,hd,List.map_append,List.map_append,ha,hb]
theorem parts_big {p:Pr} {x y z:Bl} (hz:z.body=x.body++y.body) (hx:(countOf p x).2=0) (hy:(countOf p y).2=0):(countOf p z).2=0∨(countOf p z).2=81:=by
 obtain⟨hpk,hxk,hcx⟩:=countOf_ok (n:=(countOf p x).1) (e:=(countOf p x).2) rfl hx
 obtain⟨-,hyk,hcy⟩:=countOf_ok (n:=(countOf p y).1) (e:=(countOf p y).2) rfl hy
 obtain⟨Zx,hgx,-,-⟩:=good_of hcx
 obtain⟨Zy,hgy,-,-⟩:=good_of hcy
 generalize reachedOf p (callsOf x)=Rx at hgx
 generalize reachedOf p (callsOf y)=Ry at hgy
 obtain⟨Z,hg,h3⟩:=cnt_closed (p:=p) (x:=z) (C:=Rx++Ry) (rk:=fun r=>if r∈Rx then rkOf Rx r else Rx.length+rkOf Ry r) (fun r hr s hs=>by
  by_cases h1:r∈Rx
  ·have h2:=hgx.leads r h1 s hs
   refine⟨List.mem_append.2 (.inl h2.1),?_⟩
   simp only[h1,h2.1,if_true];exact h2.2
  ·have h4:r∈Ry:=by
    rcases List.mem_append.1 hr with h|h
    ·exact absurd h h1
    ·exact h
   have h2:=hgy.leads r h4 s hs
   refine⟨List.mem_append.2 (.inr h2.1),?_⟩
   by_cases h5:s∈Rx
   ·have:=rkOf_lt h5
    simp only[h1,h5,if_true,if_false];omega
   ·simp only[h1,h5,if_false];omega) (fun r hr=>by
  rcases (cat_calls hz r).1 hr with h|h
  ·exact List.mem_append.2 (.inl (hgx.root r h))
  ·exact List.mem_append.2 (.inr (hgy.root r h))) (fun r hr=>by
  rcases List.mem_append.1 hr with h|h
  ·exact hgx.known r h
  ·exact hgy.known r h)
 unfold countOf
 rw[hpk,cat_ok hz,hxk,hyk]
 simp only[Bool.and_self,if_true]
 rw[h3]
 split
 ·exact .inr rfl
 ·exact .inl rfl
open Go.RowKit
def addR (S:List Ref) (r:Ref):List Ref:=if r∈S then S else S++[r]
def addN (S m:List Ref):List Ref:=m.foldl addR S
theorem addR_has (S:List Ref) (r:Ref):r∈addR S r:=by
 unfold addR;split
 ·assumption
 ·simp
theorem addR_mem (S:List Ref) (r x:Ref):x∈addR S r↔x∈S∨x=r:=by
 unfold addR;split
 ·rename_i h
  constructor
  ·exact .inl
  ·rintro (h'|rfl)
   ·exact h'
   ·exact h
 ·simp
theorem addN_mem (m:List Ref):∀ (S:List Ref) (x:Ref),x∈addN S m↔x∈S∨x∈m:=by
 induction m with
 | nil=>intro S x;simp[addN]
 | cons r m ih =>
  intro S x
  show x∈addN (addR S r) m↔_
  rw[ih,addR_mem,List.mem_cons,or_assoc]
theorem addN_snoc (S m:List Ref) (r:Ref):addN S (m++[r])=addR (addN S m) r:=by simp[addN]
theorem addR_nodup {S:List Ref} (h:S.Nodup) (r:Ref):(addR S r).Nodup:=by
 unfold addR;split
 ·exact h
 ·rename_i hr
  exact List.nodup_append.2 ⟨h,by simp,fun a ha c hc=>by simp at hc;rintro rfl;exact hr (hc▸ha)⟩
theorem addN_nodup (m:List Ref):∀ {S:List Ref},S.Nodup→(addN S m).Nodup:=by
 induction m with
 | nil=>intro S h;exact h
 | cons r m ih=>intro S h;exact ih (addR_nodup h r)
theorem cstep_add (S T:List Ref) (s:St):addN S (cstep T s)=cstep (addN S T) s:=by
 by_cases hk:s.kind=8
 ·by_cases ht:s.ref∈T
  ·rw[cstep_no (S:=T) (fun h=>h.2 ht),cstep_no (S:=addN S T) (fun h=>h.2 ((addN_mem T S _).2 (.inr ht)))]
  ·rw[cstep_yes ⟨hk,ht⟩,addN_snoc]
   unfold addR
   split
   ·rename_i h;rw[cstep_no (fun h'=>h'.2 h)]
   ·rename_i h;rw[cstep_yes ⟨hk,h⟩]
 ·rw[cstep_no (fun h=>hk h.1),cstep_no (fun h=>hk h.1)]
theorem addN_calls (l:List St):∀ S T:List Ref,addN S (callsA T l)=callsA (addN S T) l:=by
 induction l with
 | nil=>intro S T;rfl
 | cons s l ih =>
  intro S T
  show addN S (callsA (cstep T s) l)=callsA (cstep (addN S T) s) l
  rw[ih,cstep_add]
theorem addN_block (S:List Ref) (b:Bl):addN S (callsOf b)=callsA S b.subs:=addN_calls b.subs S []
theorem cstep_addR (S:List Ref) (s:St) (h:s.kind=8):cstep S s=addR S s.ref:=by
 unfold addR;split
 ·rename_i hr;exact cstep_no fun h'=>h'.2 hr
 ·rename_i hr;exact cstep_yes ⟨h,hr⟩
theorem dfs_closed {G:Ref→List Ref} {U:List Ref} (hU:∀ r∈U,∀ x∈G r,x∈U) (n:Nat):∀ (st:List Ref × List Ref) (r:Ref),r∈U→left U st.1≤n→(∀ x∈st.2,∀ y∈G x,y∈st.1)→∀ x∈(dfs G n st r).2,∀ y∈G x,y∈(dfs G n st r).1:=by
 induction n with
 | zero=>intro st r _ _ h;exact h
 | succ n ih =>
  rintro⟨S,A⟩ r hr hl hc
  by_cases hm:r∈S
  ·rw[dfs_seen hm];exact hc
  ·rw[dfs_new hm]
   have hl2:=left_snoc hr hm
   simp only at hl hc
   have hf:∀ (l:List Ref),(∀ x∈l,x∈U)→∀ st:List Ref × List Ref,left U st.1≤n→(∀ x∈st.2,∀ y∈G x,y∈st.1) →
     (∀ x∈(l.foldl (dfs G n) st).2,∀ y∈G x,y∈(l.foldl (dfs G n) st).1)∧∀ x∈l,x∈(l.foldl (dfs G n) st).1:=by
    intro l
    induction l with
    | nil=>intro _ st _ h;exact⟨h,fun x hx=>by cases hx⟩
    | cons z l ihl =>
     intro hl st hs h
     have hd:=dfs_done hU n st z (hl z (by simp)) hs
     have hlm:=left_mono (U:=U) (dfs_mono G n st z)
     obtain⟨g1,g2⟩:=ihl (fun x hx=>hl x (by simp[hx])) (dfs G n st z) (by omega) (ih st z (hl z (by simp)) hs h)
     refine⟨g1,fun x hx=>?_⟩
     rcases List.mem_cons.1 hx with rfl|hx
     ·exact fold_dfs_mono G n l _ x hd.1
     ·exact g2 x hx
   obtain⟨g1,g2⟩:=hf (G r) (hU r hr) (S++[r],A) (by show left U (S++[r])≤n;omega) (fun x hx y hy=>List.mem_append.2 (.inl (hc x hx y hy)))
   intro x hx y hy
   rcases List.mem_append.1 hx with h|h
   ·exact g1 x h y hy
   ·rw[List.mem_singleton.1 h] at hy
    exact g2 y hy
theorem reached_closed (p:Pr) (l:List Ref):∀ r∈reachedOf p l,∀ y∈leadsOf p r,y∈reachedOf p l:=by
 have hU:=closedU p l
 have key:∀ (m:List Ref),(∀ x∈m,x∈l++allRefs p)→∀ st:List Ref × List Ref,left (l++allRefs p) st.1≤l.length+(allRefs p).length→(∀ x∈st.1,x∈st.2)→(∀ x∈st.2,∀ y∈leadsOf p x,y∈st.1) →
   (∀ x∈(m.foldl (dfs (leadsOf p) (l.length+(allRefs p).length)) st).1,x∈(m.foldl (dfs (leadsOf p) (l.length+(allRefs p).length)) st).2)∧∀ x∈(m.foldl (dfs (leadsOf p) (l.length+(allRefs p).length)) st).2,∀ y∈leadsOf p x,y∈(m.foldl (dfs (leadsOf p) (l.length+(allRefs p).length)) st).1:=by
  intro m
  induction m with
  | nil=>intro _ st _ h1 h2;exact⟨h1,h2⟩
  | cons z m ih =>
   intro hm st hs h1 h2
   have hd:=dfs_done hU _ st z (hm z (by simp)) hs
   have hlm:=left_mono (U:=l++allRefs p) (dfs_mono (leadsOf p) (l.length+(allRefs p).length) st z)
   exact ih (fun x hx=>hm x (by simp[hx])) _ (by omega) (fun x hx=>by
    rcases hd.2 x hx with h5|h5
    ·exact dfs_mono2 _ _ _ _ x (h1 x h5)
    ·exact h5) (dfs_closed hU _ st z (hm z (by simp)) hs h2)
 have h2:left (l++allRefs p) []≤l.length+(allRefs p).length:=Nat.le_trans (List.length_filter_le _ _) (by simp)
 obtain⟨h3,h4⟩:=key l (fun x hx=>List.mem_append.2 (.inl hx)) ([],[]) h2 (fun x hx=>by cases hx) (fun x hx=>by cases hx)
 exact fun r hr y hy=>h3 y (h4 r hr y hy)
structure Leads (p:Pr) (l L:List Ref):Prop where
 has:∀ x∈l,x∈L
 closed:∀ r∈L,∀ y∈leadsOf p r,y∈L
 min:∀ C:List Ref,(∀ r∈C,∀ y∈leadsOf p r,y∈C)→(∀ x∈l,x∈C)→∀ x∈L,x∈C
theorem Leads.iff {p:Pr} {l L:List Ref} (h:Leads p l L) (x:Ref):x∈L↔x∈reachedOf p l:=
 ⟨h.min _ (reached_closed p l) (reached_has p l) x,reached_min h.closed h.has x⟩
def Round (p:Pr) (r:Ref):Prop:=r∈reachedOf p (leadsOf p r)
instance (p:Pr) (r:Ref):Decidable (Round p r):=decMemRef r _
theorem nodup_le {A B:List Ref} (hA:A.Nodup) (h:∀ x∈A,x∈B):A.length≤B.length:=by
 induction A generalizing B with
 | nil=>simp
 | cons a A ih =>
  obtain⟨ha,hA'⟩:=List.nodup_cons.1 hA
  obtain⟨i,hi,he⟩:=List.getElem_of_mem (h a (by simp))
  have h2:=ih (B:=B.eraseIdx i) hA' (fun x hx=>by
   obtain⟨k,hk,hke⟩:=List.getElem_of_mem (h x (by simp[hx]))
   have hne:k≠i:=by rintro rfl;exact ha (by rw[← he,hke];exact hx)
   rw[List.mem_eraseIdx_iff_getElem]
   exact⟨k,hk,hne,hke⟩)
  have h3:=List.length_eraseIdx_of_lt hi
  simp only[List.length_cons];omega
theorem nodup_lt {A B:List Ref} (hA:A.Nodup) (h:∀ x∈A,x∈B) {y:Ref} (hy:y∈B) (hn:y ∉ A):A.length<B.length:=by
 have h2:=nodup_le (A:=y::A) (B:=B) (List.nodup_cons.2 ⟨hn,hA⟩) (fun x hx=>by
  rcases List.mem_cons.1 hx with rfl|hx
  ·exact hy
  ·exact h x hx)
 rw[List.length_cons] at h2
 omega
theorem rank_of {p:Pr} {C:List Ref} (hC:∀ r∈C,∀ y∈leadsOf p r,y∈C) (hn:∀ r∈C,¬ Round p r):∀ r∈C,∀ y∈leadsOf p r,y∈C∧(reachedOf p (leadsOf p y)).length<(reachedOf p (leadsOf p r)).length:=by
 intro r hr y hy
 refine⟨hC r hr y hy,?_⟩
 have h1:y∈reachedOf p (leadsOf p r):=reached_has p _ y hy
 refine nodup_lt (reached_nodup p _) (reached_min (reached_closed p _) (fun x hx=>reached_closed p _ y h1 x hx)) h1 ?_
 exact hn y (hC r hr y hy)
theorem not_round {p:Pr} {C:List Ref} {rk:Ref→Nat} (hC:∀ r∈C,∀ y∈leadsOf p r,y∈C∧rk y<rk r):∀ r∈C,¬ Round p r:=by
 intro r hr h
 have h1:∀ x∈C.filter (fun x=>decide (rk x<rk r)),∀ y∈leadsOf p x,y∈C.filter (fun x=>decide (rk x<rk r)):=by
  intro x hx y hy
  rw[List.mem_filter] at hx ⊢
  have h2:=hC x hx.1 y hy
  have h3:rk x<rk r:=by simpa using hx.2
  exact⟨h2.1,by simp;omega⟩
 have h4:=reached_min h1 (l:=leadsOf p r) (fun x hx=>by
  rw[List.mem_filter]
  have h2:=hC r hr x hx
  exact⟨h2.1,by simpa using h2.2⟩) r h
 rw[List.mem_filter] at h4
 simp at h4
theorem cnt_cases (p:Pr) (x:Bl) :
  ((∃ r∈reachedOf p (callsOf x),methIx p.mons r.1 r.2=none)∧cntOf p x=(0,61)) ∨
  ((∀ r∈reachedOf p (callsOf x),methIx p.mons r.1 r.2≠none)∧(∃ r∈reachedOf p (callsOf x),Round p r)∧cntOf p x=(0,80)) ∨
  ((∀ r∈reachedOf p (callsOf x),methIx p.mons r.1 r.2≠none)∧(∀ r∈reachedOf p (callsOf x),¬ Round p r)∧∃ Z,Good p x (reachedOf p (callsOf x)) Z∧cntOf p x=if 400<min 401 (tot Z x) then (0,81) else (min 401 (tot Z x),0)):=by
 by_cases hk:∃ r∈reachedOf p (callsOf x),methIx p.mons r.1 r.2=none
 ·left;refine⟨hk,?_⟩
  rw[cntOf_eq,if_pos hk]
 ·have hk2:∀ r∈reachedOf p (callsOf x),methIx p.mons r.1 r.2≠none:=fun r hr h=>hk ⟨r,hr,h⟩
  right
  by_cases hr:∃ r∈reachedOf p (callsOf x),Round p r
  ·left;refine⟨hk2,hr,?_⟩
   rw[cntOf_eq,if_neg hk]
   cases hz:sizesF (leadsOf p) (bodyOf p) (reachedOf p (callsOf x)) [] with
   | none=>rfl
   | some Z =>
    obtain⟨r,hr1,hr2⟩:=hr
    have hnd:=reached_nodup p (callsOf x)
    obtain⟨-,g2,g3,g4⟩:=sizesF_some (body:=bodyOf p) _ _ _ hz (by simpa using hnd)
    exact absurd hr2 (not_round (C:=reachedOf p (callsOf x)) (rk:=rkOf (reachedOf p (callsOf x))) (fun r hr y hy=>by
     obtain⟨i,hi,rfl⟩:=List.getElem_of_mem hr
     have h2:=g3 i hi y hy
     simp only[List.map_nil,List.nil_append] at h2
     obtain⟨k,hk2,rfl⟩:=List.getElem_of_mem h2
     rw[List.length_take] at hk2
     rw[List.getElem_take]
     exact⟨List.getElem_mem _,by rw[rkOf_at hnd,rkOf_at hnd hi];omega⟩) r hr1)
  ·right
   have hr2:∀ r∈reachedOf p (callsOf x),¬ Round p r:=fun r h h'=>hr ⟨r,h,h'⟩
   refine⟨hk2,hr2,?_⟩
   exact cnt_closed (C:=reachedOf p (callsOf x)) (rk:=fun r=>(reachedOf p (leadsOf p r)).length) (rank_of (reached_closed p _) hr2) (reached_has p _) hk2
open Go.RowKit
def hasR (l:List Ref) (r:Ref):Bool:=decide (r∈l)
set_option maxRecDepth 100000 in
set_option maxHeartbeats 4000000 in
theorem hasRef_any (l:List Ref) (ad:Option Addr) (cap n₀:Nat) (a c:ByteArray) (w:World) (hn:n₀≤w.heap.size) (hsl:SlAt 2 rcells n₀ w ad cap l) (hr:VLen (a,c)) (hV:∀ r∈l,VLen r) :
  Calls Tryz.prog 37 #[.slice ad l.length cap,.agg #[.string a,.string c]] w fun e w'=>e=.returned (.bool (hasR l (a,c)))∧Below w.heap.size w w':=by
 have hl1:=hsl.1;have hl2:=hsl.2.1
 unfold maxLen at hl2
 have HR:=hid (show hasR l (a,c)=decide ((a,c)∈l) from rfl)
 obtain⟨rr,hrr⟩:∃ rr,hasR l (a,c)=rr:=⟨_,rfl⟩
 rw[hrr] at HR ⊢
 clear hrr
 go_enter Tryz.func37,Tryz.ntmps37
 go_upto_region 1 with fail
 obtain⟨bX,hBX,hzX⟩:=one_box w #[.string a,.string c] 70
 obtain⟨W1,hW1⟩:∃ W1,w.alloc (.cells #[.string a,.string c] 70)=W1:=⟨_,rfl⟩
 rw[hW1] at bX hBX hzX ⊢
 clear hW1
 have HZ:=hid hzX
 clear hzX
 go_wp2
 go_loopw [5] (fun i wr=>∃ k:Nat,k≤l.length∧i=.int .i64 k∧Hid ((a,c) ∉ l.take k)∧Below W1.heap.size W1 wr)
  (fun i _=>l.length-(intOf i).toNat)
 case atStart=>exact⟨0,by omega,rfl,(by show _ ∉ _;simp),Below.refl _ _⟩
 case round =>
  obtain⟨k,hk,rfl,HK,hbx⟩:=hrel
  have hzx:=hbx.size
  have hz0:=HZ.out
  have hbF:Below w.heap.size w wr:=hBX.tr (by omega) hbx
  by_cases hlk:k<l.length
  ·rcases hsl.2.2 with h|⟨tb,toff,rfl,htn,htrow⟩
   ·subst h;simp at hlk
   have htrow2:=htrow.below (hbF.mono hn) htn
   have d0:=htrow2 k hlk 0 (by omega)
   have d1:=htrow2 k hlk 1 (by omega)
   have htw:tb<wr.heap.size:=by omega
   have hvx:=hV _ (List.getElem_mem hlk)
   have HX1:Hid (l[k]=(a,c)→(a,c)∈l):=fun h=>h▸List.getElem_mem hlk
   have HX2:Hid (l[k]≠(a,c)→(a,c) ∉ l.take (k+1)):=by
    intro h hx
    rw[List.take_succ_eq_append_getElem hlk] at hx
    rcases List.mem_append.1 hx with hx|hx
    ·exact HK.out hx
    ·exact h (List.mem_singleton.1 hx).symm
   simp only[rcells] at d0 d1
   simp at d0 d1
   obtain⟨g1,hg1⟩:∃ g1,l[k]=g1:=⟨_,rfl⟩
   rw[hg1] at d0 d1 hvx HX1 HX2
   clear hg1
   obtain⟨gm,gn⟩:=g1
   simp only at d0 d1
   have heq:=fun W=>eqRef hvx hr W
   have bXr:=(hbx.block w.heap.size (by omega)).trans bX
   have y0:=cellOf bXr 0
   have y1:=cellOf bXr 1
   simp at y0 y1
   have hww:w.heap.size<wr.heap.size:=by omega
   by_cases he:(a,c)=(gm,gn)
   ·have hd:decide ((a,c)=(gm,gn))=true:=by simp[he]
    simp only[hd] at heq
    have hrt:rr=true:=HR.out.trans (decide_eq_true (HX1.out he.symm))
    subst hrt
    clear HX1 HX2 he hd HR
    go_wp2_with fail
    go_quiet (fail)
    go_wp2
    go_ret
    exact⟨rfl,below_drewN hbF _⟩
   ·have hd:decide ((a,c)=(gm,gn))=false:=by simp only[he,decide_false]
    simp only[hd] at heq
    have HI:=hid (HX2.out (fun h=>he h.symm))
    clear HX1 HX2 he hd
    go_wp2_with fail
    go_quiet (fail)
    go_wp2
    go_roundw
    case rel=>exact⟨k+1,by omega,by go_num,HI.out,below_drewN hbx _⟩
    case measure=>simp[intOf];omega
  ·have hkd:decide ((k:Int)<(l.length:Int))=false:=by simp;omega
   have hke:l.take k=l:=List.take_of_length_le (by omega)
   rw[hke] at HK
   have hrt:rr=false:=HR.out.trans (by simp[HK.out])
   subst hrt
   go_wp2
   go_ret
   exact⟨rfl,hbF⟩
end Go.Proofs.YtpbjikncobnkjaaGreatDoor
