/-
  Own texts joined by program: ClK FlA FlSa FlD FlB.
-/
import Derived.Test.YtbmbchdjjfmafaaGreatDoorQao
namespace Go.Proofs.YtbmbchdjjfmafaaGreatDoor
open Go.RowKit
theorem dfs_mono2 (G:Ref→List Ref) (n:Nat):∀ (st:List Ref × List Ref) (r:Ref),∀ x∈st.2,x∈(dfs G n st r).2:=by
 induction n with
 | zero=>intro st r x hx;exact hx
 | succ n ih =>
  rintro⟨S,A⟩ r x hx
  by_cases h:r∈S
  ·rw[dfs_seen h];exact hx
  ·rw[dfs_new h]
   exact List.mem_append.2 (.inl (fold_mono (R:=fun (a b:List Ref × List Ref)=>∀ x∈a.2,x∈b.2) (fun _ _ h=>h) (fun _ _ _ h1 h2 x hx=>h2 x (h1 x hx)) (dfs G n) (fun a b=>ih a b) (G r) (S++[r],A) x hx))
theorem fold_dfs_mono2 (G:Ref→List Ref) (n:Nat) (l:List Ref) (st:List Ref × List Ref):∀ x∈st.2,x∈(l.foldl (dfs G n) st).2:=
 fold_mono (R:=fun (a b:List Ref × List Ref)=>∀ x∈a.2,x∈b.2) (fun _ _ h=>h) (fun _ _ _ h1 h2 x hx=>h2 x (h1 x hx)) (dfs G n) (fun a b=>dfs_mono2 G n a b) l st
theorem dfs_done {G:Ref→List Ref} {U:List Ref} (hU:∀ r∈U,∀ x∈G r,x∈U) (n:Nat):∀ (st:List Ref × List Ref) (r:Ref),r∈U→left U st.1≤n→r∈(dfs G n st r).1∧∀ x∈(dfs G n st r).1,x∈st.1∨x∈(dfs G n st r).2:=by
 induction n with
 | zero =>
  intro st r hr hl
  have hm:r∈st.1:=by
   by_cases hm:r∈st.1
   ·exact hm
   ·have:=left_snoc hr hm;omega
  exact⟨hm,fun x hx=>.inl hx⟩
 | succ n ih =>
  rintro⟨S,A⟩ r hr hl
  by_cases hm:r∈S
  ·rw[dfs_seen hm];exact⟨hm,fun x hx=>.inl hx⟩
  ·rw[dfs_new hm]
   have hl2:=left_snoc hr hm
   have hf:∀ (l:List Ref),(∀ x∈l,x∈U)→∀ st:List Ref × List Ref,left U st.1≤n→∀ x∈(l.foldl (dfs G n) st).1,x∈st.1∨x∈(l.foldl (dfs G n) st).2:=by
    intro l
    induction l with
    | nil=>intro _ st _ x hx;exact .inl hx
    | cons y l ihl =>
     intro hl st hs x hx
     have h1:=ih st y (hl y (by simp)) hs
     have h2:=left_mono (U:=U) (dfs_mono G n st y)
     rcases ihl (fun z hz=>hl z (by simp[hz])) _ (by omega) x hx with h|h
     ·rcases h1.2 x h with h|h
      ·exact .inl h
      ·exact .inr (fold_dfs_mono2 G n l _ x h)
     ·exact .inr h
   refine⟨fold_dfs_mono G n (G r) (S++[r],A) r (by simp),fun x hx=>?_⟩
   rcases hf (G r) (hU r hr) (S++[r],A) (by show left U (S++[r])≤n;simp only at hl;omega) x hx with h|h
   ·rcases List.mem_append.1 h with h|h
    ·exact .inl h
    ·exact .inr (List.mem_append.2 (.inr h))
   ·exact .inr (List.mem_append.2 (.inl h))
theorem reached_has (p:Pr) (l:List Ref):∀ r∈l,r∈reachedOf p l:=by
 have hU:=closedU p l
 have key:∀ (m:List Ref),(∀ x∈m,x∈l++allRefs p)→∀ st:List Ref × List Ref,left (l++allRefs p) st.1≤l.length+(allRefs p).length→(∀ x∈st.1,x∈st.2)→(∀ x∈(m.foldl (dfs (leadsOf p) (l.length+(allRefs p).length)) st).1,x∈(m.foldl (dfs (leadsOf p) (l.length+(allRefs p).length)) st).2)∧∀ x∈m,x∈(m.foldl (dfs (leadsOf p) (l.length+(allRefs p).length)) st).1:=by
  intro m
  induction m with
  | nil=>intro _ st _ h;exact⟨h,fun x hx=>by cases hx⟩
  | cons y m ih =>
   intro hm st hs h
   have h1:=dfs_done hU _ st y (hm y (by simp)) hs
   have h2:=left_mono (U:=l++allRefs p) (dfs_mono (leadsOf p) (l.length+(allRefs p).length) st y)
   obtain⟨h3,h4⟩:=ih (fun x hx=>hm x (by simp[hx])) (dfs (leadsOf p) (l.length+(allRefs p).length) st y) (by omega) (fun x hx=>by
    rcases h1.2 x hx with h5|h5
    ·exact dfs_mono2 _ _ _ _ x (h x h5)
    ·exact h5)
   refine⟨h3,fun x hx=>?_⟩
   rcases List.mem_cons.1 hx with rfl|hx
   ·exact fold_dfs_mono _ _ m _ x h1.1
   ·exact h4 x hx
 have h2:left (l++allRefs p) []≤l.length+(allRefs p).length:=Nat.le_trans (List.length_filter_le _ _) (by simp)
 obtain⟨h3,h4⟩:=key l (fun x hx=>List.mem_append.2 (.inl hx)) ([],[]) h2 (fun x hx=>by cases hx)
 exact fun r hr=>h3 r (h4 r hr)
theorem szGet_mem {Z:List (Ref × Nat)} {r:Ref} (h:szGet Z r≠0):r∈Z.map Prod.fst:=by
 unfold szGet at h
 cases hf:Z.find? (fun x=>decide (x.1=r)) with
 | none=>rw[hf] at h;simp at h
 | some x=>exact List.mem_map.2 ⟨x,List.mem_of_find?_eq_some hf,by simpa using List.find?_some hf⟩
theorem szGet_app {Z E:List (Ref × Nat)} {r:Ref} (h:r∈Z.map Prod.fst):szGet (Z++E) r=szGet Z r:=by
 unfold szGet
 rw[List.find?_append]
 cases hf:Z.find? (fun x=>decide (x.1=r)) with
 | none =>
  obtain⟨x,hx,he⟩:=List.mem_map.1 h
  exact absurd (List.find?_eq_none.1 hf x hx) (by simp[he])
 | some x=>rfl
theorem szGet_new {Z E:List (Ref × Nat)} {r:Ref} {v:Nat} (h:r ∉ Z.map Prod.fst):szGet (Z++[(r,v)]++E) r=v:=by
 unfold szGet
 rw[List.append_assoc,List.find?_append,List.find?_eq_none.2 (fun x hx=>by
  have:x.1≠r:=fun e=>h (List.mem_map.2 ⟨x,hx,e⟩)
  simpa using this)]
 simp
theorem sumOf_congr {Z Z':List (Ref × Nat)} {l:List St} (h:∀ s∈l,s.kind=8→szGet Z s.ref=szGet Z' s.ref):sumOf Z l=sumOf Z' l:=by
 induction l with
 | nil=>rfl
 | cons s l ih =>
  have h1:sown Z s=sown Z' s:=by
   unfold sown
   split
   ·rename_i hk;exact h s (by simp) hk
   ·rfl
  have h2:=ih (fun t ht=>h t (by simp[ht]))
  simp only[sumOf,List.map_cons,List.sum_cons] at h2 ⊢
  rw[h1,h2]
theorem sizesF_some {body:Ref→Bl}:∀ (R:List Ref) (Z Z':List (Ref × Nat)),sizesF (fun r=>callsOf (body r)) body R Z=some Z'→(Z.map Prod.fst++R).Nodup →
  (∃ E,Z'=Z++E)∧Z'.map Prod.fst=Z.map Prod.fst++R∧(∀ (i:Nat) (h:i<R.length),∀ y∈callsOf (body R[i]),y∈Z.map Prod.fst++R.take i)∧∀ r∈R,szGet Z' r=1+min 401 (tot Z' (body r)):=by
 intro R
 induction R with
 | nil =>
  intro Z Z' h hn
  have h:some Z=some Z':=h
  obtain rfl:=Option.some.inj h
  exact⟨⟨[],by simp⟩,by simp,fun i h=>by simp at h,fun r hr=>by cases hr⟩
 | cons r R ih =>
  intro Z Z' h hn
  rw[sizesF] at h
  split at h
  ·cases h
  ·rename_i hz
   have hk:∀ y∈callsOf (body r),y∈Z.map Prod.fst:=fun y hy=>szGet_mem (fun h0=>hz ⟨y,hy,h0⟩)
   have hn2:((Z++[(r,1+min 401 (tot Z (body r)))]).map Prod.fst++R).Nodup:=by simpa using hn
   obtain⟨⟨E,hE⟩,g2,g3,g4⟩:=ih _ _ h hn2
   have hrn:r ∉ Z.map Prod.fst:=by
    intro hm
    exact (List.nodup_append.1 hn).2.2 r hm r (by simp) rfl
   refine⟨⟨[(r,1+min 401 (tot Z (body r)))]++E,by rw[hE,List.append_assoc]⟩,by rw[g2];simp,fun i hi y hy=>?_,fun s hs=>?_⟩
   ·cases i with
    | zero=>exact List.mem_append.2 (.inl (hk y hy))
    | succ i =>
     have:=g3 i (by simpa using hi) y hy
     simpa[or_assoc] using this
   ·rcases List.mem_cons.1 hs with rfl|hs
    ·rw[hE,szGet_new hrn]
     congr 2
     unfold tot
     refine sumOf_congr fun t ht hk8=>?_
     have:=hk t.ref ((callsOf_mem _ _).2 ⟨t,ht,hk8,rfl⟩)
     rw[List.append_assoc,szGet_app this]
    ·exact g4 s hs
def rkOf (R:List Ref) (r:Ref):Nat:=R.findIdx fun y=>decide (y=r)
theorem rkOf_lt {R:List Ref} {r:Ref} (h:r∈R):rkOf R r<R.length:=List.findIdx_lt_length_of_exists ⟨r,h,by simp⟩
theorem rkOf_at {R:List Ref} (hn:R.Nodup) {i:Nat} (h:i<R.length):rkOf R R[i]=i:=by
 have h1:rkOf R R[i]<R.length:=rkOf_lt (List.getElem_mem h)
 have h2:R[rkOf R R[i]]=R[i]:=by
  have:=List.findIdx_getElem (xs:=R) (p:=fun y=>decide (y=R[i])) (w:=h1)
  exact of_decide_eq_true this
 rcases Nat.lt_trichotomy (rkOf R R[i]) i with h3|h3|h3
 ·exact absurd h2 ((List.pairwise_iff_getElem.1 hn) _ _ h1 h h3)
 ·exact h3
 ·exact absurd h2.symm ((List.pairwise_iff_getElem.1 hn) _ _ h h1 h3)
structure Good (p:Pr) (x:Bl) (R:List Ref) (Z:List (Ref × Nat)):Prop where
 root:∀ r∈callsOf x,r∈R
 nodup:R.Nodup
 leads:∀ r∈R,∀ y∈leadsOf p r,y∈R∧rkOf R y<rkOf R r
 size:∀ r∈R,szGet Z r=1+min 401 (tot Z (bodyOf p r))
 known:∀ r∈R,methIx p.mons r.1 r.2≠none
theorem good_of {p:Pr} {x:Bl} {n:Nat} (h:cntOf p x=(n,0)):∃ Z,Good p x (reachedOf p (callsOf x)) Z∧tot Z x=n∧n≤400:=by
 rw[cntOf_eq] at h
 split at h
 ·cases h
 ·rename_i hk
  cases hz:sizesF (leadsOf p) (bodyOf p) (reachedOf p (callsOf x)) [] with
  | none=>rw[hz] at h;cases h
  | some Z =>
   rw[hz] at h
   simp only[cntRes] at h
   split at h
   ·cases h
   ·rename_i hb
    have h1:min 401 (tot Z x)=n:=congrArg Prod.fst h
    have hnd:=reached_nodup p (callsOf x)
    obtain⟨-,g2,g3,g4⟩:=sizesF_some (body:=bodyOf p) _ _ _ hz (by simpa using hnd)
    refine⟨Z,⟨reached_has p _,hnd,fun r hr y hy=>?_,g4,fun r hr hn=>hk ⟨r,hr,hn⟩⟩,by omega,by omega⟩
    obtain⟨i,hi,rfl⟩:=List.getElem_of_mem hr
    have h2:=g3 i hi y hy
    simp only[List.map_nil,List.nil_append] at h2
    obtain⟨k,hk2,rfl⟩:=List.getElem_of_mem h2
    rw[List.length_take] at hk2
    rw[List.getElem_take]
    exact⟨List.getElem_mem _,by rw[rkOf_at hnd,rkOf_at hnd hi];omega⟩
def InlineBack (p:Pr) (x:Bl) (w w':World) (r:Ending):Prop:=
 (((countOf p x).2≠0∧r=.returned (.tuple #[.slice none 0 0,.int .i64 (countOf p x).2]))∨((countOf p x).2=0∧∃ ad cap body,r=.returned (.tuple #[.slice ad body.length cap,.int .i64 0])∧(Bl.mk ad cap body).Is w'.heap.size w'∧(Bl.mk ad cap body).clr=x.inl (inlR p (reachedOf p (callsOf x)).length)))∧Below w.heap.size w w'
set_option maxRecDepth 100000 in
set_option maxHeartbeats 8000000 in
theorem Inline_any (p:Pr) (x:Bl) (n₀:Nat) (w:World) (hn:n₀≤w.heap.size) (hp:p.Is n₀ w) (hx:x.Is n₀ w) (hS:Shapes w) (hS3:6≤w.heap.size) (hF:Fine0 p) (hX:x.subs.length≤400000) :
  Calls Tryz.prog 24 #[p.val,x.slice] w fun r w'=>InlineBack p x w w' r:=by
 have hc1:=fun (W:World) (hW:Below w.heap.size w W)=>isShaped_any p x n₀ W (by have:=hW.size;omega) (hp.below (hW.mono hn)) (hx.below (hW.mono hn)) (hS.below hW hS3) (by have:=hW.size;omega)
 have hc2:=fun (W:World) (hW:Below w.heap.size w W)=>newBook_any p n₀ W (by have:=hW.size;omega) (hp.below (hW.mono hn)) hF.subs hF.lens
 have hc3:=fun (hk:(p.ok&&x.okB)=true) (b:Nat) (W:World) (hW:Below w.heap.size w W) (hB:Book W W.heap.size b p)=>count_any p x W.heap.size b W (Nat.le_refl _) hB ((hx.below (hW.mono hn)).mono (by have:=hW.size;omega)) (vlen_all hp) (hF.fine (Bool.and_eq_true_iff.1 hk).1) ⟨hX,okB_blocks (Bool.and_eq_true_iff.1 hk).2⟩
 have hc4:(p.ok&&x.okB)=true→(cntOf p x).2=0→∀ (b n:Nat) (W:World),Below w.heap.size w W→n≤W.heap.size→w.heap.size≤n→Book W n b p→Calls Tryz.prog 42 #[.map (some b),x.slice] W fun r w'=>InBack n (x.inl (inlR p (reachedOf p (callsOf x)).length)) W w' r:=by
  intro hk h0 b n W hW hnW hwn hB
  obtain⟨Z,hg,-,-⟩:=good_of (n:=(cntOf p x).1) (by rw[← h0])
  have hVx:=vlen_calls hx
  have hVa:=vlen_all hp
  refine inline_any (D:=fun r=>r∈reachedOf p (callsOf x)) (rk:=rkOf (reachedOf p (callsOf x))) (hF.fine (Bool.and_eq_true_iff.1 hk).1) (fun r hr=>?_) hg.leads _ x n b W hnW hB ((hx.below (hW.mono hn)).mono (by omega)) ⟨by omega,okB_blocks (Bool.and_eq_true_iff.1 hk).2⟩ (fun r hr=>⟨hg.root r hr,rkOf_lt (hg.root r hr)⟩)
  rcases List.mem_append.1 (reached_sub p _ r hr) with h|h
  ·exact hVx r h
  ·exact hVa r h
 have HC:=hid (show countOf p x=if (p.ok&&x.okB)=true then cntOf p x else (0,20) from rfl)
 obtain⟨q,hq⟩:∃ q,cntOf p x=q:=⟨_,rfl⟩
 obtain⟨k,hk⟩:∃ k,(p.ok&&x.okB)=k:=⟨_,rfl⟩
 rw[hq,hk] at HC
 simp only[hq] at hc3
 rw[hq] at hc4
 rw[hk] at hc3 hc4
 simp only[hk] at hc1
 obtain⟨X,hX0⟩:∃ X,x.inl (inlR p (reachedOf p (callsOf x)).length)=X:=⟨_,rfl⟩
 rw[hX0] at hc4
 have HX:Hid (X=.mk none 0 X.body):=by
  show _=_
  rw[← hX0];rcases x with ⟨a,c,d⟩;rw[Bl.inl_mk];rfl
 show Calls Tryz.prog 24 _ w fun r w'=>(((countOf p x).2≠0∧_)∨((countOf p x).2=0∧∃ ad cap body,_∧_∧_=x.inl (inlR p (reachedOf p (callsOf x)).length)))∧_
 rw[hX0]
 obtain⟨c,hc⟩:∃ c,countOf p x=c:=⟨_,rfl⟩
 rw[hc] at HC ⊢
 clear hq hk hc hX0
 rcases p with ⟨mad,mcap,mons,rad,rcap,roles⟩
 rcases x with ⟨ad,cap,body⟩
 simp only[Pr.val,Bl.slice] at hc1 hc2 hc3 hc4 ⊢
 have hB:=(Below.refl w.heap.size w).al le_rfl' (.cells #[.slice mad mons.length mcap,.slice rad roles.length rcap] 25)
 have b1:=heapNew w (.cells #[.slice mad mons.length mcap,.slice rad roles.length rcap] 25)
 cases k
 ·simp only[Bool.false_eq_true,if_false] at HC
  go_enter Tryz.func24,Tryz.ntmps24
  go_wp2_with (go_at_call 39;(with_reducible refine (hc1 _ hB).mono ?_);rintro r u1 ⟨rfl,bb1⟩)
  go_ret2
  exact⟨.inl ⟨by rw[HC.out];decide,by rw[HC.out];rfl⟩,hB.tr le_rfl' bb1⟩
 ·simp only[if_true] at HC
  replace hc3:=hc3 rfl
  replace hc4:=hc4 rfl
  obtain⟨qn,qe⟩:=q
  simp only[CntBack] at hc3
  go_enter Tryz.func24,Tryz.ntmps24
  go_upto_region 3 with (go_at_call 39;(with_reducible refine (hc1 _ hB).mono ?_);rintro r u1 ⟨rfl,bb1⟩)
  have hB1:=hB.tr le_rfl' bb1
  have b2:=(bb1.block w.heap.size (by simp)).trans b1
  have p0:=cellOf b2 0
  have p1:=cellOf b2 1
  simp at p0 p1
  cases hqe:(qe != 0:Bool)
  ·have hq0:qe=0:=by simpa using hqe
   subst hq0
   have hc5:=hc4 rfl
   go_wp2_with (first
    | (go_at_call 40;(with_reducible refine (hc2 _ hB1).mono ?_);rintro r u2 ⟨b,rfl,hbk,bb2⟩)
    | (go_at_call 41;(with_reducible refine (hc3 _ _ (hB1.tr le_rfl' bb2) hbk).mono ?_);rintro r u3 ⟨rfl,bb3⟩)
    | (go_at_call 42;(with_reducible refine (hc5 b u2.heap.size _ ((hB1.tr le_rfl' bb2).tr le_rfl' bb3) bb3.size (hB1.tr le_rfl' bb2).size (hbk.below bb3)).mono ?_);rintro r u4 ⟨yad,ycap,ybody,rfl,hyI,hyc,bb4⟩))
   go_ret2
   refine⟨.inr ⟨by rw[HC.out],yad,ycap,ybody,rfl,hyI.imp only_open (Nat.le_refl _),?_⟩,((hB1.tr le_rfl' bb2).tr le_rfl' bb3).tr le_rfl' bb4⟩
   rw[Bl.clr_mk,hyc,← HX.out]
  ·have hqn:¬ qe=0:=by simpa using hqe
   go_wp2_with (first
    | (go_at_call 40;(with_reducible refine (hc2 _ hB1).mono ?_);rintro r u2 ⟨b,rfl,hbk,bb2⟩)
    | (go_at_call 41;(with_reducible refine (hc3 _ _ (hB1.tr le_rfl' bb2) hbk).mono ?_);rintro r u3 ⟨rfl,bb3⟩))
   go_ret2
   exact⟨.inl ⟨by rw[HC.out];exact hqn,by rw[HC.out];rfl⟩,(hB1.tr le_rfl' bb2).tr le_rfl' bb3⟩
open Go.RowKit
def Ex.top:Ex→Ex
 | .mk op mon name n _ _ kids pos=>.mk op mon name n Option.none 0 kids pos
def Ex.opr:Ex→Int
 | .mk op _ _ _ _ _ _ _=>op
def notE (e:Ex):Ex:=.mk 5 ⟨#[]⟩ ⟨#[]⟩ 0 none 0 [e] e.pos
def trueE (pos:Int):Ex:=.mk 2 ⟨#[]⟩ ⟨#[]⟩ 0 none 0 [] pos
structure Ed where
 src:Int
 dst:Int
 kind:Int
 mon:Int
 var:Int
 e:Ex
 n:Int
 site:Int
 out:Int
 pos:Int
structure Gu where
 mon:Int
 e:Ex
 loop:Bool
def Ed.top (x:Ed):Ed:={ x with e:=x.e.top }
def Gu.top (g:Gu):Gu:={ g with e:=g.e.top }
structure Fs where
 locs:Int
 es:List Ed
 gs:List Gu
def Fs.place (s:Fs):Fs:={ s with locs:=s.locs+1 }
def Fs.lay (s:Fs) (a b:Int) (x:Ed):Fs:={ s with es:=s.es++[{ x with src:=a,dst:=b }] }
def Fs.on (s:Fs) (a:Int) (x:Ed):Fs × Int:=(s.place.lay a s.locs x,s.locs)
def Fs.guard (s:Fs) (g:Gu):Fs:={ s with gs:=s.gs++[g] }
def noG:Gu:=⟨0,zeroEx,false⟩
def edE (kind mon:Int) (pos:Int):Ed:=⟨0,0,kind,mon,0,zeroEx,0,0,0,pos⟩
def skipE (pos left:Int):Ed:=⟨0,0,1,0,0,zeroEx,0,0,left,pos⟩
def testE (e:Ex) (pos out:Int):Ed:=⟨0,0,2,0,0,e,0,0,out,pos⟩
def waitF (m n pos:Int) (g:Gu) (s:Fs) (a:Int):Fs × Int:=
 (s.guard ⟨m,if g.e.opr=0 then trueE pos else g.e,g.loop⟩).on a ⟨0,0,6,m,0,zeroEx,n,s.gs.length+1,if g.e.opr=0 then s.gs.length+1 else 0,pos⟩
mutual
def St.low (M:ByteArray→Int) (V:ByteArray→ByteArray→Int):St→Fs→Int→Fs × Int
 | .mk kind mon name _ e _ _ blocks pos,s,a =>
  if kind=1 then s.on a (edE 1 0 pos)
  else if kind=2 then s.on a ⟨0,0,3,0,V mon name,e.top,0,0,0,pos⟩
  else if kind=10 then s.on a (edE 7 (M mon) pos)
  else if kind=11 then s.on a (edE 8 (M mon) pos)
  else if kind=6 then
   let q:=Bl.lowC M V blocks 0 pos s a
   ((q.2.foldl (fun t x=>t.lay x q.1.locs (skipE pos 0)) q.1.place),q.1.locs)
  else match blocks with
   | []=>(s,a)
   | b::t =>
    if kind=7 then
     let r:=s.on a (edE 4 (M mon) pos)
     let q:=b.low M V noG r.1 r.2
     q.1.on q.2.1 (edE 5 (M mon) pos)
    else if kind=3 then
     let r:=s.on a (testE e.top e.pos 0)
     let q:=b.low M V ⟨0,notE e,false⟩ r.1 r.2
     let d:=q.1.on q.2.1 (skipE pos q.2.2)
     let x:=d.1.on a (testE (notE e) e.pos 0)
     match t with
     | []=>(x.1.lay x.2 d.2 (skipE pos 0),d.2)
     | c::_ =>
      let y:=c.low M V ⟨0,e.top,false⟩ x.1 x.2
      (y.1.lay y.2.1 d.2 (skipE pos y.2.2),d.2)
    else if kind=4 then
     let r:=s.on a (testE e.top e.pos 0)
     let q:=b.low M V ⟨0,notE e,true⟩ r.1 r.2
     (q.1.lay q.2.1 a (skipE pos 0)).on a (testE (notE e) e.pos q.2.2)
    else if kind=5 then
     let q:=b.low M V noG s a
     ((q.1.lay q.2.1 a (skipE pos 0)).place,q.1.locs)
    else (s,a)
def Bl.low (M:ByteArray→Int) (V:ByteArray→ByteArray→Int):Bl→Gu→Fs→Int→Fs × Int × Int
 | .mk _ _ body,g,s,a=>St.lowL M V body g s a 0
def St.lowL (M:ByteArray→Int) (V:ByteArray→ByteArray→Int):List St→Gu→Fs→Int→Int→Fs × Int × Int
 | [],_,s,a,last=>(s,a,last)
 | .mk kind mon name n e ad cap blocks pos::l,g,s,a,last =>
  if kind=9 then
   let r:=waitF (M mon) n pos g s a
   St.lowL M V l g r.1 r.2 r.1.gs.length
  else
   let r:=St.low M V (.mk kind mon name n e ad cap blocks pos) s a
   St.lowL M V l g r.1 r.2 last
def Bl.lowC (M:ByteArray→Int) (V:ByteArray→ByteArray→Int):List Bl→Int→Int→Fs→Int→Fs × List Int
 | [],_,_,s,_=>(s,[])
 | b::l,i,pos,s,a =>
  let r:=s.on a ⟨0,0,9,0,0,zeroEx,i,0,0,pos⟩
  let q:=b.low M V noG r.1 r.2
  let t:=Bl.lowC M V l (i+1) pos q.1 a
  (t.1,q.2.1::t.2)
end
structure Ext (s t:Fs):Prop where
 locs:s.locs≤t.locs
 es:∃ D,t.es=s.es++D
 gs:∃ G,t.gs=s.gs++G
theorem Ext.refl (s:Fs):Ext s s:=⟨Int.le_refl _,⟨[],by simp⟩,⟨[],by simp⟩⟩
theorem Ext.trans {s t u:Fs} (h:Ext s t) (k:Ext t u):Ext s u:=by
 obtain⟨h1,⟨D,h2⟩,⟨G,h3⟩⟩:=h
 obtain⟨k1,⟨E,k2⟩,⟨H,k3⟩⟩:=k
 exact⟨Int.le_trans h1 k1,⟨D++E,by rw[k2,h2,List.append_assoc]⟩,⟨G++H,by rw[k3,h3,List.append_assoc]⟩⟩
theorem Ext.place (s:Fs):Ext s s.place:=⟨by show s.locs≤s.locs+1;omega,⟨[],by simp[Fs.place]⟩,⟨[],by simp[Fs.place]⟩⟩
theorem Ext.lay (s:Fs) (a b:Int) (x:Ed):Ext s (s.lay a b x):=⟨Int.le_refl _,⟨_,rfl⟩,⟨[],by simp[Fs.lay]⟩⟩
theorem Ext.on (s:Fs) (a:Int) (x:Ed):Ext s (s.on a x).1:=(Ext.place s).trans (Ext.lay _ _ _ _)
theorem Ext.guard (s:Fs) (g:Gu):Ext s (s.guard g):=⟨Int.le_refl _,⟨[],by simp[Fs.guard]⟩,⟨_,rfl⟩⟩
theorem Ext.wait (m n pos:Int) (g:Gu) (s:Fs) (a:Int):Ext s (waitF m n pos g s a).1:=(Ext.guard _ _).trans (Ext.on _ _ _)
theorem Ext.fold (l:List Int) (d pos:Int):∀ s:Fs,Ext s (l.foldl (fun t x=>t.lay x d (skipE pos 0)) s):=by
 induction l with
 | nil=>intro s;exact Ext.refl _
 | cons x l ih=>intro s;exact (Ext.lay _ _ _ _).trans (ih _)
def lowX (M:ByteArray→Int) (V:ByteArray→ByteArray→Int) (b:Bl):Prop:=∀ g s a,Ext s (b.low M V g s a).1
theorem lowC_ext (M:ByteArray→Int) (V:ByteArray→ByteArray→Int) (l:List Bl) (h:∀ b∈l,lowX M V b):∀ i pos s a,Ext s (Bl.lowC M V l i pos s a).1:=by
 induction l with
 | nil=>intro i pos s a;rw[Bl.lowC];exact Ext.refl _
 | cons b l ih =>
  intro i pos s a
  rw[Bl.lowC]
  exact ((Ext.on _ _ _).trans (h b (by simp) _ _ _)).trans (ih (fun c hc=>h c (by simp[hc])) _ _ _ _)
theorem St.low_ext (M:ByteArray→Int) (V:ByteArray→ByteArray→Int) (x:St):∀ s a,Ext s (x.low M V s a).1:=
 St.ind (P:=fun x=>∀ s a,Ext s (x.low M V s a).1) (Q:=lowX M V) (fun kind mon name n e ad cap blocks pos ih s a=>by
   unfold St.low
   split
   ·exact Ext.on _ _ _
   split
   ·exact Ext.on _ _ _
   split
   ·exact Ext.on _ _ _
   split
   ·exact Ext.on _ _ _
   split
   ·exact ((lowC_ext M V blocks ih _ _ _ _).trans (Ext.place _)).trans (Ext.fold _ _ _ _)
   cases blocks with
   | nil=>exact Ext.refl _
   | cons b t =>
    have hb:=ih b (by simp)
    dsimp only
    split
    ·exact ((Ext.on _ _ _).trans (hb _ _ _)).trans (Ext.on _ _ _)
    split
    ·cases t with
     | nil=>exact (((((Ext.on _ _ _).trans (hb _ _ _)).trans (Ext.on _ _ _)).trans (Ext.on _ _ _))).trans (Ext.lay _ _ _ _)
     | cons c t=>exact ((((((Ext.on _ _ _).trans (hb _ _ _)).trans (Ext.on _ _ _)).trans (Ext.on _ _ _))).trans (ih c (by simp) _ _ _)).trans (Ext.lay _ _ _ _)
    split
    ·exact (((Ext.on _ _ _).trans (hb _ _ _)).trans (Ext.lay _ _ _ _)).trans (Ext.on _ _ _)
    split
    ·exact ((hb _ _ _).trans (Ext.lay _ _ _ _)).trans (Ext.place _)
    ·exact Ext.refl _)
  (fun ad cap body ih=>by
   intro g s a
   rw[Bl.low]
   have key:∀ (l:List St),(∀ x∈l,∀ s a,Ext s (x.low M V s a).1)→∀ s a last,Ext s (St.lowL M V l g s a last).1:=by
    intro l
    induction l with
    | nil=>intro _ s a last;rw[St.lowL];exact Ext.refl _
    | cons x l ihl =>
     intro h s a last
     rcases x with ⟨kind,mon,name,n,e,ad,cap,blocks,pos⟩
     rw[St.lowL]
     split
     ·exact (Ext.wait _ _ _ _ _ _).trans (ihl (fun y hy=>h y (by simp[hy])) _ _ _)
     ·exact (h _ (by simp) _ _).trans (ihl (fun y hy=>h y (by simp[hy])) _ _ _)
   exact key body ih s a 0) x
theorem lowL_ext (M:ByteArray→Int) (V:ByteArray→ByteArray→Int) (g:Gu):∀ (l:List St) (s:Fs) (a last:Int),Ext s (St.lowL M V l g s a last).1:=by
 intro l
 induction l with
 | nil=>intro s a last;rw[St.lowL];exact Ext.refl _
 | cons x l ihl =>
  intro s a last
  rcases x with ⟨kind,mon,name,n,e,ad,cap,blocks,pos⟩
  rw[St.lowL]
  split
  ·exact (Ext.wait _ _ _ _ _ _).trans (ihl _ _ _)
  ·exact (St.low_ext M V _ _ _).trans (ihl _ _ _)
theorem Bl.low_ext (M:ByteArray→Int) (V:ByteArray→ByteArray→Int) (b:Bl) (g:Gu) (s:Fs) (a:Int):Ext s (b.low M V g s a).1:=by
 rcases b with ⟨ad,cap,body⟩
 rw[Bl.low]
 exact lowL_ext M V g body s a 0
open Go.RowKit
section
variable (M:ByteArray→Int) (V:ByteArray→ByteArray→Int) (mon name:ByteArray) (n:Int) (e:Ex) (ad:Option Addr) (cap:Nat) (blocks:List Bl) (pos:Int) (s:Fs) (a:Int)
theorem low1:St.low M V (.mk 1 mon name n e ad cap blocks pos) s a=s.on a (edE 1 0 pos):=by unfold St.low;rfl
theorem low2:St.low M V (.mk 2 mon name n e ad cap blocks pos) s a=s.on a ⟨0,0,3,0,V mon name,e.top,0,0,0,pos⟩:=by unfold St.low;rfl
theorem low10:St.low M V (.mk 10 mon name n e ad cap blocks pos) s a=s.on a (edE 7 (M mon) pos):=by unfold St.low;rfl
theorem low11:St.low M V (.mk 11 mon name n e ad cap blocks pos) s a=s.on a (edE 8 (M mon) pos):=by unfold St.low;rfl
theorem low6:St.low M V (.mk 6 mon name n e ad cap blocks pos) s a=((Bl.lowC M V blocks 0 pos s a).2.foldl (fun t x=>t.lay x (Bl.lowC M V blocks 0 pos s a).1.locs (skipE pos 0)) (Bl.lowC M V blocks 0 pos s a).1.place,(Bl.lowC M V blocks 0 pos s a).1.locs):=by unfold St.low;rfl
theorem low7 (b:Bl) (t:List Bl) (q:Fs × Int × Int) (h:b.low M V noG (s.on a (edE 4 (M mon) pos)).1 (s.on a (edE 4 (M mon) pos)).2=q):St.low M V (.mk 7 mon name n e ad cap (b::t) pos) s a=q.1.on q.2.1 (edE 5 (M mon) pos):=by unfold St.low;rw[← h];rfl
theorem low4 (b:Bl) (t:List Bl) (q:Fs × Int × Int) (h:b.low M V ⟨0,notE e,true⟩ (s.on a (testE e.top e.pos 0)).1 (s.on a (testE e.top e.pos 0)).2=q):St.low M V (.mk 4 mon name n e ad cap (b::t) pos) s a=(q.1.lay q.2.1 a (skipE pos 0)).on a (testE (notE e) e.pos q.2.2):=by unfold St.low;rw[← h];rfl
theorem low5 (b:Bl) (t:List Bl) (q:Fs × Int × Int) (h:b.low M V noG s a=q):St.low M V (.mk 5 mon name n e ad cap (b::t) pos) s a=((q.1.lay q.2.1 a (skipE pos 0)).place,q.1.locs):=by unfold St.low;rw[← h];rfl
theorem low31 (b:Bl) (q:Fs × Int × Int) (h:b.low M V ⟨0,notE e,false⟩ (s.on a (testE e.top e.pos 0)).1 (s.on a (testE e.top e.pos 0)).2=q):St.low M V (.mk 3 mon name n e ad cap [b] pos) s a=((((q.1.on q.2.1 (skipE pos q.2.2)).1.on a (testE (notE e) e.pos 0)).1.lay ((q.1.on q.2.1 (skipE pos q.2.2)).1.on a (testE (notE e) e.pos 0)).2 (q.1.on q.2.1 (skipE pos q.2.2)).2 (skipE pos 0)),(q.1.on q.2.1 (skipE pos q.2.2)).2):=by unfold St.low;rw[← h];rfl
theorem low32 (b c:Bl) (t:List Bl) (q y:Fs × Int × Int) (h:b.low M V ⟨0,notE e,false⟩ (s.on a (testE e.top e.pos 0)).1 (s.on a (testE e.top e.pos 0)).2=q) (h2:c.low M V ⟨0,e.top,false⟩ ((q.1.on q.2.1 (skipE pos q.2.2)).1.on a (testE (notE e) e.pos 0)).1 ((q.1.on q.2.1 (skipE pos q.2.2)).1.on a (testE (notE e) e.pos 0)).2=y):St.low M V (.mk 3 mon name n e ad cap (b::c::t) pos) s a=((y.1.lay y.2.1 (q.1.on q.2.1 (skipE pos q.2.2)).2 (skipE pos y.2.2)),(q.1.on q.2.1 (skipE pos q.2.2)).2):=by unfold St.low;rw[← h2,← h];rfl
theorem lowN (kind:Int) (h1:¬ kind=1) (h2:¬ kind=2) (h10:¬ kind=10) (h11:¬ kind=11) (h6:¬ kind=6) (h7:¬ kind=7) (h3:¬ kind=3) (h4:¬ kind=4) (h5:¬ kind=5):St.low M V (.mk kind mon name n e ad cap blocks pos) s a=(s,a):=by
 unfold St.low
 rw[if_neg h1,if_neg h2,if_neg h10,if_neg h11,if_neg h6]
 cases blocks with
 | nil=>rfl
 | cons b t=>simp only[if_neg h7,if_neg h3,if_neg h4,if_neg h5]
end
open Go.RowKit
def Ed.cells (x:Ed):List Value:=[.int .i64 x.src,.int .i64 x.dst,.int .i64 x.kind,.int .i64 x.mon,.int .i64 x.var]++x.e.cells++[.int .i64 x.n,.int .i64 x.site,.int .i64 x.out,.int .i64 x.pos]
def Ed.val (x:Ed):Value:=.agg x.cells.toArray
def Gu.cells (g:Gu):List Value:=[.int .i64 g.mon]++g.e.cells++[.bool g.loop]
def Gu.val (g:Gu):Value:=.agg g.cells.toArray
theorem Ed.len (x:Ed):x.cells.length=15:=by rcases x with ⟨a1,a2,a3,a4,a5,⟨b1,b2,b3,b4,b5,b6,b7,b8⟩,a7,a8,a9,a10⟩;rfl
theorem Gu.len (x:Gu):x.cells.length=8:=by rcases x with ⟨a1,⟨b1,b2,b3,b4,b5,b6,b7,b8⟩,a3⟩;rfl
theorem Ed.one (x:Ed):∀ u∈x.cells,u.oneCell'=true:=by
 rcases x with ⟨a1,a2,a3,a4,a5,⟨b1,b2,b3,b4,b5,b6,b7,b8⟩,a7,a8,a9,a10⟩
 intro u hu
 simp only[Ed.cells,Ex.cells,List.mem_append,List.mem_cons,List.not_mem_nil,or_false] at hu
 rcases hu with ((h|h|h|h|h)|h|h|h|h|h|h)|h|h|h|h <;> subst h <;> rfl
theorem Gu.one (x:Gu):∀ u∈x.cells,u.oneCell'=true:=by
 rcases x with ⟨a1,⟨b1,b2,b3,b4,b5,b6,b7,b8⟩,a3⟩
 intro u hu
 simp only[Gu.cells,Ex.cells,List.mem_append,List.mem_cons,List.not_mem_nil,or_false] at hu
 rcases hu with (h|h|h|h|h|h|h)|h <;> subst h <;> rfl
theorem info57:(Tryz.prog.info? 57).map (fun i=>(i.zero,i.size,i.bytes))=some (some (.agg #[.int .i64 0,.int .i64 0,.int .i64 0,.int .i64 0,.int .i64 0,.int .i64 0,.string ⟨#[]⟩,.string ⟨#[]⟩,.int .i64 0,.slice none 0 0,.int .i64 0,.int .i64 0,.int .i64 0,.int .i64 0,.int .i64 0]),15,152):=by kernel_rfl
theorem info60:(Tryz.prog.info? 60).map (fun i=>(i.zero,i.size,i.bytes))=some (some (.agg #[.int .i64 0,.int .i64 0,.string ⟨#[]⟩,.string ⟨#[]⟩,.int .i64 0,.slice none 0 0,.int .i64 0,.bool false]),8,96):=by kernel_rfl
def qp (b:Nat) (H:Nat→Bool) (ev gv:Value) (k:Nat):Bool:=decide (k≠b)&&decide (ev.ownBlock≠some k)&&decide (gv.ownBlock≠some k)&&!H k
theorem qp_iff {b:Nat} {H:Nat→Bool} {ev gv:Value} {k:Nat}:qp b H ev gv k=true↔k≠b∧ev.ownBlock≠some k∧gv.ownBlock≠some k∧H k=false:=by
 simp[qp,and_assoc]
structure PAt (C:Int→Value→Value→Array Value) (T:TypeId) (n₁ n₀ b:Nat) (H:Nat→Bool) (ev gv:Value) (s:Fs) (w:World):Prop where
 box:w.heap[b]?=some (.cells (C s.locs ev gv) T (0,0))
 lo:n₀≤b
 le:n₁≤n₀
 pos:0≤s.locs
 hid:∀ k,H k=true→n₁≤k∧k<w.heap.size
 ed:∃ es:List Ed,es.map Ed.top=s.es∧w.ownsRow n₀ 57 15 ev es.length (es.flatMap Ed.cells)∧∀ x∈es,x.e.Is w.heap.size (only (qp b H ev gv) w)
 gu:∃ gs:List Gu,gs.map Gu.top=s.gs∧w.ownsRow n₀ 60 8 gv gs.length (gs.flatMap Gu.cells)∧∀ x∈gs,x.e.Is w.heap.size (only (qp b H ev gv) w)
structure Fr (b:Nat) (ev gv ev' gv':Value) (w w':World):Prop where
 os:w'.os=w.os
 tape:w'.tape=w.tape
 output:w'.output=w.output
 size:w.heap.size≤w'.heap.size
 block:∀ k,k<w.heap.size→k≠b→ev.ownBlock≠some k→gv.ownBlock≠some k→w'.heap[k]?=w.heap[k]?
 evb:∀ k,ev'.ownBlock=some k→ev.ownBlock=some k∨w.heap.size≤k
 gvb:∀ k,gv'.ownBlock=some k→gv.ownBlock=some k∨w.heap.size≤k
theorem Fr.refl (b:Nat) (ev gv:Value) (w:World):Fr b ev gv ev gv w w:=⟨rfl,rfl,rfl,Nat.le_refl _,fun _ _ _ _ _=>rfl,fun _ h=>.inl h,fun _ h=>.inl h⟩
theorem Fr.off {b:Nat} {ev gv ev' gv':Value} {w w':World} (h:Fr b ev gv ev' gv' w w') {k:Nat} (hk:k<w.heap.size) (he:ev.ownBlock≠some k) (hg:gv.ownBlock≠some k):ev'.ownBlock≠some k∧gv'.ownBlock≠some k:=
 ⟨fun e=>by
  rcases h.evb k e with e|e
  ·exact he e
  ·omega,fun e=>by
  rcases h.gvb k e with e|e
  ·exact hg e
  ·omega⟩
theorem Fr.trans {b:Nat} {ev gv ev1 gv1 ev2 gv2:Value} {w u x:World} (h:Fr b ev gv ev1 gv1 w u) (g:Fr b ev1 gv1 ev2 gv2 u x):Fr b ev gv ev2 gv2 w x:=by
 have hs:=h.size
 refine⟨g.os.trans h.os,g.tape.trans h.tape,g.output.trans h.output,Nat.le_trans h.size g.size,fun k hk hb he hg=>?_,fun k e=>?_,fun k e=>?_⟩
 ·obtain⟨h1,h2⟩:=h.off hk he hg
  exact (g.block k (by omega) hb h1 h2).trans (h.block k hk hb he hg)
 ·rcases g.evb k e with e|e
  ·exact h.evb k e
  ·exact .inr (by omega)
 ·rcases g.gvb k e with e|e
  ·exact h.gvb k e
  ·exact .inr (by omega)
theorem Fr.of {b:Nat} {ev gv:Value} {w w':World} (h:Below w.heap.size w w'):Fr b ev gv ev gv w w':=⟨h.os,h.tape,h.output,h.size,fun k hk _ _ _=>h.block k hk,fun _ h=>.inl h,fun _ h=>.inl h⟩
theorem Fr.bel {b:Nat} {ev gv ev' gv':Value} {w u x:World} (h:Fr b ev gv ev' gv' w u) (k:Below u.heap.size u x):Fr b ev gv ev' gv' w x:=h.trans (.of k)
theorem Fr.drew {b:Nat} {ev gv ev' gv':Value} {w u:World} (h:Fr b ev gv ev' gv' w u):Fr b ev gv ev' gv' w u.drew:=⟨h.os,h.tape,h.output,h.size,h.block,h.evb,h.gvb⟩
section
variable {C:Int→Value→Value→Array Value} {T:TypeId} {n₁ n₀ b:Nat} {H:Nat→Bool} {ev gv:Value} {s:Fs} {w:World}
theorem PAt.lt (h:PAt C T n₁ n₀ b H ev gv s w):b<w.heap.size:=(Array.getElem?_eq_some_iff.1 h.box).1
theorem PAt.evlt (h:PAt C T n₁ n₀ b H ev gv s w) {k:Nat} (hk:ev.ownBlock=some k):n₀≤k∧k<w.heap.size:=by
 obtain⟨es,-,h1,-⟩:=h.ed;exact own_lt h1 hk
theorem PAt.gvlt (h:PAt C T n₁ n₀ b H ev gv s w) {k:Nat} (hk:gv.ownBlock=some k):n₀≤k∧k<w.heap.size:=by
 obtain⟨es,-,h1,-⟩:=h.gu;exact own_lt h1 hk
theorem own_kindP {w:World} {B e size n:Nat} {v:Value} {xs:List Value} (h:w.ownsRow B e size v n xs) (g:Nat) (hg:v.ownBlock=some g):∃ c,w.heap[g]?=some (.cells c e (0,0)):=by
 obtain⟨_,⟨rfl,_⟩|⟨g',cap,cur,rfl,_,hh,_⟩⟩:=h
 ·cases hg
 ·injection hg with hg;subst hg;exact⟨cur,hh⟩
theorem PAt.evne (h:PAt C T n₁ n₀ b H ev gv s w) (hT:T≠57):ev.ownBlock≠some b:=fun e=>by
 obtain⟨es,-,h1,-⟩:=h.ed
 obtain⟨c,hc⟩:=own_kindP h1 b e
 rw[h.box] at hc;injection hc with hc;injection hc with _ h3;exact hT h3
theorem PAt.gvne (h:PAt C T n₁ n₀ b H ev gv s w) (hT:T≠60):gv.ownBlock≠some b:=fun e=>by
 obtain⟨es,-,h1,-⟩:=h.gu
 obtain⟨c,hc⟩:=own_kindP h1 b e
 rw[h.box] at hc;injection hc with hc;injection hc with _ h3;exact hT h3
theorem PAt.apart (h:PAt C T n₁ n₀ b H ev gv s w) {k:Nat} (he:ev.ownBlock=some k):gv.ownBlock≠some k:=fun e=>by
 obtain⟨es,-,h1,-⟩:=h.ed
 obtain⟨gs,-,h2,-⟩:=h.gu
 obtain⟨c,hc⟩:=own_kindP h1 k he
 obtain⟨d,hd⟩:=own_kindP h2 k e
 rw[hc] at hd;injection hd with hd;injection hd with _ h3;exact absurd h3 (by decide)
theorem Fr.below {b:Nat} {ev' gv':Value} {w w':World} (k:Fr b ev gv ev' gv' w w') (h:PAt C T n₁ n₀ b H ev gv s w):Below n₀ w w':=by
 refine⟨k.os,k.tape,k.output,k.size,fun i hi=>k.block i ?_ ?_ ?_ ?_⟩
 ·have:=h.lt;have:=h.lo;omega
 ·have:=h.lo;omega
 ·intro e;have:=(h.evlt e).1;omega
 ·intro e;have:=(h.gvlt e).1;omega
theorem PAt.qlo (h:PAt C T n₁ n₀ b H ev gv s w) {k:Nat} (hk:k<n₁):qp b H ev gv k=true:=by
 have hle:=h.le
 refine qp_iff.2 ⟨by have:=h.lo;omega,fun e=>?_,fun e=>?_,?_⟩
 ·have:=(h.evlt e).1;omega
 ·have:=(h.gvlt e).1;omega
 ·cases hH:H k
  ·rfl
  ·have:=(h.hid k hH).1;omega
theorem PAt.qhi (h:PAt C T n₁ n₀ b H ev gv s w) {k:Nat} (hk:w.heap.size≤k):qp b H ev gv k=true:=by
 refine qp_iff.2 ⟨by have:=h.lt;omega,fun e=>?_,fun e=>?_,?_⟩
 ·have:=(h.evlt e).2;omega
 ·have:=(h.gvlt e).2;omega
 ·cases hH:H k
  ·rfl
  ·have:=(h.hid k hH).2;omega
theorem PAt.ex (h:PAt C T n₁ n₀ b H ev gv s w) {e:Ex} (he:e.Is n₁ w):e.Is w.heap.size (only (qp b H ev gv) w):=by
 have h1:=h.lt;have h2:=h.lo;have h3:=h.le
 exact he.imp (only_close fun k hk=>⟨h.qlo hk,rfl⟩) (by omega)
theorem PAt.bel (h:PAt C T n₁ n₀ b H ev gv s w) {w':World} (k:Below w.heap.size w w'):PAt C T n₁ n₀ b H ev gv s w':=by
 obtain⟨es,e1,e2,e3⟩:=h.ed
 obtain⟨gs,g1,g2,g3⟩:=h.gu
 refine⟨(k.block b h.lt).trans h.box,h.lo,h.le,h.pos,fun i hi=>⟨(h.hid i hi).1,by have:=(h.hid i hi).2;have:=k.size;omega⟩,⟨es,e1,owns_below e2 k,fun x hx=>?_⟩,⟨gs,g1,owns_below g2 k,fun x hx=>?_⟩⟩
 ·exact (e3 x hx).imp (only_imp fun i hi hq=>⟨hq,k.block i hi⟩) k.size
 ·exact (g3 x hx).imp (only_imp fun i hi hq=>⟨hq,k.block i hi⟩) k.size
theorem PAt.drew (h:PAt C T n₁ n₀ b H ev gv s w):PAt C T n₁ n₀ b H ev gv s w.drew:=h.bel (Below.drew (Below.refl _ _))
theorem PAt.al (h:PAt C T n₁ n₀ b H ev gv s w) (o:Obj):PAt C T n₁ n₀ b H ev gv s (w.alloc o):=h.bel ((Below.refl _ _).al le_rfl' o)
theorem PAt.hide (h:PAt C T n₁ n₀ b H ev gv s w) {w':World} (k:Below w.heap.size w w') (H':Nat→Bool) (hH:∀ i,H' i=true→n₁≤i∧i<w'.heap.size) (hs:∀ i,i<w.heap.size→H' i=true→H i=true):PAt C T n₁ n₀ b H' ev gv s w':=by
 obtain⟨es,e1,e2,e3⟩:=h.ed
 obtain⟨gs,g1,g2,g3⟩:=h.gu
 have hq:∀ i,i<w.heap.size→qp b H ev gv i=true→qp b H' ev gv i=true∧w'.heap[i]?=w.heap[i]?:=fun i hi hq=>by
  obtain⟨q1,q2,q3,q4⟩:=qp_iff.1 hq
  refine⟨qp_iff.2 ⟨q1,q2,q3,?_⟩,k.block i hi⟩
  cases hh:H' i
  ·rfl
  ·rw[hs i hi hh] at q4;exact Bool.noConfusion q4
 exact⟨(k.block b h.lt).trans h.box,h.lo,h.le,h.pos,hH,⟨es,e1,owns_below e2 k,fun x hx=>(e3 x hx).imp (only_imp hq) k.size⟩,⟨gs,g1,owns_below g2 k,fun x hx=>(g3 x hx).imp (only_imp hq) k.size⟩⟩
theorem setBoxP {w:World} {k i:Nat} {c:Array Value} {T:TypeId} (h:w.heap[k]?=some (.cells c T (0,0))) (v:Value):(w.setCell ⟨k,i,none⟩ v).heap[k]?=some (.cells (c.setIfInBounds i v) T (0,0)):=by
 simp[World.setCell,Array.getElem?_modify,h]
theorem sizeSet (w:World) (a:Addr) (v:Value):(w.setCell a v).heap.size=w.heap.size:=by simp[World.setCell]
theorem ownsSet {w:World} {B e size n:Nat} {v:Value} {xs:List Value} (h:w.ownsRow B e size v n xs) {k i:Nat} (hk:v.ownBlock≠some k) (u:Value):(w.setCell ⟨k,i,none⟩ u).ownsRow B e size v n xs:=by
 obtain⟨hl,⟨rfl,hn⟩|⟨g,cap,cur,rfl,hB,hh,hc,hm,hcs,hx⟩⟩:=h
 ·exact⟨hl,.inl ⟨rfl,hn⟩⟩
 ·exact⟨hl,.inr ⟨g,cap,cur,rfl,hB,(Below.heap_setCell _ _ _ _ (fun e=>hk (congrArg some e))).trans hh,hc,hm,hcs,hx⟩⟩
theorem PAt.setLocs (h:PAt C T n₁ n₀ b H ev gv s w) (hT:T≠57) (hT2:T≠60) (l:Int) (hl:0≤l) (i:Nat) (hC:(C s.locs ev gv).setIfInBounds i (.int .i64 l)=C l ev gv):PAt C T n₁ n₀ b H ev gv { s with locs:=l } (w.setCell ⟨b,i,none⟩ (.int .i64 l)):=by
 obtain⟨es,e1,e2,e3⟩:=h.ed
 obtain⟨gs,g1,g2,g3⟩:=h.gu
 have hq:∀ k,k<w.heap.size→qp b H ev gv k=true→qp b H ev gv k=true∧(w.setCell ⟨b,i,none⟩ (.int .i64 l)).heap[k]?=w.heap[k]?:=fun k hk hq=>⟨hq,Below.heap_setCell _ _ _ _ (qp_iff.1 hq).1⟩
 refine⟨?_,h.lo,h.le,hl,fun k hk=>by rw[sizeSet];exact h.hid k hk,⟨es,e1,ownsSet e2 (h.evne hT) _,fun x hx=>(e3 x hx).imp (only_imp hq) (by rw[sizeSet];exact le_rfl')⟩,⟨gs,g1,ownsSet g2 (h.gvne hT2) _,fun x hx=>(g3 x hx).imp (only_imp hq) (by rw[sizeSet];exact le_rfl')⟩⟩
 rw[setBoxP h.box,hC]
theorem Fr.setLocs {ev' gv':Value} {w0:World} (k:Fr b ev gv ev' gv' w0 w) (i:Nat) (u:Value):Fr b ev gv ev' gv' w0 (w.setCell ⟨b,i,none⟩ u):=
 ⟨k.os,k.tape,k.output,by rw[sizeSet];exact k.size,fun j hj hb he hg=>(Below.heap_setCell _ _ _ _ hb).trans (k.block j hj hb he hg),k.evb,k.gvb⟩
theorem PAt.addEdge (h:PAt C T n₁ n₀ b H ev gv s w) (hT:T≠57) (hT2:T≠60) (y:Ed) (hy:y.e.Is w.heap.size (only (qp b H ev gv) w)) {es:List Ed} (hes:es.map Ed.top=s.es) (hIs:∀ x∈es,x.e.Is w.heap.size (only (qp b H ev gv) w)) {u w1:World} (hu:Below w.heap.size w u) {g gcp:Nat}
  (hown:w1.ownsRow n₀ 57 15 (.slice (some ⟨g,0,none⟩) (es.length+1) gcp) (es.length+1) (es.flatMap Ed.cells++y.cells)) (hgr:u.grownBy w1 ev.ownBlock) (hat:ev.ownBlock=some g∨w.heap.size≤g) (i:Nat) (hC:(C s.locs ev gv).setIfInBounds i (.slice (some ⟨g,0,none⟩) (es.length+1) gcp)=C s.locs (.slice (some ⟨g,0,none⟩) (es.length+1) gcp) gv) :
  PAt C T n₁ n₀ b H (.slice (some ⟨g,0,none⟩) (es.length+1) gcp) gv { s with es:=s.es++[y.top] } (w1.setCell ⟨b,i,none⟩ (.slice (some ⟨g,0,none⟩) (es.length+1) gcp))∧Fr b ev gv (.slice (some ⟨g,0,none⟩) (es.length+1) gcp) gv w (w1.setCell ⟨b,i,none⟩ (.slice (some ⟨g,0,none⟩) (es.length+1) gcp)):=by
 obtain⟨gs,g1,g2,g3⟩:=h.gu
 have hs1:=hu.size;have hs2:=hgr.size
 have hgb:g≠b:=by
  rintro rfl
  rcases hat with e|e
  ·exact h.evne hT e
  ·have:=h.lt;omega
 have hgg:gv.ownBlock≠some g:=fun e=>by
  rcases hat with e2|e2
  ·exact h.apart e2 e
  ·have:=(h.gvlt e).2;omega
 have hblk:∀ k,k<w.heap.size→ev.ownBlock≠some k→w1.heap[k]?=w.heap[k]?:=fun k hk he=>(hgr.block k (by omega) (fun e=>he e.symm)).trans (hu.block k hk)
 have hq:∀ k,k<w.heap.size→qp b H ev gv k=true→qp b H (.slice (some ⟨g,0,none⟩) (es.length+1) gcp) gv k=true∧(w1.setCell ⟨b,i,none⟩ (.slice (some ⟨g,0,none⟩) (es.length+1) gcp)).heap[k]?=w.heap[k]?:=fun k hk hq=>by
  obtain⟨q1,q2,q3,q4⟩:=qp_iff.1 hq
  refine⟨qp_iff.2 ⟨q1,fun e=>?_,q3,q4⟩,(Below.heap_setCell _ _ _ _ q1).trans (hblk k hk q2)⟩
  have e:g=k:=by simpa[Value.ownBlock] using e
  subst e
  rcases hat with e|e
  ·exact q2 e
  ·omega
 have hgvown:w1.ownsRow n₀ 60 8 gv gs.length (gs.flatMap Gu.cells):=by
  obtain⟨hl,⟨rfl,hn⟩|⟨r,cap,cur,rfl,hB,hh,hc,hm,hcs,hx⟩⟩:=g2
  ·exact⟨hl,.inl ⟨rfl,hn⟩⟩
  ·exact⟨hl,.inr ⟨r,cap,cur,rfl,hB,(hblk r (Array.getElem?_eq_some_iff.1 hh).1 (fun e=>h.apart e rfl)).trans hh,hc,hm,hcs,hx⟩⟩
 have hsz:w.heap.size≤(w1.setCell ⟨b,i,none⟩ (.slice (some ⟨g,0,none⟩) (es.length+1) gcp)).heap.size:=by rw[sizeSet];omega
 refine⟨⟨?_,h.lo,h.le,h.pos,fun k hk=>⟨(h.hid k hk).1,by have:=(h.hid k hk).2;omega⟩,⟨es++[y],?_,?_,fun x hx=>?_⟩,⟨gs,g1,ownsSet hgvown (h.gvne hT2) _,fun x hx=>(g3 x hx).imp (only_imp hq) hsz⟩⟩,⟨hgr.os.trans hu.os,hgr.tape.trans hu.tape,hgr.output.trans hu.output,hsz,fun k hk hb he _=>(Below.heap_setCell _ _ _ _ hb).trans (hblk k hk he),fun k e=>?_,fun k e=>.inl e⟩⟩
 ·rw[setBoxP ((hblk b h.lt (h.evne hT)).trans h.box),hC]
 ·rw[List.map_append,hes];rfl
 ·have h2:=ownsSet (i:=i) hown (k:=b) (fun e=>hgb (by simpa[Value.ownBlock] using e)) (.slice (some ⟨g,0,none⟩) (es.length+1) gcp)
  rw[List.length_append,List.flatMap_append]
  simpa using h2
 ·rcases List.mem_append.1 hx with hx|hx
  ·exact (hIs x hx).imp (only_imp hq) hsz
  ·rw[List.mem_singleton.1 hx];exact hy.imp (only_imp hq) hsz
 ·have e:g=k:=by simpa[Value.ownBlock] using e
  subst e
  exact hat
theorem PAt.addGuard (h:PAt C T n₁ n₀ b H ev gv s w) (hT:T≠57) (hT2:T≠60) (y:Gu) (hy:y.e.Is w.heap.size (only (qp b H ev gv) w)) {gs:List Gu} (hgs:gs.map Gu.top=s.gs) (hIs:∀ x∈gs,x.e.Is w.heap.size (only (qp b H ev gv) w)) {u w1:World} (hu:Below w.heap.size w u) {g gcp:Nat}
  (hown:w1.ownsRow n₀ 60 8 (.slice (some ⟨g,0,none⟩) (gs.length+1) gcp) (gs.length+1) (gs.flatMap Gu.cells++y.cells)) (hgr:u.grownBy w1 gv.ownBlock) (hat:gv.ownBlock=some g∨w.heap.size≤g) (i:Nat) (hC:(C s.locs ev gv).setIfInBounds i (.slice (some ⟨g,0,none⟩) (gs.length+1) gcp)=C s.locs ev (.slice (some ⟨g,0,none⟩) (gs.length+1) gcp)) :
  PAt C T n₁ n₀ b H ev (.slice (some ⟨g,0,none⟩) (gs.length+1) gcp) (s.guard y.top) (w1.setCell ⟨b,i,none⟩ (.slice (some ⟨g,0,none⟩) (gs.length+1) gcp))∧Fr b ev gv ev (.slice (some ⟨g,0,none⟩) (gs.length+1) gcp) w (w1.setCell ⟨b,i,none⟩ (.slice (some ⟨g,0,none⟩) (gs.length+1) gcp)):=by
 obtain⟨es,e1,e2,e3⟩:=h.ed
 have hs1:=hu.size;have hs2:=hgr.size
 have hgb:g≠b:=by
  rintro rfl
  rcases hat with e|e
  ·exact h.gvne hT2 e
  ·have:=h.lt;omega
 have hgg:ev.ownBlock≠some g:=fun e=>by
  rcases hat with e2|e2
  ·exact h.apart e e2
  ·have:=(h.evlt e).2;omega
 have hblk:∀ k,k<w.heap.size→gv.ownBlock≠some k→w1.heap[k]?=w.heap[k]?:=fun k hk he=>(hgr.block k (by omega) (fun e=>he e.symm)).trans (hu.block k hk)
 have hq:∀ k,k<w.heap.size→qp b H ev gv k=true→qp b H ev (.slice (some ⟨g,0,none⟩) (gs.length+1) gcp) k=true∧(w1.setCell ⟨b,i,none⟩ (.slice (some ⟨g,0,none⟩) (gs.length+1) gcp)).heap[k]?=w.heap[k]?:=fun k hk hq=>by
  obtain⟨q1,q2,q3,q4⟩:=qp_iff.1 hq
  refine⟨qp_iff.2 ⟨q1,q2,fun e=>?_,q4⟩,(Below.heap_setCell _ _ _ _ q1).trans (hblk k hk q3)⟩
  have e:g=k:=by simpa[Value.ownBlock] using e
  subst e
  rcases hat with e|e
  ·exact q3 e
  ·omega
 have hevown:w1.ownsRow n₀ 57 15 ev es.length (es.flatMap Ed.cells):=by
  obtain⟨hl,⟨rfl,hn⟩|⟨r,cap,cur,rfl,hB,hh,hc,hm,hcs,hx⟩⟩:=e2
  ·exact⟨hl,.inl ⟨rfl,hn⟩⟩
  ·exact⟨hl,.inr ⟨r,cap,cur,rfl,hB,(hblk r (Array.getElem?_eq_some_iff.1 hh).1 (fun e=>h.apart rfl e)).trans hh,hc,hm,hcs,hx⟩⟩
 have hsz:w.heap.size≤(w1.setCell ⟨b,i,none⟩ (.slice (some ⟨g,0,none⟩) (gs.length+1) gcp)).heap.size:=by rw[sizeSet];omega
 refine⟨⟨?_,h.lo,h.le,h.pos,fun k hk=>⟨(h.hid k hk).1,by have:=(h.hid k hk).2;omega⟩,⟨es,e1,ownsSet hevown (h.evne hT) _,fun x hx=>(e3 x hx).imp (only_imp hq) hsz⟩,⟨gs++[y],?_,?_,fun x hx=>?_⟩⟩,⟨hgr.os.trans hu.os,hgr.tape.trans hu.tape,hgr.output.trans hu.output,hsz,fun k hk hb _ he=>(Below.heap_setCell _ _ _ _ hb).trans (hblk k hk he),fun k e=>.inl e,fun k e=>?_⟩⟩
 ·show _=some (Obj.cells (C s.locs ev _) T (0,0))
  rw[setBoxP ((hblk b h.lt (h.gvne hT2)).trans h.box),hC]
 ·rw[List.map_append,hgs];rfl
 ·have h2:=ownsSet (i:=i) hown (k:=b) (fun e=>hgb (by simpa[Value.ownBlock] using e)) (.slice (some ⟨g,0,none⟩) (gs.length+1) gcp)
  rw[List.length_append,List.flatMap_append]
  simpa using h2
 ·rcases List.mem_append.1 hx with hx|hx
  ·exact (hIs x hx).imp (only_imp hq) hsz
  ·rw[List.mem_singleton.1 hx];exact hy.imp (only_imp hq) hsz
 ·have e:g=k:=by simpa[Value.ownBlock] using e
  subst e
  exact hat
end
open Go.RowKit
def outs (es:List Ed) (a:Int):List Ed:=es.filter fun x=>decide (x.src=a)
theorem outs_app (l m:List Ed) (a:Int):outs (l++m) a=outs l a++outs m a:=List.filter_append ..
theorem outs_lay (s:Fs) (a b:Int) (x:Ed) (k:Int):outs (s.lay a b x).es k=if k=a then outs s.es k++[{ x with src:=a,dst:=b }] else outs s.es k:=by
 show outs (s.es++[_]) k=_
 rw[outs_app]
 split
 ·rename_i h;subst h;simp[outs]
 ·rename_i h;simp[outs];intro e;exact absurd e.symm h
theorem outs_on (s:Fs) (a:Int) (x:Ed) (k:Int):outs (s.on a x).1.es k=if k=a then outs s.es k++[{ x with src:=a,dst:=s.locs }] else outs s.es k:=outs_lay s.place a s.locs x k
inductive GoodOut:List Ed→Prop
 | nil:GoodOut []
 | one (x:Ed) (h:x.kind≠2) (h9:x.kind≠9):GoodOut [x]
 | two (x y:Ed) (e:Ex) (hx:x.kind=2) (hy:y.kind=2) (ex:x.e=e.top) (ey:y.e=notE e):GoodOut [x,y]
 | pick (l:List Ed) (h:∀ (i:Nat) (hi:i<l.length),l[i].kind=9∧l[i].n=(i:Int)):GoodOut l
def Inn (s:Fs):Prop:=∀ x∈s.es,(0≤x.src∧x.src<s.locs)∧0≤x.dst∧x.dst<s.locs
theorem Inn.none {s:Fs} (h:Inn s) {k:Int} (hk:s.locs≤k):outs s.es k=[]:=by
 unfold outs
 refine List.filter_eq_nil_iff.2 fun x hx=>?_
 have:=(h x hx).1.2
 simp;omega
theorem Inn.place {s:Fs} (h:Inn s):Inn s.place:=fun x hx=>by
 have:=h x hx
 show (0≤x.src∧x.src<s.locs+1)∧0≤x.dst∧x.dst<s.locs+1
 omega
theorem Inn.lay {s:Fs} (h:Inn s) {a b:Int} (ha:0≤a∧a<s.locs) (hb:0≤b∧b<s.locs) (x:Ed):Inn (s.lay a b x):=fun y hy=>by
 rcases List.mem_append.1 hy with hy|hy
 ·exact h y hy
 ·rw[List.mem_singleton.1 hy];exact⟨ha,hb⟩
theorem Inn.on {s:Fs} (h:Inn s) {a:Int} (ha:0≤a∧a<s.locs) (x:Ed):Inn (s.on a x).1:=by
 refine h.place.lay ?_ ?_ x
 ·show 0≤a∧a<s.locs+1;omega
 ·show 0≤s.locs∧s.locs<s.locs+1;omega
theorem Inn.guard {s:Fs} (h:Inn s) (g:Gu):Inn (s.guard g):=h
structure Pw (s:Fs) (a:Int):Prop where
 inn:Inn s
 lo:0≤a∧a<s.locs
 none:outs s.es a=[]
structure Wy (s t:Fs) (a c:Int):Prop where
 locs:s.locs≤t.locs
 inn:Inn t
 fin:c=a∨s.locs≤c
 lt:0≤c∧c<t.locs
 none:outs t.es c=[]
 old:∀ k,k<s.locs→k≠a→outs t.es k=outs s.es k
 good:∀ k,(k=a∨s.locs≤k)→k≠c→GoodOut (outs t.es k)
theorem Wy.pw {s t:Fs} {a c:Int} (h:Wy s t a c):Pw t c:=⟨h.inn,h.lt,h.none⟩
theorem Wy.refl {s:Fs} {a:Int} (h:Pw s a):Wy s s a a:=
 ⟨Int.le_refl _,h.inn,.inl rfl,h.lo,h.none,fun _ _ _=>rfl,fun k hk hn=>by
  rcases hk with hk|hk
  ·exact absurd hk hn
  ·rw[h.inn.none hk];exact .nil⟩
theorem Wy.trans {s t u:Fs} {a c d:Int} (h:Wy s t a c) (g:Wy t u c d):Wy s u a d:=by
 have h1:=h.locs;have g1:=g.locs;have h3:=h.fin;have g3:=g.fin;have h4:=h.lt
 refine⟨by omega,g.inn,?_,g.lt,g.none,fun k hk ha=>?_,fun k hk hn=>?_⟩
 ·rcases g3 with g3|g3
  ·rw[g3];exact h3
  ·exact .inr (by omega)
 ·rw[g.old k (by omega) (by omega),h.old k hk ha]
 ·by_cases hc:k=c
  ·exact g.good k (.inl hc) hn
  ·by_cases hl:k<t.locs
   ·rw[g.old k hl hc];exact h.good k hk hc
   ·exact g.good k (.inr (by omega)) hn
theorem Wy.on {s:Fs} {a:Int} (h:Pw s a) (x:Ed) (h2:x.kind≠2) (h9:x.kind≠9):Wy s (s.on a x).1 a (s.on a x).2:=by
 have hl:=h.lo
 refine⟨by show s.locs≤s.locs+1;omega,h.inn.on hl x,.inr (Int.le_refl _),⟨by show 0≤s.locs;omega,by show s.locs<s.locs+1;omega⟩,?_,fun k hk ha=>?_,fun k hk hn=>?_⟩
 ·show outs (s.on a x).1.es s.locs=[]
  rw[outs_on,if_neg (by omega)];exact h.inn.none (Int.le_refl _)
 ·rw[outs_on,if_neg ha]
 ·have hn:k≠s.locs:=hn
  rw[outs_on]
  split
  ·rename_i hk2;subst hk2
   rw[h.none];exact .one _ h2 h9
  ·rename_i hk2
   have hk3:s.locs≤k:=by rcases hk with e|e;exact absurd e hk2;exact e
   rw[h.inn.none hk3];exact .nil
theorem Wy.wait {s:Fs} {a:Int} (h:Pw s a) (m n pos:Int) (g:Gu):Wy s (waitF m n pos g s a).1 a (waitF m n pos g s a).2:=by
 have h2:Pw (s.guard ⟨m,if g.e.opr=0 then trueE pos else g.e,g.loop⟩) a:=⟨h.inn.guard _,h.lo,h.none⟩
 obtain⟨a1,a2,a3,a4,a5,a6,a7⟩:=Wy.on h2 ⟨0,0,6,m,0,zeroEx,n,s.gs.length+1,if g.e.opr=0 then s.gs.length+1 else 0,pos⟩ (by show (6:Int)≠2;omega) (by show (6:Int)≠9;omega)
 exact⟨a1,a2,a3,a4,a5,a6,a7⟩
def lowW (M:ByteArray→Int) (V:ByteArray→ByteArray→Int) (b:Bl):Prop:=∀ g s a,Pw s a→Wy s (b.low M V g s a).1 a (b.low M V g s a).2.1
theorem pw_on {s:Fs} {a:Int} (hi:Inn s) (hl:0≤a∧a<s.locs) (x:Ed):Pw (s.on a x).1 (s.on a x).2:=by
 refine⟨hi.on hl x,⟨by show 0≤s.locs;omega,by show s.locs<s.locs+1;omega⟩,?_⟩
 show outs (s.on a x).1.es s.locs=[]
 rw[outs_on,if_neg (by omega)];exact hi.none (Int.le_refl _)
theorem wy_if {s q y:Fs} {a c f pos x1 x2:Int} {e:Ex} (h:Pw s a)
  (h1:Wy (s.on a (testE e.top e.pos 0)).1 q (s.on a (testE e.top e.pos 0)).2 c)
  (h2:Wy ((q.on c (skipE pos x1)).1.on a (testE (notE e) e.pos 0)).1 y ((q.on c (skipE pos x1)).1.on a (testE (notE e) e.pos 0)).2 f) :
  Wy s (y.lay f (q.on c (skipE pos x1)).2 (skipE pos x2)) a (q.on c (skipE pos x1)).2:=by
 have hl:=h.lo
 have l1:s.locs+1≤q.locs:=h1.locs
 have f1:c=s.locs∨s.locs+1≤c:=h1.fin
 have t1:=h1.lt
 have l2:q.locs+1+1≤y.locs:=h2.locs
 have f2:f=q.locs+1∨q.locs+1+1≤f:=h2.fin
 have t2:=h2.lt
 have o1:∀ k,k<s.locs+1→k≠s.locs→outs q.es k=outs (s.on a (testE e.top e.pos 0)).1.es k:=h1.old
 have o2:∀ k,k<q.locs+1+1→k≠q.locs+1→outs y.es k=outs ((q.on c (skipE pos x1)).1.on a (testE (notE e) e.pos 0)).1.es k:=h2.old
 have g1:∀ k,(k=s.locs∨s.locs+1≤k)→k≠c→GoodOut (outs q.es k):=h1.good
 have g2:∀ k,(k=q.locs+1∨q.locs+1+1≤k)→k≠f→GoodOut (outs y.es k):=h2.good
 refine⟨by show s.locs≤y.locs;omega,h2.inn.lay t2 ⟨by show 0≤q.locs;omega,by show q.locs<y.locs;omega⟩ _,.inr (by show s.locs≤q.locs;omega),⟨by show 0≤q.locs;omega,by show q.locs<y.locs;omega⟩,?_,fun k hk ha=>?_,fun k hk hn=>?_⟩
 ·show outs _ q.locs=[]
  rw[outs_lay,if_neg (by omega),o2 _ (by omega) (by omega),outs_on,if_neg (by omega),outs_on,if_neg (by omega)]
  exact h1.inn.none (Int.le_refl _)
 ·rw[outs_lay,if_neg (by omega),o2 _ (by omega) (by omega),outs_on,if_neg ha,outs_on,if_neg (by omega),o1 _ (by omega) (by omega),outs_on,if_neg ha]
 ·have hn:k≠q.locs:=hn
  rw[outs_lay]
  split
  ·rename_i hkf;subst hkf
   rw[h2.none];exact .one _ (by show (1:Int)≠2;omega) (by show (1:Int)≠9;omega)
  ·rename_i hkf
   by_cases hk3:k=q.locs+1∨q.locs+1+1≤k
   ·exact g2 k hk3 hkf
   ·rw[o2 _ (by omega) (by omega),outs_on]
    split
    ·rename_i hka;subst hka
     rw[outs_on,if_neg (by omega),o1 _ (by omega) (by omega),outs_on,if_pos rfl,h.none]
     exact .two _ _ e rfl rfl rfl rfl
    ·rename_i hka
     rw[outs_on]
     split
     ·rename_i hkc;subst hkc
      rw[h1.none];exact .one _ (by show (1:Int)≠2;omega) (by show (1:Int)≠9;omega)
     ·rename_i hkc
      exact g1 k (by omega) hkc
theorem wy_while {s q:Fs} {a c pos x:Int} {e:Ex} (h:Pw s a)
  (h1:Wy (s.on a (testE e.top e.pos 0)).1 q (s.on a (testE e.top e.pos 0)).2 c) :
  Wy s ((q.lay c a (skipE pos 0)).on a (testE (notE e) e.pos x)).1 a ((q.lay c a (skipE pos 0)).on a (testE (notE e) e.pos x)).2:=by
 have hl:=h.lo
 have l1:s.locs+1≤q.locs:=h1.locs
 have f1:c=s.locs∨s.locs+1≤c:=h1.fin
 have t1:=h1.lt
 have o1:∀ k,k<s.locs+1→k≠s.locs→outs q.es k=outs (s.on a (testE e.top e.pos 0)).1.es k:=h1.old
 have g1:∀ k,(k=s.locs∨s.locs+1≤k)→k≠c→GoodOut (outs q.es k):=h1.good
 have i1:Inn (q.lay c a (skipE pos 0)):=h1.inn.lay t1 ⟨hl.1,by omega⟩ _
 refine⟨by show s.locs≤q.locs+1;omega,i1.on ⟨hl.1,by show a<q.locs;omega⟩ _,.inr (by show s.locs≤q.locs;omega),⟨by show 0≤q.locs;omega,by show q.locs<q.locs+1;omega⟩,?_,fun k hk ha=>?_,fun k hk hn=>?_⟩
 ·show outs _ q.locs=[]
  rw[outs_on,if_neg (by omega),outs_lay,if_neg (by omega)]
  exact h1.inn.none (Int.le_refl _)
 ·rw[outs_on,if_neg ha,outs_lay,if_neg (by omega),o1 _ (by omega) (by omega),outs_on,if_neg ha]
 ·rw[outs_on]
  split
  ·rename_i hka;subst hka
   rw[outs_lay,if_neg (by omega),o1 _ (by omega) (by omega),outs_on,if_pos rfl,h.none]
   exact .two _ _ e rfl rfl rfl rfl
  ·rename_i hka
   rw[outs_lay]
   split
   ·rename_i hkc;subst hkc
    rw[h1.none];exact .one _ (by show (1:Int)≠2;omega) (by show (1:Int)≠9;omega)
   ·rename_i hkc
    exact g1 k (by omega) hkc
theorem wy_loop {s q:Fs} {a c pos:Int} (h:Pw s a) (h1:Wy s q a c):Wy s (q.lay c a (skipE pos 0)).place a q.locs:=by
 have hl:=h.lo
 have l1:=h1.locs
 have f1:=h1.fin
 have t1:=h1.lt
 have i1:Inn (q.lay c a (skipE pos 0)):=h1.inn.lay t1 ⟨hl.1,by omega⟩ _
 have oo:∀ k,outs (q.lay c a (skipE pos 0)).place.es k=if k=c then outs q.es k++[{ skipE pos 0 with src:=c,dst:=a }] else outs q.es k:=outs_lay q c a _
 refine⟨by show s.locs≤q.locs+1;omega,i1.place,.inr (by omega),⟨by omega,by show q.locs<q.locs+1;omega⟩,?_,fun k hk ha=>?_,fun k hk hn=>?_⟩
 ·rw[oo,if_neg (by omega)]
  exact h1.inn.none (Int.le_refl _)
 ·rw[oo,if_neg (by omega),h1.old k hk ha]
 ·rw[oo]
  split
  ·rename_i hkc;subst hkc
   rw[h1.none];exact .one _ (by show (1:Int)≠2;omega) (by show (1:Int)≠9;omega)
  ·rename_i hkc
   exact h1.good k hk hkc
structure Cy (s t:Fs) (a i:Int) (l:List Int):Prop where
 locs:s.locs≤t.locs
 inn:Inn t
 fin:∀ c∈l,s.locs≤c∧c<t.locs
 none:∀ c∈l,outs t.es c=[]
 dup:l.Nodup
 old:∀ k,k<s.locs→k≠a→outs t.es k=outs s.es k
 good:∀ k,s.locs≤k→k ∉ l→GoodOut (outs t.es k)
 from_:∃ P:List Ed,outs t.es a=outs s.es a++P∧∀ (j:Nat) (hj:j<P.length),P[j].kind=9∧P[j].n=i+j
theorem lowC_cy (M:ByteArray→Int) (V:ByteArray→ByteArray→Int) (a pos:Int) (l:List Bl) (h:∀ b∈l,lowW M V b):∀ (i:Int) (s:Fs),Inn s→0≤a→a<s.locs→Cy s (Bl.lowC M V l i pos s a).1 a i (Bl.lowC M V l i pos s a).2:=by
 induction l with
 | nil =>
  intro i s hi h0 hl
  rw[Bl.lowC]
  exact⟨Int.le_refl _,hi,by simp,by simp,by simp,fun _ _ _=>rfl,fun k hk _=>by rw[hi.none hk];exact .nil,[],by simp,by simp⟩
 | cons b l ih =>
  intro i s hi h0 hl
  rw[Bl.lowC]
  have hp:=pw_on hi ⟨h0,hl⟩ ⟨0,0,9,0,0,zeroEx,i,0,0,pos⟩
  have h1:=h b (by simp) noG _ _ hp
  obtain⟨q,hq⟩:∃ q,b.low M V noG (s.on a ⟨0,0,9,0,0,zeroEx,i,0,0,pos⟩).1 (s.on a ⟨0,0,9,0,0,zeroEx,i,0,0,pos⟩).2=q:=⟨_,rfl⟩
  obtain⟨q1,c,q3⟩:=q
  simp only[hq] at h1 ⊢
  have l1:s.locs+1≤q1.locs:=h1.locs
  have f1:c=s.locs∨s.locs+1≤c:=h1.fin
  have t1:=h1.lt
  have o1:∀ k,k<s.locs+1→k≠s.locs→outs q1.es k=outs (s.on a ⟨0,0,9,0,0,zeroEx,i,0,0,pos⟩).1.es k:=h1.old
  have g1:∀ k,(k=s.locs∨s.locs+1≤k)→k≠c→GoodOut (outs q1.es k):=h1.good
  obtain⟨k1,k2,k3,k4,k5,k6,k7,P,k8,k9⟩:=ih (fun d hd=>h d (by simp[hd])) (i+1) q1 h1.inn h0 (by omega)
  refine⟨by omega,k2,fun d hd=>?_,fun d hd=>?_,?_,fun k hk ha=>?_,fun k hk hn=>?_,[{ (⟨0,0,9,0,0,zeroEx,i,0,0,pos⟩:Ed) with src:=a,dst:=s.locs }]++P,?_,fun j hj=>?_⟩
  ·rcases List.mem_cons.1 hd with rfl|hd
   ·omega
   ·have:=k3 d hd;omega
  ·rcases List.mem_cons.1 hd with rfl|hd
   ·rw[k6 _ (by omega) (by omega)];exact h1.none
   ·exact k4 d hd
  ·refine List.nodup_cons.2 ⟨fun hd=>?_,k5⟩
   have:=k3 c hd;omega
  ·rw[k6 _ (by omega) ha,o1 _ (by omega) (by omega),outs_on,if_neg ha]
  ·rw[List.mem_cons,not_or] at hn
   by_cases hq2:q1.locs≤k
   ·exact k7 k hq2 hn.2
   ·rw[k6 _ (by omega) (by omega)]
    exact g1 k (by omega) hn.1
  ·rw[k8,o1 _ (by omega) (by omega),outs_on,if_pos rfl,List.append_assoc]
  ·cases j with
   | zero=>simp
   | succ j =>
    have:=k9 j (by simpa using hj)
    simp only[List.singleton_append,List.getElem_cons_succ]
    refine⟨this.1,?_⟩
    rw[this.2];push_cast;omega
theorem wy_fold {d pos:Int}:∀ (l:List Int) (s:Fs),Inn s→(0≤d∧d<s.locs)→(∀ c∈l,(0≤c∧c<s.locs)∧outs s.es c=[])→l.Nodup →
  Inn (l.foldl (fun t x=>t.lay x d (skipE pos 0)) s)∧(l.foldl (fun t x=>t.lay x d (skipE pos 0)) s).locs=s.locs∧(∀ k,k ∉ l→outs (l.foldl (fun t x=>t.lay x d (skipE pos 0)) s).es k=outs s.es k)∧∀ k∈l,GoodOut (outs (l.foldl (fun t x=>t.lay x d (skipE pos 0)) s).es k):=by
 intro l
 induction l with
 | nil=>intro s hi _ _ _;exact⟨hi,rfl,fun _ _=>rfl,by simp⟩
 | cons x l ih =>
  intro s hi hd hl hn
  obtain⟨n1,n2⟩:=List.nodup_cons.1 hn
  have hx:=hl x (by simp)
  obtain⟨i1,i2,i3,i4⟩:=ih (s.lay x d (skipE pos 0)) (hi.lay hx.1 hd _) hd (fun c hc=>⟨(hl c (by simp[hc])).1,by
   rw[outs_lay,if_neg (by rintro rfl;exact n1 hc)];exact (hl c (by simp[hc])).2⟩) n2
  refine⟨i1,i2,fun k hk=>?_,fun k hk=>?_⟩
  ·rw[List.mem_cons,not_or] at hk
   refine (i3 k hk.2).trans ?_
   rw[outs_lay,if_neg hk.1]
  ·by_cases hk2:k∈l
   ·exact i4 k hk2
   ·have hkx:k=x:=by rcases List.mem_cons.1 hk with e|e;exact e;exact absurd e hk2
    subst hkx
    have h3:=i3 k hk2
    rw[outs_lay,if_pos rfl,hx.2] at h3
    refine Eq.subst (motive:=GoodOut) h3.symm ?_
    exact .one _ (by show (1:Int)≠2;omega) (by show (1:Int)≠9;omega)
theorem wy_choose {s t:Fs} {a pos:Int} {l:List Int} (h:Pw s a) (h1:Cy s t a 0 l):Wy s (l.foldl (fun u x=>u.lay x t.locs (skipE pos 0)) t.place) a t.locs:=by
 have hl:=h.lo
 have l1:=h1.locs
 have op:∀ k,outs t.place.es k=outs t.es k:=fun _=>rfl
 obtain⟨i1,i2,i3,i4⟩:=wy_fold (d:=t.locs) (pos:=pos) l t.place h1.inn.place ⟨by omega,by show t.locs<t.locs+1;omega⟩ (fun c hc=>⟨by have:=h1.fin c hc;show 0≤c∧c<t.locs+1;omega,h1.none c hc⟩) h1.dup
 have hlt:(l.foldl (fun u x=>u.lay x t.locs (skipE pos 0)) t.place).locs=t.locs+1:=i2
 refine⟨by omega,i1,.inr (by omega),⟨by omega,by omega⟩,?_,fun k hk ha=>?_,fun k hk hn=>?_⟩
 ·rw[i3 _ (fun hm=>by have:=h1.fin _ hm;omega),op]
  exact h1.inn.none (Int.le_refl _)
 ·rw[i3 _ (fun hm=>by have:=h1.fin _ hm;omega),op]
  exact h1.old k hk ha
 ·by_cases hm:k∈l
  ·exact i4 k hm
  ·rw[i3 k hm,op]
   rcases hk with rfl|hk
   ·obtain⟨P,k8,k9⟩:=h1.from_
    rw[k8,h.none,List.nil_append]
    exact .pick _ (fun i hi=>⟨(k9 i hi).1,by rw[(k9 i hi).2];omega⟩)
   ·exact h1.good k hk hm
theorem St.low_wy (M:ByteArray→Int) (V:ByteArray→ByteArray→Int) (x:St):∀ s a,Pw s a→Wy s (x.low M V s a).1 a (x.low M V s a).2:=
 St.ind (P:=fun x=>∀ s a,Pw s a→Wy s (x.low M V s a).1 a (x.low M V s a).2) (Q:=lowW M V) (fun kind mon name n e ad cap blocks pos ih s a hp=>by
   unfold St.low
   split
   ·exact Wy.on hp _ (by show (1:Int)≠2;omega) (by show (1:Int)≠9;omega)
   split
   ·exact Wy.on hp _ (by show (3:Int)≠2;omega) (by show (3:Int)≠9;omega)
   split
   ·exact Wy.on hp _ (by show (7:Int)≠2;omega) (by show (7:Int)≠9;omega)
   split
   ·exact Wy.on hp _ (by show (8:Int)≠2;omega) (by show (8:Int)≠9;omega)
   split
   ·exact wy_choose hp (lowC_cy M V a pos blocks ih 0 s hp.inn hp.lo.1 hp.lo.2)
   cases blocks with
   | nil=>exact Wy.refl hp
   | cons b t =>
    have hb:=ih b (by simp)
    dsimp only
    split
    ·have h1:=Wy.on hp (edE 4 (M mon) pos) (by show (4:Int)≠2;omega) (by show (4:Int)≠9;omega)
     have h2:=hb noG _ _ h1.pw
     exact (h1.trans h2).trans (Wy.on h2.pw _ (by show (5:Int)≠2;omega) (by show (5:Int)≠9;omega))
    split
    ·have h1:=hb ⟨0,notE e,false⟩ _ _ (pw_on hp.inn hp.lo (testE e.top e.pos 0))
     have hl:=hp.lo
     have l1:s.locs+1≤(b.low M V ⟨0,notE e,false⟩ (s.on a (testE e.top e.pos 0)).1 (s.on a (testE e.top e.pos 0)).2).1.locs:=h1.locs
     have hi:=(h1.inn.on h1.lt (skipE pos (b.low M V ⟨0,notE e,false⟩ (s.on a (testE e.top e.pos 0)).1 (s.on a (testE e.top e.pos 0)).2).2.2))
     have h2:=pw_on hi (a:=a) ⟨hl.1,by show a<_+1;omega⟩ (testE (notE e) e.pos 0)
     cases t with
     | nil=>exact wy_if hp h1 (Wy.refl h2)
     | cons c t=>exact wy_if hp h1 (ih c (by simp) ⟨0,e.top,false⟩ _ _ h2)
    split
    ·exact wy_while hp (hb ⟨0,notE e,true⟩ _ _ (pw_on hp.inn hp.lo (testE e.top e.pos 0)))
    split
    ·exact wy_loop hp (hb noG _ _ hp)
    ·exact Wy.refl hp)
  (fun ad cap body ih=>by
   intro g s a hp
   rw[Bl.low]
   have key:∀ (l:List St),(∀ x∈l,∀ s a,Pw s a→Wy s (x.low M V s a).1 a (x.low M V s a).2)→∀ s a last,Pw s a→Wy s (St.lowL M V l g s a last).1 a (St.lowL M V l g s a last).2.1:=by
    intro l
    induction l with
    | nil=>intro _ s a last hp;rw[St.lowL];exact Wy.refl hp
    | cons x l ihl =>
     intro h s a last hp
     rcases x with ⟨kind,mon,name,n,e,ad,cap,blocks,pos⟩
     rw[St.lowL]
     split
     ·have h1:=Wy.wait hp (M mon) n pos g
      exact h1.trans (ihl (fun y hy=>h y (by simp[hy])) _ _ _ h1.pw)
     ·have h1:=h (.mk kind mon name n e ad cap blocks pos) (by simp) s a hp
      exact h1.trans (ihl (fun y hy=>h y (by simp[hy])) _ _ _ h1.pw)
   exact key body ih s a 0 hp) x
theorem Bl.low_wy (M:ByteArray→Int) (V:ByteArray→ByteArray→Int) (b:Bl) (g:Gu) (s:Fs) (a:Int) (hp:Pw s a):Wy s (b.low M V g s a).1 a (b.low M V g s a).2.1:=by
 rcases b with ⟨ad,cap,body⟩
 rw[Bl.low]
 have key:∀ (l:List St) s a last,Pw s a→Wy s (St.lowL M V l g s a last).1 a (St.lowL M V l g s a last).2.1:=by
  intro l
  induction l with
  | nil=>intro s a last hp;rw[St.lowL];exact Wy.refl hp
  | cons x l ihl =>
   intro s a last hp
   rcases x with ⟨kind,mon,name,n,e,ad,cap,blocks,pos⟩
   rw[St.lowL]
   split
   ·have h1:=Wy.wait hp (M mon) n pos g
    exact h1.trans (ihl _ _ _ h1.pw)
   ·have h1:=St.low_wy M V (.mk kind mon name n e ad cap blocks pos) s a hp
    exact h1.trans (ihl _ _ _ h1.pw)
 exact key body s a 0 hp
def Fs.new:Fs:=⟨1,[],[]⟩
theorem low_good (M:ByteArray→Int) (V:ByteArray→ByteArray→Int) (b:Bl):Inn (b.low M V noG Fs.new 0).1∧∀ k,0≤k→GoodOut (outs (b.low M V noG Fs.new 0).1.es k):=by
 have h:=Bl.low_wy M V b noG Fs.new 0 ⟨(fun x hx=>by cases hx),⟨by omega,by show (0:Int)<1;omega⟩,rfl⟩
 refine⟨h.inn,fun k hk=>?_⟩
 by_cases hc:k=(b.low M V noG Fs.new 0).2.1
 ·rw[hc,h.none];exact .nil
 ·refine h.good k ?_ hc
  show k=0∨1≤k
  omega
end Go.Proofs.YtbmbchdjjfmafaaGreatDoor
