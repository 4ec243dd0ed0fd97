import Derived.Test.YthdkgfmlihgceaaGreatDoorHas
namespace Go.Proofs.YthdkgfmlihgceaaGreatDoor
set_option maxRecDepth 100000
set_option maxHeartbeats 8000000
open Go.RowKit
theorem qek (G:Ref->List Ref) (n:Nat):∀(st:List Ref × List Ref) (r:Ref),∀x∈st.2,x∈(dfs G n st r).2:=by
 induction n with
 | zero=>intro st r x hx;exact hx
 | succ n ih =>
  rintro⟨S,A⟩ r x hx
  by_cases h:r∈S
  ·rw[qcu h];exact hx
  ·rw[qdz h]
   exact List.mem_append.2 (.inl (qfp (R:=λ(a b:List Ref × List Ref)=>∀x∈a.2,x∈b.2) (λ_ _ h=>h) (λ_ _ _ h1 h2 x hx=>h2 x (h1 x hx)) (dfs G n) (λa b=>ih a b) (G r) (S++[r],A) x hx))
theorem qiu (G:Ref->List Ref) (n:Nat) (l:List Ref) (st:List Ref × List Ref):∀x∈st.2,x∈(l.foldl (dfs G n) st).2:=
 qfp (R:=λ(a b:List Ref × List Ref)=>∀x∈a.2,x∈b.2) (λ_ _ h=>h) (λ_ _ _ h1 h2 x hx=>h2 x (h1 x hx)) (dfs G n) (λa b=>qek G n a b) l st
theorem qfm {G:Ref->List Ref}{U:List Ref}(hU:∀r∈U,∀x∈G r,x∈U) (n:Nat):∀(st:List Ref × List Ref) (r:Ref),r∈U->left U st.1<=n->r∈(dfs G n st r).1/\∀x∈(dfs G n st r).1,x∈st.1\/x∈(dfs G n st r).2:=by
 induction n with
 | zero =>
  intro st r hr hl
  have hm:r∈st.1:=by
   by_cases hm:r∈st.1
   ·exact hm
   ·have:=qdd hr hm;omega
  exact⟨hm,λx hx=>.inl hx⟩
 | succ n ih =>
  rintro⟨S,A⟩ r hr hl
  by_cases hm:r∈S
  ·rw[qcu hm];exact⟨hm,λx hx=>.inl hx⟩
  ·rw[qdz hm]
   have hl2:=qdd hr hm
   have hf:∀(l:List Ref),(∀x∈l,x∈U)->∀st:List Ref × List Ref,left U st.1<=n->∀x∈(l.foldl (dfs G n) st).1,x∈st.1\/x∈(l.foldl (dfs G n) st).2:=by
    intro l
    induction l with
    | nil=>intro _ st _ x hx;exact .inl hx
    | cons y l ihl =>
     intro hl st hs x hx
     have h1:=ih st y (hl y (by simp)) hs
     have h2:=qcb (U:=U) (qdy G n st y)
     rcases ihl (λz hz=>hl z (by simp[hz])) _ (by omega) x hx with h|h
     ·rcases h1.2 x h with h|h
      ·exact .inl h
      ·exact .inr (qiu G n l _ x h)
     ·exact .inr h
   refine⟨qbx G n (G r) (S++[r],A) r (by simp),λx hx=>?_⟩
   rcases hf (G r) (hU r hr) (S++[r],A) (by show left U (S++[r])<=n;simp only at hl;omega) x hx with h|h
   ·rcases List.mem_append.1 h with h|h
    ·exact .inl h
    ·exact .inr (List.mem_append.2 (.inr h))
   ·exact .inr (List.mem_append.2 (.inl h))
theorem qd9 (p:Pr) (l:List Ref):∀r∈l,r∈qab p l:=by
 have hU:=qf8 p l
 have key:∀(m:List Ref),(∀x∈m,x∈l++qaj p)->∀st:List Ref × List Ref,left (l++qaj p) st.1<=l.length+(qaj p).length->(∀x∈st.1,x∈st.2)->(∀x∈(m.foldl (dfs (qae p) (l.length+(qaj p).length)) st).1,x∈(m.foldl (dfs (qae p) (l.length+(qaj p).length)) st).2)/\∀x∈m,x∈(m.foldl (dfs (qae p) (l.length+(qaj p).length)) st).1:=by
  intro m
  induction m with
  | nil=>intro _ st _ h;exact⟨h,λx hx=>by cases hx⟩
  | cons y m ih =>
   intro hm st hs h
   have h1:=qfm hU _ st y (hm y (by simp)) hs
   have h2:=qcb (U:=l++qaj p) (qdy (qae p) (l.length+(qaj p).length) st y)
   obtain⟨h3,h4⟩:=ih (λx hx=>hm x (by simp[hx])) (dfs (qae p) (l.length+(qaj p).length) st y) (by omega) (λx hx=>by
    rcases h1.2 x hx with h5|h5
    ·exact qek _ _ _ _ x (h x h5)
    ·exact h5)
   refine⟨h3,λx hx=>?_⟩
   rcases List.mem_cons.1 hx with rfl|hx
   ·exact qbx _ _ m _ x h1.1
   ·exact h4 x hx
 have h2:left (l++qaj p) []<=l.length+(qaj p).length:=Nat.le_trans (List.length_filter_le _ _) (by simp)
 obtain⟨h3,h4⟩:=key l (λx hx=>List.mem_append.2 (.inl hx)) ([],[]) h2 (λx hx=>by cases hx)
 exact λr hr=>h3 r (h4 r hr)
theorem qvb {Z:List (Ref × Nat)}{r:Ref}(h:qb1 Z r≠0):r∈Z.map Prod.fst:=by
 unfold qb1 at h
 cases hf:Z.find? (λx=>decide (x.1=r)) with
 | none=>rw[hf] at h;simp at h
 | some x=>exact List.mem_map.2 ⟨x,List.mem_of_find?_eq_some hf,by simpa using List.find?_some hf⟩
theorem qmi {Z E:List (Ref × Nat)}{r:Ref}(h:r∈Z.map Prod.fst):qb1 (Z++E) r=qb1 Z r:=by
 unfold qb1
 rw[List.find?_append]
 cases hf:Z.find? (λx=>decide (x.1=r)) with
 | none =>
  obtain⟨x,hx,he⟩:=List.mem_map.1 h
  exact absurd (List.find?_eq_none.1 hf x hx) (by simp[he])
 | some x=>rfl
theorem qmj {Z E:List (Ref × Nat)}{r:Ref}{v:Nat}(h:r ∉ Z.map Prod.fst):qb1 (Z++[(r,v)]++E) r=v:=by
 unfold qb1
 rw[List.append_assoc,List.find?_append,List.find?_eq_none.2 (λx hx=>by
  have:x.1≠r:=λe=>h (List.mem_map.2 ⟨x,hx,e⟩)
  simpa using this)]
 simp
theorem qog {Z Z':List (Ref × Nat)}{l:List St}(h:∀s∈l,s.kind=8->qb1 Z s.ref=qb1 Z' s.ref):sumOf Z l=sumOf Z' l:=by
 induction l with
 | nil=>rfl
 | cons s l ih =>
  have h1:qku Z s=qku Z' s:=by
   unfold qku
   split
   ·rename_i hk;exact h s (by simp) hk
   ·rfl
  have h2:=ih (λt ht=>h t (by simp[ht]))
  simp only[sumOf,List.map_cons,List.sum_cons] at h2 ⊢
  rw[h1,h2]
theorem qfd {body:Ref->Bl}:∀(R:List Ref) (Z Z':List (Ref × Nat)),qb0 (λr=>qac (body r)) body R Z=some Z'->(Z.map Prod.fst++R).Nodup ->
  (∃E,Z'=Z++E)/\Z'.map Prod.fst=Z.map Prod.fst++R/\(∀(i:Nat) (h:i<R.length),∀y∈qac (body R[i]),y∈Z.map Prod.fst++R.take i)/\∀r∈R,qb1 Z' r=1+min 401 (tot Z' (body r)):=by
 intro R
 induction R with
 | nil =>
  intro Z Z' h hn
  have h:some Z=some Z':=h
  obtain rfl:=Option.some.inj h
  exact⟨⟨[],by simp⟩,by simp,λi h=>by simp at h,λr hr=>by cases hr⟩
 | cons r R ih =>
  intro Z Z' h hn
  rw[qb0] at h
  split at h
  ·cases h
  ·rename_i hz
   have hk:∀y∈qac (body r),y∈Z.map Prod.fst:=λy hy=>qvb (λh0=>hz ⟨y,hy,h0⟩)
   have hn2:((Z++[(r,1+min 401 (tot Z (body r)))]).map Prod.fst++R).Nodup:=by simpa using hn
   obtain⟨⟨E,hE⟩,g2,g3,g4⟩:=ih _ _ h hn2
   have hrn:r ∉ Z.map Prod.fst:=by
    intro hm
    exact (List.nodup_append.1 hn).2.2 r hm r (by simp) rfl
   refine⟨⟨[(r,1+min 401 (tot Z (body r)))]++E,by rw[hE,List.append_assoc]⟩,by rw[g2];simp,λi hi y hy=>?_,λs hs=>?_⟩
   ·cases i with
    | zero=>exact List.mem_append.2 (.inl (hk y hy))
    | succ i =>
     have:=g3 i (by simpa using hi) y hy
     simpa[or_assoc] using this
   ·rcases List.mem_cons.1 hs with rfl|hs
    ·rw[hE,qmj hrn]
     congr 2
     unfold tot
     refine qog λt ht hk8=>?_
     have:=hk t.ref ((qbp _ _).2 ⟨t,ht,hk8,rfl⟩)
     rw[List.append_assoc,qmi this]
    ·exact g4 s hs
def qv1 (R:List Ref) (r:Ref):Nat:=R.findIdx λy=>decide (y=r)
theorem qn9 {R:List Ref}{r:Ref}(h:r∈R):qv1 R r<R.length:=List.findIdx_lt_length_of_exists ⟨r,h,by simp⟩
theorem qgm {R:List Ref}(hn:R.Nodup) {i:Nat}(h:i<R.length):qv1 R R[i]=i:=by
 have h1:qv1 R R[i]<R.length:=qn9 (List.getElem_mem h)
 have h2:R[qv1 R R[i]]=R[i]:=by
  have:=List.findIdx_getElem (xs:=R) (p:=λy=>decide (y=R[i])) (w:=h1)
  exact of_decide_eq_true this
 rcases Nat.lt_trichotomy (qv1 R R[i]) i with h3|h3|h3
 ·exact absurd h2 ((List.pairwise_iff_getElem.1 hn) _ _ h1 h h3)
 ·exact h3
 ·exact absurd h2.symm ((List.pairwise_iff_getElem.1 hn) _ _ h h1 h3)
structure Good (p:Pr) (x:Bl) (R:List Ref) (Z:List (Ref × Nat)):Prop where
 root:∀r∈qac x,r∈R
 nodup:R.Nodup
 leads:∀r∈R,∀y∈qae p r,y∈R/\qv1 R y<qv1 R r
 size:∀r∈R,qb1 Z r=1+min 401 (tot Z (qam p r))
 known:∀r∈R,qar p.mons r.1 r.2≠none
theorem qst {p:Pr}{x:Bl}{n:Nat}(h:qc9 p x=(n,0)):∃Z,Good p x (qab p (qac x)) Z/\tot Z x=n/\n<=400:=by
 rw[qfl] at h
 split at h
 ·cases h
 ·rename_i hk
  cases hz:qb0 (qae p) (qam p) (qab p (qac x)) [] with
  | none=>rw[hz] at h;cases h
  | some Z =>
   rw[hz] at h
   simp only[qoq] at h
   split at h
   ·cases h
   ·rename_i hb
    have h1:min 401 (tot Z x)=n:=congrArg Prod.fst h
    have hnd:=qcc p (qac x)
    obtain⟨-,g2,g3,g4⟩:=qfd (body:=qam p) _ _ _ hz (by simpa using hnd)
    refine⟨Z,⟨qd9 p _,hnd,λr hr y hy=>?_,g4,λr hr hn=>hk ⟨r,hr,hn⟩⟩,by omega,by omega⟩
    obtain⟨i,hi,rfl⟩:=List.getElem_of_mem hr
    have h2:=g3 i hi y hy
    simp only[List.map_nil,List.nil_append] at h2
    obtain⟨k,hk2,rfl⟩:=List.getElem_of_mem h2
    rw[List.length_take] at hk2
    rw[List.getElem_take]
    exact⟨List.getElem_mem _,by rw[qgm hnd,qgm hnd hi];omega⟩
def qi1 (p:Pr) (x:Bl) (w w':World) (r:Ending):Prop:=
 (((qba p x).2≠0/\r=.returned (.tuple #[.slice none 0 0,.int .i64 (qba p x).2]))\/((qba p x).2=0/\∃ad cap body,r=.returned (.tuple #[.slice ad body.length cap,.int .i64 0])/\(Bl.mk ad cap body).Is w'.heap.size w'/\(Bl.mk ad cap body).clr=x.inl (qd2 p (qab p (qac x)).length)))/\Below w.heap.size w w'
theorem qpu (p:Pr) (x:Bl) (nz:Nat) (w:World) (hn:nz<=w.heap.size) (hp:p.Is nz w) (hx:x.Is nz w) (hS:Shapes w) (hS3:6<=w.heap.size) (hF:Fine0 p) (hX:x.subs.length<=400000) :
  Calls Tryz.prog 28 #[p.val,x.slice] w λr w'=>qi1 p x w w' r:=by
 have hc1:=λ(W:World) (hW:Below w.heap.size w W)=>qlm p x nz W (by have:=hW.size;omega) (hp.below (hW.mono hn)) (hx.below (hW.mono hn)) (hS.below hW hS3) (by have:=hW.size;omega)
 have hc2:=λ(W:World) (hW:Below w.heap.size w W)=>qh7 p nz W (by have:=hW.size;omega) (hp.below (hW.mono hn)) hF.subs hF.lens
 have hc3:=λ(hk:(p.ok&&x.okB)=true) (b:Nat) (W:World) (hW:Below w.heap.size w W) (hB:Book W W.heap.size b p)=>qlb p x W.heap.size b W (Nat.le_refl _) hB ((hx.below (hW.mono hn)).mono (by have:=hW.size;omega)) (qkp hp) (hF.fine (Bool.and_eq_true_iff.1 hk).1) ⟨hX,qew (Bool.and_eq_true_iff.1 hk).2⟩
 have hc4:(p.ok&&x.okB)=true->(qc9 p x).2=0->∀(b n:Nat) (W:World),Below w.heap.size w W->n<=W.heap.size->w.heap.size<=n->Book W n b p->Calls Tryz.prog 47 #[.map (some b),x.slice] W λr w'=>qyr n (x.inl (qd2 p (qab p (qac x)).length)) W w' r:=by
  intro hk h0 b n W hW hnW hwn hB
  obtain⟨Z,hg,-,-⟩:=qst (n:=(qc9 p x).1) (by rw[<- h0])
  have hVx:=qgs hx
  have hVa:=qkp hp
  refine qqk (D:=λr=>r∈qab p (qac x)) (rk:=qv1 (qab p (qac x))) (hF.fine (Bool.and_eq_true_iff.1 hk).1) (λr hr=>?_) hg.leads _ x n b W hnW hB ((hx.below (hW.mono hn)).mono (by omega)) ⟨by omega,qew (Bool.and_eq_true_iff.1 hk).2⟩ (λr hr=>⟨hg.root r hr,qn9 (hg.root r hr)⟩)
  rcases List.mem_append.1 (qea p _ r hr) with h|h
  ·exact hVx r h
  ·exact hVa r h
 have HC:=hid (show qba p x=if (p.ok&&x.okB)=true then qc9 p x else (0,20) from rfl)
 obtain⟨q,hq⟩:∃q,qc9 p x=q:=⟨_,rfl⟩
 obtain⟨k,hk⟩:∃k,(p.ok&&x.okB)=k:=⟨_,rfl⟩
 rw[hq,hk] at HC
 simp only[hq] at hc3
 rw[hq] at hc4
 rw[hk] at hc3 hc4
 simp only[hk] at hc1
 obtain⟨X,hX0⟩:∃X,x.inl (qd2 p (qab p (qac x)).length)=X:=⟨_,rfl⟩
 rw[hX0] at hc4
 have HX:Hid (X=.mk none 0 X.body):=by
  show _=_
  rw[<- hX0];rcases x with ⟨a,c,d⟩;rw[Bl.inl_mk];rfl
 show Calls Tryz.prog 28 _ w λr w'=>(((qba p x).2≠0/\_)\/((qba p x).2=0/\∃ad cap body,_/\_/\_=x.inl (qd2 p (qab p (qac x)).length)))/\_
 rw[hX0]
 obtain⟨c,hc⟩:∃c,qba p x=c:=⟨_,rfl⟩
 rw[hc] at HC ⊢
 clear hq hk hc hX0
 rcases p with ⟨mad,mcap,mons,rad,rcap,roles⟩
 rcases x with ⟨ad,cap,body⟩
 simp only[Pr.val,Bl.slice] at hc1 hc2 hc3 hc4 ⊢
 have hB:=(Below.refl w.heap.size w).al qaa (.cells #[.slice mad mons.length mcap,.slice rad roles.length rcap] 25)
 have b1:=qaf w (.cells #[.slice mad mons.length mcap,.slice rad roles.length rcap] 25)
 cases k
 ·simp only[Bool.false_eq_true,if_false] at HC
  go_enter Tryz.func28,Tryz.ntmps28
  go_wp2_with (go_at_call 46;(with_reducible refine (hc1 _ hB).mono ?_);rintro r u1 ⟨rfl,bb1⟩)
  go_ret2
  exact⟨.inl ⟨by rw[HC.out];decide,by rw[HC.out];rfl⟩,hB.tr qaa bb1⟩
 ·simp only[if_true] at HC
  replace hc3:=hc3 rfl
  replace hc4:=hc4 rfl
  obtain⟨qn,qe⟩:=q
  simp only[qmv] at hc3
  go_enter Tryz.func28,Tryz.ntmps28
  go_upto_region 3 with (go_at_call 46;(with_reducible refine (hc1 _ hB).mono ?_);rintro r u1 ⟨rfl,bb1⟩)
  have hB1:=hB.tr qaa bb1
  have b2:=(bb1.block w.heap.size (by simp)).trans b1
  have p0:=cellOf b2 0
  have p1:=cellOf b2 1
  simp at p0 p1
  cases hqe:(qe != 0:Bool)
  ·have hq0:qe=0:=by simpa using hqe
   subst hq0
   have hc5:=hc4 rfl
   go_wp2_with (first
    | (go_at_call 41;(with_reducible refine (hc2 _ hB1).mono ?_);rintro r u2 ⟨b,rfl,hbk,bb2⟩)
    | (go_at_call 43;(with_reducible refine (hc3 _ _ (hB1.tr qaa bb2) hbk).mono ?_);rintro r u3 ⟨rfl,bb3⟩)
    | (go_at_call 47;(with_reducible refine (hc5 b u2.heap.size _ ((hB1.tr qaa bb2).tr qaa bb3) bb3.size (hB1.tr qaa bb2).size (hbk.below bb3)).mono ?_);rintro r u4 ⟨yad,ycap,ybody,rfl,hyI,hyc,bb4⟩))
   go_ret2
   refine⟨.inr ⟨by rw[HC.out],yad,ycap,ybody,rfl,hyI.imp qfx (Nat.le_refl _),?_⟩,((hB1.tr qaa bb2).tr qaa bb3).tr qaa bb4⟩
   rw[Bl.clr_mk,hyc,<- HX.out]
  ·have hqn:¬ qe=0:=by simpa using hqe
   go_wp2_with (first
    | (go_at_call 41;(with_reducible refine (hc2 _ hB1).mono ?_);rintro r u2 ⟨b,rfl,hbk,bb2⟩)
    | (go_at_call 43;(with_reducible refine (hc3 _ _ (hB1.tr qaa bb2) hbk).mono ?_);rintro r u3 ⟨rfl,bb3⟩))
   go_ret2
   exact⟨.inl ⟨by rw[HC.out];exact hqn,by rw[HC.out];rfl⟩,(hB1.tr qaa bb2).tr qaa bb3⟩
open Go.RowKit
def Ex.top:Ex->Ex
 | .mk op mon name n _ _ kids pos=>.mk op mon name n Option.none 0 kids pos
def Ex.opr:Ex->Int
 | .mk op _ _ _ _ _ _ _=>op
def notE (e:Ex):Ex:=.mk 5 ⟨#[]⟩ ⟨#[]⟩ 0 none 0 [e] e.pos
def qrn (pos:Int):Ex:=.mk 2 ⟨#[]⟩ ⟨#[]⟩ 0 none 0 [] pos
structure Ed where
 src:Int
 dst:Int
 kind:Int
 mon:Int
 var:Int
 e:Ex
 n:Int
 site:Int
 out:Int
 pos:Int
structure Gu where
 mon:Int
 e:Ex
 loop:Bool
def Ed.top (x:Ed):Ed:={ x with e:=x.e.top }
def Gu.top (g:Gu):Gu:={ g with e:=g.e.top }
structure Fs where
 locs:Int
 es:List Ed
 gs:List Gu
def Fs.place (s:Fs):Fs:={ s with locs:=s.locs+1 }
def Fs.lay (s:Fs) (a b:Int) (x:Ed):Fs:={ s with es:=s.es++[{ x with src:=a,dst:=b }] }
def Fs.on (s:Fs) (a:Int) (x:Ed):Fs × Int:=(s.place.lay a s.locs x,s.locs)
def Fs.guard (s:Fs) (g:Gu):Fs:={ s with gs:=s.gs++[g] }
def noG:Gu:=⟨0,zeroEx,false⟩
def edE (kind mon:Int) (pos:Int):Ed:=⟨0,0,kind,mon,0,zeroEx,0,0,0,pos⟩
def qag (pos left:Int):Ed:=⟨0,0,1,0,0,zeroEx,0,0,left,pos⟩
def qah (e:Ex) (pos out:Int):Ed:=⟨0,0,2,0,0,e,0,0,out,pos⟩
def qce (m n pos:Int) (g:Gu) (s:Fs) (a:Int):Fs × Int:=
 (s.guard ⟨m,if g.e.opr=0 then qrn pos else g.e,g.loop⟩).on a ⟨0,0,6,m,0,zeroEx,n,s.gs.length+1,if g.e.opr=0 then s.gs.length+1 else 0,pos⟩
mutual
def St.low (M:ByteArray->Int) (V:ByteArray->ByteArray->Int):St->Fs->Int->Fs × Int
 | .mk kind mon name _ e _ _ blocks pos,s,a =>
  if kind=1 then s.on a (edE 1 0 pos)
  else if kind=2 then s.on a ⟨0,0,3,0,V mon name,e.top,0,0,0,pos⟩
  else if kind=10 then s.on a (edE 7 (M mon) pos)
  else if kind=11 then s.on a (edE 8 (M mon) pos)
  else if kind=6 then
   let q:=Bl.lowC M V blocks 0 pos s a
   ((q.2.foldl (λt x=>t.lay x q.1.locs (qag pos 0)) q.1.place),q.1.locs)
  else match blocks with
   | []=>(s,a)
   | b::t =>
    if kind=7 then
     let r:=s.on a (edE 4 (M mon) pos)
     let q:=b.low M V noG r.1 r.2
     q.1.on q.2.1 (edE 5 (M mon) pos)
    else if kind=3 then
     let r:=s.on a (qah e.top e.pos 0)
     let q:=b.low M V ⟨0,notE e,false⟩ r.1 r.2
     let d:=q.1.on q.2.1 (qag pos q.2.2)
     let x:=d.1.on a (qah (notE e) e.pos 0)
     match t with
     | []=>(x.1.lay x.2 d.2 (qag pos 0),d.2)
     | c::_ =>
      let y:=c.low M V ⟨0,e.top,false⟩ x.1 x.2
      (y.1.lay y.2.1 d.2 (qag pos y.2.2),d.2)
    else if kind=4 then
     let r:=s.on a (qah e.top e.pos 0)
     let q:=b.low M V ⟨0,notE e,true⟩ r.1 r.2
     (q.1.lay q.2.1 a (qag pos 0)).on a (qah (notE e) e.pos q.2.2)
    else if kind=5 then
     let q:=b.low M V noG s a
     ((q.1.lay q.2.1 a (qag pos 0)).place,q.1.locs)
    else (s,a)
def Bl.low (M:ByteArray->Int) (V:ByteArray->ByteArray->Int):Bl->Gu->Fs->Int->Fs × Int × Int
 | .mk _ _ body,g,s,a=>St.lowL M V body g s a 0
def St.lowL (M:ByteArray->Int) (V:ByteArray->ByteArray->Int):List St->Gu->Fs->Int->Int->Fs × Int × Int
 | [],_,s,a,last=>(s,a,last)
 | .mk kind mon name n e ad cap blocks pos::l,g,s,a,last =>
  if kind=9 then
   let r:=qce (M mon) n pos g s a
   St.lowL M V l g r.1 r.2 r.1.gs.length
  else
   let r:=St.low M V (.mk kind mon name n e ad cap blocks pos) s a
   St.lowL M V l g r.1 r.2 last
def Bl.lowC (M:ByteArray->Int) (V:ByteArray->ByteArray->Int):List Bl->Int->Int->Fs->Int->Fs × List Int
 | [],_,_,s,_=>(s,[])
 | b::l,i,pos,s,a =>
  let r:=s.on a ⟨0,0,9,0,0,zeroEx,i,0,0,pos⟩
  let q:=b.low M V noG r.1 r.2
  let t:=Bl.lowC M V l (i+1) pos q.1 a
  (t.1,q.2.1::t.2)
end
structure Ext (s t:Fs):Prop where
 locs:s.locs<=t.locs
 es:∃D,t.es=s.es++D
 gs:∃G,t.gs=s.gs++G
theorem Ext.refl (s:Fs):Ext s s:=⟨Int.le_refl _,⟨[],by simp⟩,⟨[],by simp⟩⟩
theorem Ext.trans {s t u:Fs}(h:Ext s t) (k:Ext t u):Ext s u:=by
 obtain⟨h1,⟨D,h2⟩,⟨G,h3⟩⟩:=h
 obtain⟨k1,⟨E,k2⟩,⟨H,k3⟩⟩:=k
 exact⟨Int.le_trans h1 k1,⟨D++E,by rw[k2,h2,List.append_assoc]⟩,⟨G++H,by rw[k3,h3,List.append_assoc]⟩⟩
theorem Ext.place (s:Fs):Ext s s.place:=⟨by show s.locs<=s.locs+1;omega,⟨[],by simp[Fs.place]⟩,⟨[],by simp[Fs.place]⟩⟩
theorem Ext.lay (s:Fs) (a b:Int) (x:Ed):Ext s (s.lay a b x):=⟨Int.le_refl _,⟨_,rfl⟩,⟨[],by simp[Fs.lay]⟩⟩
theorem Ext.on (s:Fs) (a:Int) (x:Ed):Ext s (s.on a x).1:=(Ext.place s).trans (Ext.lay _ _ _ _)
theorem Ext.guard (s:Fs) (g:Gu):Ext s (s.guard g):=⟨Int.le_refl _,⟨[],by simp[Fs.guard]⟩,⟨_,rfl⟩⟩
theorem Ext.wait (m n pos:Int) (g:Gu) (s:Fs) (a:Int):Ext s (qce m n pos g s a).1:=(Ext.guard _ _).trans (Ext.on _ _ _)
theorem Ext.fold (l:List Int) (d pos:Int):∀s:Fs,Ext s (l.foldl (λt x=>t.lay x d (qag pos 0)) s):=by
 induction l with
 | nil=>intro s;exact Ext.refl _
 | cons x l ih=>intro s;exact (Ext.lay _ _ _ _).trans (ih _)
def qDz (M:ByteArray->Int) (V:ByteArray->ByteArray->Int) (b:Bl):Prop:=∀g s a,Ext s (b.low M V g s a).1
theorem qo2 (M:ByteArray->Int) (V:ByteArray->ByteArray->Int) (l:List Bl) (h:∀b∈l,qDz M V b):∀i pos s a,Ext s (Bl.lowC M V l i pos s a).1:=by
 induction l with
 | nil=>intro i pos s a;rw[Bl.lowC];exact Ext.refl _
 | cons b l ih =>
  intro i pos s a
  rw[Bl.lowC]
  exact ((Ext.on _ _ _).trans (h b (by simp) _ _ _)).trans (ih (λc hc=>h c (by simp[hc])) _ _ _ _)
theorem St.low_ext (M:ByteArray->Int) (V:ByteArray->ByteArray->Int) (x:St):∀s a,Ext s (x.low M V s a).1:=
 St.ind (P:=λx=>∀s a,Ext s (x.low M V s a).1) (Q:=qDz M V) (λkind mon name n e ad cap blocks pos ih s a=>by
   unfold St.low
   split
   ·exact Ext.on _ _ _
   split
   ·exact Ext.on _ _ _
   split
   ·exact Ext.on _ _ _
   split
   ·exact Ext.on _ _ _
   split
   ·exact ((qo2 M V blocks ih _ _ _ _).trans (Ext.place _)).trans (Ext.fold _ _ _ _)
   cases blocks with
   | nil=>exact Ext.refl _
   | cons b t =>
    have hb:=ih b (by simp)
    dsimp only
    split
    ·exact ((Ext.on _ _ _).trans (hb _ _ _)).trans (Ext.on _ _ _)
    split
    ·cases t with
     | nil=>exact (((((Ext.on _ _ _).trans (hb _ _ _)).trans (Ext.on _ _ _)).trans (Ext.on _ _ _))).trans (Ext.lay _ _ _ _)
     | cons c t=>exact ((((((Ext.on _ _ _).trans (hb _ _ _)).trans (Ext.on _ _ _)).trans (Ext.on _ _ _))).trans (ih c (by simp) _ _ _)).trans (Ext.lay _ _ _ _)
    split
    ·exact (((Ext.on _ _ _).trans (hb _ _ _)).trans (Ext.lay _ _ _ _)).trans (Ext.on _ _ _)
    split
    ·exact ((hb _ _ _).trans (Ext.lay _ _ _ _)).trans (Ext.place _)
    ·exact Ext.refl _)
  (λad cap body ih=>by
   intro g s a
   rw[Bl.low]
   have key:∀(l:List St),(∀x∈l,∀s a,Ext s (x.low M V s a).1)->∀s a last,Ext s (St.lowL M V l g s a last).1:=by
    intro l
    induction l with
    | nil=>intro _ s a last;rw[St.lowL];exact Ext.refl _
    | cons x l ihl =>
     intro h s a last
     rcases x with ⟨kind,mon,name,n,e,ad,cap,blocks,pos⟩
     rw[St.lowL]
     split
     ·exact (Ext.wait _ _ _ _ _ _).trans (ihl (λy hy=>h y (by simp[hy])) _ _ _)
     ·exact (h _ (by simp) _ _).trans (ihl (λy hy=>h y (by simp[hy])) _ _ _)
   exact key body ih s a 0) x
theorem qj8 (M:ByteArray->Int) (V:ByteArray->ByteArray->Int) (g:Gu):∀(l:List St) (s:Fs) (a last:Int),Ext s (St.lowL M V l g s a last).1:=by
 intro l
 induction l with
 | nil=>intro s a last;rw[St.lowL];exact Ext.refl _
 | cons x l ihl =>
  intro s a last
  rcases x with ⟨kind,mon,name,n,e,ad,cap,blocks,pos⟩
  rw[St.lowL]
  split
  ·exact (Ext.wait _ _ _ _ _ _).trans (ihl _ _ _)
  ·exact (St.low_ext M V _ _ _).trans (ihl _ _ _)
theorem Bl.low_ext (M:ByteArray->Int) (V:ByteArray->ByteArray->Int) (b:Bl) (g:Gu) (s:Fs) (a:Int):Ext s (b.low M V g s a).1:=by
 rcases b with ⟨ad,cap,body⟩
 rw[Bl.low]
 exact qj8 M V g body s a 0
open Go.RowKit
def Ed.cells (x:Ed):List Value:=[.int .i64 x.src,.int .i64 x.dst,.int .i64 x.kind,.int .i64 x.mon,.int .i64 x.var]++x.e.cells++[.int .i64 x.n,.int .i64 x.site,.int .i64 x.out,.int .i64 x.pos]
def Ed.val (x:Ed):Value:=.agg x.cells.toArray
def Gu.cells (g:Gu):List Value:=[.int .i64 g.mon]++g.e.cells++[.bool g.loop]
def Gu.val (g:Gu):Value:=.agg g.cells.toArray
theorem Ed.len (x:Ed):x.cells.length=15:=by rcases x with ⟨a1,a2,a3,a4,a5,⟨b1,b2,b3,b4,b5,b6,b7,b8⟩,a7,a8,a9,a10⟩;rfl
theorem Gu.len (x:Gu):x.cells.length=8:=by rcases x with ⟨a1,⟨b1,b2,b3,b4,b5,b6,b7,b8⟩,a3⟩;rfl
theorem Ed.one (x:Ed):∀u∈x.cells,u.oneCell'=true:=by
 rcases x with ⟨a1,a2,a3,a4,a5,⟨b1,b2,b3,b4,b5,b6,b7,b8⟩,a7,a8,a9,a10⟩
 intro u hu
 simp only[Ed.cells,Ex.cells,List.mem_append,List.mem_cons,List.not_mem_nil,or_false] at hu
 rcases hu with ((h|h|h|h|h)|h|h|h|h|h|h)|h|h|h|h <;> subst h <;> rfl
theorem Gu.one (x:Gu):∀u∈x.cells,u.oneCell'=true:=by
 rcases x with ⟨a1,⟨b1,b2,b3,b4,b5,b6,b7,b8⟩,a3⟩
 intro u hu
 simp only[Gu.cells,Ex.cells,List.mem_append,List.mem_cons,List.not_mem_nil,or_false] at hu
 rcases hu with (h|h|h|h|h|h|h)|h <;> subst h <;> rfl
theorem qyw:(Tryz.prog.info? 50).map (λi=>(i.zero,i.size,i.bytes))=some (some (.agg #[.int .i64 0,.int .i64 0,.int .i64 0,.int .i64 0,.int .i64 0,.int .i64 0,.string ⟨#[]⟩,.string ⟨#[]⟩,.int .i64 0,.slice none 0 0,.int .i64 0,.int .i64 0,.int .i64 0,.int .i64 0,.int .i64 0]),15,152):=by kernel_rfl
theorem qyx:(Tryz.prog.info? 102).map (λi=>(i.zero,i.size,i.bytes))=some (some (.agg #[.int .i64 0,.int .i64 0,.string ⟨#[]⟩,.string ⟨#[]⟩,.int .i64 0,.slice none 0 0,.int .i64 0,.bool false]),8,96):=by kernel_rfl
def qp (b:Nat) (H:Nat->Bool) (ev gv:Value) (k:Nat):Bool:=decide (k≠b)&&decide (ev.ownBlock≠some k)&&decide (gv.ownBlock≠some k)&&!H k
theorem qcm {b:Nat}{H:Nat->Bool}{ev gv:Value}{k:Nat}:qp b H ev gv k=true↔k≠b/\ev.ownBlock≠some k/\gv.ownBlock≠some k/\H k=false:=by
 simp[qp,and_assoc]
structure PAt (C:Int->Value->Value->Array Value) (T:TypeId) (n₁ nz b:Nat) (H:Nat->Bool) (ev gv:Value) (s:Fs) (w:World):Prop where
 box:w.heap[b]?=some (.cells (C s.locs ev gv) T (0,0))
 lo:nz<=b
 le:n₁<=nz
 pos:0<=s.locs
 hid:∀k,H k=true->n₁<=k/\k<w.heap.size
 ed:∃es:List Ed,es.map Ed.top=s.es/\w.ownsRow nz 50 15 ev es.length (es.flatMap Ed.cells)/\∀x∈es,x.e.Is w.heap.size (only (qp b H ev gv) w)
 gu:∃gs:List Gu,gs.map Gu.top=s.gs/\w.ownsRow nz 102 8 gv gs.length (gs.flatMap Gu.cells)/\∀x∈gs,x.e.Is w.heap.size (only (qp b H ev gv) w)
structure Fr (b:Nat) (ev gv ev' gv':Value) (w w':World):Prop where
 os:w'.os=w.os
 tape:w'.tape=w.tape
 output:w'.output=w.output
 size:w.heap.size<=w'.heap.size
 block:∀k,k<w.heap.size->k≠b->ev.ownBlock≠some k->gv.ownBlock≠some k->w'.heap[k]?=w.heap[k]?
 evb:∀k,ev'.ownBlock=some k->ev.ownBlock=some k\/w.heap.size<=k
 gvb:∀k,gv'.ownBlock=some k->gv.ownBlock=some k\/w.heap.size<=k
theorem Fr.refl (b:Nat) (ev gv:Value) (w:World):Fr b ev gv ev gv w w:=⟨rfl,rfl,rfl,Nat.le_refl _,λ_ _ _ _ _=>rfl,λ_ h=>.inl h,λ_ h=>.inl h⟩
theorem Fr.off {b:Nat}{ev gv ev' gv':Value}{w w':World}(h:Fr b ev gv ev' gv' w w') {k:Nat}(hk:k<w.heap.size) (he:ev.ownBlock≠some k) (hg:gv.ownBlock≠some k):ev'.ownBlock≠some k/\gv'.ownBlock≠some k:=
 ⟨λe=>by
  rcases h.evb k e with e|e
  ·exact he e
  ·omega,λe=>by
  rcases h.gvb k e with e|e
  ·exact hg e
  ·omega⟩
theorem Fr.trans {b:Nat}{ev gv ev1 gv1 ev2 gv2:Value}{w u x:World}(h:Fr b ev gv ev1 gv1 w u) (g:Fr b ev1 gv1 ev2 gv2 u x):Fr b ev gv ev2 gv2 w x:=by
 have hs:=h.size
 refine⟨g.os.trans h.os,g.tape.trans h.tape,g.output.trans h.output,Nat.le_trans h.size g.size,λk hk hb he hg=>?_,λk e=>?_,λk e=>?_⟩
 ·obtain⟨h1,h2⟩:=h.off hk he hg
  exact (g.block k (by omega) hb h1 h2).trans (h.block k hk hb he hg)
 ·rcases g.evb k e with e|e
  ·exact h.evb k e
  ·exact .inr (by omega)
 ·rcases g.gvb k e with e|e
  ·exact h.gvb k e
  ·exact .inr (by omega)
theorem Fr.of {b:Nat}{ev gv:Value}{w w':World}(h:Below w.heap.size w w'):Fr b ev gv ev gv w w':=⟨h.os,h.tape,h.output,h.size,λk hk _ _ _=>h.block k hk,λ_ h=>.inl h,λ_ h=>.inl h⟩
theorem Fr.bel {b:Nat}{ev gv ev' gv':Value}{w u x:World}(h:Fr b ev gv ev' gv' w u) (k:Below u.heap.size u x):Fr b ev gv ev' gv' w x:=h.trans (.of k)
theorem Fr.drew {b:Nat}{ev gv ev' gv':Value}{w u:World}(h:Fr b ev gv ev' gv' w u):Fr b ev gv ev' gv' w u.drew:=⟨h.os,h.tape,h.output,h.size,h.block,h.evb,h.gvb⟩
section
variable {C:Int->Value->Value->Array Value}{T:TypeId}{n₁ nz b:Nat}{H:Nat->Bool}{ev gv:Value}{s:Fs}{w:World}
theorem PAt.lt (h:PAt C T n₁ nz b H ev gv s w):b<w.heap.size:=(Array.getElem?_eq_some_iff.1 h.box).1
theorem PAt.evlt (h:PAt C T n₁ nz b H ev gv s w) {k:Nat}(hk:ev.ownBlock=some k):nz<=k/\k<w.heap.size:=by
 obtain⟨es,-,h1,-⟩:=h.ed;exact qa7 h1 hk
theorem PAt.gvlt (h:PAt C T n₁ nz b H ev gv s w) {k:Nat}(hk:gv.ownBlock=some k):nz<=k/\k<w.heap.size:=by
 obtain⟨es,-,h1,-⟩:=h.gu;exact qa7 h1 hk
theorem qdf {w:World}{B e size n:Nat}{v:Value}{xs:List Value}(h:w.ownsRow B e size v n xs) (g:Nat) (hg:v.ownBlock=some g):∃c,w.heap[g]?=some (.cells c e (0,0)):=by
 obtain⟨_,⟨rfl,_⟩|⟨g',cap,cur,rfl,_,hh,_⟩⟩:=h
 ·cases hg
 ·injection hg with hg;subst hg;exact⟨cur,hh⟩
theorem PAt.evne (h:PAt C T n₁ nz b H ev gv s w) (hT:T≠50):ev.ownBlock≠some b:=λe=>by
 obtain⟨es,-,h1,-⟩:=h.ed
 obtain⟨c,hc⟩:=qdf h1 b e
 rw[h.box] at hc;injection hc with hc;injection hc with _ h3;exact hT h3
theorem PAt.gvne (h:PAt C T n₁ nz b H ev gv s w) (hT:T≠102):gv.ownBlock≠some b:=λe=>by
 obtain⟨es,-,h1,-⟩:=h.gu
 obtain⟨c,hc⟩:=qdf h1 b e
 rw[h.box] at hc;injection hc with hc;injection hc with _ h3;exact hT h3
theorem PAt.apart (h:PAt C T n₁ nz b H ev gv s w) {k:Nat}(he:ev.ownBlock=some k):gv.ownBlock≠some k:=λe=>by
 obtain⟨es,-,h1,-⟩:=h.ed
 obtain⟨gs,-,h2,-⟩:=h.gu
 obtain⟨c,hc⟩:=qdf h1 k he
 obtain⟨d,hd⟩:=qdf h2 k e
 rw[hc] at hd;injection hd with hd;injection hd with _ h3;exact absurd h3 (by decide)
theorem Fr.below {b:Nat}{ev' gv':Value}{w w':World}(k:Fr b ev gv ev' gv' w w') (h:PAt C T n₁ nz b H ev gv s w):Below nz w w':=by
 refine⟨k.os,k.tape,k.output,k.size,λi hi=>k.block i ?_ ?_ ?_ ?_⟩
 ·have:=h.lt;have:=h.lo;omega
 ·have:=h.lo;omega
 ·intro e;have:=(h.evlt e).1;omega
 ·intro e;have:=(h.gvlt e).1;omega
theorem PAt.qlo (h:PAt C T n₁ nz b H ev gv s w) {k:Nat}(hk:k<n₁):qp b H ev gv k=true:=by
 have hle:=h.le
 refine qcm.2 ⟨by have:=h.lo;omega,λe=>?_,λe=>?_,?_⟩
 ·have:=(h.evlt e).1;omega
 ·have:=(h.gvlt e).1;omega
 ·cases hH:H k
  ·rfl
  ·have:=(h.hid k hH).1;omega
theorem PAt.qhi (h:PAt C T n₁ nz b H ev gv s w) {k:Nat}(hk:w.heap.size<=k):qp b H ev gv k=true:=by
 refine qcm.2 ⟨by have:=h.lt;omega,λe=>?_,λe=>?_,?_⟩
 ·have:=(h.evlt e).2;omega
 ·have:=(h.gvlt e).2;omega
 ·cases hH:H k
  ·rfl
  ·have:=(h.hid k hH).2;omega
theorem PAt.ex (h:PAt C T n₁ nz b H ev gv s w) {e:Ex}(he:e.Is n₁ w):e.Is w.heap.size (only (qp b H ev gv) w):=by
 have h1:=h.lt;have h2:=h.lo;have h3:=h.le
 exact he.imp (qgh λk hk=>⟨h.qlo hk,rfl⟩) (by omega)
theorem PAt.bel (h:PAt C T n₁ nz b H ev gv s w) {w':World}(k:Below w.heap.size w w'):PAt C T n₁ nz b H ev gv s w':=by
 obtain⟨es,e1,e2,e3⟩:=h.ed
 obtain⟨gs,g1,g2,g3⟩:=h.gu
 refine⟨(k.block b h.lt).trans h.box,h.lo,h.le,h.pos,λi hi=>⟨(h.hid i hi).1,by have:=(h.hid i hi).2;have:=k.size;omega⟩,⟨es,e1,qaq e2 k,λx hx=>?_⟩,⟨gs,g1,qaq g2 k,λx hx=>?_⟩⟩
 ·exact (e3 x hx).imp (qak λi hi hq=>⟨hq,k.block i hi⟩) k.size
 ·exact (g3 x hx).imp (qak λi hi hq=>⟨hq,k.block i hi⟩) k.size
theorem PAt.drew (h:PAt C T n₁ nz b H ev gv s w):PAt C T n₁ nz b H ev gv s w.drew:=h.bel (Below.drew (Below.refl _ _))
theorem PAt.al (h:PAt C T n₁ nz b H ev gv s w) (o:Obj):PAt C T n₁ nz b H ev gv s (w.alloc o):=h.bel ((Below.refl _ _).al qaa o)
theorem PAt.hide (h:PAt C T n₁ nz b H ev gv s w) {w':World}(k:Below w.heap.size w w') (H':Nat->Bool) (hH:∀i,H' i=true->n₁<=i/\i<w'.heap.size) (hs:∀i,i<w.heap.size->H' i=true->H i=true):PAt C T n₁ nz b H' ev gv s w':=by
 obtain⟨es,e1,e2,e3⟩:=h.ed
 obtain⟨gs,g1,g2,g3⟩:=h.gu
 have hq:∀i,i<w.heap.size->qp b H ev gv i=true->qp b H' ev gv i=true/\w'.heap[i]?=w.heap[i]?:=λi hi hq=>by
  obtain⟨q1,q2,q3,q4⟩:=qcm.1 hq
  refine⟨qcm.2 ⟨q1,q2,q3,?_⟩,k.block i hi⟩
  cases hh:H' i
  ·rfl
  ·rw[hs i hi hh] at q4;exact Bool.noConfusion q4
 exact⟨(k.block b h.lt).trans h.box,h.lo,h.le,h.pos,hH,⟨es,e1,qaq e2 k,λx hx=>(e3 x hx).imp (qak hq) k.size⟩,⟨gs,g1,qaq g2 k,λx hx=>(g3 x hx).imp (qak hq) k.size⟩⟩
theorem qaw {w:World}{k i:Nat}{c:Array Value}{T:TypeId}(h:w.heap[k]?=some (.cells c T (0,0))) (v:Value):(w.setCell ⟨k,i,none⟩ v).heap[k]?=some (.cells (c.setIfInBounds i v) T (0,0)):=by
 simp[World.setCell,Array.getElem?_modify,h]
theorem qgp (w:World) (a:Addr) (v:Value):(w.setCell a v).heap.size=w.heap.size:=by simp[World.setCell]
theorem qgj {w:World}{B e size n:Nat}{v:Value}{xs:List Value}(h:w.ownsRow B e size v n xs) {k i:Nat}(hk:v.ownBlock≠some k) (u:Value):(w.setCell ⟨k,i,none⟩ u).ownsRow B e size v n xs:=by
 obtain⟨hl,⟨rfl,hn⟩|⟨g,cap,cur,rfl,hB,hh,hc,hm,hcs,hx⟩⟩:=h
 ·exact⟨hl,.inl ⟨rfl,hn⟩⟩
 ·exact⟨hl,.inr ⟨g,cap,cur,rfl,hB,(Below.heap_setCell _ _ _ _ (λe=>hk (congrArg some e))).trans hh,hc,hm,hcs,hx⟩⟩
theorem PAt.setLocs (h:PAt C T n₁ nz b H ev gv s w) (hT:T≠50) (hT2:T≠102) (l:Int) (hl:0<=l) (i:Nat) (hC:(C s.locs ev gv).setIfInBounds i (.int .i64 l)=C l ev gv):PAt C T n₁ nz b H ev gv { s with locs:=l } (w.setCell ⟨b,i,none⟩ (.int .i64 l)):=by
 obtain⟨es,e1,e2,e3⟩:=h.ed
 obtain⟨gs,g1,g2,g3⟩:=h.gu
 have hq:∀k,k<w.heap.size->qp b H ev gv k=true->qp b H ev gv k=true/\(w.setCell ⟨b,i,none⟩ (.int .i64 l)).heap[k]?=w.heap[k]?:=λk hk hq=>⟨hq,Below.heap_setCell _ _ _ _ (qcm.1 hq).1⟩
 refine⟨?_,h.lo,h.le,hl,λk hk=>by rw[qgp];exact h.hid k hk,⟨es,e1,qgj e2 (h.evne hT) _,λx hx=>(e3 x hx).imp (qak hq) (by rw[qgp];exact qaa)⟩,⟨gs,g1,qgj g2 (h.gvne hT2) _,λx hx=>(g3 x hx).imp (qak hq) (by rw[qgp];exact qaa)⟩⟩
 rw[qaw h.box,hC]
theorem Fr.setLocs {ev' gv':Value}{w0:World}(k:Fr b ev gv ev' gv' w0 w) (i:Nat) (u:Value):Fr b ev gv ev' gv' w0 (w.setCell ⟨b,i,none⟩ u):=
 ⟨k.os,k.tape,k.output,by rw[qgp];exact k.size,λj hj hb he hg=>(Below.heap_setCell _ _ _ _ hb).trans (k.block j hj hb he hg),k.evb,k.gvb⟩
theorem PAt.addEdge (h:PAt C T n₁ nz b H ev gv s w) (hT:T≠50) (hT2:T≠102) (y:Ed) (hy:y.e.Is w.heap.size (only (qp b H ev gv) w)) {es:List Ed}(hes:es.map Ed.top=s.es) (hIs:∀x∈es,x.e.Is w.heap.size (only (qp b H ev gv) w)) {u w1:World}(hu:Below w.heap.size w u) {g gcp:Nat}
  (hown:w1.ownsRow nz 50 15 (.slice (some ⟨g,0,none⟩) (es.length+1) gcp) (es.length+1) (es.flatMap Ed.cells++y.cells)) (hgr:u.grownBy w1 ev.ownBlock) (hat:ev.ownBlock=some g\/w.heap.size<=g) (i:Nat) (hC:(C s.locs ev gv).setIfInBounds i (.slice (some ⟨g,0,none⟩) (es.length+1) gcp)=C s.locs (.slice (some ⟨g,0,none⟩) (es.length+1) gcp) gv) :
  PAt C T n₁ nz b H (.slice (some ⟨g,0,none⟩) (es.length+1) gcp) gv { s with es:=s.es++[y.top] } (w1.setCell ⟨b,i,none⟩ (.slice (some ⟨g,0,none⟩) (es.length+1) gcp))/\Fr b ev gv (.slice (some ⟨g,0,none⟩) (es.length+1) gcp) gv w (w1.setCell ⟨b,i,none⟩ (.slice (some ⟨g,0,none⟩) (es.length+1) gcp)):=by
 obtain⟨gs,g1,g2,g3⟩:=h.gu
 have hs1:=hu.size;have hs2:=hgr.size
 have hgb:g≠b:=by
  rintro rfl
  rcases hat with e|e
  ·exact h.evne hT e
  ·have:=h.lt;omega
 have hgg:gv.ownBlock≠some g:=λe=>by
  rcases hat with e2|e2
  ·exact h.apart e2 e
  ·have:=(h.gvlt e).2;omega
 have hblk:∀k,k<w.heap.size->ev.ownBlock≠some k->w1.heap[k]?=w.heap[k]?:=λk hk he=>(hgr.block k (by omega) (λe=>he e.symm)).trans (hu.block k hk)
 have hq:∀k,k<w.heap.size->qp b H ev gv k=true->qp b H (.slice (some ⟨g,0,none⟩) (es.length+1) gcp) gv k=true/\(w1.setCell ⟨b,i,none⟩ (.slice (some ⟨g,0,none⟩) (es.length+1) gcp)).heap[k]?=w.heap[k]?:=λk hk hq=>by
  obtain⟨q1,q2,q3,q4⟩:=qcm.1 hq
  refine⟨qcm.2 ⟨q1,λe=>?_,q3,q4⟩,(Below.heap_setCell _ _ _ _ q1).trans (hblk k hk q2)⟩
  have e:g=k:=by simpa[Value.ownBlock] using e
  subst e
  rcases hat with e|e
  ·exact q2 e
  ·omega
 have hgvown:w1.ownsRow nz 102 8 gv gs.length (gs.flatMap Gu.cells):=by
  obtain⟨hl,⟨rfl,hn⟩|⟨r,cap,cur,rfl,hB,hh,hc,hm,hcs,hx⟩⟩:=g2
  ·exact⟨hl,.inl ⟨rfl,hn⟩⟩
  ·exact⟨hl,.inr ⟨r,cap,cur,rfl,hB,(hblk r (Array.getElem?_eq_some_iff.1 hh).1 (λe=>h.apart e rfl)).trans hh,hc,hm,hcs,hx⟩⟩
 have hsz:w.heap.size<=(w1.setCell ⟨b,i,none⟩ (.slice (some ⟨g,0,none⟩) (es.length+1) gcp)).heap.size:=by rw[qgp];omega
 refine⟨⟨?_,h.lo,h.le,h.pos,λk hk=>⟨(h.hid k hk).1,by have:=(h.hid k hk).2;omega⟩,⟨es++[y],?_,?_,λx hx=>?_⟩,⟨gs,g1,qgj hgvown (h.gvne hT2) _,λx hx=>(g3 x hx).imp (qak hq) hsz⟩⟩,⟨hgr.os.trans hu.os,hgr.tape.trans hu.tape,hgr.output.trans hu.output,hsz,λk hk hb he _=>(Below.heap_setCell _ _ _ _ hb).trans (hblk k hk he),λk e=>?_,λk e=>.inl e⟩⟩
 ·rw[qaw ((hblk b h.lt (h.evne hT)).trans h.box),hC]
 ·rw[List.map_append,hes];rfl
 ·have h2:=qgj (i:=i) hown (k:=b) (λe=>hgb (by simpa[Value.ownBlock] using e)) (.slice (some ⟨g,0,none⟩) (es.length+1) gcp)
  rw[List.length_append,List.flatMap_append]
  simpa using h2
 ·rcases List.mem_append.1 hx with hx|hx
  ·exact (hIs x hx).imp (qak hq) hsz
  ·rw[List.mem_singleton.1 hx];exact hy.imp (qak hq) hsz
 ·have e:g=k:=by simpa[Value.ownBlock] using e
  subst e
  exact hat
theorem PAt.addGuard (h:PAt C T n₁ nz b H ev gv s w) (hT:T≠50) (hT2:T≠102) (y:Gu) (hy:y.e.Is w.heap.size (only (qp b H ev gv) w)) {gs:List Gu}(hgs:gs.map Gu.top=s.gs) (hIs:∀x∈gs,x.e.Is w.heap.size (only (qp b H ev gv) w)) {u w1:World}(hu:Below w.heap.size w u) {g gcp:Nat}
  (hown:w1.ownsRow nz 102 8 (.slice (some ⟨g,0,none⟩) (gs.length+1) gcp) (gs.length+1) (gs.flatMap Gu.cells++y.cells)) (hgr:u.grownBy w1 gv.ownBlock) (hat:gv.ownBlock=some g\/w.heap.size<=g) (i:Nat) (hC:(C s.locs ev gv).setIfInBounds i (.slice (some ⟨g,0,none⟩) (gs.length+1) gcp)=C s.locs ev (.slice (some ⟨g,0,none⟩) (gs.length+1) gcp)) :
  PAt C T n₁ nz b H ev (.slice (some ⟨g,0,none⟩) (gs.length+1) gcp) (s.guard y.top) (w1.setCell ⟨b,i,none⟩ (.slice (some ⟨g,0,none⟩) (gs.length+1) gcp))/\Fr b ev gv ev (.slice (some ⟨g,0,none⟩) (gs.length+1) gcp) w (w1.setCell ⟨b,i,none⟩ (.slice (some ⟨g,0,none⟩) (gs.length+1) gcp)):=by
 obtain⟨es,e1,e2,e3⟩:=h.ed
 have hs1:=hu.size;have hs2:=hgr.size
 have hgb:g≠b:=by
  rintro rfl
  rcases hat with e|e
  ·exact h.gvne hT2 e
  ·have:=h.lt;omega
 have hgg:ev.ownBlock≠some g:=λe=>by
  rcases hat with e2|e2
  ·exact h.apart e e2
  ·have:=(h.evlt e).2;omega
 have hblk:∀k,k<w.heap.size->gv.ownBlock≠some k->w1.heap[k]?=w.heap[k]?:=λk hk he=>(hgr.block k (by omega) (λe=>he e.symm)).trans (hu.block k hk)
 have hq:∀k,k<w.heap.size->qp b H ev gv k=true->qp b H ev (.slice (some ⟨g,0,none⟩) (gs.length+1) gcp) k=true/\(w1.setCell ⟨b,i,none⟩ (.slice (some ⟨g,0,none⟩) (gs.length+1) gcp)).heap[k]?=w.heap[k]?:=λk hk hq=>by
  obtain⟨q1,q2,q3,q4⟩:=qcm.1 hq
  refine⟨qcm.2 ⟨q1,q2,λe=>?_,q4⟩,(Below.heap_setCell _ _ _ _ q1).trans (hblk k hk q3)⟩
  have e:g=k:=by simpa[Value.ownBlock] using e
  subst e
  rcases hat with e|e
  ·exact q3 e
  ·omega
 have hevown:w1.ownsRow nz 50 15 ev es.length (es.flatMap Ed.cells):=by
  obtain⟨hl,⟨rfl,hn⟩|⟨r,cap,cur,rfl,hB,hh,hc,hm,hcs,hx⟩⟩:=e2
  ·exact⟨hl,.inl ⟨rfl,hn⟩⟩
  ·exact⟨hl,.inr ⟨r,cap,cur,rfl,hB,(hblk r (Array.getElem?_eq_some_iff.1 hh).1 (λe=>h.apart rfl e)).trans hh,hc,hm,hcs,hx⟩⟩
 have hsz:w.heap.size<=(w1.setCell ⟨b,i,none⟩ (.slice (some ⟨g,0,none⟩) (gs.length+1) gcp)).heap.size:=by rw[qgp];omega
 refine⟨⟨?_,h.lo,h.le,h.pos,λk hk=>⟨(h.hid k hk).1,by have:=(h.hid k hk).2;omega⟩,⟨es,e1,qgj hevown (h.evne hT) _,λx hx=>(e3 x hx).imp (qak hq) hsz⟩,⟨gs++[y],?_,?_,λx hx=>?_⟩⟩,⟨hgr.os.trans hu.os,hgr.tape.trans hu.tape,hgr.output.trans hu.output,hsz,λk hk hb _ he=>(Below.heap_setCell _ _ _ _ hb).trans (hblk k hk he),λk e=>.inl e,λk e=>?_⟩⟩
 ·show _=some (Obj.cells (C s.locs ev _) T (0,0))
  rw[qaw ((hblk b h.lt (h.gvne hT2)).trans h.box),hC]
 ·rw[List.map_append,hgs];rfl
 ·have h2:=qgj (i:=i) hown (k:=b) (λe=>hgb (by simpa[Value.ownBlock] using e)) (.slice (some ⟨g,0,none⟩) (gs.length+1) gcp)
  rw[List.length_append,List.flatMap_append]
  simpa using h2
 ·rcases List.mem_append.1 hx with hx|hx
  ·exact (hIs x hx).imp (qak hq) hsz
  ·rw[List.mem_singleton.1 hx];exact hy.imp (qak hq) hsz
 ·have e:g=k:=by simpa[Value.ownBlock] using e
  subst e
  exact hat
end
open Go.RowKit
section
variable (M:ByteArray->Int) (V:ByteArray->ByteArray->Int) (mon name:ByteArray) (n:Int) (e:Ex) (ad:Option Addr) (cap:Nat) (blocks:List Bl) (pos:Int) (s:Fs) (a:Int)
theorem qD8:St.low M V (.mk 1 mon name n e ad cap blocks pos) s a=s.on a (edE 1 0 pos):=by unfold St.low;rfl
theorem qD9:St.low M V (.mk 2 mon name n e ad cap blocks pos) s a=s.on a ⟨0,0,3,0,V mon name,e.top,0,0,0,pos⟩:=by unfold St.low;rfl
theorem qC9:St.low M V (.mk 10 mon name n e ad cap blocks pos) s a=s.on a (edE 7 (M mon) pos):=by unfold St.low;rfl
theorem qDa:St.low M V (.mk 11 mon name n e ad cap blocks pos) s a=s.on a (edE 8 (M mon) pos):=by unfold St.low;rfl
theorem qEc:St.low M V (.mk 6 mon name n e ad cap blocks pos) s a=((Bl.lowC M V blocks 0 pos s a).2.foldl (λt x=>t.lay x (Bl.lowC M V blocks 0 pos s a).1.locs (qag pos 0)) (Bl.lowC M V blocks 0 pos s a).1.place,(Bl.lowC M V blocks 0 pos s a).1.locs):=by unfold St.low;rfl
theorem qEd (b:Bl) (t:List Bl) (q:Fs × Int × Int) (h:b.low M V noG (s.on a (edE 4 (M mon) pos)).1 (s.on a (edE 4 (M mon) pos)).2=q):St.low M V (.mk 7 mon name n e ad cap (b::t) pos) s a=q.1.on q.2.1 (edE 5 (M mon) pos):=by unfold St.low;rw[<- h];rfl
theorem qEa (b:Bl) (t:List Bl) (q:Fs × Int × Int) (h:b.low M V ⟨0,notE e,true⟩ (s.on a (qah e.top e.pos 0)).1 (s.on a (qah e.top e.pos 0)).2=q):St.low M V (.mk 4 mon name n e ad cap (b::t) pos) s a=(q.1.lay q.2.1 a (qag pos 0)).on a (qah (notE e) e.pos q.2.2):=by unfold St.low;rw[<- h];rfl
theorem qEb (b:Bl) (t:List Bl) (q:Fs × Int × Int) (h:b.low M V noG s a=q):St.low M V (.mk 5 mon name n e ad cap (b::t) pos) s a=((q.1.lay q.2.1 a (qag pos 0)).place,q.1.locs):=by unfold St.low;rw[<- h];rfl
theorem qDb (b:Bl) (q:Fs × Int × Int) (h:b.low M V ⟨0,notE e,false⟩ (s.on a (qah e.top e.pos 0)).1 (s.on a (qah e.top e.pos 0)).2=q):St.low M V (.mk 3 mon name n e ad cap [b] pos) s a=((((q.1.on q.2.1 (qag pos q.2.2)).1.on a (qah (notE e) e.pos 0)).1.lay ((q.1.on q.2.1 (qag pos q.2.2)).1.on a (qah (notE e) e.pos 0)).2 (q.1.on q.2.1 (qag pos q.2.2)).2 (qag pos 0)),(q.1.on q.2.1 (qag pos q.2.2)).2):=by unfold St.low;rw[<- h];rfl
theorem qDc (b c:Bl) (t:List Bl) (q y:Fs × Int × Int) (h:b.low M V ⟨0,notE e,false⟩ (s.on a (qah e.top e.pos 0)).1 (s.on a (qah e.top e.pos 0)).2=q) (h2:c.low M V ⟨0,e.top,false⟩ ((q.1.on q.2.1 (qag pos q.2.2)).1.on a (qah (notE e) e.pos 0)).1 ((q.1.on q.2.1 (qag pos q.2.2)).1.on a (qah (notE e) e.pos 0)).2=y):St.low M V (.mk 3 mon name n e ad cap (b::c::t) pos) s a=((y.1.lay y.2.1 (q.1.on q.2.1 (qag pos q.2.2)).2 (qag pos y.2.2)),(q.1.on q.2.1 (qag pos q.2.2)).2):=by unfold St.low;rw[<- h2,<- h];rfl
theorem qEe (kind:Int) (h1:¬ kind=1) (h2:¬ kind=2) (h10:¬ kind=10) (h11:¬ kind=11) (h6:¬ kind=6) (h7:¬ kind=7) (h3:¬ kind=3) (h4:¬ kind=4) (h5:¬ kind=5):St.low M V (.mk kind mon name n e ad cap blocks pos) s a=(s,a):=by
 unfold St.low
 rw[if_neg h1,if_neg h2,if_neg h10,if_neg h11,if_neg h6]
 cases blocks with
 | nil=>rfl
 | cons b t=>simp only[if_neg h7,if_neg h3,if_neg h4,if_neg h5]
end
open Go.RowKit
def outs (es:List Ed) (a:Int):List Ed:=es.filter λx=>decide (x.src=a)
theorem qxn (l m:List Ed) (a:Int):outs (l++m) a=outs l a++outs m a:=List.filter_append ..
theorem qb3 (s:Fs) (a b:Int) (x:Ed) (k:Int):outs (s.lay a b x).es k=if k=a then outs s.es k++[{ x with src:=a,dst:=b }] else outs s.es k:=by
 show outs (s.es++[_]) k=_
 rw[qxn]
 split
 ·rename_i h;subst h;simp[outs]
 ·rename_i h;simp[outs];intro e;exact absurd e.symm h
theorem qbg (s:Fs) (a:Int) (x:Ed) (k:Int):outs (s.on a x).1.es k=if k=a then outs s.es k++[{ x with src:=a,dst:=s.locs }] else outs s.es k:=qb3 s.place a s.locs x k
inductive GoodOut:List Ed->Prop
 | nil:GoodOut []
 | one (x:Ed) (h:x.kind≠2) (h9:x.kind≠9):GoodOut [x]
 | two (x y:Ed) (e:Ex) (hx:x.kind=2) (hy:y.kind=2) (ex:x.e=e.top) (ey:y.e=notE e):GoodOut [x,y]
 | pick (l:List Ed) (h:∀(i:Nat) (hi:i<l.length),l[i].kind=9/\l[i].n=(i:Int)):GoodOut l
def Inn (s:Fs):Prop:=∀x∈s.es,(0<=x.src/\x.src<s.locs)/\0<=x.dst/\x.dst<s.locs
theorem Inn.none {s:Fs}(h:Inn s) {k:Int}(hk:s.locs<=k):outs s.es k=[]:=by
 unfold outs
 refine List.filter_eq_nil_iff.2 λx hx=>?_
 have:=(h x hx).1.2
 simp;omega
theorem Inn.place {s:Fs}(h:Inn s):Inn s.place:=λx hx=>by
 have:=h x hx
 show (0<=x.src/\x.src<s.locs+1)/\0<=x.dst/\x.dst<s.locs+1
 omega
theorem Inn.lay {s:Fs}(h:Inn s) {a b:Int}(ha:0<=a/\a<s.locs) (hb:0<=b/\b<s.locs) (x:Ed):Inn (s.lay a b x):=λy hy=>by
 rcases List.mem_append.1 hy with hy|hy
 ·exact h y hy
 ·rw[List.mem_singleton.1 hy];exact⟨ha,hb⟩
theorem Inn.on {s:Fs}(h:Inn s) {a:Int}(ha:0<=a/\a<s.locs) (x:Ed):Inn (s.on a x).1:=by
 refine h.place.lay ?_ ?_ x
 ·show 0<=a/\a<s.locs+1;omega
 ·show 0<=s.locs/\s.locs<s.locs+1;omega
theorem Inn.guard {s:Fs}(h:Inn s) (g:Gu):Inn (s.guard g):=h
structure Pw (s:Fs) (a:Int):Prop where
 inn:Inn s
 lo:0<=a/\a<s.locs
 none:outs s.es a=[]
structure Wy (s t:Fs) (a c:Int):Prop where
 locs:s.locs<=t.locs
 inn:Inn t
 fin:c=a\/s.locs<=c
 lt:0<=c/\c<t.locs
 none:outs t.es c=[]
 old:∀k,k<s.locs->k≠a->outs t.es k=outs s.es k
 good:∀k,(k=a\/s.locs<=k)->k≠c->GoodOut (outs t.es k)
theorem Wy.pw {s t:Fs}{a c:Int}(h:Wy s t a c):Pw t c:=⟨h.inn,h.lt,h.none⟩
theorem Wy.refl {s:Fs}{a:Int}(h:Pw s a):Wy s s a a:=
 ⟨Int.le_refl _,h.inn,.inl rfl,h.lo,h.none,λ_ _ _=>rfl,λk hk hn=>by
  rcases hk with hk|hk
  ·exact absurd hk hn
  ·rw[h.inn.none hk];exact .nil⟩
theorem Wy.trans {s t u:Fs}{a c d:Int}(h:Wy s t a c) (g:Wy t u c d):Wy s u a d:=by
 have h1:=h.locs;have g1:=g.locs;have h3:=h.fin;have g3:=g.fin;have h4:=h.lt
 refine⟨by omega,g.inn,?_,g.lt,g.none,λk hk ha=>?_,λk hk hn=>?_⟩
 ·rcases g3 with g3|g3
  ·rw[g3];exact h3
  ·exact .inr (by omega)
 ·rw[g.old k (by omega) (by omega),h.old k hk ha]
 ·by_cases hc:k=c
  ·exact g.good k (.inl hc) hn
  ·by_cases hl:k<t.locs
   ·rw[g.old k hl hc];exact h.good k hk hc
   ·exact g.good k (.inr (by omega)) hn
theorem Wy.on {s:Fs}{a:Int}(h:Pw s a) (x:Ed) (h2:x.kind≠2) (h9:x.kind≠9):Wy s (s.on a x).1 a (s.on a x).2:=by
 have hl:=h.lo
 refine⟨by show s.locs<=s.locs+1;omega,h.inn.on hl x,.inr (Int.le_refl _),⟨by show 0<=s.locs;omega,by show s.locs<s.locs+1;omega⟩,?_,λk hk ha=>?_,λk hk hn=>?_⟩
 ·show outs (s.on a x).1.es s.locs=[]
  rw[qbg,if_neg (by omega)];exact h.inn.none (Int.le_refl _)
 ·rw[qbg,if_neg ha]
 ·have hn:k≠s.locs:=hn
  rw[qbg]
  split
  ·rename_i hk2;subst hk2
   rw[h.none];exact .one _ h2 h9
  ·rename_i hk2
   have hk3:s.locs<=k:=by rcases hk with e|e;exact absurd e hk2;exact e
   rw[h.inn.none hk3];exact .nil
theorem Wy.wait {s:Fs}{a:Int}(h:Pw s a) (m n pos:Int) (g:Gu):Wy s (qce m n pos g s a).1 a (qce m n pos g s a).2:=by
 have h2:Pw (s.guard ⟨m,if g.e.opr=0 then qrn pos else g.e,g.loop⟩) a:=⟨h.inn.guard _,h.lo,h.none⟩
 obtain⟨a1,a2,a3,a4,a5,a6,a7⟩:=Wy.on h2 ⟨0,0,6,m,0,zeroEx,n,s.gs.length+1,if g.e.opr=0 then s.gs.length+1 else 0,pos⟩ (by show (6:Int)≠2;omega) (by show (6:Int)≠9;omega)
 exact⟨a1,a2,a3,a4,a5,a6,a7⟩
def qDy (M:ByteArray->Int) (V:ByteArray->ByteArray->Int) (b:Bl):Prop:=∀g s a,Pw s a->Wy s (b.low M V g s a).1 a (b.low M V g s a).2.1
theorem qxw {s:Fs}{a:Int}(hi:Inn s) (hl:0<=a/\a<s.locs) (x:Ed):Pw (s.on a x).1 (s.on a x).2:=by
 refine⟨hi.on hl x,⟨by show 0<=s.locs;omega,by show s.locs<s.locs+1;omega⟩,?_⟩
 show outs (s.on a x).1.es s.locs=[]
 rw[qbg,if_neg (by omega)];exact hi.none (Int.le_refl _)
theorem qCs {s q y:Fs}{a c f pos x1 x2:Int}{e:Ex}(h:Pw s a)
  (h1:Wy (s.on a (qah e.top e.pos 0)).1 q (s.on a (qah e.top e.pos 0)).2 c)
  (h2:Wy ((q.on c (qag pos x1)).1.on a (qah (notE e) e.pos 0)).1 y ((q.on c (qag pos x1)).1.on a (qah (notE e) e.pos 0)).2 f) :
  Wy s (y.lay f (q.on c (qag pos x1)).2 (qag pos x2)) a (q.on c (qag pos x1)).2:=by
 have hl:=h.lo
 have l1:s.locs+1<=q.locs:=h1.locs
 have f1:c=s.locs\/s.locs+1<=c:=h1.fin
 have t1:=h1.lt
 have l2:q.locs+1+1<=y.locs:=h2.locs
 have f2:f=q.locs+1\/q.locs+1+1<=f:=h2.fin
 have t2:=h2.lt
 have o1:∀k,k<s.locs+1->k≠s.locs->outs q.es k=outs (s.on a (qah e.top e.pos 0)).1.es k:=h1.old
 have o2:∀k,k<q.locs+1+1->k≠q.locs+1->outs y.es k=outs ((q.on c (qag pos x1)).1.on a (qah (notE e) e.pos 0)).1.es k:=h2.old
 have g1:∀k,(k=s.locs\/s.locs+1<=k)->k≠c->GoodOut (outs q.es k):=h1.good
 have g2:∀k,(k=q.locs+1\/q.locs+1+1<=k)->k≠f->GoodOut (outs y.es k):=h2.good
 refine⟨by show s.locs<=y.locs;omega,h2.inn.lay t2 ⟨by show 0<=q.locs;omega,by show q.locs<y.locs;omega⟩ _,.inr (by show s.locs<=q.locs;omega),⟨by show 0<=q.locs;omega,by show q.locs<y.locs;omega⟩,?_,λk hk ha=>?_,λk hk hn=>?_⟩
 ·show outs _ q.locs=[]
  rw[qb3,if_neg (by omega),o2 _ (by omega) (by omega),qbg,if_neg (by omega),qbg,if_neg (by omega)]
  exact h1.inn.none (Int.le_refl _)
 ·rw[qb3,if_neg (by omega),o2 _ (by omega) (by omega),qbg,if_neg ha,qbg,if_neg (by omega),o1 _ (by omega) (by omega),qbg,if_neg ha]
 ·have hn:k≠q.locs:=hn
  rw[qb3]
  split
  ·rename_i hkf;subst hkf
   rw[h2.none];exact .one _ (by show (1:Int)≠2;omega) (by show (1:Int)≠9;omega)
  ·rename_i hkf
   by_cases hk3:k=q.locs+1\/q.locs+1+1<=k
   ·exact g2 k hk3 hkf
   ·rw[o2 _ (by omega) (by omega),qbg]
    split
    ·rename_i hka;subst hka
     rw[qbg,if_neg (by omega),o1 _ (by omega) (by omega),qbg,if_pos rfl,h.none]
     exact .two _ _ e rfl rfl rfl rfl
    ·rename_i hka
     rw[qbg]
     split
     ·rename_i hkc;subst hkc
      rw[h1.none];exact .one _ (by show (1:Int)≠2;omega) (by show (1:Int)≠9;omega)
     ·rename_i hkc
      exact g1 k (by omega) hkc
theorem qyp {s q:Fs}{a c pos x:Int}{e:Ex}(h:Pw s a)
  (h1:Wy (s.on a (qah e.top e.pos 0)).1 q (s.on a (qah e.top e.pos 0)).2 c) :
  Wy s ((q.lay c a (qag pos 0)).on a (qah (notE e) e.pos x)).1 a ((q.lay c a (qag pos 0)).on a (qah (notE e) e.pos x)).2:=by
 have hl:=h.lo
 have l1:s.locs+1<=q.locs:=h1.locs
 have f1:c=s.locs\/s.locs+1<=c:=h1.fin
 have t1:=h1.lt
 have o1:∀k,k<s.locs+1->k≠s.locs->outs q.es k=outs (s.on a (qah e.top e.pos 0)).1.es k:=h1.old
 have g1:∀k,(k=s.locs\/s.locs+1<=k)->k≠c->GoodOut (outs q.es k):=h1.good
 have i1:Inn (q.lay c a (qag pos 0)):=h1.inn.lay t1 ⟨hl.1,by omega⟩ _
 refine⟨by show s.locs<=q.locs+1;omega,i1.on ⟨hl.1,by show a<q.locs;omega⟩ _,.inr (by show s.locs<=q.locs;omega),⟨by show 0<=q.locs;omega,by show q.locs<q.locs+1;omega⟩,?_,λk hk ha=>?_,λk hk hn=>?_⟩
 ·show outs _ q.locs=[]
  rw[qbg,if_neg (by omega),qb3,if_neg (by omega)]
  exact h1.inn.none (Int.le_refl _)
 ·rw[qbg,if_neg ha,qb3,if_neg (by omega),o1 _ (by omega) (by omega),qbg,if_neg ha]
 ·rw[qbg]
  split
  ·rename_i hka;subst hka
   rw[qb3,if_neg (by omega),o1 _ (by omega) (by omega),qbg,if_pos rfl,h.none]
   exact .two _ _ e rfl rfl rfl rfl
  ·rename_i hka
   rw[qb3]
   split
   ·rename_i hkc;subst hkc
    rw[h1.none];exact .one _ (by show (1:Int)≠2;omega) (by show (1:Int)≠9;omega)
   ·rename_i hkc
    exact g1 k (by omega) hkc
theorem qBd {s q:Fs}{a c pos:Int}(h:Pw s a) (h1:Wy s q a c):Wy s (q.lay c a (qag pos 0)).place a q.locs:=by
 have hl:=h.lo
 have l1:=h1.locs
 have f1:=h1.fin
 have t1:=h1.lt
 have i1:Inn (q.lay c a (qag pos 0)):=h1.inn.lay t1 ⟨hl.1,by omega⟩ _
 have oo:∀k,outs (q.lay c a (qag pos 0)).place.es k=if k=c then outs q.es k++[{ qag pos 0 with src:=c,dst:=a }] else outs q.es k:=qb3 q c a _
 refine⟨by show s.locs<=q.locs+1;omega,i1.place,.inr (by omega),⟨by omega,by show q.locs<q.locs+1;omega⟩,?_,λk hk ha=>?_,λk hk hn=>?_⟩
 ·rw[oo,if_neg (by omega)]
  exact h1.inn.none (Int.le_refl _)
 ·rw[oo,if_neg (by omega),h1.old k hk ha]
 ·rw[oo]
  split
  ·rename_i hkc;subst hkc
   rw[h1.none];exact .one _ (by show (1:Int)≠2;omega) (by show (1:Int)≠9;omega)
  ·rename_i hkc
   exact h1.good k hk hkc
structure Cy (s t:Fs) (a i:Int) (l:List Int):Prop where
 locs:s.locs<=t.locs
 inn:Inn t
 fin:∀c∈l,s.locs<=c/\c<t.locs
 none:∀c∈l,outs t.es c=[]
 dup:l.Nodup
 old:∀k,k<s.locs->k≠a->outs t.es k=outs s.es k
 good:∀k,s.locs<=k->k ∉ l->GoodOut (outs t.es k)
 from_:∃P:List Ed,outs t.es a=outs s.es a++P/\∀(j:Nat) (hj:j<P.length),P[j].kind=9/\P[j].n=i+j
theorem qzz (M:ByteArray->Int) (V:ByteArray->ByteArray->Int) (a pos:Int) (l:List Bl) (h:∀b∈l,qDy M V b):∀(i:Int) (s:Fs),Inn s->0<=a->a<s.locs->Cy s (Bl.lowC M V l i pos s a).1 a i (Bl.lowC M V l i pos s a).2:=by
 induction l with
 | nil =>
  intro i s hi h0 hl
  rw[Bl.lowC]
  exact⟨Int.le_refl _,hi,by simp,by simp,by simp,λ_ _ _=>rfl,λk hk _=>by rw[hi.none hk];exact .nil,[],by simp,by simp⟩
 | cons b l ih =>
  intro i s hi h0 hl
  rw[Bl.lowC]
  have hp:=qxw hi ⟨h0,hl⟩ ⟨0,0,9,0,0,zeroEx,i,0,0,pos⟩
  have h1:=h b (by simp) noG _ _ hp
  obtain⟨q,hq⟩:∃q,b.low M V noG (s.on a ⟨0,0,9,0,0,zeroEx,i,0,0,pos⟩).1 (s.on a ⟨0,0,9,0,0,zeroEx,i,0,0,pos⟩).2=q:=⟨_,rfl⟩
  obtain⟨q1,c,q3⟩:=q
  simp only[hq] at h1 ⊢
  have l1:s.locs+1<=q1.locs:=h1.locs
  have f1:c=s.locs\/s.locs+1<=c:=h1.fin
  have t1:=h1.lt
  have o1:∀k,k<s.locs+1->k≠s.locs->outs q1.es k=outs (s.on a ⟨0,0,9,0,0,zeroEx,i,0,0,pos⟩).1.es k:=h1.old
  have g1:∀k,(k=s.locs\/s.locs+1<=k)->k≠c->GoodOut (outs q1.es k):=h1.good
  obtain⟨k1,k2,k3,k4,k5,k6,k7,P,k8,k9⟩:=ih (λd hd=>h d (by simp[hd])) (i+1) q1 h1.inn h0 (by omega)
  refine⟨by omega,k2,λd hd=>?_,λd hd=>?_,?_,λk hk ha=>?_,λk hk hn=>?_,[{ (⟨0,0,9,0,0,zeroEx,i,0,0,pos⟩:Ed) with src:=a,dst:=s.locs }]++P,?_,λj hj=>?_⟩
  ·rcases List.mem_cons.1 hd with rfl|hd
   ·omega
   ·have:=k3 d hd;omega
  ·rcases List.mem_cons.1 hd with rfl|hd
   ·rw[k6 _ (by omega) (by omega)];exact h1.none
   ·exact k4 d hd
  ·refine List.nodup_cons.2 ⟨λhd=>?_,k5⟩
   have:=k3 c hd;omega
  ·rw[k6 _ (by omega) ha,o1 _ (by omega) (by omega),qbg,if_neg ha]
  ·rw[List.mem_cons,not_or] at hn
   by_cases hq2:q1.locs<=k
   ·exact k7 k hq2 hn.2
   ·rw[k6 _ (by omega) (by omega)]
    exact g1 k (by omega) hn.1
  ·rw[k8,o1 _ (by omega) (by omega),qbg,if_pos rfl,List.append_assoc]
  ·cases j with
   | zero=>simp
   | succ j =>
    have:=k9 j (by simpa using hj)
    simp only[List.singleton_append,List.getElem_cons_succ]
    refine⟨this.1,?_⟩
    rw[this.2];push_cast;omega
theorem qBc {d pos:Int}:∀(l:List Int) (s:Fs),Inn s->(0<=d/\d<s.locs)->(∀c∈l,(0<=c/\c<s.locs)/\outs s.es c=[])->l.Nodup ->
  Inn (l.foldl (λt x=>t.lay x d (qag pos 0)) s)/\(l.foldl (λt x=>t.lay x d (qag pos 0)) s).locs=s.locs/\(∀k,k ∉ l->outs (l.foldl (λt x=>t.lay x d (qag pos 0)) s).es k=outs s.es k)/\∀k∈l,GoodOut (outs (l.foldl (λt x=>t.lay x d (qag pos 0)) s).es k):=by
 intro l
 induction l with
 | nil=>intro s hi _ _ _;exact⟨hi,rfl,λ_ _=>rfl,by simp⟩
 | cons x l ih =>
  intro s hi hd hl hn
  obtain⟨n1,n2⟩:=List.nodup_cons.1 hn
  have hx:=hl x (by simp)
  obtain⟨i1,i2,i3,i4⟩:=ih (s.lay x d (qag pos 0)) (hi.lay hx.1 hd _) hd (λc hc=>⟨(hl c (by simp[hc])).1,by
   rw[qb3,if_neg (by rintro rfl;exact n1 hc)];exact (hl c (by simp[hc])).2⟩) n2
  refine⟨i1,i2,λk hk=>?_,λk hk=>?_⟩
  ·rw[List.mem_cons,not_or] at hk
   refine (i3 k hk.2).trans ?_
   rw[qb3,if_neg hk.1]
  ·by_cases hk2:k∈l
   ·exact i4 k hk2
   ·have hkx:k=x:=by rcases List.mem_cons.1 hk with e|e;exact e;exact absurd e hk2
    subst hkx
    have h3:=i3 k hk2
    rw[qb3,if_pos rfl,hx.2] at h3
    refine Eq.subst (motive:=GoodOut) h3.symm ?_
    exact .one _ (by show (1:Int)≠2;omega) (by show (1:Int)≠9;omega)
theorem qvz {s t:Fs}{a pos:Int}{l:List Int}(h:Pw s a) (h1:Cy s t a 0 l):Wy s (l.foldl (λu x=>u.lay x t.locs (qag pos 0)) t.place) a t.locs:=by
 have hl:=h.lo
 have l1:=h1.locs
 have op:∀k,outs t.place.es k=outs t.es k:=λ_=>rfl
 obtain⟨i1,i2,i3,i4⟩:=qBc (d:=t.locs) (pos:=pos) l t.place h1.inn.place ⟨by omega,by show t.locs<t.locs+1;omega⟩ (λc hc=>⟨by have:=h1.fin c hc;show 0<=c/\c<t.locs+1;omega,h1.none c hc⟩) h1.dup
 have hlt:(l.foldl (λu x=>u.lay x t.locs (qag pos 0)) t.place).locs=t.locs+1:=i2
 refine⟨by omega,i1,.inr (by omega),⟨by omega,by omega⟩,?_,λk hk ha=>?_,λk hk hn=>?_⟩
 ·rw[i3 _ (λhm=>by have:=h1.fin _ hm;omega),op]
  exact h1.inn.none (Int.le_refl _)
 ·rw[i3 _ (λhm=>by have:=h1.fin _ hm;omega),op]
  exact h1.old k hk ha
 ·by_cases hm:k∈l
  ·exact i4 k hm
  ·rw[i3 k hm,op]
   rcases hk with rfl|hk
   ·obtain⟨P,k8,k9⟩:=h1.from_
    rw[k8,h.none,List.nil_append]
    exact .pick _ (λi hi=>⟨(k9 i hi).1,by rw[(k9 i hi).2];omega⟩)
   ·exact h1.good k hk hm
theorem St.low_wy (M:ByteArray->Int) (V:ByteArray->ByteArray->Int) (x:St):∀s a,Pw s a->Wy s (x.low M V s a).1 a (x.low M V s a).2:=
 St.ind (P:=λx=>∀s a,Pw s a->Wy s (x.low M V s a).1 a (x.low M V s a).2) (Q:=qDy M V) (λkind mon name n e ad cap blocks pos ih s a hp=>by
   unfold St.low
   split
   ·exact Wy.on hp _ (by show (1:Int)≠2;omega) (by show (1:Int)≠9;omega)
   split
   ·exact Wy.on hp _ (by show (3:Int)≠2;omega) (by show (3:Int)≠9;omega)
   split
   ·exact Wy.on hp _ (by show (7:Int)≠2;omega) (by show (7:Int)≠9;omega)
   split
   ·exact Wy.on hp _ (by show (8:Int)≠2;omega) (by show (8:Int)≠9;omega)
   split
   ·exact qvz hp (qzz M V a pos blocks ih 0 s hp.inn hp.lo.1 hp.lo.2)
   cases blocks with
   | nil=>exact Wy.refl hp
   | cons b t =>
    have hb:=ih b (by simp)
    dsimp only
    split
    ·have h1:=Wy.on hp (edE 4 (M mon) pos) (by show (4:Int)≠2;omega) (by show (4:Int)≠9;omega)
     have h2:=hb noG _ _ h1.pw
     exact (h1.trans h2).trans (Wy.on h2.pw _ (by show (5:Int)≠2;omega) (by show (5:Int)≠9;omega))
    split
    ·have h1:=hb ⟨0,notE e,false⟩ _ _ (qxw hp.inn hp.lo (qah e.top e.pos 0))
     have hl:=hp.lo
     have l1:s.locs+1<=(b.low M V ⟨0,notE e,false⟩ (s.on a (qah e.top e.pos 0)).1 (s.on a (qah e.top e.pos 0)).2).1.locs:=h1.locs
     have hi:=(h1.inn.on h1.lt (qag pos (b.low M V ⟨0,notE e,false⟩ (s.on a (qah e.top e.pos 0)).1 (s.on a (qah e.top e.pos 0)).2).2.2))
     have h2:=qxw hi (a:=a) ⟨hl.1,by show a<_+1;omega⟩ (qah (notE e) e.pos 0)
     cases t with
     | nil=>exact qCs hp h1 (Wy.refl h2)
     | cons c t=>exact qCs hp h1 (ih c (by simp) ⟨0,e.top,false⟩ _ _ h2)
    split
    ·exact qyp hp (hb ⟨0,notE e,true⟩ _ _ (qxw hp.inn hp.lo (qah e.top e.pos 0)))
    split
    ·exact qBd hp (hb noG _ _ hp)
    ·exact Wy.refl hp)
  (λad cap body ih=>by
   intro g s a hp
   rw[Bl.low]
   have key:∀(l:List St),(∀x∈l,∀s a,Pw s a->Wy s (x.low M V s a).1 a (x.low M V s a).2)->∀s a last,Pw s a->Wy s (St.lowL M V l g s a last).1 a (St.lowL M V l g s a last).2.1:=by
    intro l
    induction l with
    | nil=>intro _ s a last hp;rw[St.lowL];exact Wy.refl hp
    | cons x l ihl =>
     intro h s a last hp
     rcases x with ⟨kind,mon,name,n,e,ad,cap,blocks,pos⟩
     rw[St.lowL]
     split
     ·have h1:=Wy.wait hp (M mon) n pos g
      exact h1.trans (ihl (λy hy=>h y (by simp[hy])) _ _ _ h1.pw)
     ·have h1:=h (.mk kind mon name n e ad cap blocks pos) (by simp) s a hp
      exact h1.trans (ihl (λy hy=>h y (by simp[hy])) _ _ _ h1.pw)
   exact key body ih s a 0 hp) x
theorem Bl.low_wy (M:ByteArray->Int) (V:ByteArray->ByteArray->Int) (b:Bl) (g:Gu) (s:Fs) (a:Int) (hp:Pw s a):Wy s (b.low M V g s a).1 a (b.low M V g s a).2.1:=by
 rcases b with ⟨ad,cap,body⟩
 rw[Bl.low]
 have key:∀(l:List St) s a last,Pw s a->Wy s (St.lowL M V l g s a last).1 a (St.lowL M V l g s a last).2.1:=by
  intro l
  induction l with
  | nil=>intro s a last hp;rw[St.lowL];exact Wy.refl hp
  | cons x l ihl =>
   intro s a last hp
   rcases x with ⟨kind,mon,name,n,e,ad,cap,blocks,pos⟩
   rw[St.lowL]
   split
   ·have h1:=Wy.wait hp (M mon) n pos g
    exact h1.trans (ihl _ _ _ h1.pw)
   ·have h1:=St.low_wy M V (.mk kind mon name n e ad cap blocks pos) s a hp
    exact h1.trans (ihl _ _ _ h1.pw)
 exact key body s a 0 hp
def Fs.new:Fs:=⟨1,[],[]⟩
theorem qxa (M:ByteArray->Int) (V:ByteArray->ByteArray->Int) (b:Bl):Inn (b.low M V noG Fs.new 0).1/\∀k,0<=k->GoodOut (outs (b.low M V noG Fs.new 0).1.es k):=by
 have h:=Bl.low_wy M V b noG Fs.new 0 ⟨(λx hx=>by cases hx),⟨by omega,by show (0:Int)<1;omega⟩,rfl⟩
 refine⟨h.inn,λk hk=>?_⟩
 by_cases hc:k=(b.low M V noG Fs.new 0).2.1
 ·rw[hc,h.none];exact .nil
 ·refine h.good k ?_ hc
  show k=0\/1<=k
  omega
