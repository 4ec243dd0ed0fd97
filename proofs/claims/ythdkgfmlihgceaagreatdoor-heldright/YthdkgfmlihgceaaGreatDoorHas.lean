import Derived.Test.YthdkgfmlihgceaaGreatDoorHar
import Derived.Deep.AppendLies
import Derived.Deep.RegionHeld3
namespace Go.Proofs.YthdkgfmlihgceaaGreatDoor
set_option maxRecDepth 100000
set_option maxHeartbeats 16000000
open Go.RowKit
theorem qi7 {α β:Type}(f:α->β->α) (a:α) (l:List β) (k:Nat) (h:k<l.length):(l.take (k+1)).foldl f a=f ((l.take k).foldl f a) l[k]:=by
 rw[List.take_succ_eq_append_getElem h,List.foldl_append];rfl
theorem qzg {G:Ref->List Ref}{U:List Ref}(hU:∀r∈U,∀x∈G r,x∈U) (n:Nat):∀(st:List Ref × List Ref) (r:Ref),r∈U->(dfs G n st r).2.length+left U (dfs G n st r).1<=st.2.length+left U st.1:=by
 induction n with
 | zero=>intro st r _;exact Nat.le_refl _
 | succ n ih =>
  rintro⟨S,A⟩ r hr
  by_cases h:r∈S
  ·rw[qcu h];exact Nat.le_refl _
  ·rw[qdz h]
   have hf:∀(l:List Ref),(∀x∈l,x∈U)->∀st:List Ref × List Ref,(l.foldl (dfs G n) st).2.length+left U (l.foldl (dfs G n) st).1<=st.2.length+left U st.1:=by
    intro l
    induction l with
    | nil=>intro _ st;exact Nat.le_refl _
    | cons x l ihl=>intro hl st;exact Nat.le_trans (ihl (λy hy=>hl y (by simp[hy])) _) (ih st x (hl x (by simp)))
   have h1:=hf (G r) (hU r hr) (S++[r],A)
   have h2:=qdd hr h
   simp only[List.length_append,List.length_cons,List.length_nil] at h1 ⊢
   omega
theorem qel {G:Ref->List Ref}{U:List Ref}(hU:∀r∈U,∀x∈G r,x∈U) (n:Nat) (l:List Ref):(∀x∈l,x∈U)->∀st:List Ref × List Ref,(l.foldl (dfs G n) st).2.length+left U (l.foldl (dfs G n) st).1<=st.2.length+left U st.1:=by
 induction l with
 | nil=>intro _ st;exact Nat.le_refl _
 | cons x l ihl=>intro hl st;exact Nat.le_trans (ihl (λy hy=>hl y (by simp[hy])) _) (qzg hU n st x (hl x (by simp)))
theorem qi3 (b:Bl) (ad:Option Addr) (cap:Nat):qac (.mk ad cap b.body)=qac b:=by
 rcases b with ⟨ad',cap',body⟩
 rw[qac,qac,Bl.subs_mk,Bl.subs_mk];rfl
theorem qb8 {l:List Mo}{a c:ByteArray}{f:Me}(h:qar l a c=some f):∃m∈l,f∈m.meths:=by
 unfold qar at h
 split at h
 ·cases h
 ·split at h
  ·cases h
  ·rename_i m hm
   split at h
   ·cases h
   ·exact⟨m,List.mem_of_getElem? hm,List.mem_of_getElem? h⟩
theorem qh3 (p:Pr) (r:Ref):∀x∈qae p r,x∈qaj p:=by
 intro x hx
 rw[qae,qam] at hx
 split at hx
 ·rename_i f hf
  obtain⟨m,hm,hfm⟩:=qb8 hf
  exact List.mem_flatMap.2 ⟨m,hm,List.mem_flatMap.2 ⟨f,hfm,hx⟩⟩
 ·rw[qac,Bl.subs_mk] at hx;simp[qav] at hx
theorem qf8 (p:Pr) (l:List Ref):∀r∈l++qaj p,∀x∈qae p r,x∈l++qaj p:=λr _ x hx=>List.mem_append.2 (.inr (qh3 p r x hx))
def Book (W:World) (n b:Nat) (p:Pr):Prop:=b<n/\∃L,KMap W b L/\∀r:Ref,(qar p.mons r.1 r.2=none/\qfs L r=none) \/
 ∃m ad cap cad ccap,qar p.mons r.1 r.2=some m/\qfs L r=some (.agg #[.slice ad m.body.body.length cap,.slice cad (qac m.body).length ccap])/\(Bl.mk ad cap m.body.body).Is n W/\SlAt 2 qbi n W cad ccap (qac m.body)
theorem Book.below {W W':World}{n b:Nat}{p:Pr}(h:Book W n b p) (hb:Below n W W'):Book W' n b p:=by
 obtain⟨h1,L,h2,h3⟩:=h
 refine⟨h1,L,h2.below hb h1,λr=>?_⟩
 rcases h3 r with h|⟨m,ad,cap,cad,ccap,e1,e2,e3,e4⟩
 ·exact .inl h
 ·exact .inr ⟨m,ad,cap,cad,ccap,e1,e2,e3.below hb,e4.below hb⟩
theorem qy3 (W:World):(zeroValue 137).run Tryz.prog W=.ok (.agg #[.slice none 0 0,.slice none 0 0]) W:=by kernel_rfl
theorem Book.look {W:World}{n b:Nat}{p:Pr}(h:Book W n b p) {r:Ref}(hr:qct r) :
  ∃ad cap cad ccap,(Instr.lookup 112 (.map (some b)) (.agg #[.string r.1,.string r.2]) false).run Tryz.prog W=.ok (.agg #[.slice ad (qam p r).body.length cap,.slice cad (qae p r).length ccap]) W/\(Bl.mk ad cap (qam p r).body).Is n W/\SlAt 2 qbi n W cad ccap (qae p r):=by
 obtain⟨h1,L,h2,h3⟩:=h
 have hl:=qde h2 Tryz.underlying112 (qy3 W) hr
 rcases h3 r with ⟨e1,e2⟩|⟨m,ad,cap,cad,ccap,e1,e2,e3,e4⟩
 ·have hb:qam p r=.mk none 0 []:=by rw[qam,e1]
  have hc:qae p r=[]:=by rw[qae,hb,qac,Bl.subs_mk];rfl
  rw[e2] at hl
  refine⟨none,0,none,0,?_,?_,?_⟩
  ·rw[hb,hc];exact hl
  ·rw[hb];exact Bl.Is.up ⟨⟨by simp[Bl.body],by unfold maxLen;omega,.inl rfl⟩,λs hs=>by simp[Bl.body] at hs⟩
  ·rw[hc];exact⟨by simp,by unfold maxLen;omega,.inl rfl⟩
 ·have hb:qam p r=m.body:=by rw[qam,e1]
  rw[e2] at hl
  exact⟨ad,cap,cad,ccap,by rw[qae,hb];exact hl,by rw[hb];exact e3,by rw[qae,hb];exact e4⟩
theorem Book.look2 {W:World}{n b:Nat}{p:Pr}(h:Book W n b p) {r:Ref}(hr:qct r) :
  ∃ad cap cad ccap,(Instr.lookup 112 (.map (some b)) (.agg #[.string r.1,.string r.2]) true).run Tryz.prog W=.ok (.tuple #[.agg #[.slice ad (qam p r).body.length cap,.slice cad (qae p r).length ccap],.bool (qar p.mons r.1 r.2).isSome]) W:=by
 obtain⟨h1,L,h2,h3⟩:=h
 have hl:=qw6 h2 Tryz.underlying112 (qy3 W) hr
 rcases h3 r with ⟨e1,e2⟩|⟨m,ad,cap,cad,ccap,e1,e2,e3,e4⟩
 ·have hb:qam p r=.mk none 0 []:=by rw[qam,e1]
  have hc:qae p r=[]:=by rw[qae,hb,qac,Bl.subs_mk];rfl
  rw[e2] at hl;rw[e1,hb,hc];exact⟨none,0,none,0,hl⟩
 ·have hb:qam p r=m.body:=by rw[qam,e1]
  rw[e2] at hl;rw[e1,qae,hb];exact⟨ad,cap,cad,ccap,hl⟩
theorem qzl (ad cad:Option Addr) (l c k d:Nat) (W:World):(Instr.field 137 (.agg #[.slice ad l c,.slice cad k d]) 1).run Tryz.prog W=.ok (.slice cad k d) W:=by kernel_rfl
structure Rch (W:World) (base bS bM bB b bR bA:Nat) (S A:List Ref):Prop where
 row:∃v,Boxed W bA 134 v/\W.ownsRow base 116 2 v A.length (A.flatMap qbi)
 box:Boxed W bS 141 (.map (some bM))
 map:KMap W bM (ones S)
 bk:Boxed W bB 112 (.map (some b))
 fn:Boxed W bR 177 (.func (.func 90) #[] #[.pointer (some ⟨bS,0,none⟩),.pointer (some ⟨bB,0,none⟩),.pointer (some ⟨bR,0,none⟩),.pointer (some ⟨bA,0,none⟩)])
 lo:base<=bA/\base<=bM/\bS≠bA/\bR≠bA/\bB≠bA
theorem Rch.kept {W W':World}{base bS bM bB b bR bA:Nat}{S A:List Ref}(h:Rch W base bS bM bB b bR bA S A) (hb:Below W.heap.size W W'):Rch W' base bS bM bB b bR bA S A:=by
 obtain⟨⟨v,h1,h2⟩,h3,h4,h5,h6,h7⟩:=h
 exact⟨⟨v,qbl h1 hb,qaq h2 hb⟩,qbl h3 hb,h4.below hb h4.lt,qbl h5 hb,qbl h6 hb,h7⟩
def Apart (W:World) (bA k:Nat):Prop:=∀v,Boxed W bA 134 v->v.ownBlock≠some k
def Kr (bM bA:Nat) (w w':World):Prop:=w.heap.size<=w'.heap.size/\∀k,k<w.heap.size->k≠bM->k≠bA->Apart w bA k->w'.heap[k]?=w.heap[k]?/\Apart w' bA k
theorem Kr.refl (bM bA:Nat) (w:World):Kr bM bA w w:=⟨Nat.le_refl _,λ_ _ _ _ h=>⟨rfl,h⟩⟩
theorem Kr.trans {bM bA:Nat}{w u x:World}(h:Kr bM bA w u) (g:Kr bM bA u x):Kr bM bA w x:=
 ⟨Nat.le_trans h.1 g.1,λk hk h1 h2 h3=>by
  obtain⟨a,b⟩:=h.2 k hk h1 h2 h3
  obtain⟨c,d⟩:=g.2 k (Nat.lt_of_lt_of_le hk h.1) h1 h2 b
  exact⟨c.trans a,d⟩⟩
theorem Kr.below {bM bA:Nat}{w w':World}(hb:Below w.heap.size w w') (hA:bA<w.heap.size):Kr bM bA w w':=
 ⟨hb.size,λk hk _ _ h3=>⟨hb.block k hk,λv hv=>h3 v ((hb.block bA hA).symm.trans hv)⟩⟩
theorem Kr.grown {bM bA:Nat}{w w':World}(hg:w.grownBy w' (some bM)) (hA:bA<w.heap.size) (hne:some bA≠some bM):Kr bM bA w w':=
 ⟨hg.size,λk hk h1 _ h3=>⟨hg.block k hk (λe=>h1 (by cases e;rfl)),λv hv=>h3 v ((hg.block bA hA hne).symm.trans hv)⟩⟩
theorem Apart.of {W:World}{bA k base e size n:Nat}{v:Value}{xs:List Value}(hA:Boxed W bA 134 v) (ho:W.ownsRow base e size v n xs) (hk:W.heap.size<=k):Apart W bA k:=by
 intro u hu
 have:u=v:=by
  have e1:W.heap[bA]?=some (.cells #[u] 134 (0,0)):=hu
  have e2:W.heap[bA]?=some (.cells #[v] 134 (0,0)):=hA
  rw[e1] at e2;simpa using e2
 subst this
 rcases ho.2 with ⟨rfl,_⟩|⟨g,cap,cur,rfl,_,hgb,_⟩
 ·simp[Value.ownBlock]
 ·intro e'
  obtain rfl:g=k:=by simpa[Value.ownBlock] using e'
  have:=(Array.getElem?_eq_some_iff.1 hgb).1
  omega
theorem Kr.app {bM bA g n cap:Nat}{W w1:World}{v:Value}{tmp:Obj}(hA:Boxed W bA 134 v) (hgrow:(W.alloc tmp).grownBy w1 v.ownBlock) (hat:v.ownBlock=some g\/W.heap.size<=g) (hfin:Boxed (w1.setCell ⟨bA,0,none⟩ (.slice (some ⟨g,0,none⟩) n cap)) bA 134 (.slice (some ⟨g,0,none⟩) n cap)) :
  Kr bM bA W (w1.setCell ⟨bA,0,none⟩ (.slice (some ⟨g,0,none⟩) n cap)):=by
 have hs:=hgrow.size
 simp at hs
 refine⟨by have:=(grownBy_setCell' w1 bA (.slice (some ⟨g,0,none⟩) n cap)).size;omega,λk hk _ h2 h3=>⟨?_,λu hu=>?_⟩⟩
 ·refine (Below.heap_setCell _ ⟨bA,0,none⟩ _ k h2).trans ((hgrow.block k (by simp;omega) (λe=>h3 v hA e.symm)).trans (Below.heap_alloc _ _ _ hk))
 ·have:u=.slice (some ⟨g,0,none⟩) n cap:=by
   have e1:(w1.setCell ⟨bA,0,none⟩ (.slice (some ⟨g,0,none⟩) n cap)).heap[bA]?=some (.cells #[u] 134 (0,0)):=hu
   have e2:(w1.setCell ⟨bA,0,none⟩ (.slice (some ⟨g,0,none⟩) n cap)).heap[bA]?=some (.cells #[.slice (some ⟨g,0,none⟩) n cap] 134 (0,0)):=hfin
   rw[e1] at e2;simpa using e2
  subst this
  intro e
  obtain rfl:g=k:=by simpa[Value.ownBlock] using e
  rcases hat with h|h
  ·exact h3 v hA h
  ·omega
def qDu (p:Pr) (U:List Ref) (base bS bM bB b bR bA n:Nat):Prop:=∀(nz:Nat) (S A:List Ref) (r:Ref) (w:World),nz<=base->base<=w.heap.size->Book w nz b p->Rch w base bS bM bB b bR bA S A->r∈U->left U S<=n->A.length+left U S<=1000000 ->
 Calls Tryz.prog 90 #[.agg #[.string r.1,.string r.2],.pointer (some ⟨bS,0,none⟩),.pointer (some ⟨bB,0,none⟩),.pointer (some ⟨bR,0,none⟩),.pointer (some ⟨bA,0,none⟩)] w λe w'=>e=.returned (.tuple #[])/\Rch w' base bS bM bB b bR bA (dfs (qae p) n (S,A) r).1 (dfs (qae p) n (S,A) r).2/\Below base w w'/\Kr bM bA w w'
theorem ql6 {p:Pr}{U:List Ref}{base bS bM bB b bR bA n:Nat}(hV:∀r∈U,qct r) (S A:List Ref) (r:Ref) (w:World) (hb:base<=w.heap.size) (hR:Rch w base bS bM bB b bR bA S A) (hr:r∈U) (hm:r∈S) :
  Calls Tryz.prog 90 #[.agg #[.string r.1,.string r.2],.pointer (some ⟨bS,0,none⟩),.pointer (some ⟨bB,0,none⟩),.pointer (some ⟨bR,0,none⟩),.pointer (some ⟨bA,0,none⟩)] w λe w'=>e=.returned (.tuple #[])/\Rch w' base bS bM bB b bR bA (dfs (qae p) n (S,A) r).1 (dfs (qae p) n (S,A) r).2/\Below base w w'/\Kr bM bA w w':=by
 rw[qcu hm]
 have hvl:=hV r hr
 obtain⟨bX,hBX,hzX⟩:=qal w #[.string r.1,.string r.2] 116
 have hR0:=hR.kept hBX
 have hlk:=qde hR0.map Tryz.underlying141 (qin _) hvl
 rw[qex,if_pos hm] at hlk
 have cS:=hR0.box.cell
 have hB0:=hBX.mono hb
 have hK0:Kr bM bA w (w.alloc (.cells #[.string r.1,.string r.2] 116)):=Kr.below hBX (by obtain⟨⟨_,g,_⟩,_⟩:=hR;exact g.lt)
 clear hm hzX bX
 go_enter Tryz.func90,Tryz.ntmps90
 go_wp2
 refine bodyPost_ret (results_none rfl _ _ _) rfl ?_
 exact⟨rfl,hR0,hB0,hK0⟩
theorem quk {p:Pr}{U:List Ref}{base bS bM bB b bR bA m:Nat}(hV:∀r∈U,qct r) (hU:∀r∈U,∀x∈qae p r,x∈U) (ih:qDu p U base bS bM bB b bR bA m)
  (nz:Nat) (S A:List Ref) (r:Ref) (w:World) (hn:nz<=base) (hb:base<=w.heap.size) (hBk:Book w nz b p) (hR:Rch w base bS bM bB b bR bA S A) (hr:r∈U) (hm:r ∉ S) (hlf:left U S<=m+1) (hlen:A.length+left U S<=1000000) :
  Calls Tryz.prog 90 #[.agg #[.string r.1,.string r.2],.pointer (some ⟨bS,0,none⟩),.pointer (some ⟨bB,0,none⟩),.pointer (some ⟨bR,0,none⟩),.pointer (some ⟨bA,0,none⟩)] w λe w'=>e=.returned (.tuple #[])/\Rch w' base bS bM bB b bR bA (dfs (qae p) (m+1) (S,A) r).1 (dfs (qae p) (m+1) (S,A) r).2/\Below base w w'/\Kr bM bA w w':=by
 rw[qdz hm]
 have hvl:=hV r hr
 have hlf2:=qdd hr hm
 have hUr:=hU r hr
 rcases r with ⟨mon,name⟩
 obtain⟨gs,hgs⟩:∃gs,qae p (mon,name)=gs:=⟨_,rfl⟩
 rw[hgs] at hUr ⊢
 have HG:=hid hgs
 clear hgs
 obtain⟨bX,hBX,hzX⟩:=qal w #[.string mon,.string name] 116
 have hR0:=hR.kept hBX
 have hB0:=hBX.mono hb
 go_enter Tryz.func90,Tryz.ntmps90
 go_upto_region 1 with fail
 obtain⟨Bs,hBs⟩:∃Bs,w.heap.size=Bs:=⟨_,rfl⟩
 obtain⟨W2,hW2⟩:∃W2,w.alloc (.cells #[.string mon,.string name] 116)=W2:=⟨_,rfl⟩
 have hBk0:Book W2 nz b p:=by rw[<- hW2];exact hBk.below (hBX.mono (by omega))
 rw[hW2] at bX hR0 hB0 ⊢
 rw[hBs] at bX ⊢
 have hBsW:Bs<W2.heap.size:=(Array.getElem?_eq_some_iff.1 bX).1
 have hK0:Kr bM bA w W2:=by rw[<- hW2];exact Kr.below hBX (by obtain⟨⟨_,g,_⟩,_⟩:=hR;exact g.lt)
 have hAp0:Apart W2 bA Bs:=by
  obtain⟨⟨v,g1,g2⟩,_⟩:=hR
  have h1:=Apart.of g1 g2 (Nat.le_of_eq hBs)
  intro u hu
  exact h1 u (((hBX.block bA g1.lt).symm.trans (by rw[hW2];exact hu)))
 have HNB:Hid (Bs≠bM/\Bs≠bA):=by
  obtain⟨⟨v,g1,_⟩,_,g2,_,_⟩:=hR
  have e1:=g1.lt
  have e2:=g2.lt
  exact⟨by omega,by omega⟩
 have y0:=cellOf bX 0
 have y1:=cellOf bX 1
 simp at y0 y1
 have cS:=hR0.box.cell
 have hlk:=qde hR0.map Tryz.underlying141 (qin _) hvl
 rw[qex,if_neg hm] at hlk
 have hmk:(mon,name) ∉ (ones S).map Prod.fst:=by rw[qg9];exact hm
 have hMd:KMap W2.drew bM (ones S):=hR0.map
 have E0:=qot hMd Tryz.underlying141 hvl hmk
 have hMe:KMap (kmW W2.drew bM (ones S++[((mon,name),.int .i64 0)])) bM (ones S++[((mon,name),.int .i64 0)]):=qgf hMd (qer hMd.2.1 hvl _) (qdr hMd.2.2 _ hmk)
 have L0:=qde hMd Tryz.underlying141 (qin _) hvl
 rw[qex,if_neg hm] at L0
 have L1:=qde hMe Tryz.underlying141 (qin _) hvl
 have hkg:qfs (ones S++[((mon,name),.int .i64 0)]) (mon,name)=some (.int .i64 0):=by
  have:=qj5 (ones S) (mon,name) (.int .i64 0) (mon,name)
  rw[qd5 _ _ _ hmk,if_pos rfl] at this
  exact this
 rw[hkg] at L1
 have E1:=qpi (T:=141) hMe
 rw[qlp,qha] at E1
 rw[qha] at E0
 simp only[Option.getD_some] at hlk L0 L1 E0 E1
 have HM:=hid hm
 clear hm hkg hMe hMd hW2 hBs hR hBX hzX hBk
 go_upto_region 2 with fail
 go_region
 have gW:=qoz W2 bM (ones S++[((mon,name),.int .i64 1)])
 have hM4:KMap (kmW W2.drew bM (ones S++[((mon,name),.int .i64 1)])) bM (ones (S++[(mon,name)])):=by
  rw[ql1]
  exact qgf (L:=ones S) hR0.map (qer hR0.map.2.1 hvl _) (qdr hR0.map.2.2 _ hmk)
 obtain⟨⟨v,hA,hown⟩,hS,hMp,hK,hF,hlo⟩:=hR0
 have hR4:Rch (kmW W2.drew bM (ones S++[((mon,name),.int .i64 1)])) base bS bM bB b bR bA (S++[(mon,name)]) A:=⟨⟨v,hA.kept gW (qb5 hA hMp),hown.kept gW (.inr (hMp.not_row hown).symm)⟩,hS.kept gW (qb5 hS hMp),hM4,hK.kept gW (qb5 hK hMp),hF.kept gW (qb5 hF hMp),hlo⟩
 have hK4:=Kr.grown (bM:=bM) (bA:=bA) gW hA.lt (qb5 hA hMp)
 have hAp4:=(hK4.2 Bs hBsW HNB.out.1 HNB.out.2 hAp0).2
 have hK4:=hK0.trans hK4
 have bX4:=(gW.block Bs hBsW (λe=>HNB.out.1 (by cases e;rfl))).trans bX
 have hB4:Below base w (kmW W2.drew bM (ones S++[((mon,name),.int .i64 1)])):=hB0.grown gW (by have:=hB0.size;omega) (λk e=>by cases e;exact hlo.2.1)
 have hBk4:Book (kmW W2.drew bM (ones S++[((mon,name),.int .i64 1)])) nz b p:=hBk0.below ((Below.refl _ _).grown gW (by have:=hB0.size;omega) (λk e=>by cases e;omega))
 obtain⟨W4,hW4⟩:∃W4,kmW W2.drew bM (ones S++[((mon,name),.int .i64 1)])=W4:=⟨_,rfl⟩
 rw[hW4] at hR4 bX4 hB4 hBk4 hK4 hAp4 ⊢
 clear hW4 gW E0 E1 L0 L1 hlk hMp hA hS hF hK hown bX y0 y1 cS hmk hM4 hBk0 hB0
 have cB:=hR4.bk.cell
 have y0:=cellOf bX4 0
 have y1:=cellOf bX4 1
 simp at y0 y1
 obtain⟨gad,gcap,cad,ccap,hlook,-,hcl⟩:=hBk4.look hvl
 simp only at hlook
 rw[HG.out] at hlook hcl
 obtain⟨gl,hgl⟩:∃gl,(qam p (mon,name)).body.length=gl:=⟨_,rfl⟩
 rw[hgl] at hlook
 clear hgl
 have hf80:=qzl
 have hcl1:=hcl.1;have hcl2:=hcl.2.1
 unfold maxLen at hcl2
 go_wp2
 clear hlook cB y0 y1
 have hz40:=hB4.size
 go_loopw [23] (λi wr=>∃k:Nat,k<=gs.length/\i=.int .i64 k/\Rch wr base bS bM bB b bR bA ((gs.take k).foldl (dfs (qae p) m) (S++[(mon,name)],A)).1 ((gs.take k).foldl (dfs (qae p) m) (S++[(mon,name)],A)).2/\Below base W4 wr/\Kr bM bA W4 wr)
  (λi _=>gs.length-(intOf i).toNat)
 case atStart=>exact⟨0,by omega,rfl,hR4,Below.refl _ _,Kr.refl _ _ _⟩
 case round =>
  obtain⟨k,hk,rfl,hRr,hbw,hKr⟩:=hrel
  have hBs4:=(Array.getElem?_eq_some_iff.1 bX4).1
  obtain⟨bXr,hApr⟩:=hKr.2 Bs hBs4 HNB.out.1 HNB.out.2 hAp4
  have bXr:=bXr.trans bX4
  have hz1:=hbw.size
  have hmn:=qbx (qae p) m (gs.take k) (S++[(mon,name)],A)
  have hln:=qel hU m (gs.take k) (λx hx=>hUr x (List.mem_of_mem_take hx)) (S++[(mon,name)],A)
  have hlm:=qcb (U:=U) hmn
  simp only at hln hlm
  obtain⟨st,hst⟩:∃st,(gs.take k).foldl (dfs (qae p) m) (S++[(mon,name)],A)=st:=⟨_,rfl⟩
  rw[hst] at hRr hln hlm
  clear hmn
  by_cases hlt:k<gs.length
  ·rcases hcl.2.2 with h|⟨qb,qoff,rfl,hqn,hqrow⟩
   ·subst h;simp at hlt
   have HF:=hid ((qi7 (dfs (qae p) m) (S++[(mon,name)],A) gs k hlt).trans (by rw[hst]))
   have hqrow2:=hqrow.below (hbw.mono hn) hqn
   have d0:=hqrow2 k hlt 0 (by omega)
   have d1:=hqrow2 k hlt 1 (by omega)
   have hqw:qb<wr.heap.size:=by omega
   have hgU:=hUr _ (List.getElem_mem hlt)
   obtain⟨bN,hBN,hzN⟩:=qal wr #[.string gs[k].1,.string gs[k].2] 116
   have hq:=ih nz st.1 st.2 gs[k] (wr.alloc (.cells #[.string gs[k].1,.string gs[k].2] 116)) hn (by simp;omega) (hBk4.below ((hbw.trans (hBN.mono (by omega))).mono hn)) (hRr.kept hBN) hgU (by omega) (by omega)
   have bXn:=(hBN.block Bs (Array.getElem?_eq_some_iff.1 bXr).1).trans bXr
   have cR:=(qbl hRr.fn hBN).cell
   simp only[qbi] at d0 d1
   simp at d0 d1
   obtain⟨g1,hg1⟩:∃g1,gs[k]=g1:=⟨_,rfl⟩
   rw[hg1] at d0 d1 hq HF bN hBN hzN bXn cR hgU
   clear hg1
   obtain⟨gm,gn⟩:=g1
   simp only at d0 d1 hq bN hBN hzN bXn cR
   have hBN2:Below base wr (wr.alloc (.cells #[.string gm,.string gn] 116)):=hBN.mono (by omega)
   have HDB:Hid (dfs (qae p) m (st.1,st.2) (gm,gn)=dfs (qae p) m st (gm,gn)):=rfl
   have hKn:Kr bM bA wr (wr.alloc (.cells #[.string gm,.string gn] 116)):=Kr.below hBN (by obtain⟨⟨_,g,_⟩,_⟩:=hRr;exact g.lt)
   clear hst hRr hBk4 bX4 bXr ih
   go_wp2_with (go_at_call 90;(with_reducible refine hq.mono ?_);rintro r w5 ⟨rfl,hR5,hb5,hk5⟩)
   go_roundw
   case rel=>exact⟨k+1,by omega,by go_num,by rw[HF.out];exact hR5,(hbw.trans hBN2).trans hb5,(hKr.trans hKn).trans hk5⟩
   case measure=>simp[intOf];omega
  ·have hkd:decide ((k:Int)<(gs.length:Int))=false:=by simp;omega
   have hke:k=gs.length:=by omega
   have HST:Hid (gs.foldl (dfs (qae p) m) (S++[(mon,name)],A)=st):=by
    show _=_
    rw[hke,List.take_length] at hst;exact hst
   clear hke hst
   obtain⟨⟨v,hA,hown⟩,hSb,hMp,hKb,hF,hlo⟩:=hRr
   have cA:=hA.cell
   have y0:=cellOf bXr 0
   have y1:=cellOf bXr 1
   simp at y0 y1
   obtain⟨i0,hi,hz0,hz1,hz2⟩:=info_parts qs3
   have hbase4:base<=wr.heap.size:=by omega
   have hstl:st.2.length<=1000000:=by omega
   have hownA:=hown.alloc (.cells #[.string mon,.string name] 116)
   have hcn:∀j u,([.string mon,.string name]:List Value)[j]?=some u->(wr.alloc (.cells #[.string mon,.string name] 116)).cell? ((⟨wr.heap.size,0,none⟩:Addr).add j)=some u:=by
    intro j u hju
    rcases j with _|_|j
    ·show (wr.alloc _).cell? ⟨wr.heap.size,0+0,none⟩=_
     rw[cellOf (qaf wr _)];simpa using hju
    ·show (wr.alloc _).cell? ⟨wr.heap.size,0+1,none⟩=_
     rw[cellOf (qaf wr _)];simpa using hju
    ·simp at hju
   go_wp2_with (at_builtin;refine wpList_append_lies _ rfl _ _ 134 rfl base 116 i0 _ 2 32 Tryz.underlying134 hi hz0 hz1 hz2 rfl (by decide) _ _ _ rfl hownA ⟨wr.heap.size,0,none⟩ 1 1 [.string mon,.string name] rfl rfl hcn (by simp[Value.oneCell']) (by omega) (by unfold maxLen;omega) (by omega) (by simp;omega) _ rfl ?_;intro g cap w1 hown' hgrow hat hlt;obtain⟨hw1,hw2,hw3,hw4,hw5⟩:=hA.appended (by decide) hown hbase4 hlo.1 hown' hgrow;have hc1:=hw1.cell;have hf1:=hw1.frozen)
   go_end0
   rw[HST.out]
   have hat2:v.ownBlock=some g\/wr.heap.size<=g:=by
    rcases hat with h|h
    ·exact .inl h
    ·right;simp at h;omega
   refine⟨rfl,⟨⟨_,hw2,by simpa[qbi] using hw3⟩,((hSb.alloc _).kept hgrow (hSb.not_row (by decide) hown)).other hlo.2.2.1 _,hMp.kept (hw4.same _ _ hMp.1 rfl |>.trans hMp.1.symm),((hKb.alloc _).kept hgrow (hKb.not_row (by decide) hown)).other hlo.2.2.2.2 _,((hF.alloc _).kept hgrow (hF.not_row (by decide) hown)).other hlo.2.2.2.1 _,hlo⟩,(hB4.trans hbw).trans hw5,(hK4.trans hKr).trans (Kr.app hA hgrow hat2 hw2)⟩
theorem quj {p:Pr}{U:List Ref}{base bS bM bB b bR bA:Nat}(hV:∀r∈U,qct r) (hU:∀r∈U,∀x∈qae p r,x∈U) (n:Nat):qDu p U base bS bM bB b bR bA n:=by
 induction n with
 | zero =>
  intro nz S A r w hn hb hBk hR hr hl hlen
  refine ql6 hV S A r w hb hR hr ?_
  by_cases hm:r∈S
  ·exact hm
  ·have:=qdd hr hm;omega
 | succ m ih =>
  intro nz S A r w hn hb hBk hR hr hl hlen
  by_cases hm:r∈S
  ·exact ql6 hV S A r w hb hR hr hm
  ·exact quk hV hU ih nz S A r w hn hb hBk hR hr hm hl hlen
theorem reached_any (p:Pr) (l:List Ref) (ad:Option Addr) (cap nz b:Nat) (w:World) (hn:nz<=w.heap.size) (hBk:Book w nz b p) (hsl:SlAt 2 qbi nz w ad cap l) (hV:∀r∈l++qaj p,qct r) (hsm:l.length+(qaj p).length<=1000000) :
  Calls Tryz.prog 58 #[.map (some b),.slice ad l.length cap] w λr w'=>qkv (qab p l) w w' r:=by
 have hU:=qf8 p l
 have hlU:∀x∈l,x∈l++qaj p:=λx hx=>List.mem_append.2 (.inl hx)
 have hlf0:left (l++qaj p) []<=l.length+(qaj p).length:=by
  refine Nat.le_trans (List.length_filter_le _ _) ?_
  simp
 have HR:=hid (show qab p l=(l.foldl (dfs (qae p) (l.length+(qaj p).length)) ([],[])).2 from rfl)
 have hra:=λ(bS bM bB bR bA:Nat)=>quj (base:=w.heap.size) (bS:=bS) (bM:=bM) (bB:=bB) (b:=b) (bR:=bR) (bA:=bA) hV hU (l.length+(qaj p).length)
 have hmm:=@run_makeMap Tryz.prog
 have hl1:=hsl.1;have hl2:=hsl.2.1
 unfold maxLen at hl2
 go_enter Tryz.func58,Tryz.ntmps58
 go_upto_region 5 with fail
 have hR0:Rch (((((w.alloc (.cells #[.map (some b)] 112)).alloc (.cells #[.slice none 0 0] 134)).alloc (.map #[] 0)).alloc (.cells #[.map (some (w.heap.size+1+1))] 141)).alloc (.cells #[.func (.func 90) #[] #[.pointer (some ⟨w.heap.size+1+1+1,0,none⟩),.pointer (some ⟨w.heap.size,0,none⟩),.pointer (some ⟨w.heap.size+1+1+1+1,0,none⟩),.pointer (some ⟨w.heap.size+1,0,none⟩)]] 177)) w.heap.size (w.heap.size+1+1+1) (w.heap.size+1+1) w.heap.size b (w.heap.size+1+1+1+1) (w.heap.size+1) [] []:=by
  refine⟨⟨.slice none 0 0,?_,World.ownsRow_nil _ _ _ _⟩,?_,?_,?_,?_,⟨by omega,by omega,by omega,by omega,by omega⟩⟩
  ·have:=(((Boxed.new (w.alloc (.cells #[.map (some b)] 112)) 134 (.slice none 0 0)).alloc (.map #[] 0)).alloc (.cells #[.map (some (w.heap.size+1+1))] 141)).alloc (.cells #[.func (.func 90) #[] #[.pointer (some ⟨w.heap.size+1+1+1,0,none⟩),.pointer (some ⟨w.heap.size,0,none⟩),.pointer (some ⟨w.heap.size+1+1+1+1,0,none⟩),.pointer (some ⟨w.heap.size+1,0,none⟩)]] 177)
   rwa [World.size_alloc] at this
  ·have:=(Boxed.new (((w.alloc (.cells #[.map (some b)] 112)).alloc (.cells #[.slice none 0 0] 134)).alloc (.map #[] 0)) 141 (.map (some (w.heap.size+1+1)))).alloc (.cells #[.func (.func 90) #[] #[.pointer (some ⟨w.heap.size+1+1+1,0,none⟩),.pointer (some ⟨w.heap.size,0,none⟩),.pointer (some ⟨w.heap.size+1+1+1+1,0,none⟩),.pointer (some ⟨w.heap.size+1,0,none⟩)]] 177)
   rwa [World.size_alloc,World.size_alloc,World.size_alloc] at this
  ·have:=((KMap.new ((w.alloc (.cells #[.map (some b)] 112)).alloc (.cells #[.slice none 0 0] 134))).al (.cells #[.map (some (w.heap.size+1+1))] 141)).al (.cells #[.func (.func 90) #[] #[.pointer (some ⟨w.heap.size+1+1+1,0,none⟩),.pointer (some ⟨w.heap.size,0,none⟩),.pointer (some ⟨w.heap.size+1+1+1+1,0,none⟩),.pointer (some ⟨w.heap.size+1,0,none⟩)]] 177)
   rwa [World.size_alloc,World.size_alloc] at this
  ·exact ((((Boxed.new w 112 (.map (some b))).alloc _).alloc _).alloc _).alloc _
  ·have:=Boxed.new ((((w.alloc (.cells #[.map (some b)] 112)).alloc (.cells #[.slice none 0 0] 134)).alloc (.map #[] 0)).alloc (.cells #[.map (some (w.heap.size+1+1))] 141)) 177 (.func (.func 90) #[] #[.pointer (some ⟨w.heap.size+1+1+1,0,none⟩),.pointer (some ⟨w.heap.size,0,none⟩),.pointer (some ⟨w.heap.size+1+1+1+1,0,none⟩),.pointer (some ⟨w.heap.size+1,0,none⟩)])
   rwa [World.size_alloc,World.size_alloc,World.size_alloc,World.size_alloc] at this
 have hB0:Below w.heap.size w (((((w.alloc (.cells #[.map (some b)] 112)).alloc (.cells #[.slice none 0 0] 134)).alloc (.map #[] 0)).alloc (.cells #[.map (some (w.heap.size+1+1))] 141)).alloc (.cells #[.func (.func 90) #[] #[.pointer (some ⟨w.heap.size+1+1+1,0,none⟩),.pointer (some ⟨w.heap.size,0,none⟩),.pointer (some ⟨w.heap.size+1+1+1+1,0,none⟩),.pointer (some ⟨w.heap.size+1,0,none⟩)]] 177)):=(((((Below.refl _ w).al qaa _).al qaa _).al qaa _).al qaa _).al qaa _
 obtain⟨W0,hW0⟩:∃W0,(((((w.alloc (.cells #[.map (some b)] 112)).alloc (.cells #[.slice none 0 0] 134)).alloc (.map #[] 0)).alloc (.cells #[.map (some (w.heap.size+1+1))] 141)).alloc (.cells #[.func (.func 90) #[] #[.pointer (some ⟨w.heap.size+1+1+1,0,none⟩),.pointer (some ⟨w.heap.size,0,none⟩),.pointer (some ⟨w.heap.size+1+1+1+1,0,none⟩),.pointer (some ⟨w.heap.size+1,0,none⟩)]] 177))=W0:=⟨_,rfl⟩
 rw[hW0] at hR0 hB0 ⊢
 clear hW0
 have hq:=hra (w.heap.size+1+1+1) (w.heap.size+1+1) w.heap.size (w.heap.size+1+1+1+1) (w.heap.size+1)
 clear hra hmm
 obtain⟨N,hN⟩:∃N,l.length+(qaj p).length=N:=⟨_,rfl⟩
 rw[hN] at hq HR hlf0 hsm
 clear hN
 go_wp2
 go_loopw [14] (λi wr=>∃k:Nat,k<=l.length/\i=.int .i64 k/\Rch wr w.heap.size (w.heap.size+1+1+1) (w.heap.size+1+1) w.heap.size b (w.heap.size+1+1+1+1) (w.heap.size+1) ((l.take k).foldl (dfs (qae p) N) ([],[])).1 ((l.take k).foldl (dfs (qae p) N) ([],[])).2/\Below w.heap.size w wr)
  (λi _=>l.length-(intOf i).toNat)
 case atStart=>exact⟨0,by omega,rfl,hR0,hB0⟩
 case round =>
  obtain⟨k,hk,rfl,hRr,hbw⟩:=hrel
  have hz1:=hbw.size
  have hln:=qel hU N (l.take k) (λx hx=>hlU x (List.mem_of_mem_take hx)) ([],[])
  have hlm:=qcb (U:=l++qaj p) (qbx (qae p) N (l.take k) ([],[]))
  simp only[List.length_nil] at hln hlm
  obtain⟨st,hst⟩:∃st,(l.take k).foldl (dfs (qae p) N) ([],[])=st:=⟨_,rfl⟩
  rw[hst] at hRr hln hlm
  by_cases hlt:k<l.length
  ·rcases hsl.2.2 with h|⟨qb,qoff,rfl,hqn,hqrow⟩
   ·subst h;simp at hlt
   have HF:=hid ((qi7 (dfs (qae p) N) ([],[]) l k hlt).trans (by rw[hst]))
   have hqrow2:=hqrow.below (hbw.mono hn) hqn
   have d0:=hqrow2 k hlt 0 (by omega)
   have d1:=hqrow2 k hlt 1 (by omega)
   have hqw:qb<wr.heap.size:=by omega
   have hgU:=hlU _ (List.getElem_mem hlt)
   obtain⟨bN,hBN,hzN⟩:=qal wr #[.string l[k].1,.string l[k].2] 116
   have hqc:=hq nz st.1 st.2 l[k] (wr.alloc (.cells #[.string l[k].1,.string l[k].2] 116)) hn (by simp;omega) (hBk.below ((hbw.trans (hBN.mono (by omega))).mono hn)) (hRr.kept hBN) hgU (by omega) (by omega)
   have cR:=(qbl hRr.fn hBN).cell
   simp only[qbi] at d0 d1
   simp at d0 d1
   obtain⟨g1,hg1⟩:∃g1,l[k]=g1:=⟨_,rfl⟩
   rw[hg1] at d0 d1 hqc HF bN hBN hzN cR
   clear hg1 hq hgU
   obtain⟨gm,gn⟩:=g1
   simp only at d0 d1 hqc bN hBN hzN cR
   have hBN2:Below w.heap.size wr (wr.alloc (.cells #[.string gm,.string gn] 116)):=hBN.mono (by omega)
   clear hst hRr hR0
   go_wp2_with (go_at_call 90;(with_reducible refine hqc.mono ?_);rintro r w5 ⟨rfl,hR5,hb5,hk5⟩)
   go_roundw
   case rel=>exact⟨k+1,by omega,by go_num,by rw[HF.out];exact hR5,(hbw.trans hBN2).trans hb5⟩
   case measure=>simp[intOf];omega
  ·have hkd:decide ((k:Int)<(l.length:Int))=false:=by simp;omega
   have hke:k=l.length:=by omega
   have HST:Hid (qab p l=st.2):=by
    show _=_
    rw[hke,List.take_length] at hst;rw[HR.out,hst]
   clear hke hst
   obtain⟨v,hA,hown⟩:=hRr.row
   have cA:=hA.cell
   go_wp2
   go_ret
   exact⟨v,rfl,by rw[HST.out];exact hown,hbw⟩
open Go.RowKit
theorem SlAt.cells {α:Type}{size:Nat}{cs:α->List Value}{nz:Nat}{W W':World}{ad:Option Addr}{cap:Nat}{l:List α}(hc:∀a:Addr,W'.cell? a=W.cell? a) (h:SlAt size cs nz W ad cap l):SlAt size cs nz W' ad cap l:=by
 obtain⟨h1,h2,h3⟩:=h
 refine⟨h1,h2,?_⟩
 rcases h3 with h3|⟨b,off,h4,h5,h6⟩
 ·exact .inl h3
 ·exact .inr ⟨b,off,h4,h5,λj hj i hi=>(hc _).trans (h6 j hj i hi)⟩
theorem Ex.Is.cells {nz:Nat}{W W':World}(hc:∀a:Addr,W'.cell? a=W.cell? a):∀ {e:Ex},e.Is nz W->e.Is nz W':=by
 intro e
 induction e using Ex.ind with
 | h op mon name n ad cap kids pos ih =>
  intro h
  exact Ex.Is.up ⟨h.down.1,h.down.2.1.cells hc,λx hx=>ih x hx (h.down.2.2 x hx)⟩
theorem Bl.Is.cells {nz:Nat}{W W':World}(hc:∀a:Addr,W'.cell? a=W.cell? a) {b:Bl}:b.Is nz W->b.Is nz W':=
 Bl.ind (P:=λs=>s.Is nz W->s.Is nz W') (Q:=λb=>b.Is nz W->b.Is nz W') (λ_ _ _ _ _ _ _ _ _ ih h=>St.Is.up ⟨h.down.1,h.down.2.1.cells hc,h.down.2.2.1.cells hc,λb hb'=>ih b hb' (h.down.2.2.2 b hb')⟩)
  (λ_ _ _ ih h=>Bl.Is.up ⟨h.down.1.cells hc,λs hs=>ih s hs (h.down.2 s hs)⟩) b
theorem qwx {W:World}{b:Nat}{L:List (Ref × Value)}(h:KMap W b L) (L':List (Ref × Value)) (a:Addr):(kmW W b L').cell? a=W.cell? a:=by
 have hb:=h.1
 by_cases e:a.block=b
 ·have h1:(kmW W b L').heap[a.block]?=some (.map (qe7 L').toArray L'.length):=by
   rw[e]
   have:=h.lt
   simp[kmW,ChangeMaps.setBlock,this]
  rw[<- e] at hb
  simp[World.cell?,h1,hb]
 ·have h1:(kmW W b L').heap[a.block]?=W.heap[a.block]?:=by
   show (W.heap.setIfInBounds b _)[a.block]?=_
   rw[Array.getElem?_setIfInBounds_ne (λh=>e h.symm)]
  simp[World.cell?,h1]
def PBook (W:World) (b:Nat) (p:Pr) (V:List Ref):Prop:=∃L,KMap W b L/\∀r:Ref,(qfs L r=none/\(r∈V->qar p.mons r.1 r.2=none)) \/
 ∃m ad cap cad ccap,qar p.mons r.1 r.2=some m/\qfs L r=some (.agg #[.slice ad m.body.body.length cap,.slice cad (qac m.body).length ccap])/\(Bl.mk ad cap m.body.body).Is W.heap.size W/\SlAt 2 qbi W.heap.size W cad ccap (qac m.body)
theorem PBook.lt {W:World}{b:Nat}{p:Pr}{V:List Ref}(h:PBook W b p V):b<W.heap.size:=by obtain⟨L,h1,_⟩:=h;exact h1.lt
theorem PBook.kept {W W':World}{b:Nat}{p:Pr}{V:List Ref}(h:PBook W b p V) (hb:Below W.heap.size W W'):PBook W' b p V:=by
 obtain⟨L,h1,h2⟩:=h
 refine⟨L,h1.below hb h1.lt,λr=>?_⟩
 rcases h2 r with h|⟨m,ad,cap,cad,ccap,e1,e2,e3,e4⟩
 ·exact .inl h
 ·exact .inr ⟨m,ad,cap,cad,ccap,e1,e2,(e3.below hb).mono hb.size,(e4.below hb).mono hb.size⟩
theorem PBook.none {W:World}{b:Nat}{p:Pr}{V:List Ref}(h:PBook W b p V) {r:Ref}(hr:qar p.mons r.1 r.2=none):PBook W b p (V++[r]):=by
 obtain⟨L,h1,h2⟩:=h
 refine⟨L,h1,λs=>?_⟩
 rcases h2 s with ⟨e1,e2⟩|h
 ·refine .inl ⟨e1,λhs=>?_⟩
  rcases List.mem_append.1 hs with hs|hs
  ·exact e2 hs
  ·rw[List.mem_singleton.1 hs];exact hr
 ·exact .inr h
theorem PBook.put {W:World}{b:Nat}{p:Pr}{V:List Ref}(h:PBook W b p V) {r:Ref}{m:Me}(hv:qct r) (hr:qar p.mons r.1 r.2=some m) {ad:Option Addr}{cap:Nat}{cad:Option Addr}{ccap:Nat}(hI:(Bl.mk ad cap m.body.body).Is W.heap.size W) (hc:SlAt 2 qbi W.heap.size W cad ccap (qac m.body)) :
  ∃W',(Instr.mapUpdate 112 (.map (some b)) (.agg #[.string r.1,.string r.2]) (.agg #[.slice ad m.body.body.length cap,.slice cad (qac m.body).length ccap])).run Tryz.prog W=.ok () W'/\PBook W' b p (V++[r])/\W.grownBy W' (some b):=by
 obtain⟨L,h1,h2⟩:=h
 refine⟨_,qy1 h1 Tryz.underlying112 hv _,⟨_,h1.put hv _,λs=>?_⟩,qln _ _ _⟩
 have hcell:=qwx h1 (qmt L r (.agg #[.slice ad m.body.body.length cap,.slice cad (qac m.body).length ccap]))
 rw[qj5,qo0]
 by_cases es:s=r
 ·subst es
  rw[if_pos rfl]
  exact .inr ⟨m,ad,cap,cad,ccap,hr,rfl,hI.cells hcell,hc.cells hcell⟩
 ·rw[if_neg es]
  rcases h2 s with ⟨e1,e2⟩|⟨m,ad,cap,cad,ccap,e1,e2,e3,e4⟩
  ·refine .inl ⟨e1,λhs=>?_⟩
   rcases List.mem_append.1 hs with hs|hs
   ·exact e2 hs
   ·exact absurd (List.mem_singleton.1 hs) es
  ·exact .inr ⟨m,ad,cap,cad,ccap,e1,e2,e3.cells hcell,e4.cells hcell⟩
def qkb (m:Mo):List Ref:=m.meths.map λf=>(m.name,f.name)
def qis (l:List Mo):List Ref:=l.flatMap qkb
theorem qlw {l:List Mo}{a c:ByteArray}{f:Me}(h:qar l a c=some f):(a,c)∈qis l:=by
 unfold qar at h
 split at h
 ·cases h
 ·rename_i i hi
  split at h
  ·cases h
  ·rename_i m hm
   split at h
   ·cases h
   ·rename_i k hk
    have h1:m.name=a:=by
     have:=(List.findIdx?_eq_some_iff_getElem.1 hi).2.1
     have e:=(List.getElem?_eq_some_iff.1 hm).2
     simpa[e] using this
    have h2:f.name=c:=by
     have:=(List.findIdx?_eq_some_iff_getElem.1 hk).2.1
     have e:=(List.getElem?_eq_some_iff.1 h).2
     simpa[e] using this
    exact List.mem_flatMap.2 ⟨m,List.mem_of_getElem? hm,List.mem_map.2 ⟨f,List.mem_of_getElem? h,by rw[h1,h2]⟩⟩
theorem PBook.full {W:World}{b:Nat}{p:Pr}(h:PBook W b p (qis p.mons)):Book W W.heap.size b p:=by
 refine⟨h.lt,?_⟩
 obtain⟨L,h1,h2⟩:=h
 refine⟨L,h1,λr=>?_⟩
 rcases h2 r with ⟨e1,e2⟩|h
 ·cases hm:qar p.mons r.1 r.2 with
  | none=>exact .inl ⟨rfl,e1⟩
  | some f=>have:=e2 (qlw hm);rw[hm] at this;cases this
 ·exact .inr (by simpa using h)
theorem qco (b:Bl) (ad:Option Addr) (cap:Nat):(Bl.mk ad cap b.body).subs=b.subs:=by
 rcases b with ⟨ad',cap',body⟩
 rw[Bl.subs_mk,Bl.subs_mk];rfl
theorem qz9 {args:Array Value}{W:World}(h:Calls Tryz.prog 55 args W λr w'=>qjt none W w' r):Calls Tryz.prog 55 args W λr w'=>r=.returned (.tuple #[.agg #[.string ⟨#[]⟩,.slice none 0 0,.int .i64 0],.bool false])/\Below W.heap.size W w':=by
 refine h.mono ?_
 rintro r w' ⟨⟨_,h⟩|⟨m,ad,cap,h,_⟩,hb⟩
 ·exact⟨h,hb⟩
 ·cases h
theorem qxe {args:Array Value}{W:World}{f:Me}(h:Calls Tryz.prog 55 args W λr w'=>qjt (some f) W w' r):Calls Tryz.prog 55 args W λr w'=>∃ad cap,r=.returned (.tuple #[.agg #[.string f.name,.slice ad f.body.body.length cap,.int .i64 f.pos],.bool true])/\(Bl.mk ad cap f.body.body).Is w'.heap.size w'/\Below W.heap.size W w':=by
 refine h.mono ?_
 rintro r w' ⟨⟨h,_⟩|⟨m,ad,cap,h,h2,h3⟩,hb⟩
 ·cases h
 ·cases h;exact⟨ad,cap,h2,h3,hb⟩
theorem qbr {W W':World}{row:Option Nat}(h:Below W.heap.size W W'):W.grownBy W' row:=⟨h.os,h.tape,h.output,h.size,λk hk _=>h.block k hk⟩
def qom (p:Pr) (w w':World) (r:Ending):Prop:=∃b,r=.returned (.map (some b))/\Book w' w'.heap.size b p/\Below w.heap.size w w'
theorem qh7 (p:Pr) (nz:Nat) (w:World) (hn:nz<=w.heap.size) (hp:p.Is nz w) (hbs:∀m∈p.mons,∀f∈m.meths,f.body.subs.length<=1000000) (hbl:∀m∈p.mons,∀f∈m.meths,f.body.body.length<=1000000) :
  Calls Tryz.prog 41 #[p.val] w λr w'=>qom p w w' r:=by
 have hmm:=@run_makeMap Tryz.prog
 have hq28:=λ(mon name:ByteArray) (W:World) (hW:Below w.heap.size w W)=>qqx p mon name nz W (by have:=hW.size;omega) (hp.below (hW.mono hn)) hbl
 have hmem:∀(mon name:ByteArray) f,qar p.mons mon name=some f->f.body.subs.length<=1000000:=λmon name f h=>by
  obtain⟨m,hm,hf⟩:=qb8 h
  exact hbs m hm f hf
 obtain⟨P,hP⟩:∃P:Pr,P=p:=⟨_,rfl⟩
 rcases p with ⟨mad,mcap,mons,rad,rcap,roles⟩
 obtain⟨⟨h3,h4⟩,-⟩:=hp
 simp only[Pr.val] at h3 h4 hq28 ⊢
 have hl1:=h3.1;have hl2:=h3.2.1
 unfold maxLen at hl2
 go_enter Tryz.func41,Tryz.ntmps41
 go_upto_region 2 with fail
 have hPm:P.mons=mons:=by rw[hP]
 have HPM:=hid hPm
 have h1b:=qaf w (.cells #[.slice mad mons.length mcap,.slice rad roles.length rcap] 25)
 have bP:((w.alloc (.cells #[.slice mad mons.length mcap,.slice rad roles.length rcap] 25)).alloc (.map #[] 0)).heap[w.heap.size]?=some (.cells #[.slice mad mons.length mcap,.slice rad roles.length rcap] 25 (0,0)):=(Below.heap_alloc _ _ _ (by simp)).trans h1b
 have hM0:PBook ((w.alloc (.cells #[.slice mad mons.length mcap,.slice rad roles.length rcap] 25)).alloc (.map #[] 0)) (w.heap.size+1) P []:=by
  have:=KMap.new (w.alloc (.cells #[.slice mad mons.length mcap,.slice rad roles.length rcap] 25))
  rw[World.size_alloc] at this
  exact⟨[],this,λr=>.inl ⟨rfl,λh=>by cases h⟩⟩
 have hB0:Below w.heap.size w ((w.alloc (.cells #[.slice mad mons.length mcap,.slice rad roles.length rcap] 25)).alloc (.map #[] 0)):=((Below.refl _ w).al qaa _).al qaa _
 obtain⟨W0,hW0⟩:∃W0,(w.alloc (.cells #[.slice mad mons.length mcap,.slice rad roles.length rcap] 25)).alloc (.map #[] 0)=W0:=⟨_,rfl⟩
 rw[hW0] at bP hM0 hB0 ⊢
 obtain⟨b,hb⟩:∃b,w.heap.size+1=b:=⟨_,rfl⟩
 obtain⟨q,hqq⟩:∃q,w.heap.size=q:=⟨_,rfl⟩
 have HQ:=hid hqq
 have HB:=hid hb
 rw[hb] at hM0 ⊢
 rw[hqq] at bP ⊢
 have HPL:=hid (Array.getElem?_eq_some_iff.1 bP).1
 have s0:=cellOf bP 0
 simp at s0
 clear hW0 h1b hmm hP hb hqq
 go_wp2
 clear s0
 go_loopw [14] (λi wr=>∃j:Nat,j<=mons.length/\i=.int .i64 j/\PBook wr b P (qis (mons.take j))/\W0.grownBy wr (some b))
  (λi _=>mons.length-(intOf i).toNat)
 case atStart=>exact⟨0,by omega,rfl,hM0,World.grownBy.refl _ _⟩
 case round =>
  obtain⟨j,hj,rfl,hMr,hgw⟩:=hrel
  have hz1:=hgw.size
  have hz0:=hB0.size
  have hbF:Below w.heap.size w wr:=hB0.grown hgw (by omega) (λk e=>by cases e;have:=HB.out;omega)
  by_cases hlt:j<mons.length
  ·rcases h3.2.2 with h|⟨kb,koff,rfl,hbn,hrow⟩
   ·subst h;simp at hlt
   have HA:Hid (qis (mons.take (j+1))=qis (mons.take j)++qkb mons[j]):=qa0 qkb mons j hlt
   have hmj:=h4 _ (List.getElem_mem hlt)
   have hmm2:=hrow.below (hbF.mono hn) hbn
   rcases he':mons[j] with ⟨mname,vad,vcap,vars,fad,fcap,meths,mpos⟩
   have hc4:=qra hmm2 j hlt (by rw[he'];rfl)
   rw[he'] at hmj HA
   simp only at hc4
   obtain⟨c0,c1,c2,c3⟩:=hc4
   have hkw:kb<wr.heap.size:=by omega
   obtain⟨⟨hml,-⟩,-,hfs,hfI⟩:=hmj
   simp only at hfs hfI hml
   have hf1:=hfs.1;have hf2:=hfs.2.1
   unfold maxLen at hf2
   clear he'
   go_upto_region 5 with fail
   obtain⟨bX,hBX,hzX⟩:=qal wr #[.string mname,.slice vad vars.length vcap,.slice fad meths.length fcap,.int .i64 mpos] 36
   have hMx:=hMr.kept hBX
   have hgx:W0.grownBy (wr.alloc (.cells #[.string mname,.slice vad vars.length vcap,.slice fad meths.length fcap,.int .i64 mpos] 36)) (some b):=hgw.trans (World.grownBy_alloc _ _ _)
   obtain⟨Bm,hBm⟩:∃Bm,wr.heap.size=Bm:=⟨_,rfl⟩
   obtain⟨W1,hW1⟩:∃W1,wr.alloc (.cells #[.string mname,.slice vad vars.length vcap,.slice fad meths.length fcap,.int .i64 mpos] 36)=W1:=⟨_,rfl⟩
   rw[hW1] at bX hMx hgx ⊢
   rw[hBm] at bX ⊢
   have HNE:Hid (Bm≠b/\Bm<W1.heap.size/\q<W0.heap.size/\q≠b/\W0.heap.size<=W1.heap.size):=by
    have e1:=hMr.lt
    have e2:=(Array.getElem?_eq_some_iff.1 bX).1
    have e3:=hgx.size
    have e4:=HB.out
    have e5:=HQ.out
    have e6:=HPL.out
    exact⟨by omega,e2,e6,by omega,e3⟩
   have x2:=cellOf bX 2
   simp at x2
   clear hBX hzX hW1 hBm c0 c1 c2 c3 hMr hbF hmm2
   go_wp2
   clear x2
   go_loopw [21] (λi wx=>∃k:Nat,k<=meths.length/\i=.int .i64 k/\PBook wx b P (qis (mons.take j)++(qkb ⟨mname,vad,vcap,vars,fad,fcap,meths,mpos⟩).take k)/\W1.grownBy wx (some b))
    (λi _=>meths.length-(intOf i).toNat)
   case atStart=>exact⟨0,by omega,rfl,(by simpa using hMx),World.grownBy.refl _ _⟩
   case round =>
    obtain⟨k,hk,rfl,hMi,hgi⟩:=hrel
    have hzi:=hgi.size
    have hgt:=hgx.trans hgi
    have hbF:Below w.heap.size w wr:=hB0.grown hgt (by omega) (λk e=>by cases e;have:=HB.out;omega)
    have bPi:=(hgt.block q HNE.out.2.2.1 (λe=>HNE.out.2.2.2.1 (by cases e;rfl))).trans bP
    have bXi:=(hgi.block Bm HNE.out.2.1 (λe=>HNE.out.1 (by cases e;rfl))).trans bX
    by_cases hlk:k<meths.length
    ·rcases hfs.2.2 with h|⟨qb,qoff,rfl,hqn,hqrow⟩
     ·subst h;simp at hlk
     have HT:Hid (qis (mons.take j)++(qkb ⟨mname,vad,vcap,vars,some ⟨qb,qoff,none⟩,fcap,meths,mpos⟩).take (k+1)=(qis (mons.take j)++(qkb ⟨mname,vad,vcap,vars,some ⟨qb,qoff,none⟩,fcap,meths,mpos⟩).take k)++[(mname,meths[k].name)]):=by
      show _=_
      rw[List.append_assoc]
      congr 1
      simp only[qkb]
      rw[List.take_succ_eq_append_getElem (by simpa using hlk),List.getElem_map]
     have hIf:=hfI _ (List.getElem_mem hlk)
     have hqrow2:=hqrow.below (hbF.mono hn) hqn
     rcases he':meths[k] with ⟨fname,⟨bad,bcap,bbody⟩,fpos⟩
     have hc3:=qun hqrow2 k hlk (by rw[he'];rfl)
     rw[he'] at HT hIf
     simp only[Bl.slice] at hc3
     obtain⟨d0,d1,d2⟩:=hc3
     have hfl:=hIf.1
     simp only at hfl
     have hvl:qct (mname,fname):=by unfold qct maxLen;unfold Len at hml hfl;exact⟨by simp;omega,by simp;omega⟩
     have hqw:qb<wr.heap.size:=by have:=hbF.size;omega
     have hz0:=hB0.size
     obtain⟨bF,hBF,hzF⟩:=qal wr #[.string fname,.slice bad bbody.length bcap,.int .i64 fpos] 56
     have hqc:=hq28 mname fname (wr.alloc (.cells #[.string fname,.slice bad bbody.length bcap,.int .i64 fpos] 56)) (hbF.al (by have:=hbF.size;omega) _)
     have p0:=(hBF.cell (p:=⟨q,0,none⟩) (by show q<_;exact (Array.getElem?_eq_some_iff.1 bPi).1)).trans (cellOf bPi 0)
     have p1:=(hBF.cell (p:=⟨q,1,none⟩) (by show q<_;exact (Array.getElem?_eq_some_iff.1 bPi).1)).trans (cellOf bPi 1)
     have m0:=(hBF.cell (p:=⟨Bm,0,none⟩) (by show Bm<_;exact (Array.getElem?_eq_some_iff.1 bXi).1)).trans (cellOf bXi 0)
     simp at p0 p1 m0
     have hMf:=hMi.kept hBF
     have hgf:W1.grownBy (wr.alloc (.cells #[.string fname,.slice bad bbody.length bcap,.int .i64 fpos] 56)) (some b):=hgi.trans (World.grownBy_alloc _ _ _)
     have bXf:=(hBF.block Bm (Array.getElem?_eq_some_iff.1 bXi).1).trans bXi
     clear he' hqrow2 hIf
     cases hmx:qar mons mname fname with
     | none =>
      rw[hmx] at hqc
      have hqc:=qz9 hqc
      have HN:Hid (qar P.mons mname fname=none):=by show _=_;rw[HPM.out];exact hmx
      clear hmx
      go_wp2_with (go_at_call 55;(with_reducible refine hqc.mono ?_);rintro r u1 ⟨rfl,bb⟩)
      go_roundw
      case rel=>exact⟨k+1,by omega,by go_num,by rw[HT.out];exact ((hMf.kept bb).kept ((Below.refl _ u1).al qaa _)).none HN.out,(hgf.trans (qbr bb)).trans (World.grownBy_alloc _ _ _)⟩
      case measure=>simp[intOf];omega
     | some mx =>
      rw[hmx] at hqc
      have hqc:=qxe hqc
      have HN:Hid (qar P.mons mname fname=some mx):=by show _=_;rw[HPM.out];exact hmx
      have hsub:=hmem _ _ _ hmx
      clear hmx
      go_upto_region 10 with (go_at_call 55;(with_reducible refine hqc.mono ?_);rintro r u1 ⟨ad,cap,rfl,hI,bb⟩)
      obtain⟨Bf,hBf⟩:∃Bf,wr.heap.size=Bf:=⟨_,rfl⟩
      obtain⟨W2,hW2⟩:∃W2,wr.alloc (.cells #[.string fname,.slice bad bbody.length bcap,.int .i64 fpos] 56)=W2:=⟨_,rfl⟩
      rw[hW2] at hMf bF hgf bXf hzF
      rw[hBf] at bF
      have bb:Below W2.heap.size W2 u1:=by rw[<- hW2];exact bb
      rw[hBf]
      obtain⟨bD,hBD,hzD⟩:=qal u1 #[.string mx.name,.slice ad mx.body.body.length cap,.int .i64 mx.pos] 56
      have hM3:=(hMf.kept bb).kept hBD
      have hI3:=(hI.below hBD).mono hBD.size
      have hg3:=(hgf.trans (qbr bb)).trans (qbr hBD)
      have hz2:=bb.size
      have bX3:=(hBD.block Bm (by have:=(Array.getElem?_eq_some_iff.1 bXf).1;omega)).trans ((bb.block Bm (Array.getElem?_eq_some_iff.1 bXf).1).trans bXf)
      have bF3:=(hBD.block Bf (by have:=(Array.getElem?_eq_some_iff.1 bF).1;omega)).trans ((bb.block Bf (Array.getElem?_eq_some_iff.1 bF).1).trans bF)
      obtain⟨Bd,hBd⟩:∃Bd,u1.heap.size=Bd:=⟨_,rfl⟩
      obtain⟨W3,hW3⟩:∃W3,u1.alloc (.cells #[.string mx.name,.slice ad mx.body.body.length cap,.int .i64 mx.pos] 56)=W3:=⟨_,rfl⟩
      rw[hW3] at bD hM3 hI3 hg3 bX3 bF3 ⊢
      rw[hBd] at bD ⊢
      have hq12:=λ(W:World) (hW:Below W3.heap.size W3 W)=>qk5 (Bl.mk ad cap mx.body.body) W3.heap.size W hW.size (hI3.below hW) (by rw[qco];exact hsub)
      rw[qi3] at hq12
      simp only[Bl.slice] at hq12
      have hbBf:Bf≠b:=by have:=hMi.lt;omega
      have hbBd:Bd≠b:=by have:=hMi.lt;omega
      have HK:Hid (∀W,W3.grownBy W (some b)->W.cell? ⟨Bm,0,none⟩=some (.string mname)/\W.cell? ⟨Bf,0,none⟩=some (.string fname)/\W.cell? ⟨Bd,1,none⟩=some (.slice ad mx.body.body.length cap)):=by
       intro W hW
       refine⟨(hW.cell_far ⟨Bm,0,none⟩ (Array.getElem?_eq_some_iff.1 bX3).1 (λe=>HNE.out.1 (by cases e;rfl))).trans ?_,(hW.cell_far ⟨Bf,0,none⟩ (Array.getElem?_eq_some_iff.1 bF3).1 (λe=>hbBf (by cases e;rfl))).trans ?_,(hW.cell_far ⟨Bd,1,none⟩ (Array.getElem?_eq_some_iff.1 bD).1 (λe=>hbBd (by cases e;rfl))).trans ?_⟩
       ·rw[cellOf bX3];simp
       ·rw[cellOf bF3];simp
       ·rw[cellOf bD];simp
      have B:Below W3.heap.size W3 W3.drew:=⟨rfl,rfl,rfl,Nat.le_refl _,λ_ _=>rfl⟩
      clear hW3 hBd hW2 hBf hzD hzF bX3 bF3 bD hBD bb hI hMf hgf bXf bF hqc p0 p1 m0 d0 d1 d2 bXi bPi hMi
      go_region_held3 (λW=>W.cell? ⟨Bm,0,none⟩=some (.string mname)/\W.cell? ⟨Bf,0,none⟩=some (.string fname)/\W.cell? ⟨Bd,1,none⟩=some (.slice ad mx.body.body.length cap)) (first|exact HK.out _ (qbr B)|exact HK.out _ ((qbr B).trans hg5))
       ((go_at_call 56;(with_reducible refine (hq12 _ B).mono ?_);rintro r u ⟨v,rfl,hown,bb⟩;obtain⟨cad,ccap,rfl,hcs⟩:=qre qcz hown;have B:=B.trans (bb.mono B.size);obtain⟨W5,hput,hM5,hg5⟩:=PBook.put (hM3.kept B) hvl HN.out ((hI3.below B).mono B.size) hcs))
      go_wp2
      go_roundw
      case rel=>exact⟨k+1,by omega,by go_num,by rw[HT.out];exact hM5,(hg3.trans (qbr B)).trans hg5⟩
      case measure=>simp[intOf];omega
    ·have hkd:decide ((k:Int)<(meths.length:Int))=false:=by simp;omega
     have hke:k=meths.length:=by omega
     have hL6:PBook wr b P (qis (mons.take (j+1))):=by rw[HA.out];rw[hke,show meths.length=(qkb ⟨mname,vad,vcap,vars,fad,fcap,meths,mpos⟩).length by simp[qkb],List.take_length] at hMi;exact hMi
     clear hke hMi
     go_wp2
     go_roundw
     case rel=>exact⟨j+1,by omega,by go_num,hL6,hgt⟩
     case measure=>simp[intOf];omega
  ·have hjd:decide ((j:Int)<(mons.length:Int))=false:=by simp;omega
   have hje:j=mons.length:=by omega
   have hL6:PBook wr b P (qis P.mons):=by rw[HPM.out];rw[hje,List.take_length] at hMr;exact hMr
   have HFin:Hid (Book wr wr.heap.size b ⟨mad,mcap,mons,rad,rcap,roles⟩):=by
    obtain⟨g1,L,g2,g3⟩:=hL6.full
    rw[HPM.out] at g3
    exact⟨g1,L,g2,g3⟩
   clear hje hMr hL6
   go_wp2
   go_ret
   exact⟨b,rfl,HFin.out,hbF⟩
open Go.RowKit
def zs (Z:List (Ref × Nat)):List (Ref × Value):=Z.map λx=>(x.1,.int .i64 (x.2:Int))
theorem qCv (Z:List (Ref × Nat)):(zs Z).map Prod.fst=Z.map Prod.fst:=by
 induction Z with
 | nil=>rfl
 | cons x Z ih=>simp only[zs,List.map_cons] at ih ⊢;rw[ih]
theorem qBe (Z:List (Ref × Nat)) (x:Ref × Nat):zs (Z++[x])=zs Z++[(x.1,.int .i64 (x.2:Int))]:=by simp[zs]
theorem qy4 (Z:List (Ref × Nat)) (r:Ref):(qfs (zs Z) r).getD (.int .i64 0)=.int .i64 (qb1 Z r:Int):=by
 induction Z with
 | nil=>rfl
 | cons x Z ih =>
  simp only[zs,qfs,qb1,List.map_cons,List.find?_cons] at ih ⊢
  by_cases h:x.1=r
  ·simp[h]
  ·simpa[h] using ih
theorem qyb {Z:List (Ref × Nat)}{n:Nat}(h:∀x∈Z,x.2<=n) (r:Ref):qb1 Z r<=n:=by
 unfold qb1
 cases hf:Z.find? (λx=>decide (x.1=r)) with
 | none=>simp
 | some x=>simpa using h x (List.mem_of_find?_eq_some hf)
def qio (Z:List (Ref × Nat)) (l:List Bl):Nat:=(l.map λb=>min 401 (tot Z b)).sum
theorem qk6 (Z:List (Ref × Nat)) (l:List Bl) (k:Nat) (h:k<l.length):qio Z (l.take (k+1))=qio Z (l.take k)+min 401 (tot Z l[k]):=by
 rw[List.take_succ_eq_append_getElem h,qio,List.map_append,List.sum_append];simp[qio]
theorem qsg (Z:List (Ref × Nat)) (l:List Bl):qio Z l<=sumOf Z (l.flatMap Bl.subs):=by
 induction l with
 | nil=>simp[qio]
 | cons b l ih =>
  rw[List.flatMap_cons,qdk]
  simp only[qio,List.map_cons,List.sum_cons] at ih ⊢
  have:min 401 (tot Z b)<=sumOf Z b.subs:=Nat.min_le_right _ _
  omega
theorem qsf (Z:List (Ref × Nat)) (l:List Bl) (h:qio Z l<=400):qio Z l=sumOf Z (l.flatMap Bl.subs):=by
 induction l with
 | nil=>simp[qio,sumOf]
 | cons b l ih =>
  rw[List.flatMap_cons,qdk]
  simp only[qio,List.map_cons,List.sum_cons] at ih h ⊢
  have h1:=ih (by omega)
  have h2:tot Z b=sumOf Z b.subs:=rfl
  omega
theorem qi4 (Z:List (Ref × Nat)) (l:List Bl):qio Z l<=401*l.length:=by
 induction l with
 | nil=>simp[qio]
 | cons b l ih=>simp only[qio,List.map_cons,List.sum_cons,List.length_cons] at ih ⊢;omega
def qBj (Z:List (Ref × Nat)) (x:Bl):Prop:=∀(nz bZ:Nat) (w:World),nz<=w.heap.size->x.Is nz w->KMap w bZ (zs Z)->(∀s∈x.subs,s.blocks.length<=1000000) ->
 Calls Tryz.prog 60 #[x.slice,.map (some bZ)] w λr w'=>r=.returned (.int .i64 ((min 401 (tot Z x):Nat):Int))/\Below w.heap.size w w'
theorem qu1 {Z:List (Ref × Nat)}(hZ:∀x∈Z,x.2<=402) (ad:Option Addr) (cap:Nat) (body:List St) (ih:∀s∈body,∀x∈s.blocks,qBj Z x):qBj Z (.mk ad cap body):=by
 intro nz bZ w hn hI hM hbk
 have HT:=hid (show tot Z (.mk ad cap body)=sumOf Z (body.flatMap St.subs) by rw[tot,Bl.subs_mk])
 rw[Bl.subs_mk] at hbk
 have hIk:=hI.down.2
 have hsl:=hI.down.1
 have hl1:=hsl.1;have hl2:=hsl.2.1
 unfold maxLen at hl2
 simp only[Bl.slice]
 go_enter Tryz.func60,Tryz.ntmps60
 go_wp2
 go_loopw [5,12] (λv i wr=>∃j:Nat,j<=body.length/\i=.int .i64 j/\(v=.int .i64 ((sumOf Z ((body.take j).flatMap St.subs):Nat):Int)/\sumOf Z ((body.take j).flatMap St.subs)<=400)/\Below w.heap.size w wr)
  (λv i _=>body.length-(intOf i).toNat)
 case atStart=>exact⟨0,by omega,rfl,⟨rfl,by simp[sumOf]⟩,Below.refl _ _⟩
 case round =>
  obtain⟨j,hj,rfl,⟨rfl,hsm⟩,hbw⟩:=hrel
  have hz1:=hbw.size
  have hb0:Below nz w wr:=hbw.mono hn
  by_cases hlt:j<body.length
  ·rcases hsl.2.2 with h|⟨kb,koff,rfl,hbn,hrow⟩
   ·subst h;simp at hlt
   have HB1:=hid (qrk Z body j hlt)
   have HLE:=hid (qx8 Z body (j+1))
   have hIj:=hIk _ (List.getElem_mem hlt)
   have ihj:=ih _ (List.getElem_mem hlt)
   have hbkj:body[j].blocks.length<=1000000:=hbk _ (List.mem_flatMap.2 ⟨body[j],List.getElem_mem hlt,by rcases body[j] with ⟨a1,a2,a3,a4,a5,a6,a7,a8,a9⟩;rw[St.subs_mk];exact List.mem_cons_self⟩)
   have hbki:∀x∈body[j].blocks,∀s∈x.subs,s.blocks.length<=1000000:=λx hx s hs=>hbk _ (List.mem_flatMap.2 ⟨body[j],List.getElem_mem hlt,by
    rcases hb':body[j] with ⟨a1,a2,a3,a4,a5,a6,a7,a8,a9⟩
    rw[hb'] at hx
    rw[St.subs_mk]
    exact List.mem_cons_of_mem _ (List.mem_flatMap.2 ⟨x,hx,hs⟩)⟩)
   have hvl:=qkq hIj
   have hrj:=hrow.below hb0 hbn
   have hq:=λW=>qf7 body[j] W
   obtain⟨A,hA⟩:∃A,sumOf Z ((body.take j).flatMap St.subs)=A:=⟨_,rfl⟩
   rw[hA] at hsm HB1 ⊢
   rcases he':body[j] with ⟨kind',ai',name',n',⟨aj',ag',ac',en',ah',af',ab',ae'⟩,ad',cap',aa',pos'⟩
   obtain⟨c0,c1,c2,c3,c4,c5,c6,c7,c8,c9,c10,c11⟩:=qiz hrj j hlt (by rw[he'];rfl)
   rw[he'] at hIj ihj HB1 hvl hbkj hbki
   rw[qx9] at HB1
   simp only[he',St.val,St.cells,Ex.cells,List.cons_append,List.nil_append,St.ref] at hq hvl
   have hsB:=hIj.down.2.2.1
   have hIB:=hIj.down.2.2.2
   have hbl1:=hsB.1;have hbl2:=hsB.2.1
   unfold maxLen at hbl2
   simp only[St.blocks] at ihj hbkj hbki
   have hkbw:kb<wr.heap.size:=by omega
   clear he' ih hA
   go_upto_region 5 with fail
   obtain⟨bX,hBX,hzX⟩:=qal wr #[.int .i64 kind',.string ai',.string name',.int .i64 n',.int .i64 aj',.string ag',.string ac',.int .i64 en',.slice ah' ab'.length af',.int .i64 ae',.slice ad' aa'.length cap',.int .i64 pos'] 86
   have hM1:=(hM.below hbw hM.lt).al (.cells #[.int .i64 kind',.string ai',.string name',.int .i64 n',.int .i64 aj',.string ag',.string ac',.int .i64 en',.slice ah' ab'.length af',.int .i64 ae',.slice ad' aa'.length cap',.int .i64 pos'] 86)
   have hB1:Below w.heap.size w (wr.alloc (.cells #[.int .i64 kind',.string ai',.string name',.int .i64 n',.int .i64 aj',.string ag',.string ac',.int .i64 en',.slice ah' ab'.length af',.int .i64 ae',.slice ad' aa'.length cap',.int .i64 pos'] 86)):=hbw.trans (hBX.mono (by omega))
   obtain⟨Bs,hBs⟩:∃Bs,wr.heap.size=Bs:=⟨_,rfl⟩
   obtain⟨W1,hW1⟩:∃W1,wr.alloc (.cells #[.int .i64 kind',.string ai',.string name',.int .i64 n',.int .i64 aj',.string ag',.string ac',.int .i64 en',.slice ah' ab'.length af',.int .i64 ae',.slice ad' aa'.length cap',.int .i64 pos'] 86)=W1:=⟨_,rfl⟩
   rw[hW1] at bX hM1 hB1 ⊢
   rw[hBs] at bX ⊢
   have x0:=cellOf bX 0
   have x1:=cellOf bX 1
   have x2:=cellOf bX 2
   have x3:=cellOf bX 3
   have x4:=cellOf bX 4
   have x5:=cellOf bX 5
   have x6:=cellOf bX 6
   have x7:=cellOf bX 7
   have x8:=cellOf bX 8
   have x9:=cellOf bX 9
   have x10:=cellOf bX 10
   have x11:=cellOf bX 11
   simp at x0 x1 x2 x3 x4 x5 x6 x7 x8 x9 x10 x11
   have HBX:=hid bX
   clear c0 c1 c2 c3 c4 c5 c6 c7 c8 c9 c10 c11 bX hBX hzX hW1 hBs hrow hrj hI hIj hIk
   cases hkind:(kind'==8:Bool)
   ·have hso:qku Z (.mk kind' ai' name' n' (Ex.mk aj' ag' ac' en' ah' af' ab' ae') ad' cap' aa' pos')=1:=by
     rw[qku,if_neg];intro h;have:kind'=8:=h;rw[this] at hkind;simp at hkind
    rw[hso] at HB1
    have i1:(A:Int)+1<=802:=by omega
    go_wp2
    have BW:=hB1
    have HAA:Hid (∃A1:Nat,A+1=A1):=⟨_,rfl⟩
    obtain⟨A1,hA1⟩:=HAA.out
    have hA1b:A1<=802:=by omega
    have HA1:Hid ((A:Int)+1=(A1:Int)):=by show _=_;omega
    have HB2:Hid (sumOf Z ((body.take (j+1)).flatMap St.subs)=A1+sumOf Z (aa'.flatMap Bl.subs)):=by show _=_;have:=HB1.out;omega
    clear hA1 HAA HB1 hso i1
    go_loopw [5,30] (λv i wx=>∃m:Nat,m<=aa'.length/\i=.int .i64 m/\v=.int .i64 ((A1+qio Z (aa'.take m):Nat):Int)/\Below w.heap.size w wx)
     (λ_ i _=>aa'.length-(intOf i).toNat)
    case atStart=>exact⟨0,by omega,rfl,by rw[HA1.out];simp[qio],BW⟩
    case round =>
     obtain⟨m,hm,rfl,rfl,hbm⟩:=hrel
     have hzm:=hbm.size
     have hbm0:=hbm.mono hn
     have hcb:=qi4 Z (aa'.take m)
     have hcl:(aa'.take m).length<=aa'.length:=by rw[List.length_take];omega
     by_cases hlm:m<aa'.length
     ·rcases hsB.2.2 with h|⟨qb,qoff,rfl,hqn,hqrow⟩
      ·subst h;simp at hlm
      have HCS:=hid (qk6 Z aa' m hlm)
      have hq5:=ihj _ (List.getElem_mem hlm) nz bZ wr (by omega) ((hIB _ (List.getElem_mem hlm)).below hbm0) (hM.below hbm hM.lt) (hbki _ (List.getElem_mem hlm))
      obtain⟨R,hR⟩:∃R,A1+qio Z (aa'.take m)=R:=⟨_,rfl⟩
      have HR:=hid hR
      rw[hR]
      obtain⟨Q2,hQ2⟩:∃Q2,min 401 (tot Z aa'[m])=Q2:=⟨_,rfl⟩
      have hQb:Q2<=401:=by omega
      rw[hQ2] at hq5 HCS
      have i5:0<=(R:Int)/\(R:Int)<=1000000000:=by omega
      have i6:0<=(Q2:Int)/\(Q2:Int)<=401:=by omega
      have i7:(R:Int)+(Q2:Int)<=1000000401:=by omega
      have hqw:qb<wr.heap.size:=by omega
      rcases hbk2:aa'[m] with ⟨qad,qcap,qbody⟩
      have d0:=qru (hqrow.below hbm0 hqn) m hlm (by rw[hbk2];rfl)
      simp only[hbk2,Bl.slice] at hq5 d0
      clear hbk2 hR hQ2 hcb hcl hQb
      go_wp2_with (go_at_call 60;(with_reducible refine hq5.mono ?_);rintro r w5 ⟨rfl,hb5⟩)
      go_roundw
      case rel=>exact⟨m+1,by omega,by go_num,by rw[HCS.out];congr 1;have:=HR.out;omega,hbm.tr (by omega) hb5⟩
      case measure=>simp[intOf];omega
     ·have hmd:decide ((m:Int)<(aa'.length:Int))=false:=by simp;omega
      have hme:aa'.take m=aa':=List.take_of_length_le (by omega)
      rw[hme] at hcb ⊢
      have hc1:=qsg Z aa'
      have hc2:=qsf Z aa'
      obtain⟨C,hC⟩:∃C,qio Z aa'=C:=⟨_,rfl⟩
      rw[hC] at hc1 hc2 hcb ⊢
      clear hC hme
      by_cases hbig:400<A1+C
      ·have hbi:(400:Int)<((A1+C:Nat):Int):=by omega
       have HF:Hid (min 401 (tot Z (.mk (some ⟨kb,koff,none⟩) cap body))=401):=by
        show _=_
        have h1:=HT.out;have h2:=HLE.out;have h3:=HB2.out
        omega
       obtain⟨R,hR⟩:∃R,A1+C=R:=⟨_,rfl⟩
       rw[hR] at hbi ⊢
       clear hR hc1 hc2 hcb hcl hbig
       go_wp2
       go_ret
       exact⟨by rw[HF.out];rfl,hbm⟩
      ·have hbi:¬ (400:Int)<((A1+C:Nat):Int):=by omega
       have HF:Hid (sumOf Z ((body.take (j+1)).flatMap St.subs)=A1+C):=by
        show _=_
        have h3:=HB2.out
        have:=hc2 (by omega)
        omega
       have HF2:Hid (A1+C<=400):=by show _<=_;omega
       obtain⟨R,hR⟩:∃R,A1+C=R:=⟨_,rfl⟩
       rw[hR] at hbi HF HF2 ⊢
       clear hR hc1 hc2 hcb hcl hbig
       go_wp2
       go_roundw
       case rel=>exact⟨j+1,by omega,by go_num,⟨by rw[HF.out],by rw[HF.out];exact HF2.out⟩,hbm⟩
       case measure=>simp[intOf];omega
   ·have hk8:kind'=8:=by simpa using hkind
    subst hk8
    have hso:qku Z (.mk 8 ai' name' n' (Ex.mk aj' ag' ac' en' ah' af' ab' ae') ad' cap' aa' pos')=qb1 Z (ai',name'):=by
     simp only[qku,St.kind,St.ref,if_true]
    have hgl:=qyb hZ (ai',name')
    rw[hso] at HB1
    have hlk:=λ(W:World) (hW:Below W1.heap.size W1 W)=>qde (hM1.below hW hM1.lt) Tryz.underlying141 (qin W) hvl
    simp only[qy4] at hlk
    obtain⟨G,hG⟩:∃G,qb1 Z (ai',name')=G:=⟨_,rfl⟩
    rw[hG] at HB1 hgl
    simp only[hG] at hlk
    clear hG hso
    have i0:0<=(A:Int)/\(A:Int)<=400:=by omega
    have i1:0<=(G:Int)/\(G:Int)<=402:=by omega
    have i2:(A:Int)+(G:Int)<=802:=by omega
    go_wp2_with (go_at_call 64;(with_reducible refine (hq _).mono ?_);rintro r u1 ⟨rfl,bb1⟩;have hlk:=hlk _ bb1;have y10:=(bb1.cell (p:=⟨Bs,10,none⟩) (Array.getElem?_eq_some_iff.1 HBX.out).1).trans x10)
    have BW:=hB1.trans (bb1.mono hB1.size)
    have HAA:Hid (∃A1:Nat,A+G=A1):=⟨_,rfl⟩
    obtain⟨A1,hA1⟩:=HAA.out
    have hA1b:A1<=802:=by omega
    have HA1:Hid ((A:Int)+(G:Int)=(A1:Int)):=by show _=_;omega
    have HB2:Hid (sumOf Z ((body.take (j+1)).flatMap St.subs)=A1+sumOf Z (aa'.flatMap Bl.subs)):=by show _=_;have:=HB1.out;omega
    clear hA1 HAA HB1 hlk i0 i1 i2
    go_loopw [5,30] (λv i wx=>∃m:Nat,m<=aa'.length/\i=.int .i64 m/\v=.int .i64 ((A1+qio Z (aa'.take m):Nat):Int)/\Below w.heap.size w wx)
     (λ_ i _=>aa'.length-(intOf i).toNat)
    case atStart=>exact⟨0,by omega,rfl,by rw[HA1.out];simp[qio],BW⟩
    case round =>
     obtain⟨m,hm,rfl,rfl,hbm⟩:=hrel
     have hzm:=hbm.size
     have hbm0:=hbm.mono hn
     have hcb:=qi4 Z (aa'.take m)
     have hcl:(aa'.take m).length<=aa'.length:=by rw[List.length_take];omega
     by_cases hlm:m<aa'.length
     ·rcases hsB.2.2 with h|⟨qb,qoff,rfl,hqn,hqrow⟩
      ·subst h;simp at hlm
      have HCS:=hid (qk6 Z aa' m hlm)
      have hq5:=ihj _ (List.getElem_mem hlm) nz bZ wr (by omega) ((hIB _ (List.getElem_mem hlm)).below hbm0) (hM.below hbm hM.lt) (hbki _ (List.getElem_mem hlm))
      obtain⟨R,hR⟩:∃R,A1+qio Z (aa'.take m)=R:=⟨_,rfl⟩
      have HR:=hid hR
      rw[hR]
      obtain⟨Q2,hQ2⟩:∃Q2,min 401 (tot Z aa'[m])=Q2:=⟨_,rfl⟩
      have hQb:Q2<=401:=by omega
      rw[hQ2] at hq5 HCS
      have i5:0<=(R:Int)/\(R:Int)<=1000000000:=by omega
      have i6:0<=(Q2:Int)/\(Q2:Int)<=401:=by omega
      have i7:(R:Int)+(Q2:Int)<=1000000401:=by omega
      have hqw:qb<wr.heap.size:=by omega
      rcases hbk2:aa'[m] with ⟨qad,qcap,qbody⟩
      have d0:=qru (hqrow.below hbm0 hqn) m hlm (by rw[hbk2];rfl)
      simp only[hbk2,Bl.slice] at hq5 d0
      clear hbk2 hR hQ2 hcb hcl hQb
      go_wp2_with (go_at_call 60;(with_reducible refine hq5.mono ?_);rintro r w5 ⟨rfl,hb5⟩)
      go_roundw
      case rel=>exact⟨m+1,by omega,by go_num,by rw[HCS.out];congr 1;have:=HR.out;omega,hbm.tr (by omega) hb5⟩
      case measure=>simp[intOf];omega
     ·have hmd:decide ((m:Int)<(aa'.length:Int))=false:=by simp;omega
      have hme:aa'.take m=aa':=List.take_of_length_le (by omega)
      rw[hme] at hcb ⊢
      have hc1:=qsg Z aa'
      have hc2:=qsf Z aa'
      obtain⟨C,hC⟩:∃C,qio Z aa'=C:=⟨_,rfl⟩
      rw[hC] at hc1 hc2 hcb ⊢
      clear hC hme
      by_cases hbig:400<A1+C
      ·have hbi:(400:Int)<((A1+C:Nat):Int):=by omega
       have HF:Hid (min 401 (tot Z (.mk (some ⟨kb,koff,none⟩) cap body))=401):=by
        show _=_
        have h1:=HT.out;have h2:=HLE.out;have h3:=HB2.out
        omega
       obtain⟨R,hR⟩:∃R,A1+C=R:=⟨_,rfl⟩
       rw[hR] at hbi ⊢
       clear hR hc1 hc2 hcb hcl hbig
       go_wp2
       go_ret
       exact⟨by rw[HF.out];rfl,hbm⟩
      ·have hbi:¬ (400:Int)<((A1+C:Nat):Int):=by omega
       have HF:Hid (sumOf Z ((body.take (j+1)).flatMap St.subs)=A1+C):=by
        show _=_
        have h3:=HB2.out
        have:=hc2 (by omega)
        omega
       have HF2:Hid (A1+C<=400):=by show _<=_;omega
       obtain⟨R,hR⟩:∃R,A1+C=R:=⟨_,rfl⟩
       rw[hR] at hbi HF HF2 ⊢
       clear hR hc1 hc2 hcb hcl hbig
       go_wp2
       go_roundw
       case rel=>exact⟨j+1,by omega,by go_num,⟨by rw[HF.out],by rw[HF.out];exact HF2.out⟩,hbm⟩
       case measure=>simp[intOf];omega
  ·have hjd:decide ((j:Int)<(body.length:Int))=false:=by simp;omega
   have HF:Hid (min 401 (tot Z (.mk ad cap body))=sumOf Z ((body.take j).flatMap St.subs)):=by
    show _=_
    have:body.take j=body:=List.take_of_length_le (by omega)
    rw[HT.out]
    rw[this] at hsm ⊢
    omega
   go_wp2
   go_ret
   exact⟨by rw[HF.out];rfl,hbw⟩
open Go.RowKit
theorem qe3 {B:Nat}{w w':World}(h:Below B w w'):Below B w w'.drew:=⟨h.os,h.tape,h.output,h.size,h.block⟩
theorem Book.mono {W:World}{n m b:Nat}{p:Pr}(h:Book W n b p) (hm:n<=m):Book W m b p:=by
 obtain⟨h1,L,h2,h3⟩:=h
 refine⟨by omega,L,h2,λr=>?_⟩
 rcases h3 r with h|⟨f,ad,cap,cad,ccap,e1,e2,e3,e4⟩
 ·exact .inl h
 ·exact .inr ⟨f,ad,cap,cad,ccap,e1,e2,e3.mono hm,e4.mono hm⟩
theorem qpf {Z:List (Ref × Nat)}(hZ:∀x∈Z,x.2<=402) (x:Bl):qBj Z x:=
 Bl.ind (P:=λs=>∀x∈s.blocks,qBj Z x) (Q:=λx=>qBj Z x) (λ_ _ _ _ _ _ _ _ _ ih x hx=>ih x hx) (λad cap body ih=>qu1 hZ ad cap body ih) x
theorem qyv (ad cad:Option Addr) (l c k d:Nat) (W:World):(Instr.field 137 (.agg #[.slice ad l c,.slice cad k d]) 0).run Tryz.prog W=.ok (.slice ad l c) W:=by kernel_rfl
theorem qod {G:Ref->List Ref}{body:Ref->Bl}{R:List Ref}{Z:List (Ref × Nat)}(j:Nat) (hj:j<R.length) (x:Ref) (hx:x∈G R[j]) (h0:qb1 Z x=0):qb0 G body (R.drop j) Z=none:=by
 rw[List.drop_eq_getElem_cons hj,qb0,if_pos ⟨x,hx,h0⟩]
theorem qoc {G:Ref->List Ref}{body:Ref->Bl}{R:List Ref}{Z:List (Ref × Nat)}(j:Nat) (hj:j<R.length) (h:∀x∈G R[j],qb1 Z x≠0):qb0 G body (R.drop j) Z=qb0 G body (R.drop (j+1)) (Z++[(R[j],1+min 401 (tot Z (body R[j])))]):=by
 rw[List.drop_eq_getElem_cons hj,qb0,if_neg (λ⟨x,hx,h0⟩=>h x hx h0)]
theorem tot_mk (Z:List (Ref × Nat)) (b:Bl) (ad:Option Addr) (cap:Nat):tot Z (.mk ad cap b.body)=tot Z b:=by rw[tot,tot,qco]
theorem qk3 {p:Pr}{Q:St->Prop}(h:∀m∈p.mons,∀f∈m.meths,∀s∈f.body.subs,Q s) (r:Ref):∀s∈(qam p r).subs,Q s:=by
 intro s hs
 rw[qam] at hs
 split at hs
 ·rename_i f hf
  obtain⟨m,hm,hfm⟩:=qb8 hf
  exact h m hm f hfm s hs
 ·rw[Bl.subs_mk] at hs;simp at hs
def qr6 (o:Option (List (Ref × Nat))) (w w':World) (r:Ending):Prop:=
 ((o=none/\r=.returned (.tuple #[.map none,.int .i64 80]))\/∃Z bZ,o=some Z/\r=.returned (.tuple #[.map (some bZ),.int .i64 0])/\KMap w' bZ (zs Z)/\∀x∈Z,x.2<=402)/\Below w.heap.size w w'
theorem qu2 (p:Pr) (R:List Ref) (ad:Option Addr) (cap nz b:Nat) (w:World) (hn:nz<=w.heap.size) (hBk:Book w nz b p) (hsl:SlAt 2 qbi nz w ad cap R) (hV:∀r∈R++qaj p,qct r) (hnd:R.Nodup)
  (hbk:∀m∈p.mons,∀f∈m.meths,∀s∈f.body.subs,s.blocks.length<=1000000) :
  Calls Tryz.prog 59 #[.map (some b),.slice ad R.length cap] w λr w'=>qr6 (qb0 (qae p) (qam p) R []) w w' r:=by
 have hmm:=@run_makeMap Tryz.prog
 have hl1:=hsl.1;have hl2:=hsl.2.1
 unfold maxLen at hl2
 have HO:Hid (∃o,qb0 (qae p) (qam p) R []=o):=⟨_,rfl⟩
 obtain⟨o,ho⟩:=HO.out
 rw[ho]
 have HO:=hid ho
 clear ho
 go_enter Tryz.func59,Tryz.ntmps59
 go_upto_region 2 with fail
 have hM0:KMap (w.alloc (.map #[] 0)) w.heap.size (zs []):=KMap.new w
 have hB0:Below w.heap.size w (w.alloc (.map #[] 0)):=(Below.refl _ w).al qaa _
 obtain⟨W0,hW0⟩:∃W0,w.alloc (.map #[] 0)=W0:=⟨_,rfl⟩
 obtain⟨bZ,hbZ⟩:∃bZ,w.heap.size=bZ:=⟨_,rfl⟩
 rw[hW0] at hM0 hB0 ⊢
 have HBZ:=hid hbZ
 rw[hbZ] at hM0 ⊢
 clear hW0 hbZ hmm
 go_wp2
 go_loopw [14] (λi wr=>∃(j:Nat) (Z:List (Ref × Nat)),j<=R.length/\i=.int .i64 j/\Hid (o=qb0 (qae p) (qam p) (R.drop j) Z)/\KMap wr bZ (zs Z)/\Z.map Prod.fst=R.take j/\(∀x∈Z,x.2<=402)/\Below w.heap.size w wr)
  (λi _=>R.length-(intOf i).toNat)
 case atStart=>exact⟨0,[],by omega,rfl,(by show _=_;rw[<- HO.out];rfl),hM0,rfl,(λx hx=>by cases hx),hB0⟩
 case round =>
  obtain⟨j,Z,hj,rfl,HQ,hMr,hZf,hZ,hbw⟩:=hrel
  have hz1:=hbw.size
  by_cases hlt:j<R.length
  ·rcases hsl.2.2 with h|⟨qb,qoff,rfl,hqn,hqrow⟩
   ·subst h;simp at hlt
   have hqrow2:=hqrow.below (hbw.mono hn) hqn
   have d0:=hqrow2 j hlt 0 (by omega)
   have d1:=hqrow2 j hlt 1 (by omega)
   have hqw:qb<wr.heap.size:=by omega
   have hvl:=hV _ (List.mem_append.2 (.inl (List.getElem_mem hlt)))
   have HN1:=hid (λx hx h0=>qod (G:=qae p) (body:=qam p) (Z:=Z) j hlt x hx h0)
   have HN2:=hid (λh=>qoc (G:=qae p) (body:=qam p) (Z:=Z) j hlt h)
   have HNM:Hid (R[j] ∉ Z.map Prod.fst):=by
    show _ ∉ _
    rw[hZf]
    intro hm
    obtain⟨i,hi,he⟩:=List.getElem_of_mem hm
    rw[List.getElem_take] at he
    rw[List.length_take] at hi
    exact (List.pairwise_iff_getElem.1 hnd) i j (by omega) hlt (by omega) he
   have HTK:=hid (List.take_succ_eq_append_getElem hlt)
   have hlV:∀x∈qae p R[j],qct x:=λx hx=>hV x (List.mem_append.2 (.inr (qh3 p _ x hx)))
   have hbkr:=qk3 hbk R[j]
   simp only[qbi] at d0 d1
   simp at d0 d1
   obtain⟨r,hr⟩:∃r,R[j]=r:=⟨_,rfl⟩
   rw[hr] at d0 d1 hvl HN1 HN2 HNM HTK hlV hbkr
   clear hr
   obtain⟨mon,name⟩:=r
   simp only at d0 d1
   go_upto_region 5 with fail
   obtain⟨bX,hBX,hzX⟩:=qal wr #[.string mon,.string name] 116
   have hM1:=hMr.al (.cells #[.string mon,.string name] 116)
   have hB1:Below w.heap.size w (wr.alloc (.cells #[.string mon,.string name] 116)):=hbw.trans (hBX.mono (by omega))
   obtain⟨Bs,hBs⟩:∃Bs,wr.heap.size=Bs:=⟨_,rfl⟩
   obtain⟨W1,hW1⟩:∃W1,wr.alloc (.cells #[.string mon,.string name] 116)=W1:=⟨_,rfl⟩
   rw[hW1] at bX hM1 hB1 ⊢
   rw[hBs] at bX ⊢
   have HBS:Hid (bZ<Bs/\Bs<W1.heap.size):=⟨by have:=hMr.lt;omega,(Array.getElem?_eq_some_iff.1 bX).1⟩
   have y0:=cellOf bX 0
   have y1:=cellOf bX 1
   simp at y0 y1
   have hBk1:=hBk.below (hB1.mono hn)
   obtain⟨gad,gcap,cad,ccap,hlook,hgI,hcl⟩:=hBk1.look hvl
   simp only at hlook
   have hf80:=qzl
   have hf80b:=qyv
   have hcl1:=hcl.1;have hcl2:=hcl.2.1
   unfold maxLen at hcl2
   obtain⟨gs,hgs⟩:∃gs,qae p (mon,name)=gs:=⟨_,rfl⟩
   rw[hgs] at hlook hcl hlV HN1 HN2 hcl1
   obtain⟨gb,hgb⟩:∃gb,qam p (mon,name)=gb:=⟨_,rfl⟩
   rw[hgb] at hlook hgI HN2 hbkr
   have HGB:=hid hgb
   clear hgs hgb d0 d1 hBX hzX hW1 hBs hMr
   go_wp2
   go_loopw [23] (λi wx=>∃k:Nat,k<=gs.length/\i=.int .i64 k/\Hid (∀x∈gs.take k,qb1 Z x≠0)/\Below W1.heap.size W1 wx)
    (λi _=>gs.length-(intOf i).toNat)
   case atStart=>exact⟨0,by omega,rfl,(λx hx=>by simp at hx),Below.refl _ _⟩
   case round =>
    obtain⟨k,hk,rfl,HZ0,hbx⟩:=hrel
    have hzx:=hbx.size
    have hbF:Below w.heap.size w wr:=hB1.trans (hbx.mono (by have:=hB1.size;omega))
    by_cases hlk:k<gs.length
    ·rcases hcl.2.2 with h|⟨tb,toff,rfl,htn,htrow⟩
     ·subst h;simp at hlk
     have htrow2:=htrow.below (hbx.mono (by have:=hB1.size;omega)) htn
     have d0:=htrow2 k hlk 0 (by omega)
     have d1:=htrow2 k hlk 1 (by omega)
     have htw:tb<wr.heap.size:=by have:=hB1.size;omega
     have hvx:=hlV _ (List.getElem_mem hlk)
     have HX1:=hid (HN1.out gs[k] (List.getElem_mem hlk))
     have HX2:Hid (qb1 Z gs[k]≠0->∀x∈gs.take (k+1),qb1 Z x≠0):=by
      intro h x hx
      rw[List.take_succ_eq_append_getElem hlk] at hx
      rcases List.mem_append.1 hx with hx|hx
      ·exact HZ0.out x hx
      ·rw[List.mem_singleton.1 hx];exact h
     simp only[qbi] at d0 d1
     simp at d0 d1
     obtain⟨g1,hg1⟩:∃g1,gs[k]=g1:=⟨_,rfl⟩
     rw[hg1] at d0 d1 hvx HX1 HX2
     clear hg1
     obtain⟨gm,gn⟩:=g1
     simp only at d0 d1
     have hMx:=((hM1.below hbx hM1.lt).al (.cells #[.string gm,.string gn] 116))
     have hlkx:=qde hMx Tryz.underlying141 (qin _) hvx
     rw[qy4] at hlkx
     simp only at hlkx
     obtain⟨G,hG⟩:∃G,qb1 Z (gm,gn)=G:=⟨_,rfl⟩
     rw[hG] at hlkx HX1 HX2
     clear hG hlook y0 y1
     rcases Nat.eq_zero_or_pos G with hG0|hG0
     ·have HE:Hid (o=none):=by show _=_;rw[HQ.out];exact HX1.out hG0
      subst hG0
      go_wp2
      go_ret2
      exact⟨.inl ⟨HE.out,rfl⟩,hbF.al (by have:=hbF.size;omega) _⟩
     ·have hGb:((G:Int)==0)=false:=by rw[beq_eq_false_iff_ne];omega
      have HX2:=hid (HX2.out (by omega))
      clear HX1
      go_wp2
      go_roundw
      case rel=>exact⟨k+1,by omega,by go_num,HX2,hbx.al qaa _⟩
      case measure=>simp[intOf];omega
    ·have hkd:decide ((k:Int)<(gs.length:Int))=false:=by simp;omega
     have HE:=hid (HN2.out (by have:=HZ0.out;rwa [List.take_of_length_le (by omega)] at this))
     clear hlook hgI hcl hcl1 hcl2 HZ0 HN1 HN2 y0 y1
     have bXr:=(hbx.block Bs HBS.out.2).trans bX
     have hMw:=hM1.below hbx hM1.lt
     have hBkd:Book wr.drew nz b p:=hBk.below (qe3 (hbF.mono hn))
     obtain⟨gad2,gcap2,cad2,ccap2,hlook,hgI,-⟩:=hBkd.look hvl
     simp only at hlook
     obtain⟨gl,hgl⟩:∃gl,(qae p (mon,name)).length=gl:=⟨_,rfl⟩
     rw[hgl] at hlook
     rw[HGB.out] at hlook hgI
     have hsz:=λ(W:World) (hW:Below wr.heap.size wr.drew W)=>qpf hZ (.mk gad2 gcap2 gb.body) nz bZ W (by have:=hW.size;have:=hbF.size;show nz<=W.heap.size;simp at *;omega) (hgI.below (hW.mono (by have:=hbF.size;omega))) (hMw.below (W':=W) ⟨hW.os,hW.tape,hW.output,hW.size,hW.block⟩ hMw.lt) (by rw[qco];exact hbkr)
     rw[tot_mk] at hsz
     simp only[Bl.slice] at hsz
     obtain⟨Q,hQ⟩:∃Q,min 401 (tot Z gb)=Q:=⟨_,rfl⟩
     have hQb:Q<=401:=by omega
     rw[hQ] at hsz HE
     have i1:0<=(Q:Int)/\(Q:Int)<=401:=by omega
     have i2:1+(Q:Int)<=402:=by omega
     have HK:Hid (∀W,wr.grownBy W (some bZ)->W.cell? ⟨Bs,0,none⟩=some (.string mon)/\W.cell? ⟨Bs,1,none⟩=some (.string name)):=by
      intro W hW
      have hl:=(Array.getElem?_eq_some_iff.1 bXr).1
      have hne:Bs≠bZ:=by have:=HBS.out.1;omega
      refine⟨(hW.cell_far ⟨Bs,0,none⟩ hl (λe=>hne (by cases e;rfl))).trans ?_,(hW.cell_far ⟨Bs,1,none⟩ hl (λe=>hne (by cases e;rfl))).trans ?_⟩
      ·rw[cellOf bXr];simp
      ·rw[cellOf bXr];simp
     have B:Below wr.heap.size wr wr.drew:=⟨rfl,rfl,rfl,Nat.le_refl _,λ_ _=>rfl⟩
     have B':Below wr.heap.size wr.drew wr.drew:=Below.refl _ _
     clear hQ hgl hgI hBkd bX bXr
     go_upto_region 11 with fail
     go_region_held3 (λW=>W.cell? ⟨Bs,0,none⟩=some (.string mon)/\W.cell? ⟨Bs,1,none⟩=some (.string name)) (first|exact HK.out _ (qbr B)|exact HK.out _ ((qbr B).trans hg5))
      ((go_at_call 60;(with_reducible refine (hsz _ B').mono ?_);rintro r u ⟨rfl,bb⟩;have B:=B.trans (bb.mono B.size);have hput:=qy1 (hMw.below B hMw.lt) Tryz.underlying141 hvl (.int .i64 (IntKind.i64.wrap (1+(Q:Int))));have hg5:=qln u bZ (qmt (zs Z) (mon,name) (.int .i64 (IntKind.i64.wrap (1+(Q:Int)))))))
     have HPM:Hid (qmt (zs Z) (mon,name) (.int .i64 (IntKind.i64.wrap (1+(Q:Int))))=zs (Z++[((mon,name),1+Q)])):=by
      show _=_
      rw[qd5 _ _ _ (by rw[qCv];exact HNM.out),qBe]
      have:IntKind.i64.wrap (1+(Q:Int))=((1+Q:Nat):Int):=by rw[IntKind.wrap_i64];omega
      rw[this]
     have hM5:=(hMw.below B hMw.lt).put hvl (.int .i64 (IntKind.i64.wrap (1+(Q:Int))))
     rw[HPM.out] at hM5 hg5 ⊢
     have HB5:Hid (Below w.heap.size w (kmW u bZ (zs (Z++[((mon,name),1+Q)])))):=(hbF.trans (B.mono hbF.size)).grown hg5 (by have:=hbF.size;have:=B.size;omega) (λk e=>by cases e;exact Nat.le_of_eq HBZ.out)
     have HE2:Hid (o=qb0 (qae p) (qam p) (R.drop (j+1)) (Z++[((mon,name),1+Q)])):=HQ.out.trans HE.out
     have HT2:Hid ((Z++[((mon,name),1+Q)]).map Prod.fst=R.take (j+1)):=by show _=_;rw[List.map_append,hZf,HTK.out];rfl
     have HZ2:Hid (∀x∈Z++[((mon,name),1+Q)],x.2<=402):=by
      intro x hx
      rcases List.mem_append.1 hx with hx|hx
      ·exact hZ x hx
      ·rw[List.mem_singleton.1 hx];show 1+Q<=402;omega
     clear hput hg5 HPM
     go_wp2
     go_roundw
     case rel=>exact⟨j+1,_,by omega,by go_num,HE2,hM5,HT2.out,HZ2.out,HB5.out⟩
     case measure=>simp[intOf];omega
  ·have hjd:decide ((j:Int)<(R.length:Int))=false:=by simp;omega
   have HE:Hid (o=some Z):=by
    show _=_
    rw[HQ.out,List.drop_of_length_le (by omega)];rfl
   go_wp2
   go_ret2
   exact⟨.inr ⟨Z,bZ,HE.out,rfl,hMr,hZ⟩,hbw⟩
open Go.RowKit
def qBf (st:List Ref × List Ref):Prop:=st.2.Nodup/\∀x∈st.2,x∈st.1
def DStep (st st':List Ref × List Ref):Prop:=qBf st'/\(∀x∈st'.2,x∈st.2\/x ∉ st.1)/\(∀x∈st.1,x∈st'.1)/\∀x∈st.2,x∈st'.2
theorem DStep.refl {st:List Ref × List Ref}(h:qBf st):DStep st st:=⟨h,λ_ hx=>.inl hx,λ_ h=>h,λ_ h=>h⟩
theorem DStep.trans {a b c:List Ref × List Ref}(h:DStep a b) (g:DStep b c):DStep a c:=
 ⟨g.1,λx hx=>by
  rcases g.2.1 x hx with h1|h1
  ·exact h.2.1 x h1
  ·exact .inr λh2=>h1 (h.2.2.1 x h2),λx hx=>g.2.2.1 x (h.2.2.1 x hx),λx hx=>g.2.2.2 x (h.2.2.2 x hx)⟩
theorem qlh {f:List Ref × List Ref->Ref->List Ref × List Ref}(hf:∀st r,qBf st->DStep st (f st r)) (l:List Ref):∀st,qBf st->DStep st (l.foldl f st):=by
 induction l with
 | nil=>intro st h;exact .refl h
 | cons x l ih=>intro st h;exact (hf st x h).trans (ih _ (hf st x h).1)
theorem qwf (G:Ref->List Ref) (n:Nat):∀st r,qBf st->DStep st (dfs G n st r):=by
 induction n with
 | zero=>intro st r h;exact .refl h
 | succ n ih =>
  rintro⟨S,A⟩ r h
  by_cases hr:r∈S
  ·rw[qcu hr];exact .refl h
  ·rw[qdz hr]
   have h0:qBf (S++[r],A):=⟨h.1,λx hx=>List.mem_append.2 (.inl (h.2 x hx))⟩
   obtain⟨⟨g1,g2⟩,g3,g4,g5⟩:=qlh ih (G r) (S++[r],A) h0
   have hn:r ∉ ((G r).foldl (dfs G n) (S++[r],A)).2:=λhm=>by
    rcases g3 r hm with h1|h1
    ·exact hr (h.2 r h1)
    ·exact h1 (by simp)
   refine⟨⟨List.nodup_append.2 ⟨g1,by simp,λa ha c hc=>by simp at hc;rintro rfl;exact hn (hc▸ha)⟩,λx hx=>?_⟩,λx hx=>?_,λx hx=>g4 x (List.mem_append.2 (.inl hx)),λx hx=>List.mem_append.2 (.inl (g5 x hx))⟩
   ·rcases List.mem_append.1 hx with hx|hx
    ·exact g2 x hx
    ·rw[List.mem_singleton.1 hx];exact g4 r (by simp)
   ·rcases List.mem_append.1 hx with hx|hx
    ·rcases g3 x hx with h1|h1
     ·exact .inl h1
     ·exact .inr λh2=>h1 (List.mem_append.2 (.inl h2))
    ·rw[List.mem_singleton.1 hx];exact .inr hr
theorem qcc (p:Pr) (l:List Ref):(qab p l).Nodup:=
 (qlh (qwf (qae p) _) l ([],[]) ⟨List.nodup_nil,λx hx=>by cases hx⟩).1.1
theorem qzi {G:Ref->List Ref}{U:List Ref}(hU:∀r∈U,∀x∈G r,x∈U) (n:Nat):∀(st:List Ref × List Ref) (r:Ref),r∈U->(∀x∈st.2,x∈U)->∀x∈(dfs G n st r).2,x∈U:=by
 induction n with
 | zero=>intro st r _ h;exact h
 | succ n ih =>
  rintro⟨S,A⟩ r hr h
  by_cases hm:r∈S
  ·rw[qcu hm];exact h
  ·rw[qdz hm]
   have hf:∀(l:List Ref),(∀x∈l,x∈U)->∀st:List Ref × List Ref,(∀x∈st.2,x∈U)->∀x∈(l.foldl (dfs G n) st).2,x∈U:=by
    intro l
    induction l with
    | nil=>intro _ st hs;exact hs
    | cons y l ihl=>intro hl st hs;exact ihl (λz hz=>hl z (by simp[hz])) _ (ih st y (hl y (by simp)) hs)
   intro x hx
   rcases List.mem_append.1 hx with hx|hx
   ·exact hf (G r) (hU r hr) (S++[r],A) h x hx
   ·rw[List.mem_singleton.1 hx];exact hr
theorem qgt {G:Ref->List Ref}{U:List Ref}(hU:∀r∈U,∀x∈G r,x∈U) (n:Nat) (l:List Ref):(∀x∈l,x∈U)->∀st:List Ref × List Ref,(∀x∈st.2,x∈U)->∀x∈(l.foldl (dfs G n) st).2,x∈U:=by
 induction l with
 | nil=>intro _ st hs;exact hs
 | cons y l ihl=>intro hl st hs;exact ihl (λz hz=>hl z (by simp[hz])) _ (qzi hU n st y (hl y (by simp)) hs)
theorem qea (p:Pr) (l:List Ref):∀x∈qab p l,x∈l++qaj p:=
 qgt (qf8 p l) _ l (λx hx=>List.mem_append.2 (.inl hx)) ([],[]) (λx hx=>by cases hx)
theorem qn7 (p:Pr) (l:List Ref):(qab p l).length<=l.length+(qaj p).length:=by
 have h:=qel (qf8 p l) (l.length+(qaj p).length) l (λx hx=>List.mem_append.2 (.inl hx)) ([],[])
 have h2:left (l++qaj p) []<=l.length+(qaj p).length:=Nat.le_trans (List.length_filter_le _ _) (by simp)
 unfold qab
 simp only[List.length_nil] at h
 omega
structure Fine (p:Pr):Prop where
 subs:∀m∈p.mons,∀f∈m.meths,f.body.subs.length<=1000000
 lens:∀m∈p.mons,∀f∈m.meths,f.body.body.length<=1000000
 blks:∀m∈p.mons,∀f∈m.meths,∀s∈f.body.subs,s.blocks.length<=1000000
 refs:(qaj p).length<=400000
 lds:∀r,(qae p r).length<=400000
structure FineB (x:Bl):Prop where
 subs:x.subs.length<=400000
 blks:∀s∈x.subs,s.blocks.length<=1000000
theorem qgs {x:Bl}{nz:Nat}{w:World}(h:x.Is nz w):∀r∈qac x,qct r:=by
 intro r hr
 obtain⟨s,hs,_,rfl⟩:=(qbp x r).1 hr
 exact qkq (h.subs s hs)
theorem qkp {p:Pr}{nz:Nat}{w:World}(h:p.Is nz w):∀r∈qaj p,qct r:=by
 intro r hr
 obtain⟨m,hm,hr⟩:=List.mem_flatMap.1 hr
 obtain⟨f,hf,hr⟩:=List.mem_flatMap.1 hr
 exact qgs ((h.1.2 m hm).2.2.2 f hf).2.2 r hr
def qoq (T:List (Ref × Nat)->Nat):Option (List (Ref × Nat))->Nat × Int
 | none=>(0,80)
 | some Z=>if 400<min 401 (T Z) then (0,81) else (min 401 (T Z),0)
theorem qfl (p:Pr) (x:Bl):qc9 p x=if ∃r∈qab p (qac x),qar p.mons r.1 r.2=none then (0,61) else qoq (λZ=>tot Z x) (qb0 (qae p) (qam p) (qab p (qac x)) []):=by
 rw[qc9]
 cases qb0 (qae p) (qam p) (qab p (qac x)) [] <;> rfl
def qmv (q:Nat × Int) (w w':World) (r:Ending):Prop:=r=.returned (.tuple #[.int .i64 (q.1:Int),.int .i64 q.2])/\Below w.heap.size w w'
theorem qlb (p:Pr) (x:Bl) (nz b:Nat) (w:World) (hn:nz<=w.heap.size) (hBk:Book w nz b p) (hI:x.Is nz w) (hV:∀r∈qaj p,qct r) (hF:Fine p) (hX:FineB x) :
  Calls Tryz.prog 43 #[.map (some b),x.slice] w λr w'=>qmv (qc9 p x) w w' r:=by
 have hVx:=qgs hI
 have hcl:(qac x).length<=400000:=by
  have h1:=qeu x.subs []
  have h2:=hX.subs
  simp only[List.length_nil] at h1
  unfold qac;omega
 have hV2:∀r∈qac x++qaj p,qct r:=λr hr=>by
  rcases List.mem_append.1 hr with h|h
  ·exact hVx r h
  ·exact hV r h
 have hq12:=qk5 x nz w hn hI (by have:=hX.subs;omega)
 have hRl:=qn7 p (qac x)
 have hRs:=qea p (qac x)
 have hnd:=qcc p (qac x)
 have hV3:∀r∈qab p (qac x)++qaj p,qct r:=λr hr=>by
  rcases List.mem_append.1 hr with h|h
  ·exact hV2 r (hRs r h)
  ·exact hV r h
 have hra:=λ(ad:Option Addr) (cap:Nat) (W:World) (hW:Below w.heap.size w W) (hs:SlAt 2 qbi W.heap.size W ad cap (qac x))=>reached_any p (qac x) ad cap W.heap.size b W (Nat.le_refl _) (by have h:=hBk.below (hW.mono hn);exact h.mono (by have:=hW.size;omega)) hs hV2 (by have:=hF.refs;omega)
 have hsz:=λ(ad:Option Addr) (cap:Nat) (W:World) (hW:Below w.heap.size w W) (hs:SlAt 2 qbi W.heap.size W ad cap (qab p (qac x)))=>qu2 p (qab p (qac x)) ad cap W.heap.size b W (Nat.le_refl _) (by have h:=hBk.below (hW.mono hn);exact h.mono (by have:=hW.size;omega)) hs hV3 hnd hF.blks
 have hsi:=λ(Z:List (Ref × Nat)) (hZ:∀y∈Z,y.2<=402) (bZ:Nat) (W:World) (hW:Below w.heap.size w W) (hM:KMap W bZ (zs Z))=>qpf hZ x nz bZ W (by have:=hW.size;omega) (hI.below (hW.mono hn)) hM hX.blks
 obtain⟨R,hR⟩:∃R,qab p (qac x)=R:=⟨_,rfl⟩
 have HC:=hid (qfl p x)
 rw[hR] at HC
 rw[hR] at hra hsz hRl hV3
 obtain⟨C,hC⟩:∃C,qac x=C:=⟨_,rfl⟩
 rw[hC] at hra hq12 hcl hRl
 obtain⟨T,hT⟩:∃T:List (Ref × Nat)->Nat,(λZ=>tot Z x)=T:=⟨_,rfl⟩
 have hTZ:∀Z,tot Z x=T Z:=λZ=>by rw[<- hT]
 simp only[hTZ] at hsi
 rw[hT] at HC
 obtain⟨o,ho⟩:∃o,qb0 (qae p) (qam p) R []=o:=⟨_,rfl⟩
 rw[ho] at hsz HC
 obtain⟨q,hq⟩:∃q,qc9 p x=q:=⟨_,rfl⟩
 rw[hq] at HC ⊢
 clear hR hC hT hTZ ho hq hRs hnd hVx hV2
 rcases x with ⟨xad,xcap,xbody⟩
 simp only[Bl.slice] at hq12 hsi ⊢
 go_enter Tryz.func43,Tryz.ntmps43
 go_upto_region 2 with (first
  | (go_at_call 56;(with_reducible refine hq12.mono ?_);rintro r u1 ⟨v1,rfl,ho1,bb1⟩;obtain⟨ad1,cp1,rfl,hs1⟩:=qre qcz ho1)
  | (go_at_call 58;(with_reducible refine (hra _ _ _ bb1 hs1).mono ?_);rintro r u2 ⟨v2,rfl,ho2,bb2⟩;obtain⟨ad2,cp2,rfl,hs2⟩:=qre qcz ho2))
 have hB2:Below w.heap.size w u2:=bb1.tr qaa bb2
 have hs21:=hs2.1;have hs22:=hs2.2.1
 unfold maxLen at hs22
 have hz2:=hB2.size
 go_wp2
 clear hra hq12 hs1 ho1 ho2 bb1 bb2
 go_loopw [20] (λi wr=>∃k:Nat,k<=R.length/\i=.int .i64 k/\Hid (∀r∈R.take k,qar p.mons r.1 r.2≠none)/\Below u2.heap.size u2 wr)
  (λi _=>R.length-(intOf i).toNat)
 case atStart=>exact⟨0,by omega,rfl,(λx hx=>by simp at hx),Below.refl _ _⟩
 case round =>
  obtain⟨k,hk,rfl,HK0,hbx⟩:=hrel
  have hzx:=hbx.size
  have hbF:Below w.heap.size w wr:=hB2.tr qaa hbx
  by_cases hlk:k<R.length
  ·rcases hs2.2.2 with h|⟨tb,toff,rfl,htn,htrow⟩
   ·subst h;simp at hlk
   have htrow2:=htrow.below hbx htn
   have d0:=htrow2 k hlk 0 (by omega)
   have d1:=htrow2 k hlk 1 (by omega)
   have htw:tb<wr.heap.size:=by omega
   have hvx:=hV3 _ (List.mem_append.2 (.inl (List.getElem_mem hlk)))
   have HX1:Hid (qar p.mons R[k].1 R[k].2=none->∃r∈R,qar p.mons r.1 r.2=none):=λh=>⟨R[k],List.getElem_mem hlk,h⟩
   have HX2:Hid (qar p.mons R[k].1 R[k].2≠none->∀x∈R.take (k+1),qar p.mons x.1 x.2≠none):=by
    intro h x hx
    rw[List.take_succ_eq_append_getElem hlk] at hx
    rcases List.mem_append.1 hx with hx|hx
    ·exact HK0.out x hx
    ·rw[List.mem_singleton.1 hx];exact h
   simp only[qbi] at d0 d1
   simp at d0 d1
   obtain⟨g1,hg1⟩:∃g1,R[k]=g1:=⟨_,rfl⟩
   rw[hg1] at d0 d1 hvx HX1 HX2
   clear hg1
   obtain⟨gm,gn⟩:=g1
   simp only at d0 d1 HX1 HX2
   have hBka:=hBk.below ((hbF.mono hn).al (by omega) (.cells #[.string gm,.string gn] 116))
   obtain⟨gad,gcap,cad,ccap,hlook⟩:=hBka.look2 hvx
   simp only at hlook
   obtain⟨gl,hgl⟩:∃gl,(qae p (gm,gn)).length=gl:=⟨_,rfl⟩
   obtain⟨gb,hgb⟩:∃gb,(qam p (gm,gn)).body.length=gb:=⟨_,rfl⟩
   rw[hgl,hgb] at hlook
   clear hgl hgb hBka
   cases hmx:qar p.mons gm gn with
   | none =>
    rw[hmx] at hlook HX1
    have HE:Hid (q=(0,61)):=by show _=_;rw[HC.out,if_pos (HX1.out rfl)]
    simp only[Option.isSome_none] at hlook
    clear HX1 HX2 hmx
    go_wp2
    go_ret2
    exact⟨by rw[HE.out];rfl,(hbF.al (by omega) _).al (by simp <;> omega) _⟩
   | some f =>
    rw[hmx] at hlook HX2
    have HX2:=hid (HX2.out (by simp))
    simp only[Option.isSome_some] at hlook
    clear HX1 hmx
    go_wp2
    go_roundw
    case rel=>exact⟨k+1,by omega,by go_num,HX2,(hbx.al qaa _).al (by simp <;> omega) _⟩
    case measure=>simp[intOf];omega
  ·have hkd:decide ((k:Int)<(R.length:Int))=false:=by simp;omega
   have HC2:Hid (q=qoq T o):=by
    show _=_
    rw[HC.out,if_neg]
    rintro⟨r,hr,h⟩
    exact HK0.out r (by rw[List.take_of_length_le (by omega)];exact hr) h
   have hszc:=hsz ad2 cp2 wr hbF ((hs2.below hbx).mono hbx.size)
   clear HC hsz HK0
   rcases o with _|Z
   ·have HE:Hid (q=(0,80)):=HC2.out
    have hszc:Calls Tryz.prog 59 #[.map (some b),.slice ad2 R.length cp2] wr λr w'=>r=.returned (.tuple #[.map none,.int .i64 80])/\Below wr.heap.size wr w':=by
     refine hszc.mono ?_
     rintro r w' ⟨⟨_,h⟩|⟨Z,bZ,h,_⟩,hb⟩
     ·exact⟨h,hb⟩
     ·cases h
    clear HC2
    go_wp2_with (go_at_call 59;(with_reducible refine hszc.mono ?_);rintro r u5 ⟨rfl,bb5⟩)
    go_ret2
    exact⟨by rw[HE.out];rfl,hbF.tr qaa bb5⟩
   ·have hszc:Calls Tryz.prog 59 #[.map (some b),.slice ad2 R.length cp2] wr λr w'=>∃bZ,r=.returned (.tuple #[.map (some bZ),.int .i64 0])/\(KMap w' bZ (zs Z)/\∀y∈Z,y.2<=402)/\Below wr.heap.size wr w':=by
     refine hszc.mono ?_
     rintro r w' ⟨⟨h,_⟩|⟨Z',bZ,h,h2,h3,h4⟩,hb⟩
     ·cases h
     ·cases h;exact⟨bZ,h2,⟨h3,h4⟩,hb⟩
    have HC3:Hid (q=(if 400<min 401 (T Z) then (0,81) else (min 401 (T Z),0):Nat × Int)):=HC2.out
    have hsi:=λ(hZ:∀y∈Z,y.2<=402)=>hsi Z hZ
    obtain⟨t,ht⟩:∃t,min 401 (T Z)=t:=⟨_,rfl⟩
    have htb:t<=401:=by omega
    rw[ht] at HC3
    simp only[ht] at hsi
    clear HC2 ht
    by_cases hbig:400<t
    ·have hbi:(400:Int)<(t:Int):=by omega
     have HE:Hid (q=(0,81)):=by show _=_;rw[HC3.out,if_pos hbig]
     clear HC3
     go_wp2_with (first
      | (go_at_call 59;(with_reducible refine hszc.mono ?_);rintro r u5 ⟨bZ,rfl,⟨hM5,hZ5⟩,bb5⟩)
      | (go_at_call 60;(with_reducible refine (hsi hZ5 bZ _ (hbF.tr qaa bb5) hM5).mono ?_);rintro r u6 ⟨rfl,bb6⟩))
     go_ret2
     exact⟨by rw[HE.out];rfl,(hbF.tr qaa bb5).tr qaa bb6⟩
    ·have hbi:¬ (400:Int)<(t:Int):=by omega
     have HE:Hid (q=(t,0)):=by show _=_;rw[HC3.out,if_neg hbig]
     clear HC3
     go_wp2_with (first
      | (go_at_call 59;(with_reducible refine hszc.mono ?_);rintro r u5 ⟨bZ,rfl,⟨hM5,hZ5⟩,bb5⟩)
      | (go_at_call 60;(with_reducible refine (hsi hZ5 bZ _ (hbF.tr qaa bb5) hM5).mono ?_);rintro r u6 ⟨rfl,bb6⟩))
     go_ret2
     exact⟨by rw[HE.out];rfl,(hbF.tr qaa bb5).tr qaa bb6⟩
open Go.RowKit
def Bl.okB (x:Bl):Bool:=x.subs.all St.ok1
def qfc (g:Nat) (x:Bl):Pr:=⟨none,0,[],some ⟨g,0,none⟩,1,[⟨⟨#[114]⟩,false,0,x,0⟩]⟩
theorem qDf:Lx.name ⟨#[114]⟩=true:=by kernel_rfl
theorem qxy (g:Nat) (x:Bl):(qfc g x).ok=x.okB:=by
 have h1:(qfc g x).stmts=x.subs:=by simp[qfc,Pr.stmts]
 have h2:(qfc g x).decl=true:=by simp[qfc,Pr.decl,Ro.ok,qDf,qby]
 rw[Pr.ok,h1,h2];rfl
theorem qxx {W:World}{g n:Nat}{x:Bl}(hg:W.heap[g]?=some (.cells #[.string ⟨#[114]⟩,.bool false,.int .i64 0,x.slice,.int .i64 0] 59 (0,0))) (hn:g<n) (hx:x.Is n W):(qfc g x).Is n W:=by
 refine⟨⟨⟨by simp[qfc],by unfold maxLen;simp[qfc],.inl rfl⟩,λm hm=>by simp[qfc] at hm⟩,⟨by simp[qfc],by unfold maxLen;simp[qfc],.inr ⟨g,0,rfl,hn,λj hj i hi=>?_⟩⟩,λr hr=>?_⟩
 ·have hj2:j=0:=by simp[qfc] at hj;omega
  subst hj2
  rw[Nat.zero_add,cellOf hg]
  rcases i with _|_|_|_|_|i <;> first|rfl|omega
 ·simp only[qfc,List.mem_cons,List.not_mem_nil,or_false] at hr
  subst hr
  exact⟨by show (ByteArray.mk #[114]).size<=140737488351232;decide,⟨by show (-9223372036854775808:Int)<=0;decide,by show (0:Int)<=9223372036854775807;decide⟩,⟨by show (-9223372036854775808:Int)<=0;decide,by show (0:Int)<=9223372036854775807;decide⟩,hx⟩
theorem qlm (p:Pr) (x:Bl) (nz:Nat) (w:World) (hn:nz<=w.heap.size) (hp:p.Is nz w) (hx:x.Is nz w) (hS:Shapes w) (hS3:6<=w.heap.size) :
  Calls Tryz.prog 46 #[p.val,x.slice] w λr w'=>r=.returned (.bool (p.ok&&x.okB))/\Below w.heap.size w w':=by
 have hc1:=λ(W:World) (hW:Below w.heap.size w W)=>qhl p nz W (by have:=hW.size;omega) (hp.below (hW.mono hn)) (hS.below hW hS3)
 have hc2:=λ(g:Nat) (W:World) (hW:Below w.heap.size w W) (hg:W.heap[g]?=some (.cells #[.string ⟨#[114]⟩,.bool false,.int .i64 0,x.slice,.int .i64 0] 59 (0,0)))=>qhl (qfc g x) W.heap.size W (Nat.le_refl _) (qxx hg (Array.getElem?_eq_some_iff.1 hg).1 ((hx.below (hW.mono hn)).mono (by have:=hW.size;omega))) (hS.below hW hS3)
 simp only[qxy] at hc2
 simp only[qfc,Pr.val,List.length_nil,List.length_cons,Nat.zero_add] at hc2
 obtain⟨ok1,hok1⟩:∃ok1,p.ok=ok1:=⟨_,rfl⟩
 obtain⟨ok2,hok2⟩:∃ok2,x.okB=ok2:=⟨_,rfl⟩
 simp only[hok1] at hc1 ⊢
 simp only[hok2] at hc2 ⊢
 clear hok1 hok2
 rcases p with ⟨mad,mcap,mons,rad,rcap,roles⟩
 rcases x with ⟨ad,cap,body⟩
 simp only[Pr.val,Bl.slice] at hc1 hc2 ⊢
 cases ok1
 ·simp only[Bool.false_eq_true,if_false] at hc1
  go_enter Tryz.func46,Tryz.ntmps46
  go_upto_region 2 with fail
  have hB:Below w.heap.size w ((w.alloc (.cells #[.slice mad mons.length mcap,.slice rad roles.length rcap] 25)).alloc (.cells #[.string ⟨#[114]⟩,.bool false,.int .i64 0,.slice ad body.length cap,.int .i64 0] 59)):=((Below.refl _ w).al qaa _).al qaa _
  go_wp2_with (go_at_call 63;(with_reducible refine (hc1 _ hB).mono ?_);rintro r u1 ⟨rfl,bb1⟩)
  go_ret
  exact⟨rfl,hB.tr qaa bb1⟩
 ·simp only[if_true] at hc1
  go_enter Tryz.func46,Tryz.ntmps46
  go_upto_region 2 with fail
  have hB:Below w.heap.size w ((w.alloc (.cells #[.slice mad mons.length mcap,.slice rad roles.length rcap] 25)).alloc (.cells #[.string ⟨#[114]⟩,.bool false,.int .i64 0,.slice ad body.length cap,.int .i64 0] 59)):=((Below.refl _ w).al qaa _).al qaa _
  obtain⟨b1,b2,-,hz⟩:=qch w #[.slice mad mons.length mcap,.slice rad roles.length rcap] #[.string ⟨#[114]⟩,.bool false,.int .i64 0,.slice ad body.length cap,.int .i64 0] 25 59
  obtain⟨W0,hW0⟩:∃W0,(w.alloc (.cells #[.slice mad mons.length mcap,.slice rad roles.length rcap] 25)).alloc (.cells #[.string ⟨#[114]⟩,.bool false,.int .i64 0,.slice ad body.length cap,.int .i64 0] 59)=W0:=⟨_,rfl⟩
  rw[hW0] at hB b1 b2 hz ⊢
  have HZ:=hid hz
  clear hW0 hz
  have p0:=cellOf b1 0
  have p1:=cellOf b1 1
  have q0:=cellOf b2 0
  have q1:=cellOf b2 1
  have q2:=cellOf b2 2
  have q3:=cellOf b2 3
  have q4:=cellOf b2 4
  simp at p0 p1 q0 q1 q2 q3 q4
  cases ok2
  ·simp only[Bool.false_eq_true,if_false] at hc2
   go_wp2_with (first
    | (have B1:=B1;go_at_call 63;(with_reducible refine (hc2 _ _ (hB.tr qaa (bb1.al qaa _)) (qaf u1 _)).mono ?_);rintro r u2 ⟨rfl,bb2⟩)
    | (go_at_call 63;(with_reducible refine (hc1 _ hB).mono ?_);rintro r u1 ⟨rfl,bb1⟩;have B1:=hid (bb1.size);have k0:=(bb1.cell (p:=⟨w.heap.size+1,0,none⟩) (by have:=HZ.out;show w.heap.size+1<_;omega)).trans q0;have k1:=(bb1.cell (p:=⟨w.heap.size+1,1,none⟩) (by have:=HZ.out;show w.heap.size+1<_;omega)).trans q1;have k2:=(bb1.cell (p:=⟨w.heap.size+1,2,none⟩) (by have:=HZ.out;show w.heap.size+1<_;omega)).trans q2;have k3:=(bb1.cell (p:=⟨w.heap.size+1,3,none⟩) (by have:=HZ.out;show w.heap.size+1<_;omega)).trans q3;have k4:=(bb1.cell (p:=⟨w.heap.size+1,4,none⟩) (by have:=HZ.out;show w.heap.size+1<_;omega)).trans q4))
   go_ret
   exact⟨rfl,(hB.tr qaa (bb1.al qaa _)).tr qaa bb2⟩
  ·simp only[if_true] at hc2
   go_wp2_with (first
    | (have B1:=B1;go_at_call 63;(with_reducible refine (hc2 _ _ (hB.tr qaa (bb1.al qaa _)) (qaf u1 _)).mono ?_);rintro r u2 ⟨rfl,bb2⟩)
    | (go_at_call 63;(with_reducible refine (hc1 _ hB).mono ?_);rintro r u1 ⟨rfl,bb1⟩;have B1:=hid (bb1.size);have k0:=(bb1.cell (p:=⟨w.heap.size+1,0,none⟩) (by have:=HZ.out;show w.heap.size+1<_;omega)).trans q0;have k1:=(bb1.cell (p:=⟨w.heap.size+1,1,none⟩) (by have:=HZ.out;show w.heap.size+1<_;omega)).trans q1;have k2:=(bb1.cell (p:=⟨w.heap.size+1,2,none⟩) (by have:=HZ.out;show w.heap.size+1<_;omega)).trans q2;have k3:=(bb1.cell (p:=⟨w.heap.size+1,3,none⟩) (by have:=HZ.out;show w.heap.size+1<_;omega)).trans q3;have k4:=(bb1.cell (p:=⟨w.heap.size+1,4,none⟩) (by have:=HZ.out;show w.heap.size+1<_;omega)).trans q4))
   go_ret
   exact⟨rfl,(hB.tr qaa (bb1.al qaa _)).tr qaa bb2⟩
structure Fine0 (p:Pr):Prop where
 subs:∀m∈p.mons,∀f∈m.meths,f.body.subs.length<=1000000
 lens:∀m∈p.mons,∀f∈m.meths,f.body.body.length<=1000000
 refs:(qaj p).length<=400000
 lds:∀r,(qae p r).length<=400000
theorem ql0 {s:St}(h:s.ok1=true):s.blocks.length<=8:=by
 rcases s with ⟨kind,mon,name,n,e,ad,cap,blocks,pos⟩
 simp only[St.ok1,Bool.and_eq_true,decide_eq_true_eq] at h
 have h1:=h.2.2
 have h2:qdv kind.toNat<=8:=by unfold qdv;(repeat' split) <;> omega
 exact Nat.le_trans h1 h2
theorem qew {x:Bl}(h:x.okB=true):∀s∈x.subs,s.blocks.length<=1000000:=λs hs=>by
 have:=ql0 (List.all_eq_true.1 h s hs);omega
theorem qt4 {p:Pr}(h:p.ok=true):∀m∈p.mons,∀f∈m.meths,f.body.okB=true:=by
 intro m hm f hf
 simp only[Pr.ok,Bool.and_eq_true] at h
 refine List.all_eq_true.2 λs hs=>List.all_eq_true.1 h.2 s ?_
 exact List.mem_append.2 (.inl (List.mem_flatMap.2 ⟨m,hm,List.mem_flatMap.2 ⟨f,hf,hs⟩⟩))
theorem Fine0.fine {p:Pr}(h:Fine0 p) (hok:p.ok=true):Fine p:=⟨h.subs,h.lens,λm hm f hf=>qew (qt4 hok m hm f hf),h.refs,h.lds⟩
def qba (p:Pr) (x:Bl):Nat × Int:=if (p.ok&&x.okB)=true then qc9 p x else (0,20)
open Go.RowKit
def zeroEx:Ex:=.mk 0 ⟨#[]⟩ ⟨#[]⟩ 0 none 0 [] 0
mutual
def St.clr:St->St
 | .mk kind mon name n e _ _ blocks pos=>.mk kind mon name n e none 0 (Bl.clrL blocks) pos
def Bl.clr:Bl->Bl
 | .mk _ _ body=>.mk none 0 (St.clrL body)
def St.clrL:List St->List St
 | []=>[]
 | s::l=>s.clr::St.clrL l
def Bl.clrL:List Bl->List Bl
 | []=>[]
 | b::l=>b.clr::Bl.clrL l
end
theorem St.clrL_eq (l:List St):St.clrL l=l.map St.clr:=by
 induction l with
 | nil=>simp[St.clrL]
 | cons a l ih=>simp[St.clrL,ih]
theorem Bl.clrL_eq (l:List Bl):Bl.clrL l=l.map Bl.clr:=by
 induction l with
 | nil=>simp[Bl.clrL]
 | cons a l ih=>simp[Bl.clrL,ih]
theorem St.clr_mk (kind:Int) (mon name:ByteArray) (n:Int) (e:Ex) (ad:Option Addr) (cap:Nat) (blocks:List Bl) (pos:Int):(St.mk kind mon name n e ad cap blocks pos).clr=.mk kind mon name n e none 0 (blocks.map Bl.clr) pos:=by rw[St.clr,Bl.clrL_eq]
theorem Bl.clr_mk (ad:Option Addr) (cap:Nat) (body:List St):(Bl.mk ad cap body).clr=.mk none 0 (body.map St.clr):=by rw[Bl.clr,St.clrL_eq]
mutual
def St.inl (f:Ref->Bl):St->St
 | .mk kind mon name n e _ _ blocks pos=>if kind=8 then .mk 7 mon ⟨#[]⟩ 0 zeroEx none 0 [f (mon,name)] pos else .mk kind mon name n e none 0 (Bl.inlL f blocks) pos
def Bl.inl (f:Ref->Bl):Bl->Bl
 | .mk _ _ body=>.mk none 0 (St.inlL f body)
def St.inlL (f:Ref->Bl):List St->List St
 | []=>[]
 | s::l=>s.inl f::St.inlL f l
def Bl.inlL (f:Ref->Bl):List Bl->List Bl
 | []=>[]
 | b::l=>b.inl f::Bl.inlL f l
end
theorem St.inlL_eq (f:Ref->Bl) (l:List St):St.inlL f l=l.map (St.inl f):=by
 induction l with
 | nil=>simp[St.inlL]
 | cons a l ih=>simp[St.inlL,ih]
theorem Bl.inlL_eq (f:Ref->Bl) (l:List Bl):Bl.inlL f l=l.map (Bl.inl f):=by
 induction l with
 | nil=>simp[Bl.inlL]
 | cons a l ih=>simp[Bl.inlL,ih]
theorem Bl.inl_mk (f:Ref->Bl) (ad:Option Addr) (cap:Nat) (body:List St):(Bl.mk ad cap body).inl f=.mk none 0 (body.map (St.inl f)):=by rw[Bl.inl,St.inlL_eq]
theorem St.inl_call (f:Ref->Bl) (mon name:ByteArray) (n:Int) (e:Ex) (ad:Option Addr) (cap:Nat) (blocks:List Bl) (pos:Int):(St.mk 8 mon name n e ad cap blocks pos).inl f=.mk 7 mon ⟨#[]⟩ 0 zeroEx none 0 [f (mon,name)] pos:=by rw[St.inl,if_pos rfl]
theorem St.inl_other (f:Ref->Bl) (kind:Int) (hk:kind≠8) (mon name:ByteArray) (n:Int) (e:Ex) (ad:Option Addr) (cap:Nat) (blocks:List Bl) (pos:Int):(St.mk kind mon name n e ad cap blocks pos).inl f=.mk kind mon name n e none 0 (blocks.map (Bl.inl f)) pos:=by rw[St.inl,if_neg hk,Bl.inlL_eq]
theorem Bl.inl_body (f:Ref->Bl) (b:Bl) (ad:Option Addr) (cap:Nat):(Bl.mk ad cap b.body).inl f=b.inl f:=by
 rcases b with ⟨a,c,body⟩
 rw[Bl.inl_mk,Bl.inl_mk];rfl
def qd2 (p:Pr):Nat->Ref->Bl
 | 0,_=>.mk none 0 []
 | n+1,r=>(qam p r).inl (qd2 p n)
theorem Ex.len (e:Ex):e.cells.length=6:=by rcases e with ⟨a,b,c,d,e,f,g,h⟩;rfl
theorem Bl.len (b:Bl):b.cells.length=1:=rfl
theorem SlAt.imp {α:Type}{size:Nat}{cs:α->List Value}(hlen:∀x,(cs x).length=size) {n n':Nat}{X Y:World}{ad:Option Addr}{cap:Nat}{l:List α}(hc:∀(a:Addr) v,a.block<n->X.cell? a=some v->Y.cell? a=some v) (hn:n<=n') (h:SlAt size cs n X ad cap l):SlAt size cs n' Y ad cap l:=by
 obtain⟨h1,h2,h3⟩:=h
 refine⟨h1,h2,?_⟩
 rcases h3 with h3|⟨b,off,h4,h5,h6⟩
 ·exact .inl h3
 ·refine .inr ⟨b,off,h4,by omega,λj hj i hi=>?_⟩
  have h7:=h6 j hj i hi
  rw[List.getElem?_eq_getElem (by rw[hlen];exact hi)] at h7 ⊢
  exact hc _ _ h5 h7
theorem Ex.Is.imp {n n':Nat}{X Y:World}(hc:∀(a:Addr) v,a.block<n->X.cell? a=some v->Y.cell? a=some v) (hn:n<=n'):∀ {e:Ex},e.Is n X->e.Is n' Y:=by
 intro e
 induction e using Ex.ind with
 | h op mon name n ad cap kids pos ih =>
  intro h
  exact Ex.Is.up ⟨h.down.1,h.down.2.1.imp Ex.len hc hn,λx hx=>ih x hx (h.down.2.2 x hx)⟩
theorem Bl.Is.imp {n n':Nat}{X Y:World}(hc:∀(a:Addr) v,a.block<n->X.cell? a=some v->Y.cell? a=some v) (hn:n<=n') {b:Bl}:b.Is n X->b.Is n' Y:=
 Bl.ind (P:=λs=>s.Is n X->s.Is n' Y) (Q:=λb=>b.Is n X->b.Is n' Y) (λ_ _ _ _ _ _ _ _ _ ih h=>St.Is.up ⟨h.down.1,h.down.2.1.imp hc hn,h.down.2.2.1.imp Bl.len hc hn,λb hb'=>ih b hb' (h.down.2.2.2 b hb')⟩)
  (λ_ _ _ ih h=>Bl.Is.up ⟨h.down.1.imp St.len hc hn,λs hs=>ih s hs (h.down.2 s hs)⟩) b
theorem St.Is.imp {n n':Nat}{X Y:World}(hc:∀(a:Addr) v,a.block<n->X.cell? a=some v->Y.cell? a=some v) (hn:n<=n') {s:St}:s.Is n X->s.Is n' Y:=
 St.ind (P:=λs=>s.Is n X->s.Is n' Y) (Q:=λb=>b.Is n X->b.Is n' Y) (λ_ _ _ _ _ _ _ _ _ ih h=>St.Is.up ⟨h.down.1,h.down.2.1.imp hc hn,h.down.2.2.1.imp Bl.len hc hn,λb hb'=>ih b hb' (h.down.2.2.2 b hb')⟩)
  (λ_ _ _ ih h=>Bl.Is.up ⟨h.down.1.imp St.len hc hn,λs hs=>ih s hs (h.down.2 s hs)⟩) s
def only (Q:Nat->Bool) (W:World):World:={ W with heap:=W.heap.mapIdx λi o=>if Q i then o else .cells #[] 0 (0,0) }
theorem qt8 (Q:Nat->Bool) (W:World) (k:Nat):(only Q W).heap[k]?=(W.heap[k]?).map λo=>if Q k then o else .cells #[] 0 (0,0):=by
 simp[only]
theorem qcl (Q:Nat->Bool) (W:World) (a:Addr) (v:Value):(only Q W).cell? a=some v↔Q a.block=true/\W.cell? a=some v:=by
 have h:=qt8 Q W a.block
 unfold World.cell?
 rw[h]
 cases hq:Q a.block
 ·cases W.heap[a.block]? <;> simp
 ·cases W.heap[a.block]? <;> simp
def bt (nz base:Nat) (v:Value) (k:Nat):Bool:=decide (k<nz) || (decide (base<=k)&&decide (v.ownBlock≠some k))
theorem qbf {nz base:Nat}{v:Value}{k:Nat}:bt nz base v k=true↔k<nz\/(base<=k/\v.ownBlock≠some k):=by simp[bt]
theorem qak {n:Nat}{Q Q':Nat->Bool}{W W':World}(h:∀k,k<n->Q k=true->Q' k=true/\W'.heap[k]?=W.heap[k]?):∀(a:Addr) v,a.block<n->(only Q W).cell? a=some v->(only Q' W').cell? a=some v:=by
 intro a v ha hv
 obtain⟨h1,h2⟩:=(qcl Q W a v).1 hv
 obtain⟨h3,h4⟩:=h a.block ha h1
 exact (qcl Q' W' a v).2 ⟨h3,by rw[World.cell?_of_block h4];exact h2⟩
theorem qfx {n:Nat}{Q:Nat->Bool}{W:World}:∀(a:Addr) v,a.block<n->(only Q W).cell? a=some v->W.cell? a=some v:=λa v _ h=>((qcl Q W a v).1 h).2
theorem qgh {n:Nat}{Q:Nat->Bool}{W W':World}(h:∀k,k<n->Q k=true/\W'.heap[k]?=W.heap[k]?):∀(a:Addr) v,a.block<n->W.cell? a=some v->(only Q W').cell? a=some v:=by
 intro a v ha hv
 obtain⟨h3,h4⟩:=h a.block ha
 exact (qcl Q W' a v).2 ⟨h3,by rw[World.cell?_of_block h4];exact hv⟩
theorem SlAt.own {α:Type}{size:Nat}{cs:α->List Value}(hlen:∀x,(cs x).length=size) {base:Nat}{T:TypeId}{v:Value}{l:List α}{w:World}(h:w.ownsRow base T size v l.length (l.flatMap cs)) :
  ∃ad cp,v=.slice ad l.length cp/\∀(Q:Nat->Bool),(∀k,base<=k->k<w.heap.size->Q k=true)->SlAt size cs w.heap.size (only Q w) ad cp l:=by
 obtain⟨ad,cp,hv,h1,h2,h3⟩:=qef hlen h
 refine⟨ad,cp,hv,λQ hQ=>⟨h1,h2,?_⟩⟩
 rcases h3 with h3|⟨b,h4,h5,h6,h7⟩
 ·exact .inl h3
 ·refine .inr ⟨b,0,h4,h6,λj hj i hi=>?_⟩
  have h8:=h7 j hj i hi
  rw[List.getElem?_eq_getElem (by rw[hlen];exact hi)] at h8 ⊢
  exact (qcl Q w _ _).2 ⟨hQ b h5 h6,h8⟩
open Go.RowKit
theorem qa7 {w:World}{base e size n k:Nat}{v:Value}{xs:List Value}(h:w.ownsRow base e size v n xs) (hk:v.ownBlock=some k):base<=k/\k<w.heap.size:=by
 rcases h.2 with ⟨rfl,_⟩|⟨g,cap,cur,rfl,hb,hgb,_⟩
 ·simp[Value.ownBlock] at hk
 ·obtain rfl:g=k:=by simpa[Value.ownBlock] using hk
  exact⟨hb,(Array.getElem?_eq_some_iff.1 hgb).1⟩
theorem row_step {nz base e size n g m cap:Nat}{wr W4 w1:World}{v:Value}{xs:List Value}(hn:nz<=base) (ho:wr.ownsRow base e size v n xs) (hB:Below wr.heap.size wr W4) (hg:W4.grownBy w1 v.ownBlock) (hat:v.ownBlock=some g\/wr.heap.size<=g) :
  ∀k,k<wr.heap.size->bt nz base v k=true->bt nz base (.slice (some ⟨g,0,none⟩) m cap) k=true/\w1.heap[k]?=wr.heap[k]?:=by
 intro k hk hq
 have hv:v.ownBlock≠some k:=λh=>by
  rcases qbf.1 hq with h1|h1
  ·have:=(qa7 ho h).1;omega
  ·exact h1.2 h
 refine⟨qbf.2 ?_,(hg.block k (by have:=hB.size;omega) (λh=>hv h.symm)).trans (hB.block k hk)⟩
 rcases qbf.1 hq with h1|h1
 ·exact .inl h1
 ·refine .inr ⟨h1.1,λh=>?_⟩
  obtain rfl:g=k:=by simpa[Value.ownBlock] using h
  rcases hat with h2|h2
  ·exact hv h2
  ·omega
theorem qkd {nz base e size n g m cap B1:Nat}{wr U W4 w1:World}{v:Value}{xs:List Value}(hn:nz<=base) (ho:wr.ownsRow base e size v n xs) (hb:base<=wr.heap.size) (hB1:wr.heap.size<=B1) (hU:U.heap.size<=W4.heap.size) (hB:∀k,k<U.heap.size->bt nz B1 (.slice none 0 0) k=true->W4.heap[k]?=U.heap[k]?) (hg:W4.grownBy w1 v.ownBlock) (hat:v.ownBlock=some g\/W4.heap.size<=g) :
  ∀k,k<U.heap.size->bt nz B1 (.slice none 0 0) k=true->bt nz base (.slice (some ⟨g,0,none⟩) m cap) k=true/\w1.heap[k]?=U.heap[k]?:=by
 intro k hk hq
 have hv:v.ownBlock≠some k:=λh=>by
  have h2:=qa7 ho h
  rcases qbf.1 hq with h1|h1
  ·omega
  ·have:=h1.1;omega
 refine⟨qbf.2 ?_,(hg.block k (by omega) (λh=>hv h.symm)).trans (hB k hk hq)⟩
 rcases qbf.1 hq with h1|h1
 ·exact .inl h1
 ·refine .inr ⟨by have:=h1.1;omega,λh=>?_⟩
  obtain rfl:g=k:=by simpa[Value.ownBlock] using h
  rcases hat with h2|h2
  ·exact hv h2
  ·omega
theorem qyu {nz base:Nat}{v:Value}:∀k,bt nz base v k=true->bt nz base (.slice none 0 0) k=true:=by
 intro k h
 rcases qbf.1 h with h1|h1
 ·exact qbf.2 (.inl h1)
 ·exact qbf.2 (.inr ⟨h1.1,by simp[Value.ownBlock]⟩)
def FineC (x:Bl):Prop:=x.subs.length<=1000000/\∀s∈x.subs,s.blocks.length<=1000000
def qyr (nz:Nat) (X:Bl) (w w':World) (r:Ending):Prop:=∃ad cap body,r=.returned (.slice ad body.length cap)/\(Bl.mk ad cap body).Is w'.heap.size (only (bt nz w.heap.size (.slice none 0 0)) w')/\body.map St.clr=X.body/\Below w.heap.size w w'
def qjr (p:Pr) (D:Ref->Prop) (rk:Ref->Nat) (N:Nat) (x:Bl):Prop:=∀(nz b:Nat) (w:World),nz<=w.heap.size->Book w nz b p->x.Is nz w->FineC x->(∀r∈qac x,D r/\rk r<N) ->
 Calls Tryz.prog 47 #[.map (some b),x.slice] w λr w'=>qyr nz (x.inl (qd2 p N)) w w' r
theorem qau (s:St):s∈s.subs:=by rcases s with ⟨a1,a2,a3,a4,a5,a6,a7,a8,a9⟩;rw[St.subs_mk];exact List.mem_cons_self
theorem qjl {s:St}{x:Bl}(hx:x∈s.blocks):∀t∈x.subs,t∈s.subs:=by
 intro t ht
 rcases s with ⟨a1,a2,a3,a4,a5,a6,a7,a8,a9⟩
 rw[St.subs_mk];exact List.mem_cons_of_mem _ (List.mem_flatMap.2 ⟨x,hx,ht⟩)
theorem qd6 {α β:Type}(f:α->List β) (l:List α) (x:α) (hx:x∈l):(f x).length<=(l.flatMap f).length:=by
 obtain⟨a,b,rfl⟩:=List.append_of_mem hx
 simp;omega
theorem qlr {α β:Type}(f:α->List β) (l:List α) (h:∀x∈l,1<=(f x).length):l.length<=(l.flatMap f).length:=by
 induction l with
 | nil=>simp
 | cons x l ih =>
  rw[List.flatMap_cons,List.length_append,List.length_cons]
  have h1:=h x (by simp)
  have h2:=ih (λy hy=>h y (by simp[hy]))
  omega
theorem FineC.len {ad:Option Addr}{cap:Nat}{body:List St}(h:FineC (.mk ad cap body)):body.length<=1000000:=by
 have h1:=h.1
 rw[Bl.subs_mk] at h1
 exact Nat.le_trans (qlr St.subs body (λs _=>List.length_pos_of_mem (qau s))) h1
theorem FineC.st {ad:Option Addr}{cap:Nat}{body:List St}(h:FineC (.mk ad cap body)) {s:St}(hs:s∈body):s.blocks.length<=1000000/\∀x∈s.blocks,FineC x:=by
 have h2:∀t∈s.subs,t∈(Bl.mk ad cap body).subs:=λt ht=>by rw[Bl.subs_mk];exact List.mem_flatMap.2 ⟨s,hs,ht⟩
 refine⟨h.2 s (h2 s (qau s)),λx hx=>⟨?_,λt ht=>h.2 t (h2 t (qjl hx t ht))⟩⟩
 have h3:=h.1
 rw[Bl.subs_mk] at h3
 have h4:=qd6 St.subs body s hs
 have h5:x.subs.length<=s.subs.length:=by
  rcases s with ⟨a1,a2,a3,a4,a5,a6,a7,a8,a9⟩
  have:=qd6 Bl.subs a8 x hx
  rw[St.subs_mk,List.length_cons];omega
 omega
theorem qwb {ad:Option Addr}{cap:Nat}{body:List St}{s:St}(hs:s∈body):(s.kind=8->s.ref∈qac (.mk ad cap body))/\∀x∈s.blocks,∀r∈qac x,r∈qac (.mk ad cap body):=by
 have h2:∀t∈s.subs,t∈(Bl.mk ad cap body).subs:=λt ht=>by rw[Bl.subs_mk];exact List.mem_flatMap.2 ⟨s,hs,ht⟩
 refine⟨λhk=>(qbp _ _).2 ⟨s,h2 s (qau s),hk,rfl⟩,λx hx r hr=>?_⟩
 obtain⟨t,ht,h3,h4⟩:=(qbp _ _).1 hr
 exact (qbp _ _).2 ⟨t,h2 t (qjl hx t ht),h3,h4⟩
theorem qv9 {p:Pr}(h:Fine p) (r:Ref):(qam p r).subs.length<=1000000:=by
 rw[qam]
 split
 ·rename_i f hf
  obtain⟨m,hm,hfm⟩:=qb8 hf
  exact h.subs m hm f hfm
 ·rw[Bl.subs_mk];simp
theorem qBx:(Tryz.prog.info? 54).map (λi=>(i.zero,i.size,i.bytes))=some (some (.slice none 0 0),1,24):=by kernel_rfl
theorem qay (n:Nat) (W:World):zeroEx.Is n W:=Ex.Is.up ⟨⟨⟨by decide,by decide⟩,⟨by decide,by decide⟩,⟨by decide,by decide⟩,by unfold Len;decide,by unfold Len;decide⟩,⟨by simp,by unfold maxLen;simp,.inl rfl⟩,λx hx=>by cases hx⟩
theorem qh0 {p:Pr}{D:Ref->Prop}{rk:Ref->Nat}{N:Nat}(hF:Fine p) (hV:∀r,D r->qct r) (hD:∀r,D r->∀x∈qae p r,D x/\rk x<rk r) (ihN:∀M,N=M+1->∀x,qjr p D rk M x)
  (ad:Option Addr) (cap:Nat) (body:List St) (ih:∀s∈body,∀x∈s.blocks,qjr p D rk N x):qjr p D rk N (.mk ad cap body):=by
 intro nz b w hn hBk hI hFC hR
 rw[Bl.inl_mk]
 have hlen:=hFC.len
 have hst:=λs hs=>hFC.st (s:=s) hs
 have hcs:=λs hs=>qwb (ad:=ad) (cap:=cap) (body:=body) (s:=s) hs
 have hIk:=hI.down.2
 have hsl:=hI.down.1
 have hl1:=hsl.1;have hl2:=hsl.2.1
 unfold maxLen at hl2
 obtain⟨f,hf⟩:∃f,St.inl (qd2 p N)=f:=⟨_,rfl⟩
 rw[hf]
 have HFF:=hid hf
 clear hf
 simp only[Bl.slice]
 go_enter Tryz.func47,Tryz.ntmps47
 go_wp2
 go_loopw [5,14] (λv i wr=>∃(j:Nat) (l':List St),j<=body.length/\i=.int .i64 j/\wr.ownsRow w.heap.size 86 12 v l'.length (l'.flatMap St.cells)/\Hid (l'.map St.clr=(body.take j).map f)/\(∀s∈l',s.Is wr.heap.size (only (bt nz w.heap.size v) wr))/\Below w.heap.size w wr)
  (λ_ i _=>body.length-(intOf i).toNat)
 case atStart=>exact⟨0,[],by omega,rfl,World.ownsRow_nil _ _ _ _,rfl,(λs hs=>by cases hs),Below.refl _ _⟩
 case round =>
  obtain⟨j,l',hj,rfl,hown,HCL,hIs,hbw⟩:=hrel
  have hz1:=hbw.size
  have HLL:Hid (l'.length=j):=by
   show _=_
   have:=congrArg List.length HCL.out
   simp at this;omega
  by_cases hlt:j<body.length
  ·rcases hsl.2.2 with h|⟨kb,koff,rfl,hbn,hrow⟩
   ·subst h;simp at hlt
   have hIj:=hIk _ (List.getElem_mem hlt)
   have ihj:=ih _ (List.getElem_mem hlt)
   obtain⟨hbkj,hfj⟩:=hst _ (List.getElem_mem hlt)
   obtain⟨hc8,hcb⟩:=hcs _ (List.getElem_mem hlt)
   have HTK:Hid ((body.take (j+1)).map f=(body.take j).map f++[f body[j]]):=by show _=_;rw[List.take_succ_eq_append_getElem hlt,List.map_append];rfl
   have hrj:=hrow.below (hbw.mono hn) hbn
   have hq:=λW=>qf7 body[j] W
   rcases he':body[j] with ⟨kind',ai',name',n',⟨aj',ag',ac',en',ah',af',ab',ae'⟩,ad',cap',aa',pos'⟩
   obtain⟨c0,c1,c2,c3,c4,c5,c6,c7,c8,c9,c10,c11⟩:=qiz hrj j hlt (by rw[he'];rfl)
   rw[he'] at hIj ihj HTK hbkj hfj hc8 hcb
   simp only[he',St.val,St.cells,Ex.cells,List.cons_append,List.nil_append,St.ref] at hq
   have hIe:=hIj.down.2.1
   have hI5:=hIj.down.1
   have hsB:=hIj.down.2.2.1
   have hIB:=hIj.down.2.2.2
   have hbl1:=hsB.1;have hbl2:=hsB.2.1
   unfold maxLen at hbl2
   simp only[St.blocks] at ihj hbkj hfj hcb
   simp only[St.kind,St.ref] at hc8
   have hkbw:kb<wr.heap.size:=by omega
   clear he' ih
   go_upto_region 5 with fail
   obtain⟨bX,hBX,hzX⟩:=qal wr #[.int .i64 kind',.string ai',.string name',.int .i64 n',.int .i64 aj',.string ag',.string ac',.int .i64 en',.slice ah' ab'.length af',.int .i64 ae',.slice ad' aa'.length cap',.int .i64 pos'] 86
   obtain⟨Bs,hBs⟩:∃Bs,wr.heap.size=Bs:=⟨_,rfl⟩
   obtain⟨W1,hW1⟩:∃W1,wr.alloc (.cells #[.int .i64 kind',.string ai',.string name',.int .i64 n',.int .i64 aj',.string ag',.string ac',.int .i64 en',.slice ah' ab'.length af',.int .i64 ae',.slice ad' aa'.length cap',.int .i64 pos'] 86)=W1:=⟨_,rfl⟩
   have HBX:Hid (Below wr.heap.size wr W1/\W1.heap.size=wr.heap.size+1/\wr.heap.size=Bs):=⟨by rw[<- hW1];exact hBX,by rw[<- hW1];exact hzX,hBs⟩
   have hB1:Below w.heap.size w W1:=hbw.trans (HBX.out.1.mono (by omega))
   rw[hW1] at bX ⊢
   rw[hBs] at bX ⊢
   have x0:=cellOf bX 0
   have x1:=cellOf bX 1
   have x2:=cellOf bX 2
   have x3:=cellOf bX 3
   have x4:=cellOf bX 4
   have x5:=cellOf bX 5
   have x6:=cellOf bX 6
   have x7:=cellOf bX 7
   have x8:=cellOf bX 8
   have x9:=cellOf bX 9
   have x10:=cellOf bX 10
   have x11:=cellOf bX 11
   simp at x0 x1 x2 x3 x4 x5 x6 x7 x8 x9 x10 x11
   clear c0 c1 c2 c3 c4 c5 c6 c7 c8 c9 c10 c11 hBX hzX hW1 hBs hrow hrj hI hIj hIk
   cases hkind:(kind'==8:Bool)
   ·have hkn:kind'≠8:=by simpa using hkind
    have HST:Hid (f (.mk kind' ai' name' n' (Ex.mk aj' ag' ac' en' ah' af' ab' ae') ad' cap' aa' pos')=.mk kind' ai' name' n' (Ex.mk aj' ag' ac' en' ah' af' ab' ae') none 0 (aa'.map (Bl.inl (qd2 p N))) pos'):=by
     show _=_
     rw[<- HFF.out,St.inl_other _ _ hkn]
    have HRR:Hid (∀x∈aa',∀r∈qac x,D r/\rk r<N):=λx hx r hr=>hR r (hcb x hx r hr)
    obtain⟨fb,hfb⟩:∃fb,Bl.inl (qd2 p N)=fb:=⟨_,rfl⟩
    have HFB:=hid hfb
    rw[hfb] at HST
    have HO:Hid (wr.ownsRow w.heap.size 86 12 u5 l'.length (l'.flatMap St.cells)):=hown
    clear hfb hq hR hc8 hcb hst hcs hsl
    obtain⟨wo,hwo⟩:∃wo:World,wo=wr:=⟨_,rfl⟩
    subst hwo
    go_wp2
    clear x10
    go_loopw [9,41] (λv i wx=>∃(m:Nat) (lb:List Bl),m<=aa'.length/\i=.int .i64 m/\wx.ownsRow W1.heap.size 54 1 v lb.length (lb.flatMap Bl.cells)/\Hid (lb.map Bl.clr=(aa'.take m).map fb)/\(∀y∈lb,y.Is wx.heap.size (only (bt nz W1.heap.size v) wx))/\Below W1.heap.size W1 wx)
     (λ_ i _=>aa'.length-(intOf i).toNat)
    case atStart=>exact⟨0,[],by omega,rfl,World.ownsRow_nil _ _ _ _,rfl,(λs hs=>by cases hs),Below.refl _ _⟩
    case round =>
     obtain⟨m,lb,hm,rfl,hownB,HCB,hIb,hbx⟩:=hrel
     have hzx:=hbx.size
     have hz1b:=hB1.size
     have hbF:Below w.heap.size w wr:=hB1.trans (hbx.mono hz1b)
     have HLB:Hid (lb.length=m):=by
      show _=_
      have:=congrArg List.length HCB.out
      simp at this;omega
     have HN1:Hid (nz<=W1.heap.size/\W1.heap.size<=wr.heap.size):=⟨by omega,hzx⟩
     by_cases hlm:m<aa'.length
     ·rcases hsB.2.2 with h|⟨qb,qoff,rfl,hqn,hqrow⟩
      ·subst h;simp at hlm
      have HTB:Hid ((aa'.take (m+1)).map fb=(aa'.take m).map fb++[fb aa'[m]]):=by show _=_;rw[List.take_succ_eq_append_getElem hlm,List.map_append];rfl
      have hq5:=ihj _ (List.getElem_mem hlm) nz b wr (by omega) (hBk.below (hbF.mono hn)) ((hIB _ (List.getElem_mem hlm)).below (hbF.mono hn)) (hfj _ (List.getElem_mem hlm)) (HRR.out _ (List.getElem_mem hlm))
      rw[HFB.out] at hq5
      have hqw:qb<wr.heap.size:=by omega
      rcases hbk2:aa'[m] with ⟨qad,qcap,qbody⟩
      have d0:=qru (hqrow.below (hbF.mono hn) hqn) m hlm (by rw[hbk2];rfl)
      rw[hbk2] at HTB
      simp only[hbk2,Bl.slice] at hq5 d0
      obtain⟨X,hX⟩:∃X,fb (.mk qad qcap qbody)=X:=⟨_,rfl⟩
      have HX:Hid (X=.mk none 0 X.body):=by
       show _=_
       rw[<- hX,<- HFB.out,Bl.inl_mk];rfl
      rw[hX] at hq5 HTB
      clear hbk2 hX
      obtain⟨i0,hi,iz0,iz1,iz2⟩:=info_parts qBx
      have how:=hownB
      go_wp2_with (first
       | (go_at_call 47;(with_reducible refine hq5.mono ?_);rintro r u2 ⟨yad,ycap,ybody,rfl,hyI,hyc,bb2⟩;have hs22:=bb2.size;have hBr:Below wr.heap.size wr (u2.alloc (.cells #[.slice yad ybody.length ycap] 54)):=bb2.al qaa _;have hown4:=qaq how hBr;have hcn:=World.news_of_block (qaf u2 (.cells #[.slice yad ybody.length ycap] 54)))
       | (at_builtin;refine wpList_append_lies _ rfl _ _ 84 rfl W1.heap.size 54 i0 _ 1 24 Tryz.underlying84 hi iz0 iz1 iz2 rfl (by decide) _ _ _ rfl hown4 ⟨u2.heap.size,0,none⟩ 1 1 (#[.slice yad ybody.length ycap]:Array Value).toList rfl rfl hcn (by simp[Value.oneCell']) (by omega) (by unfold maxLen;have:=HLB.out;omega) (by have:=HLB.out;omega) (by simp;omega) _ rfl ?_;intro g gcp w1 hown' hgrow hat hltg))
      have hat2:u9.ownBlock=some g\/wr.heap.size<=g:=by
       rcases hat with h|h
       ·exact .inl h
       ·right;simp at h;omega
      have hat3:u9.ownBlock=some g\/(u2.alloc (.cells #[.slice yad ybody.length ycap] 54)).heap.size<=g:=by
       rcases hat with h|h
       ·exact .inl h
       ·right;simp at h ⊢;omega
      have HALL:Hid (∀s∈lb++[Bl.mk yad ycap ybody],s.Is w1.heap.size (only (bt nz W1.heap.size (.slice (some ⟨g,0,none⟩) (lb.length+1) gcp)) w1)):=by
       intro s hs
       have hsz:=hgrow.size
       have hsz2:=hBr.size
       rcases List.mem_append.1 hs with hs|hs
       ·exact (hIb s hs).imp (qak (row_step HN1.out.1 hownB hBr hgrow hat2)) (by omega)
       ·rw[List.mem_singleton.1 hs]
        exact hyI.imp (qak (qkd HN1.out.1 hownB HN1.out.2 (Nat.le_refl _) (by simp) (λk hk _=>Below.heap_alloc _ _ _ hk) hgrow hat3)) (by simp at hsz;omega)
      have HBF:Hid (Below W1.heap.size W1 w1):=by
       refine Below.grown (hbx.trans (hBr.mono hzx)) hgrow (by have:=hBr.size;omega) (λk e=>?_)
       exact (qa7 hownB e).1
      have HOW:Hid (w1.ownsRow W1.heap.size 54 1 (.slice (some ⟨g,0,none⟩) (lb.length+1) gcp) (lb++[Bl.mk yad ycap ybody]).length ((lb++[Bl.mk yad ycap ybody]).flatMap Bl.cells)):=by
       have h1:(lb++[Bl.mk yad ycap ybody]).flatMap Bl.cells=lb.flatMap Bl.cells++(#[.slice yad ybody.length ycap]:Array Value).toList:=by rw[List.flatMap_append];rfl
       rw[h1,List.length_append]
       exact hown'
      have HCB2:Hid ((lb++[Bl.mk yad ycap ybody]).map Bl.clr=(aa'.take (m+1)).map fb):=by
       show _=_
       rw[HTB.out,List.map_append,HCB.out,List.map_cons,List.map_nil,Bl.clr_mk,hyc,<- HX.out]
      clear hat hat2 hat3 hgrow hown' hBr hown4 hcn hyI hyc how
      go_roundw
      case rel=>exact⟨m+1,_,by omega,by go_num,HOW.out,HCB2,HALL.out,HBF.out⟩
      case measure=>simp[intOf];omega
     ·have hmd:decide ((m:Int)<(aa'.length:Int))=false:=by simp;omega
      obtain⟨bad,bcp,rfl,hbs⟩:=SlAt.own Bl.len hownB
      have HST2:Hid ((St.mk kind' ai' name' n' (Ex.mk aj' ag' ac' en' ah' af' ab' ae') bad bcp lb pos').clr=f (.mk kind' ai' name' n' (Ex.mk aj' ag' ac' en' ah' af' ab' ae') ad' cap' aa' pos')):=by
       show _=_
       rw[HST.out,St.clr_mk,HCB.out,List.take_of_length_le (by omega)]
      have HNS0:Hid ((St.mk kind' ai' name' n' (Ex.mk aj' ag' ac' en' ah' af' ab' ae') bad bcp lb pos').Is wr.heap.size (only (bt nz W1.heap.size (.slice none 0 0)) wr)):=by
       refine St.Is.up ⟨hI5,?_,hbs _ (λk hk _=>qbf.2 (.inr ⟨hk,by simp[Value.ownBlock]⟩)),λy hy=>(hIb y hy).imp (qak λk _ hq=>⟨qyu k hq,rfl⟩) (Nat.le_refl _)⟩
       exact hIe.imp (qgh λk hk=>⟨qbf.2 (.inl hk),hbF.block k (by omega)⟩) (by omega)
      have bXr:=(hbx.block Bs (Array.getElem?_eq_some_iff.1 bX).1).trans bX
      have HBS:Hid (wo.heap.size=Bs/\W1.heap.size=wo.heap.size+1):=⟨HBX.out.2.2,HBX.out.2.1⟩
      have z0:=cellOf bXr 0
      have z1:=cellOf bXr 1
      have z2:=cellOf bXr 2
      have z3:=cellOf bXr 3
      have z4:=cellOf bXr 4
      have z5:=cellOf bXr 5
      have z6:=cellOf bXr 6
      have z7:=cellOf bXr 7
      have z8:=cellOf bXr 8
      have z9:=cellOf bXr 9
      have z10:=cellOf bXr 10
      have z11:=cellOf bXr 11
      have zf:=qat bXr 10
      simp at z0 z1 z2 z3 z4 z5 z6 z7 z8 z9 z10 z11
      have hBsw:Bs<wr.heap.size:=(Array.getElem?_eq_some_iff.1 bXr).1
      have hBo:Below wo.heap.size wo wr:=HBX.out.1.trans (hbx.mono (by have:=HBS.out;omega))
      have hB5:Below wo.heap.size wo (wr.setCell ⟨Bs,10,none⟩ (.slice bad lb.length bcp)):=hBo.setCell (p:=⟨Bs,10,none⟩) (by show wo.heap.size<=Bs;have:=HBS.out;omega) _
      have hsz5:(wr.setCell ⟨Bs,10,none⟩ (.slice bad lb.length bcp)).heap.size=wr.heap.size:=by simp
      have hBr:Below wo.heap.size wo ((wr.setCell ⟨Bs,10,none⟩ (.slice bad lb.length bcp)).alloc (.cells #[.int .i64 kind',.string ai',.string name',.int .i64 n',.int .i64 aj',.string ag',.string ac',.int .i64 en',.slice ah' ab'.length af',.int .i64 ae',.slice bad lb.length bcp,.int .i64 pos'] 86)):=hB5.al qaa _
      have hown4:=qaq HO.out hBr
      have hbl:=qaf (wr.setCell ⟨Bs,10,none⟩ (.slice bad lb.length bcp)) (.cells #[.int .i64 kind',.string ai',.string name',.int .i64 n',.int .i64 aj',.string ag',.string ac',.int .i64 en',.slice ah' ab'.length af',.int .i64 ae',.slice bad lb.length bcp,.int .i64 pos'] 86)
      rw[hsz5] at hbl
      have hcn:=World.news_of_block hbl
      obtain⟨i0,hi,iz0,iz1,iz2⟩:=info_parts qs2
      have hbb:w.heap.size<=wr.heap.size:=hbF.size
      have HCL2:Hid ((l'++[(St.mk kind' ai' name' n' (Ex.mk aj' ag' ac' en' ah' af' ab' ae') bad bcp lb pos')]).map St.clr=(body.take (j+1)).map f):=by
       show _=_
       rw[HTK.out,List.map_append,HCL.out,List.map_cons,List.map_nil,HST2.out]
      clear HST HST2 hbs hIb hownB HCB HTK hsz5 hbl hB5 x0 x1 x2 x3 x4 x5 x6 x7 x8 x9 x11 bX bXr
      go_wp2_with (at_builtin;refine wpList_append_lies _ rfl _ _ 54 rfl w.heap.size 86 i0 _ 12 160 Tryz.underlying54 hi iz0 iz1 iz2 rfl (by decide) _ _ _ rfl hown4 ⟨wr.heap.size,0,none⟩ 1 1 (#[.int .i64 kind',.string ai',.string name',.int .i64 n',.int .i64 aj',.string ag',.string ac',.int .i64 en',.slice ah' ab'.length af',.int .i64 ae',.slice bad lb.length bcp,.int .i64 pos']:Array Value).toList rfl rfl hcn (by simp[Value.oneCell']) (by omega) (by unfold maxLen;have:=HLL.out;omega) (by have:=HLL.out;omega) (by simp;omega) _ rfl ?_;intro g gcp w1 hown' hgrow hat hltg)
      have hat2:u5.ownBlock=some g\/wo.heap.size<=g:=by
       rcases hat with h|h
       ·exact .inl h
       ·right;simp at h;have:=HBS.out;omega
      have hat3:u5.ownBlock=some g\/((wr.setCell ⟨Bs,10,none⟩ (.slice bad lb.length bcp)).alloc (.cells #[.int .i64 kind',.string ai',.string name',.int .i64 n',.int .i64 aj',.string ag',.string ac',.int .i64 en',.slice ah' ab'.length af',.int .i64 ae',.slice bad lb.length bcp,.int .i64 pos'] 86)).heap.size<=g:=by
       rcases hat with h|h
       ·exact .inl h
       ·right;simp at h ⊢;omega
      have hb1:=HBS.out
      have HALL:Hid (∀s∈l'++[(St.mk kind' ai' name' n' (Ex.mk aj' ag' ac' en' ah' af' ab' ae') bad bcp lb pos')],s.Is w1.heap.size (only (bt nz w.heap.size (.slice (some ⟨g,0,none⟩) (l'.length+1) gcp)) w1)):=by
       intro s hs
       have hsz:=hgrow.size
       have hsz2:=hBr.size
       rcases List.mem_append.1 hs with hs|hs
       ·exact (hIs s hs).imp (qak (row_step hn HO.out hBr hgrow hat2)) (by omega)
       ·rw[List.mem_singleton.1 hs]
        refine HNS0.out.imp (qak (qkd (U:=wr) hn HO.out hz1 (by omega:wo.heap.size<=W1.heap.size) (by simp) (λk hk hq=>?_) hgrow hat3)) (by simp at hsz;omega)
        have hkB:k≠Bs:=by
         rcases qbf.1 hq with h|h
         ·omega
         ·have:=h.1;omega
        exact (Below.heap_alloc _ _ _ (by simp;exact hk)).trans (Below.heap_setCell _ ⟨Bs,10,none⟩ _ k hkB)
      have HBF:Hid (Below w.heap.size w w1):=by
       refine Below.grown (hbw.trans (hBr.mono hz1)) hgrow (by have:=hBr.size;omega) (λk e=>?_)
       exact (qa7 HO.out e).1
      have HOW:Hid (w1.ownsRow w.heap.size 86 12 (.slice (some ⟨g,0,none⟩) (l'.length+1) gcp) (l'++[(St.mk kind' ai' name' n' (Ex.mk aj' ag' ac' en' ah' af' ab' ae') bad bcp lb pos')]).length ((l'++[(St.mk kind' ai' name' n' (Ex.mk aj' ag' ac' en' ah' af' ab' ae') bad bcp lb pos')]).flatMap St.cells)):=by
       have h1:(l'++[(St.mk kind' ai' name' n' (Ex.mk aj' ag' ac' en' ah' af' ab' ae') bad bcp lb pos')]).flatMap St.cells=l'.flatMap St.cells++(#[.int .i64 kind',.string ai',.string name',.int .i64 n',.int .i64 aj',.string ag',.string ac',.int .i64 en',.slice ah' ab'.length af',.int .i64 ae',.slice bad lb.length bcp,.int .i64 pos']:Array Value).toList:=by rw[List.flatMap_append];rfl
       rw[h1,List.length_append]
       exact hown'
      clear hat hat2 hat3 hgrow hown' hBr hown4 hcn
      go_roundw
      case rel=>exact⟨j+1,_,by omega,by go_num,HOW.out,HCL2,HALL.out,HBF.out⟩
      case measure=>simp[intOf];omega
   ·have hk8:kind'=8:=by simpa using hkind
    subst hk8
    obtain⟨hDr,hrN⟩:=hR _ (hc8 rfl)
    have hvl:=hV _ hDr
    obtain⟨M,hM⟩:∃M,N=M+1:=⟨N-1,by omega⟩
    have hlk:=λ(W:World) (hW:Below W1.heap.size W1 W)=>(hBk.below ((hB1.trans (hW.mono hB1.size)).mono hn)).look hvl
    have hf80:=qyv
    have HST:Hid (f (.mk 8 ai' name' n' (Ex.mk aj' ag' ac' en' ah' af' ab' ae') ad' cap' aa' pos')=.mk 7 ai' ⟨#[]⟩ 0 zeroEx none 0 [(qam p (ai',name')).inl (qd2 p M)] pos'):=by
     show _=_
     rw[<- HFF.out,St.inl_call,hM];rfl
    have hrec:=λ(gad:Option Addr) (gcap:Nat) (W:World) (hW:Below W1.heap.size W1 W) (hG:(Bl.mk gad gcap (qam p (ai',name')).body).Is nz W)=>ihN M hM (.mk gad gcap (qam p (ai',name')).body) nz b W (by have:=hW.size;have:=hB1.size;omega) (hBk.below ((hB1.trans (hW.mono hB1.size)).mono hn)) hG
     ⟨by rw[qco];exact qv9 hF _,by rw[qco];exact qk3 hF.blks _⟩ (by rw[qi3];intro r hr;obtain⟨h1,h2⟩:=hD _ hDr r hr;exact⟨h1,by omega⟩)
    simp only[Bl.inl_body] at hrec
    obtain⟨gb,hgb⟩:∃gb,qam p (ai',name')=gb:=⟨_,rfl⟩
    obtain⟨gl,hgl⟩:∃gl,(qae p (ai',name')).length=gl:=⟨_,rfl⟩
    simp only[hgb,hgl] at hlk
    simp only[hgb,Bl.slice] at hrec
    rw[hgb] at HST
    clear hgb hgl
    go_upto_region 7 with (first
     | (go_at_call 64;(with_reducible refine (hq _).mono ?_);rintro r u1 ⟨rfl,bb1⟩;obtain⟨gad,gcap,cad,ccap,hlook,hgI,-⟩:=hlk _ bb1)
     | (go_at_call 47;(with_reducible refine (hrec gad gcap _ bb1 hgI).mono ?_);rintro r u2 ⟨yad,ycap,ybody,rfl,hyI,hyc,bb2⟩))
    have hs12:=bb1.size
    have hs22:=bb2.size
    have bX2:=(bb2.block Bs (by have:=(Array.getElem?_eq_some_iff.1 bX).1;omega)).trans ((bb1.block Bs (Array.getElem?_eq_some_iff.1 bX).1).trans bX)
    have y1:=cellOf bX2 1
    have y11:=cellOf bX2 11
    simp at y1 y11
    have hbb:w.heap.size<=u2.heap.size:=by have:=HBX.out;omega
    have hBsu:Bs<u2.heap.size:=(Array.getElem?_eq_some_iff.1 bX2).1
    have hB2:Below W1.heap.size W1 u2:=bb1.tr qaa bb2
    have hBr:Below wr.heap.size wr ((u2.alloc (.cells #[.slice yad ybody.length ycap] 54)).alloc (.cells #[.int .i64 7,.string ai',.string ⟨#[]⟩,.int .i64 0,.int .i64 0,.string ⟨#[]⟩,.string ⟨#[]⟩,.int .i64 0,.slice none 0 0,.int .i64 0,.slice (some ⟨u2.heap.size,0,none⟩) 1 1,.int .i64 pos'] 86)):=((HBX.out.1.trans (hB2.mono (by have:=HBX.out;omega))).al (by have:=HBX.out;omega) _).al (by have:=HBX.out;simp <;> omega) _
    have hown4:=qaq hown hBr
    obtain⟨i0,hi,iz0,iz1,iz2⟩:=info_parts qs2
    have hbl:((u2.alloc (.cells #[.slice yad ybody.length ycap] 54)).alloc (.cells #[.int .i64 7,.string ai',.string ⟨#[]⟩,.int .i64 0,.int .i64 0,.string ⟨#[]⟩,.string ⟨#[]⟩,.int .i64 0,.slice none 0 0,.int .i64 0,.slice (some ⟨u2.heap.size,0,none⟩) 1 1,.int .i64 pos'] 86)).heap[u2.heap.size+1]?=some (.cells #[.int .i64 7,.string ai',.string ⟨#[]⟩,.int .i64 0,.int .i64 0,.string ⟨#[]⟩,.string ⟨#[]⟩,.int .i64 0,.slice none 0 0,.int .i64 0,.slice (some ⟨u2.heap.size,0,none⟩) 1 1,.int .i64 pos'] 86 (0,0)):=by
     have:=qaf (u2.alloc (.cells #[.slice yad ybody.length ycap] 54)) (.cells #[.int .i64 7,.string ai',.string ⟨#[]⟩,.int .i64 0,.int .i64 0,.string ⟨#[]⟩,.string ⟨#[]⟩,.int .i64 0,.slice none 0 0,.int .i64 0,.slice (some ⟨u2.heap.size,0,none⟩) 1 1,.int .i64 pos'] 86)
     rwa [World.size_alloc] at this
    have hbl3:((u2.alloc (.cells #[.slice yad ybody.length ycap] 54)).alloc (.cells #[.int .i64 7,.string ai',.string ⟨#[]⟩,.int .i64 0,.int .i64 0,.string ⟨#[]⟩,.string ⟨#[]⟩,.int .i64 0,.slice none 0 0,.int .i64 0,.slice (some ⟨u2.heap.size,0,none⟩) 1 1,.int .i64 pos'] 86)).heap[u2.heap.size]?=some (.cells #[.slice yad ybody.length ycap] 54 (0,0)):=(Below.heap_alloc _ _ _ (by simp)).trans (qaf u2 _)
    have hcn:=World.news_of_block hbl
    have HNS:Hid ((St.mk 7 ai' ⟨#[]⟩ 0 zeroEx (some ⟨u2.heap.size,0,none⟩) 1 [.mk yad ycap ybody] pos').Is ((u2.alloc (.cells #[.slice yad ybody.length ycap] 54)).alloc (.cells #[.int .i64 7,.string ai',.string ⟨#[]⟩,.int .i64 0,.int .i64 0,.string ⟨#[]⟩,.string ⟨#[]⟩,.int .i64 0,.slice none 0 0,.int .i64 0,.slice (some ⟨u2.heap.size,0,none⟩) 1 1,.int .i64 pos'] 86)).heap.size (only (bt nz W1.heap.size (.slice none 0 0)) ((u2.alloc (.cells #[.slice yad ybody.length ycap] 54)).alloc (.cells #[.int .i64 7,.string ai',.string ⟨#[]⟩,.int .i64 0,.int .i64 0,.string ⟨#[]⟩,.string ⟨#[]⟩,.int .i64 0,.slice none 0 0,.int .i64 0,.slice (some ⟨u2.heap.size,0,none⟩) 1 1,.int .i64 pos'] 86)))):=by
     refine St.Is.up ⟨⟨⟨by decide,by decide⟩,⟨by decide,by decide⟩,hI5.2.2.1,hI5.2.2.2.1,by unfold Len;decide⟩,qay _ _,⟨by simp,by unfold maxLen;omega,.inr ⟨u2.heap.size,0,rfl,by simp <;> omega,λj hj i hi=>?_⟩⟩,λx hx=>?_⟩
     ·obtain rfl:j=0:=by simp at hj;omega
      obtain rfl:i=0:=by omega
      refine (qcl _ _ _ _).2 ⟨qbf.2 (.inr ⟨by show W1.heap.size<=u2.heap.size;omega,by simp[Value.ownBlock]⟩),?_⟩
      show ((u2.alloc (.cells #[.slice yad ybody.length ycap] 54)).alloc (.cells #[.int .i64 7,.string ai',.string ⟨#[]⟩,.int .i64 0,.int .i64 0,.string ⟨#[]⟩,.string ⟨#[]⟩,.int .i64 0,.slice none 0 0,.int .i64 0,.slice (some ⟨u2.heap.size,0,none⟩) 1 1,.int .i64 pos'] 86)).cell? ⟨u2.heap.size,0+0*1+0,none⟩=_
      rw[cellOf hbl3];rfl
     ·obtain rfl:=List.mem_singleton.1 hx
      refine hyI.imp (qak λk hk hq=>⟨?_,?_⟩) (by simp;omega)
      ·rcases qbf.1 hq with h|h
       ·exact qbf.2 (.inl h)
       ·exact qbf.2 (.inr ⟨by have:=h.1;omega,by simp[Value.ownBlock]⟩)
      ·exact (Below.heap_alloc _ _ _ (by simp;omega)).trans (Below.heap_alloc _ _ _ hk)
    have HCL2:Hid ((l'++[St.mk 7 ai' ⟨#[]⟩ 0 zeroEx (some ⟨u2.heap.size,0,none⟩) 1 [.mk yad ycap ybody] pos']).map St.clr=(body.take (j+1)).map f):=by
     show _=_
     have:(gb.inl (qd2 p M))=.mk none 0 (gb.inl (qd2 p M)).body:=by rcases gb with ⟨g1,g2,g3⟩;rw[Bl.inl_mk];rfl
     rw[HTK.out,List.map_append,HCL.out,List.map_cons,List.map_nil,HST.out,St.clr_mk,List.map_cons,List.map_nil,Bl.clr_mk,hyc,<- this]
    clear hbl3 hlook hgI hrec hlk hq hB2 bX bX2 HST hyI hyc x0 x1 x2 x3 x4 x5 x6 x7 x8 x9 x10 x11 HTK
    go_wp2_with (at_builtin;refine wpList_append_lies _ rfl _ _ 54 rfl w.heap.size 86 i0 _ 12 160 Tryz.underlying54 hi iz0 iz1 iz2 rfl (by decide) _ _ _ rfl hown4 ⟨u2.heap.size+1,0,none⟩ 1 1 (#[.int .i64 7,.string ai',.string ⟨#[]⟩,.int .i64 0,.int .i64 0,.string ⟨#[]⟩,.string ⟨#[]⟩,.int .i64 0,.slice none 0 0,.int .i64 0,.slice (some ⟨u2.heap.size,0,none⟩) 1 1,.int .i64 pos']:Array Value).toList rfl rfl hcn (by simp[Value.oneCell']) (by omega) (by unfold maxLen;have:=HLL.out;omega) (by have:=HLL.out;omega) (by simp;omega) _ rfl ?_;intro g gcp w1 hown' hgrow hat hltg)
    have hat2:u5.ownBlock=some g\/wr.heap.size<=g:=by
     rcases hat with h|h
     ·exact .inl h
     ·right;simp at h;have:=HBX.out;omega
    have hat3:u5.ownBlock=some g\/((u2.alloc (.cells #[.slice yad ybody.length ycap] 54)).alloc (.cells #[.int .i64 7,.string ai',.string ⟨#[]⟩,.int .i64 0,.int .i64 0,.string ⟨#[]⟩,.string ⟨#[]⟩,.int .i64 0,.slice none 0 0,.int .i64 0,.slice (some ⟨u2.heap.size,0,none⟩) 1 1,.int .i64 pos'] 86)).heap.size<=g:=by
     rcases hat with h|h
     ·exact .inl h
     ·right;simp at h ⊢;omega
    have HALL:Hid (∀s∈l'++[St.mk 7 ai' ⟨#[]⟩ 0 zeroEx (some ⟨u2.heap.size,0,none⟩) 1 [.mk yad ycap ybody] pos'],s.Is w1.heap.size (only (bt nz w.heap.size (.slice (some ⟨g,0,none⟩) (l'.length+1) gcp)) w1)):=by
     intro s hs
     have hsz:=hgrow.size
     have hsz2:=hBr.size
     rcases List.mem_append.1 hs with hs|hs
     ·exact (hIs s hs).imp (qak (row_step hn hown hBr hgrow hat2)) (by omega)
     ·rw[List.mem_singleton.1 hs]
      exact HNS.out.imp (qak (qkd hn hown hz1 (by have:=HBX.out;omega) (Nat.le_refl _) (λ_ _ _=>rfl) hgrow hat3)) hsz
    have HBF:Hid (Below w.heap.size w w1):=by
     refine Below.grown (hbw.trans (hBr.mono hz1)) hgrow (by have:=hBr.size;omega) (λk e=>?_)
     exact (qa7 hown e).1
    have HOW:Hid (w1.ownsRow w.heap.size 86 12 (.slice (some ⟨g,0,none⟩) (l'.length+1) gcp) (l'++[St.mk 7 ai' ⟨#[]⟩ 0 zeroEx (some ⟨u2.heap.size,0,none⟩) 1 [.mk yad ycap ybody] pos']).length ((l'++[St.mk 7 ai' ⟨#[]⟩ 0 zeroEx (some ⟨u2.heap.size,0,none⟩) 1 [.mk yad ycap ybody] pos']).flatMap St.cells)):=by
     have h1:(l'++[St.mk 7 ai' ⟨#[]⟩ 0 zeroEx (some ⟨u2.heap.size,0,none⟩) 1 [.mk yad ycap ybody] pos']).flatMap St.cells=l'.flatMap St.cells++(#[.int .i64 7,.string ai',.string ⟨#[]⟩,.int .i64 0,.int .i64 0,.string ⟨#[]⟩,.string ⟨#[]⟩,.int .i64 0,.slice none 0 0,.int .i64 0,.slice (some ⟨u2.heap.size,0,none⟩) 1 1,.int .i64 pos']:Array Value).toList:=by rw[List.flatMap_append];rfl
     rw[h1,List.length_append]
     exact hown'
    clear hat hat2 hat3 hgrow hown' hBr HNS hown4 hbl hcn
    go_roundw
    case rel=>exact⟨j+1,_,by omega,by go_num,HOW.out,HCL2,HALL.out,HBF.out⟩
    case measure=>simp[intOf];omega
  ·have hjd:decide ((j:Int)<(body.length:Int))=false:=by simp;omega
   have HE:Hid (l'.map St.clr=body.map f):=by
    show _=_
    rw[HCL.out,List.take_of_length_le (by omega)]
   obtain⟨rad,rcp,rfl,hrs⟩:=SlAt.own St.len hown
   have HY:Hid ((Bl.mk rad rcp l').Is wr.heap.size (only (bt nz w.heap.size (.slice none 0 0)) wr)):=by
    refine Bl.Is.up ⟨hrs _ (λk hk _=>qbf.2 (.inr ⟨hk,by simp[Value.ownBlock]⟩)),λs hs=>?_⟩
    exact (hIs s hs).imp (qak λk _ hq=>⟨qyu k hq,rfl⟩) (Nat.le_refl _)
   clear hIs hrs hown HCL
   go_wp2
   go_ret
   exact⟨rad,rcp,l',rfl,HY.out,HE.out,hbw⟩
theorem qqk {p:Pr}{D:Ref->Prop}{rk:Ref->Nat}(hF:Fine p) (hV:∀r,D r->qct r) (hD:∀r,D r->∀x∈qae p r,D x/\rk x<rk r) (N:Nat):∀x,qjr p D rk N x:=by
 induction N with
 | zero =>
  intro x
  exact Bl.ind (P:=λs=>∀x∈s.blocks,qjr p D rk 0 x) (Q:=λx=>qjr p D rk 0 x) (λ_ _ _ _ _ _ _ _ _ ih x hx=>ih x hx) (λad cap body ih=>qh0 hF hV hD (λM h=>by omega) ad cap body ih) x
 | succ N ihN =>
  intro x
  have h1:∀M,N+1=M+1->∀x,qjr p D rk M x:=by
   intro M h
   have h2:N=M:=by omega
   subst h2
   exact ihN
  exact Bl.ind (P:=λs=>∀x∈s.blocks,qjr p D rk (N+1) x) (Q:=λx=>qjr p D rk (N+1) x) (λ_ _ _ _ _ _ _ _ _ ih x hx=>ih x hx) (λad cap body ih=>qh0 hF hV hD h1 ad cap body ih) x
