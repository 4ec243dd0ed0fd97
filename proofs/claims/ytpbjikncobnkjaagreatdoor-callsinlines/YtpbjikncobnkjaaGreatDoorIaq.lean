/-
  Own texts joined by program: ClC ClD ClE.
-/
import Derived.Test.YtpbjikncobnkjaaGreatDoorIap
import Derived.Deep.AppendLies
import Derived.Deep.RegionHeld3
namespace Go.Proofs.YtpbjikncobnkjaaGreatDoor
open Go.RowKit
theorem foldl_snoc {α β:Type} (f:α→β→α) (a:α) (l:List β) (k:Nat) (h:k<l.length):(l.take (k+1)).foldl f a=f ((l.take k).foldl f a) l[k]:=by
 rw[List.take_succ_eq_append_getElem h,List.foldl_append];rfl
theorem dfs_len {G:Ref→List Ref} {U:List Ref} (hU:∀ r∈U,∀ x∈G r,x∈U) (n:Nat):∀ (st:List Ref × List Ref) (r:Ref),r∈U→(dfs G n st r).2.length+left U (dfs G n st r).1≤st.2.length+left U st.1:=by
 induction n with
 | zero=>intro st r _;exact Nat.le_refl _
 | succ n ih =>
  rintro⟨S,A⟩ r hr
  by_cases h:r∈S
  ·rw[dfs_seen h];exact Nat.le_refl _
  ·rw[dfs_new h]
   have hf:∀ (l:List Ref),(∀ x∈l,x∈U)→∀ st:List Ref × List Ref,(l.foldl (dfs G n) st).2.length+left U (l.foldl (dfs G n) st).1≤st.2.length+left U st.1:=by
    intro l
    induction l with
    | nil=>intro _ st;exact Nat.le_refl _
    | cons x l ihl=>intro hl st;exact Nat.le_trans (ihl (fun y hy=>hl y (by simp[hy])) _) (ih st x (hl x (by simp)))
   have h1:=hf (G r) (hU r hr) (S++[r],A)
   have h2:=left_snoc hr h
   simp only[List.length_append,List.length_cons,List.length_nil] at h1 ⊢
   omega
theorem fold_dfs_len {G:Ref→List Ref} {U:List Ref} (hU:∀ r∈U,∀ x∈G r,x∈U) (n:Nat) (l:List Ref):(∀ x∈l,x∈U)→∀ st:List Ref × List Ref,(l.foldl (dfs G n) st).2.length+left U (l.foldl (dfs G n) st).1≤st.2.length+left U st.1:=by
 induction l with
 | nil=>intro _ st;exact Nat.le_refl _
 | cons x l ihl=>intro hl st;exact Nat.le_trans (ihl (fun y hy=>hl y (by simp[hy])) _) (dfs_len hU n st x (hl x (by simp)))
theorem callsOf_mk (b:Bl) (ad:Option Addr) (cap:Nat):callsOf (.mk ad cap b.body)=callsOf b:=by
 rcases b with ⟨ad',cap',body⟩
 rw[callsOf,callsOf,Bl.subs_mk,Bl.subs_mk];rfl
theorem methIx_mem {l:List Mo} {a c:ByteArray} {f:Me} (h:methIx l a c=some f):∃ m∈l,f∈m.meths:=by
 unfold methIx at h
 split at h
 ·cases h
 ·split at h
  ·cases h
  ·rename_i m hm
   split at h
   ·cases h
   ·exact⟨m,List.mem_of_getElem? hm,List.mem_of_getElem? h⟩
theorem leads_all (p:Pr) (r:Ref):∀ x∈leadsOf p r,x∈allRefs p:=by
 intro x hx
 rw[leadsOf,bodyOf] at hx
 split at hx
 ·rename_i f hf
  obtain⟨m,hm,hfm⟩:=methIx_mem hf
  exact List.mem_flatMap.2 ⟨m,hm,List.mem_flatMap.2 ⟨f,hfm,hx⟩⟩
 ·rw[callsOf,Bl.subs_mk] at hx;simp[callsA] at hx
theorem closedU (p:Pr) (l:List Ref):∀ r∈l++allRefs p,∀ x∈leadsOf p r,x∈l++allRefs p:=fun r _ x hx=>List.mem_append.2 (.inr (leads_all p r x hx))
def Book (W:World) (n b:Nat) (p:Pr):Prop:=b<n∧∃ L,KMap W b L∧∀ r:Ref,(methIx p.mons r.1 r.2=none∧kget L r=none) ∨
 ∃ m ad cap cad ccap,methIx p.mons r.1 r.2=some m∧kget L r=some (.agg #[.slice ad m.body.body.length cap,.slice cad (callsOf m.body).length ccap])∧(Bl.mk ad cap m.body.body).Is n W∧SlAt 2 rcells n W cad ccap (callsOf m.body)
theorem Book.below {W W':World} {n b:Nat} {p:Pr} (h:Book W n b p) (hb:Below n W W'):Book W' n b p:=by
 obtain⟨h1,L,h2,h3⟩:=h
 refine⟨h1,L,h2.below hb h1,fun r=>?_⟩
 rcases h3 r with h|⟨m,ad,cap,cad,ccap,e1,e2,e3,e4⟩
 ·exact .inl h
 ·exact .inr ⟨m,ad,cap,cad,ccap,e1,e2,e3.below hb,e4.below hb⟩
theorem zero80 (W:World):(zeroValue 89).run Tryz.prog W=.ok (.agg #[.slice none 0 0,.slice none 0 0]) W:=by kernel_rfl
theorem Book.look {W:World} {n b:Nat} {p:Pr} (h:Book W n b p) {r:Ref} (hr:VLen r) :
  ∃ ad cap cad ccap,(Instr.lookup 66 (.map (some b)) (.agg #[.string r.1,.string r.2]) false).run Tryz.prog W=.ok (.agg #[.slice ad (bodyOf p r).body.length cap,.slice cad (leadsOf p r).length ccap]) W∧(Bl.mk ad cap (bodyOf p r).body).Is n W∧SlAt 2 rcells n W cad ccap (leadsOf p r):=by
 obtain⟨h1,L,h2,h3⟩:=h
 have hl:=look_km h2 Tryz.underlying66 (zero80 W) hr
 rcases h3 r with ⟨e1,e2⟩|⟨m,ad,cap,cad,ccap,e1,e2,e3,e4⟩
 ·have hb:bodyOf p r=.mk none 0 []:=by rw[bodyOf,e1]
  have hc:leadsOf p r=[]:=by rw[leadsOf,hb,callsOf,Bl.subs_mk];rfl
  rw[e2] at hl
  refine⟨none,0,none,0,?_,?_,?_⟩
  ·rw[hb,hc];exact hl
  ·rw[hb];exact Bl.Is.up ⟨⟨by simp[Bl.body],by unfold maxLen;omega,.inl rfl⟩,fun s hs=>by simp[Bl.body] at hs⟩
  ·rw[hc];exact⟨by simp,by unfold maxLen;omega,.inl rfl⟩
 ·have hb:bodyOf p r=m.body:=by rw[bodyOf,e1]
  rw[e2] at hl
  exact⟨ad,cap,cad,ccap,by rw[leadsOf,hb];exact hl,by rw[hb];exact e3,by rw[leadsOf,hb];exact e4⟩
theorem Book.look2 {W:World} {n b:Nat} {p:Pr} (h:Book W n b p) {r:Ref} (hr:VLen r) :
  ∃ ad cap cad ccap,(Instr.lookup 66 (.map (some b)) (.agg #[.string r.1,.string r.2]) true).run Tryz.prog W=.ok (.tuple #[.agg #[.slice ad (bodyOf p r).body.length cap,.slice cad (leadsOf p r).length ccap],.bool (methIx p.mons r.1 r.2).isSome]) W:=by
 obtain⟨h1,L,h2,h3⟩:=h
 have hl:=look2_km h2 Tryz.underlying66 (zero80 W) hr
 rcases h3 r with ⟨e1,e2⟩|⟨m,ad,cap,cad,ccap,e1,e2,e3,e4⟩
 ·have hb:bodyOf p r=.mk none 0 []:=by rw[bodyOf,e1]
  have hc:leadsOf p r=[]:=by rw[leadsOf,hb,callsOf,Bl.subs_mk];rfl
  rw[e2] at hl;rw[e1,hb,hc];exact⟨none,0,none,0,hl⟩
 ·have hb:bodyOf p r=m.body:=by rw[bodyOf,e1]
  rw[e2] at hl;rw[e1,leadsOf,hb];exact⟨ad,cap,cad,ccap,hl⟩
theorem fld80 (ad cad:Option Addr) (l c k d:Nat) (W:World):(Instr.field 89 (.agg #[.slice ad l c,.slice cad k d]) 1).run Tryz.prog W=.ok (.slice cad k d) W:=by kernel_rfl
structure Rch (W:World) (base bS bM bB b bR bA:Nat) (S A:List Ref):Prop where
 row:∃ v,Boxed W bA 45 v∧W.ownsRow base 70 2 v A.length (A.flatMap rcells)
 box:Boxed W bS 81 (.map (some bM))
 map:KMap W bM (ones S)
 bk:Boxed W bB 66 (.map (some b))
 fn:Boxed W bR 116 (.func (.func 68) #[] #[.pointer (some ⟨bS,0,none⟩),.pointer (some ⟨bB,0,none⟩),.pointer (some ⟨bR,0,none⟩),.pointer (some ⟨bA,0,none⟩)])
 lo:base≤bA∧base≤bM∧bS≠bA∧bR≠bA∧bB≠bA
theorem Rch.kept {W W':World} {base bS bM bB b bR bA:Nat} {S A:List Ref} (h:Rch W base bS bM bB b bR bA S A) (hb:Below W.heap.size W W'):Rch W' base bS bM bB b bR bA S A:=by
 obtain⟨⟨v,h1,h2⟩,h3,h4,h5,h6,h7⟩:=h
 exact⟨⟨v,boxed_of h1 hb,owns_below h2 hb⟩,boxed_of h3 hb,h4.below hb h4.lt,boxed_of h5 hb,boxed_of h6 hb,h7⟩
def Apart (W:World) (bA k:Nat):Prop:=∀ v,Boxed W bA 45 v→v.ownBlock≠some k
def Kr (bM bA:Nat) (w w':World):Prop:=w.heap.size≤w'.heap.size∧∀ k,k<w.heap.size→k≠bM→k≠bA→Apart w bA k→w'.heap[k]?=w.heap[k]?∧Apart w' bA k
theorem Kr.refl (bM bA:Nat) (w:World):Kr bM bA w w:=⟨Nat.le_refl _,fun _ _ _ _ h=>⟨rfl,h⟩⟩
theorem Kr.trans {bM bA:Nat} {w u x:World} (h:Kr bM bA w u) (g:Kr bM bA u x):Kr bM bA w x:=
 ⟨Nat.le_trans h.1 g.1,fun k hk h1 h2 h3=>by
  obtain⟨a,b⟩:=h.2 k hk h1 h2 h3
  obtain⟨c,d⟩:=g.2 k (Nat.lt_of_lt_of_le hk h.1) h1 h2 b
  exact⟨c.trans a,d⟩⟩
theorem Kr.below {bM bA:Nat} {w w':World} (hb:Below w.heap.size w w') (hA:bA<w.heap.size):Kr bM bA w w':=
 ⟨hb.size,fun k hk _ _ h3=>⟨hb.block k hk,fun v hv=>h3 v ((hb.block bA hA).symm.trans hv)⟩⟩
theorem Kr.grown {bM bA:Nat} {w w':World} (hg:w.grownBy w' (some bM)) (hA:bA<w.heap.size) (hne:some bA≠some bM):Kr bM bA w w':=
 ⟨hg.size,fun k hk h1 _ h3=>⟨hg.block k hk (fun e=>h1 (by cases e;rfl)),fun v hv=>h3 v ((hg.block bA hA hne).symm.trans hv)⟩⟩
theorem Apart.of {W:World} {bA k base e size n:Nat} {v:Value} {xs:List Value} (hA:Boxed W bA 45 v) (ho:W.ownsRow base e size v n xs) (hk:W.heap.size≤k):Apart W bA k:=by
 intro u hu
 have:u=v:=by
  have e1:W.heap[bA]?=some (.cells #[u] 45 (0,0)):=hu
  have e2:W.heap[bA]?=some (.cells #[v] 45 (0,0)):=hA
  rw[e1] at e2;simpa using e2
 subst this
 rcases ho.2 with ⟨rfl,_⟩|⟨g,cap,cur,rfl,_,hgb,_⟩
 ·simp[Value.ownBlock]
 ·intro e'
  obtain rfl:g=k:=by simpa[Value.ownBlock] using e'
  have:=(Array.getElem?_eq_some_iff.1 hgb).1
  omega
theorem Kr.app {bM bA g n cap:Nat} {W w1:World} {v:Value} {tmp:Obj} (hA:Boxed W bA 45 v) (hgrow:(W.alloc tmp).grownBy w1 v.ownBlock) (hat:v.ownBlock=some g∨W.heap.size≤g) (hfin:Boxed (w1.setCell ⟨bA,0,none⟩ (.slice (some ⟨g,0,none⟩) n cap)) bA 45 (.slice (some ⟨g,0,none⟩) n cap)) :
  Kr bM bA W (w1.setCell ⟨bA,0,none⟩ (.slice (some ⟨g,0,none⟩) n cap)):=by
 have hs:=hgrow.size
 simp at hs
 refine⟨by have:=(grownBy_setCell' w1 bA (.slice (some ⟨g,0,none⟩) n cap)).size;omega,fun k hk _ h2 h3=>⟨?_,fun u hu=>?_⟩⟩
 ·refine (Below.heap_setCell _ ⟨bA,0,none⟩ _ k h2).trans ((hgrow.block k (by simp;omega) (fun e=>h3 v hA e.symm)).trans (Below.heap_alloc _ _ _ hk))
 ·have:u=.slice (some ⟨g,0,none⟩) n cap:=by
   have e1:(w1.setCell ⟨bA,0,none⟩ (.slice (some ⟨g,0,none⟩) n cap)).heap[bA]?=some (.cells #[u] 45 (0,0)):=hu
   have e2:(w1.setCell ⟨bA,0,none⟩ (.slice (some ⟨g,0,none⟩) n cap)).heap[bA]?=some (.cells #[.slice (some ⟨g,0,none⟩) n cap] 45 (0,0)):=hfin
   rw[e1] at e2;simpa using e2
  subst this
  intro e
  obtain rfl:g=k:=by simpa[Value.ownBlock] using e
  rcases hat with h|h
  ·exact h3 v hA h
  ·omega
def RcOk (p:Pr) (U:List Ref) (base bS bM bB b bR bA n:Nat):Prop:=∀ (n₀:Nat) (S A:List Ref) (r:Ref) (w:World),n₀≤base→base≤w.heap.size→Book w n₀ b p→Rch w base bS bM bB b bR bA S A→r∈U→left U S≤n→A.length+left U S≤1000000 →
 Calls Tryz.prog 68 #[.agg #[.string r.1,.string r.2],.pointer (some ⟨bS,0,none⟩),.pointer (some ⟨bB,0,none⟩),.pointer (some ⟨bR,0,none⟩),.pointer (some ⟨bA,0,none⟩)] w fun e w'=>e=.returned (.tuple #[])∧Rch w' base bS bM bB b bR bA (dfs (leadsOf p) n (S,A) r).1 (dfs (leadsOf p) n (S,A) r).2∧Below base w w'∧Kr bM bA w w'
set_option maxRecDepth 100000 in
set_option maxHeartbeats 4000000 in
theorem reach_old {p:Pr} {U:List Ref} {base bS bM bB b bR bA n:Nat} (hV:∀ r∈U,VLen r) (S A:List Ref) (r:Ref) (w:World) (hb:base≤w.heap.size) (hR:Rch w base bS bM bB b bR bA S A) (hr:r∈U) (hm:r∈S) :
  Calls Tryz.prog 68 #[.agg #[.string r.1,.string r.2],.pointer (some ⟨bS,0,none⟩),.pointer (some ⟨bB,0,none⟩),.pointer (some ⟨bR,0,none⟩),.pointer (some ⟨bA,0,none⟩)] w fun e w'=>e=.returned (.tuple #[])∧Rch w' base bS bM bB b bR bA (dfs (leadsOf p) n (S,A) r).1 (dfs (leadsOf p) n (S,A) r).2∧Below base w w'∧Kr bM bA w w':=by
 rw[dfs_seen hm]
 have hvl:=hV r hr
 obtain⟨bX,hBX,hzX⟩:=one_box w #[.string r.1,.string r.2] 70
 have hR0:=hR.kept hBX
 have hlk:=look_km hR0.map Tryz.underlying81 (zero3' _) hvl
 rw[ones_get,if_pos hm] at hlk
 have cS:=hR0.box.cell
 have hB0:=hBX.mono hb
 have hK0:Kr bM bA w (w.alloc (.cells #[.string r.1,.string r.2] 70)):=Kr.below hBX (by obtain⟨⟨_,g,_⟩,_⟩:=hR;exact g.lt)
 clear hm hzX bX
 go_enter Tryz.func68,Tryz.ntmps68
 go_wp2
 refine bodyPost_ret (results_none rfl _ _ _) rfl ?_
 exact⟨rfl,hR0,hB0,hK0⟩
set_option maxRecDepth 100000 in
set_option maxHeartbeats 4000000 in
theorem reach_new {p:Pr} {U:List Ref} {base bS bM bB b bR bA m:Nat} (hV:∀ r∈U,VLen r) (hU:∀ r∈U,∀ x∈leadsOf p r,x∈U) (ih:RcOk p U base bS bM bB b bR bA m)
  (n₀:Nat) (S A:List Ref) (r:Ref) (w:World) (hn:n₀≤base) (hb:base≤w.heap.size) (hBk:Book w n₀ b p) (hR:Rch w base bS bM bB b bR bA S A) (hr:r∈U) (hm:r ∉ S) (hlf:left U S≤m+1) (hlen:A.length+left U S≤1000000) :
  Calls Tryz.prog 68 #[.agg #[.string r.1,.string r.2],.pointer (some ⟨bS,0,none⟩),.pointer (some ⟨bB,0,none⟩),.pointer (some ⟨bR,0,none⟩),.pointer (some ⟨bA,0,none⟩)] w fun e w'=>e=.returned (.tuple #[])∧Rch w' base bS bM bB b bR bA (dfs (leadsOf p) (m+1) (S,A) r).1 (dfs (leadsOf p) (m+1) (S,A) r).2∧Below base w w'∧Kr bM bA w w':=by
 rw[dfs_new hm]
 have hvl:=hV r hr
 have hlf2:=left_snoc hr hm
 have hUr:=hU r hr
 rcases r with ⟨mon,name⟩
 obtain⟨gs,hgs⟩:∃ gs,leadsOf p (mon,name)=gs:=⟨_,rfl⟩
 rw[hgs] at hUr ⊢
 have HG:=hid hgs
 clear hgs
 obtain⟨bX,hBX,hzX⟩:=one_box w #[.string mon,.string name] 70
 have hR0:=hR.kept hBX
 have hB0:=hBX.mono hb
 go_enter Tryz.func68,Tryz.ntmps68
 go_upto_region 1 with fail
 obtain⟨Bs,hBs⟩:∃ Bs,w.heap.size=Bs:=⟨_,rfl⟩
 obtain⟨W2,hW2⟩:∃ W2,w.alloc (.cells #[.string mon,.string name] 70)=W2:=⟨_,rfl⟩
 have hBk0:Book W2 n₀ b p:=by rw[← hW2];exact hBk.below (hBX.mono (by omega))
 rw[hW2] at bX hR0 hB0 ⊢
 rw[hBs] at bX ⊢
 have hBsW:Bs<W2.heap.size:=(Array.getElem?_eq_some_iff.1 bX).1
 have hK0:Kr bM bA w W2:=by rw[← hW2];exact Kr.below hBX (by obtain⟨⟨_,g,_⟩,_⟩:=hR;exact g.lt)
 have hAp0:Apart W2 bA Bs:=by
  obtain⟨⟨v,g1,g2⟩,_⟩:=hR
  have h1:=Apart.of g1 g2 (Nat.le_of_eq hBs)
  intro u hu
  exact h1 u (((hBX.block bA g1.lt).symm.trans (by rw[hW2];exact hu)))
 have HNB:Hid (Bs≠bM∧Bs≠bA):=by
  obtain⟨⟨v,g1,_⟩,_,g2,_,_⟩:=hR
  have e1:=g1.lt
  have e2:=g2.lt
  exact⟨by omega,by omega⟩
 have y0:=cellOf bX 0
 have y1:=cellOf bX 1
 simp at y0 y1
 have cS:=hR0.box.cell
 have hlk:=look_km hR0.map Tryz.underlying81 (zero3' _) hvl
 rw[ones_get,if_neg hm] at hlk
 have hmk:(mon,name) ∉ (ones S).map Prod.fst:=by rw[ones_fst];exact hm
 have hMd:KMap W2.drew bM (ones S):=hR0.map
 have E0:=entry_km hMd Tryz.underlying81 hvl hmk
 have hMe:KMap (kmW W2.drew bM (ones S++[((mon,name),.int .i64 0)])) bM (ones S++[((mon,name),.int .i64 0)]):=kmW_map hMd (vlen_snoc hMd.2.1 hvl _) (nodup_snoc hMd.2.2 _ hmk)
 have L0:=look_km hMd Tryz.underlying81 (zero3' _) hvl
 rw[ones_get,if_neg hm] at L0
 have L1:=look_km hMe Tryz.underlying81 (zero3' _) hvl
 have hkg:kget (ones S++[((mon,name),.int .i64 0)]) (mon,name)=some (.int .i64 0):=by
  have:=kget_put (ones S) (mon,name) (.int .i64 0) (mon,name)
  rw[kput_new _ _ _ hmk,if_pos rfl] at this
  exact this
 rw[hkg] at L1
 have E1:=store_km (T:=81) hMe
 rw[kmW_twice,ones_len] at E1
 rw[ones_len] at E0
 simp only[Option.getD_some] at hlk L0 L1 E0 E1
 have HM:=hid hm
 clear hm hkg hMe hMd hW2 hBs hR hBX hzX hBk
 go_upto_region 2 with fail
 go_region
 have gW:=kmW_drew W2 bM (ones S++[((mon,name),.int .i64 1)])
 have hM4:KMap (kmW W2.drew bM (ones S++[((mon,name),.int .i64 1)])) bM (ones (S++[(mon,name)])):=by
  rw[ones_snoc]
  exact kmW_map (L:=ones S) hR0.map (vlen_snoc hR0.map.2.1 hvl _) (nodup_snoc hR0.map.2.2 _ hmk)
 obtain⟨⟨v,hA,hown⟩,hS,hMp,hK,hF,hlo⟩:=hR0
 have hR4:Rch (kmW W2.drew bM (ones S++[((mon,name),.int .i64 1)])) base bS bM bB b bR bA (S++[(mon,name)]) A:=⟨⟨v,hA.kept gW (box_ne_map hA hMp),hown.kept gW (.inr (hMp.not_row hown).symm)⟩,hS.kept gW (box_ne_map hS hMp),hM4,hK.kept gW (box_ne_map hK hMp),hF.kept gW (box_ne_map hF hMp),hlo⟩
 have hK4:=Kr.grown (bM:=bM) (bA:=bA) gW hA.lt (box_ne_map hA hMp)
 have hAp4:=(hK4.2 Bs hBsW HNB.out.1 HNB.out.2 hAp0).2
 have hK4:=hK0.trans hK4
 have bX4:=(gW.block Bs hBsW (fun e=>HNB.out.1 (by cases e;rfl))).trans bX
 have hB4:Below base w (kmW W2.drew bM (ones S++[((mon,name),.int .i64 1)])):=hB0.grown gW (by have:=hB0.size;omega) (fun k e=>by cases e;exact hlo.2.1)
 have hBk4:Book (kmW W2.drew bM (ones S++[((mon,name),.int .i64 1)])) n₀ b p:=hBk0.below ((Below.refl _ _).grown gW (by have:=hB0.size;omega) (fun k e=>by cases e;omega))
 obtain⟨W4,hW4⟩:∃ W4,kmW W2.drew bM (ones S++[((mon,name),.int .i64 1)])=W4:=⟨_,rfl⟩
 rw[hW4] at hR4 bX4 hB4 hBk4 hK4 hAp4 ⊢
 clear hW4 gW E0 E1 L0 L1 hlk hMp hA hS hF hK hown bX y0 y1 cS hmk hM4 hBk0 hB0
 have cB:=hR4.bk.cell
 have y0:=cellOf bX4 0
 have y1:=cellOf bX4 1
 simp at y0 y1
 obtain⟨gad,gcap,cad,ccap,hlook,-,hcl⟩:=hBk4.look hvl
 simp only at hlook
 rw[HG.out] at hlook hcl
 obtain⟨gl,hgl⟩:∃ gl,(bodyOf p (mon,name)).body.length=gl:=⟨_,rfl⟩
 rw[hgl] at hlook
 clear hgl
 have hf80:=fld80
 have hcl1:=hcl.1;have hcl2:=hcl.2.1
 unfold maxLen at hcl2
 go_wp2
 clear hlook cB y0 y1
 have hz40:=hB4.size
 go_loopw [23] (fun i wr=>∃ k:Nat,k≤gs.length∧i=.int .i64 k∧Rch wr base bS bM bB b bR bA ((gs.take k).foldl (dfs (leadsOf p) m) (S++[(mon,name)],A)).1 ((gs.take k).foldl (dfs (leadsOf p) m) (S++[(mon,name)],A)).2∧Below base W4 wr∧Kr bM bA W4 wr)
  (fun i _=>gs.length-(intOf i).toNat)
 case atStart=>exact⟨0,by omega,rfl,hR4,Below.refl _ _,Kr.refl _ _ _⟩
 case round =>
  obtain⟨k,hk,rfl,hRr,hbw,hKr⟩:=hrel
  have hBs4:=(Array.getElem?_eq_some_iff.1 bX4).1
  obtain⟨bXr,hApr⟩:=hKr.2 Bs hBs4 HNB.out.1 HNB.out.2 hAp4
  have bXr:=bXr.trans bX4
  have hz1:=hbw.size
  have hmn:=fold_dfs_mono (leadsOf p) m (gs.take k) (S++[(mon,name)],A)
  have hln:=fold_dfs_len hU m (gs.take k) (fun x hx=>hUr x (List.mem_of_mem_take hx)) (S++[(mon,name)],A)
  have hlm:=left_mono (U:=U) hmn
  simp only at hln hlm
  obtain⟨st,hst⟩:∃ st,(gs.take k).foldl (dfs (leadsOf p) m) (S++[(mon,name)],A)=st:=⟨_,rfl⟩
  rw[hst] at hRr hln hlm
  clear hmn
  by_cases hlt:k<gs.length
  ·rcases hcl.2.2 with h|⟨qb,qoff,rfl,hqn,hqrow⟩
   ·subst h;simp at hlt
   have HF:=hid ((foldl_snoc (dfs (leadsOf p) m) (S++[(mon,name)],A) gs k hlt).trans (by rw[hst]))
   have hqrow2:=hqrow.below (hbw.mono hn) hqn
   have d0:=hqrow2 k hlt 0 (by omega)
   have d1:=hqrow2 k hlt 1 (by omega)
   have hqw:qb<wr.heap.size:=by omega
   have hgU:=hUr _ (List.getElem_mem hlt)
   obtain⟨bN,hBN,hzN⟩:=one_box wr #[.string gs[k].1,.string gs[k].2] 70
   have hq:=ih n₀ st.1 st.2 gs[k] (wr.alloc (.cells #[.string gs[k].1,.string gs[k].2] 70)) hn (by simp;omega) (hBk4.below ((hbw.trans (hBN.mono (by omega))).mono hn)) (hRr.kept hBN) hgU (by omega) (by omega)
   have bXn:=(hBN.block Bs (Array.getElem?_eq_some_iff.1 bXr).1).trans bXr
   have cR:=(boxed_of hRr.fn hBN).cell
   simp only[rcells] at d0 d1
   simp at d0 d1
   obtain⟨g1,hg1⟩:∃ g1,gs[k]=g1:=⟨_,rfl⟩
   rw[hg1] at d0 d1 hq HF bN hBN hzN bXn cR hgU
   clear hg1
   obtain⟨gm,gn⟩:=g1
   simp only at d0 d1 hq bN hBN hzN bXn cR
   have hBN2:Below base wr (wr.alloc (.cells #[.string gm,.string gn] 70)):=hBN.mono (by omega)
   have HDB:Hid (dfs (leadsOf p) m (st.1,st.2) (gm,gn)=dfs (leadsOf p) m st (gm,gn)):=rfl
   have hKn:Kr bM bA wr (wr.alloc (.cells #[.string gm,.string gn] 70)):=Kr.below hBN (by obtain⟨⟨_,g,_⟩,_⟩:=hRr;exact g.lt)
   clear hst hRr hBk4 bX4 bXr ih
   go_wp2_with (go_at_call 68;(with_reducible refine hq.mono ?_);rintro r w5 ⟨rfl,hR5,hb5,hk5⟩)
   go_roundw
   case rel=>exact⟨k+1,by omega,by go_num,by rw[HF.out];exact hR5,(hbw.trans hBN2).trans hb5,(hKr.trans hKn).trans hk5⟩
   case measure=>simp[intOf];omega
  ·have hkd:decide ((k:Int)<(gs.length:Int))=false:=by simp;omega
   have hke:k=gs.length:=by omega
   have HST:Hid (gs.foldl (dfs (leadsOf p) m) (S++[(mon,name)],A)=st):=by
    show _=_
    rw[hke,List.take_length] at hst;exact hst
   clear hke hst
   obtain⟨⟨v,hA,hown⟩,hSb,hMp,hKb,hF,hlo⟩:=hRr
   have cA:=hA.cell
   have y0:=cellOf bXr 0
   have y1:=cellOf bXr 1
   simp at y0 y1
   obtain⟨i0,hi,hz0,hz1,hz2⟩:=info_parts infoRef
   have hbase4:base≤wr.heap.size:=by omega
   have hstl:st.2.length≤1000000:=by omega
   have hownA:=hown.alloc (.cells #[.string mon,.string name] 70)
   have hcn:∀ j u,([.string mon,.string name]:List Value)[j]?=some u→(wr.alloc (.cells #[.string mon,.string name] 70)).cell? ((⟨wr.heap.size,0,none⟩:Addr).add j)=some u:=by
    intro j u hju
    rcases j with _|_|j
    ·show (wr.alloc _).cell? ⟨wr.heap.size,0+0,none⟩=_
     rw[cellOf (heapNew wr _)];simpa using hju
    ·show (wr.alloc _).cell? ⟨wr.heap.size,0+1,none⟩=_
     rw[cellOf (heapNew wr _)];simpa using hju
    ·simp at hju
   go_wp2_with (at_builtin;refine wpList_append_lies _ rfl _ _ 45 rfl base 70 i0 _ 2 32 Tryz.underlying45 hi hz0 hz1 hz2 rfl (by decide) _ _ _ rfl hownA ⟨wr.heap.size,0,none⟩ 1 1 [.string mon,.string name] rfl rfl hcn (by simp[Value.oneCell']) (by omega) (by unfold maxLen;omega) (by omega) (by simp;omega) _ rfl ?_;intro g cap w1 hown' hgrow hat hlt;obtain⟨hw1,hw2,hw3,hw4,hw5⟩:=hA.appended (by decide) hown hbase4 hlo.1 hown' hgrow;have hc1:=hw1.cell;have hf1:=hw1.frozen)
   go_end0
   rw[HST.out]
   have hat2:v.ownBlock=some g∨wr.heap.size≤g:=by
    rcases hat with h|h
    ·exact .inl h
    ·right;simp at h;omega
   refine⟨rfl,⟨⟨_,hw2,by simpa[rcells] using hw3⟩,((hSb.alloc _).kept hgrow (hSb.not_row (by decide) hown)).other hlo.2.2.1 _,hMp.kept (hw4.same _ _ hMp.1 rfl |>.trans hMp.1.symm),((hKb.alloc _).kept hgrow (hKb.not_row (by decide) hown)).other hlo.2.2.2.2 _,((hF.alloc _).kept hgrow (hF.not_row (by decide) hown)).other hlo.2.2.2.1 _,hlo⟩,(hB4.trans hbw).trans hw5,(hK4.trans hKr).trans (Kr.app hA hgrow hat2 hw2)⟩
theorem reach_any {p:Pr} {U:List Ref} {base bS bM bB b bR bA:Nat} (hV:∀ r∈U,VLen r) (hU:∀ r∈U,∀ x∈leadsOf p r,x∈U) (n:Nat):RcOk p U base bS bM bB b bR bA n:=by
 induction n with
 | zero =>
  intro n₀ S A r w hn hb hBk hR hr hl hlen
  refine reach_old hV S A r w hb hR hr ?_
  by_cases hm:r∈S
  ·exact hm
  ·have:=left_snoc hr hm;omega
 | succ m ih =>
  intro n₀ S A r w hn hb hBk hR hr hl hlen
  by_cases hm:r∈S
  ·exact reach_old hV S A r w hb hR hr hm
  ·exact reach_new hV hU ih n₀ S A r w hn hb hBk hR hr hm hl hlen
set_option maxRecDepth 100000 in
set_option maxHeartbeats 4000000 in
theorem reached_any (p:Pr) (l:List Ref) (ad:Option Addr) (cap n₀ b:Nat) (w:World) (hn:n₀≤w.heap.size) (hBk:Book w n₀ b p) (hsl:SlAt 2 rcells n₀ w ad cap l) (hV:∀ r∈l++allRefs p,VLen r) (hsm:l.length+(allRefs p).length≤1000000) :
  Calls Tryz.prog 45 #[.map (some b),.slice ad l.length cap] w fun r w'=>CallsBack (reachedOf p l) w w' r:=by
 have hU:=closedU p l
 have hlU:∀ x∈l,x∈l++allRefs p:=fun x hx=>List.mem_append.2 (.inl hx)
 have hlf0:left (l++allRefs p) []≤l.length+(allRefs p).length:=by
  refine Nat.le_trans (List.length_filter_le _ _) ?_
  simp
 have HR:=hid (show reachedOf p l=(l.foldl (dfs (leadsOf p) (l.length+(allRefs p).length)) ([],[])).2 from rfl)
 have hra:=fun (bS bM bB bR bA:Nat)=>reach_any (base:=w.heap.size) (bS:=bS) (bM:=bM) (bB:=bB) (b:=b) (bR:=bR) (bA:=bA) hV hU (l.length+(allRefs p).length)
 have hmm:=@run_makeMap Tryz.prog
 have hl1:=hsl.1;have hl2:=hsl.2.1
 unfold maxLen at hl2
 go_enter Tryz.func45,Tryz.ntmps45
 go_upto_region 5 with fail
 have hR0:Rch (((((w.alloc (.cells #[.map (some b)] 66)).alloc (.cells #[.slice none 0 0] 45)).alloc (.map #[] 0)).alloc (.cells #[.map (some (w.heap.size+1+1))] 81)).alloc (.cells #[.func (.func 68) #[] #[.pointer (some ⟨w.heap.size+1+1+1,0,none⟩),.pointer (some ⟨w.heap.size,0,none⟩),.pointer (some ⟨w.heap.size+1+1+1+1,0,none⟩),.pointer (some ⟨w.heap.size+1,0,none⟩)]] 116)) w.heap.size (w.heap.size+1+1+1) (w.heap.size+1+1) w.heap.size b (w.heap.size+1+1+1+1) (w.heap.size+1) [] []:=by
  refine⟨⟨.slice none 0 0,?_,World.ownsRow_nil _ _ _ _⟩,?_,?_,?_,?_,⟨by omega,by omega,by omega,by omega,by omega⟩⟩
  ·have:=(((Boxed.new (w.alloc (.cells #[.map (some b)] 66)) 45 (.slice none 0 0)).alloc (.map #[] 0)).alloc (.cells #[.map (some (w.heap.size+1+1))] 81)).alloc (.cells #[.func (.func 68) #[] #[.pointer (some ⟨w.heap.size+1+1+1,0,none⟩),.pointer (some ⟨w.heap.size,0,none⟩),.pointer (some ⟨w.heap.size+1+1+1+1,0,none⟩),.pointer (some ⟨w.heap.size+1,0,none⟩)]] 116)
   rwa [World.size_alloc] at this
  ·have:=(Boxed.new (((w.alloc (.cells #[.map (some b)] 66)).alloc (.cells #[.slice none 0 0] 45)).alloc (.map #[] 0)) 81 (.map (some (w.heap.size+1+1)))).alloc (.cells #[.func (.func 68) #[] #[.pointer (some ⟨w.heap.size+1+1+1,0,none⟩),.pointer (some ⟨w.heap.size,0,none⟩),.pointer (some ⟨w.heap.size+1+1+1+1,0,none⟩),.pointer (some ⟨w.heap.size+1,0,none⟩)]] 116)
   rwa [World.size_alloc,World.size_alloc,World.size_alloc] at this
  ·have:=((KMap.new ((w.alloc (.cells #[.map (some b)] 66)).alloc (.cells #[.slice none 0 0] 45))).al (.cells #[.map (some (w.heap.size+1+1))] 81)).al (.cells #[.func (.func 68) #[] #[.pointer (some ⟨w.heap.size+1+1+1,0,none⟩),.pointer (some ⟨w.heap.size,0,none⟩),.pointer (some ⟨w.heap.size+1+1+1+1,0,none⟩),.pointer (some ⟨w.heap.size+1,0,none⟩)]] 116)
   rwa [World.size_alloc,World.size_alloc] at this
  ·exact ((((Boxed.new w 66 (.map (some b))).alloc _).alloc _).alloc _).alloc _
  ·have:=Boxed.new ((((w.alloc (.cells #[.map (some b)] 66)).alloc (.cells #[.slice none 0 0] 45)).alloc (.map #[] 0)).alloc (.cells #[.map (some (w.heap.size+1+1))] 81)) 116 (.func (.func 68) #[] #[.pointer (some ⟨w.heap.size+1+1+1,0,none⟩),.pointer (some ⟨w.heap.size,0,none⟩),.pointer (some ⟨w.heap.size+1+1+1+1,0,none⟩),.pointer (some ⟨w.heap.size+1,0,none⟩)])
   rwa [World.size_alloc,World.size_alloc,World.size_alloc,World.size_alloc] at this
 have hB0:Below w.heap.size w (((((w.alloc (.cells #[.map (some b)] 66)).alloc (.cells #[.slice none 0 0] 45)).alloc (.map #[] 0)).alloc (.cells #[.map (some (w.heap.size+1+1))] 81)).alloc (.cells #[.func (.func 68) #[] #[.pointer (some ⟨w.heap.size+1+1+1,0,none⟩),.pointer (some ⟨w.heap.size,0,none⟩),.pointer (some ⟨w.heap.size+1+1+1+1,0,none⟩),.pointer (some ⟨w.heap.size+1,0,none⟩)]] 116)):=(((((Below.refl _ w).al le_rfl' _).al le_rfl' _).al le_rfl' _).al le_rfl' _).al le_rfl' _
 obtain⟨W0,hW0⟩:∃ W0,(((((w.alloc (.cells #[.map (some b)] 66)).alloc (.cells #[.slice none 0 0] 45)).alloc (.map #[] 0)).alloc (.cells #[.map (some (w.heap.size+1+1))] 81)).alloc (.cells #[.func (.func 68) #[] #[.pointer (some ⟨w.heap.size+1+1+1,0,none⟩),.pointer (some ⟨w.heap.size,0,none⟩),.pointer (some ⟨w.heap.size+1+1+1+1,0,none⟩),.pointer (some ⟨w.heap.size+1,0,none⟩)]] 116))=W0:=⟨_,rfl⟩
 rw[hW0] at hR0 hB0 ⊢
 clear hW0
 have hq:=hra (w.heap.size+1+1+1) (w.heap.size+1+1) w.heap.size (w.heap.size+1+1+1+1) (w.heap.size+1)
 clear hra hmm
 obtain⟨N,hN⟩:∃ N,l.length+(allRefs p).length=N:=⟨_,rfl⟩
 rw[hN] at hq HR hlf0 hsm
 clear hN
 go_wp2
 go_loopw [14] (fun i wr=>∃ k:Nat,k≤l.length∧i=.int .i64 k∧Rch wr w.heap.size (w.heap.size+1+1+1) (w.heap.size+1+1) w.heap.size b (w.heap.size+1+1+1+1) (w.heap.size+1) ((l.take k).foldl (dfs (leadsOf p) N) ([],[])).1 ((l.take k).foldl (dfs (leadsOf p) N) ([],[])).2∧Below w.heap.size w wr)
  (fun i _=>l.length-(intOf i).toNat)
 case atStart=>exact⟨0,by omega,rfl,hR0,hB0⟩
 case round =>
  obtain⟨k,hk,rfl,hRr,hbw⟩:=hrel
  have hz1:=hbw.size
  have hln:=fold_dfs_len hU N (l.take k) (fun x hx=>hlU x (List.mem_of_mem_take hx)) ([],[])
  have hlm:=left_mono (U:=l++allRefs p) (fold_dfs_mono (leadsOf p) N (l.take k) ([],[]))
  simp only[List.length_nil] at hln hlm
  obtain⟨st,hst⟩:∃ st,(l.take k).foldl (dfs (leadsOf p) N) ([],[])=st:=⟨_,rfl⟩
  rw[hst] at hRr hln hlm
  by_cases hlt:k<l.length
  ·rcases hsl.2.2 with h|⟨qb,qoff,rfl,hqn,hqrow⟩
   ·subst h;simp at hlt
   have HF:=hid ((foldl_snoc (dfs (leadsOf p) N) ([],[]) l k hlt).trans (by rw[hst]))
   have hqrow2:=hqrow.below (hbw.mono hn) hqn
   have d0:=hqrow2 k hlt 0 (by omega)
   have d1:=hqrow2 k hlt 1 (by omega)
   have hqw:qb<wr.heap.size:=by omega
   have hgU:=hlU _ (List.getElem_mem hlt)
   obtain⟨bN,hBN,hzN⟩:=one_box wr #[.string l[k].1,.string l[k].2] 70
   have hqc:=hq n₀ st.1 st.2 l[k] (wr.alloc (.cells #[.string l[k].1,.string l[k].2] 70)) hn (by simp;omega) (hBk.below ((hbw.trans (hBN.mono (by omega))).mono hn)) (hRr.kept hBN) hgU (by omega) (by omega)
   have cR:=(boxed_of hRr.fn hBN).cell
   simp only[rcells] at d0 d1
   simp at d0 d1
   obtain⟨g1,hg1⟩:∃ g1,l[k]=g1:=⟨_,rfl⟩
   rw[hg1] at d0 d1 hqc HF bN hBN hzN cR
   clear hg1 hq hgU
   obtain⟨gm,gn⟩:=g1
   simp only at d0 d1 hqc bN hBN hzN cR
   have hBN2:Below w.heap.size wr (wr.alloc (.cells #[.string gm,.string gn] 70)):=hBN.mono (by omega)
   clear hst hRr hR0
   go_wp2_with (go_at_call 68;(with_reducible refine hqc.mono ?_);rintro r w5 ⟨rfl,hR5,hb5,hk5⟩)
   go_roundw
   case rel=>exact⟨k+1,by omega,by go_num,by rw[HF.out];exact hR5,(hbw.trans hBN2).trans hb5⟩
   case measure=>simp[intOf];omega
  ·have hkd:decide ((k:Int)<(l.length:Int))=false:=by simp;omega
   have hke:k=l.length:=by omega
   have HST:Hid (reachedOf p l=st.2):=by
    show _=_
    rw[hke,List.take_length] at hst;rw[HR.out,hst]
   clear hke hst
   obtain⟨v,hA,hown⟩:=hRr.row
   have cA:=hA.cell
   go_wp2
   go_ret
   exact⟨v,rfl,by rw[HST.out];exact hown,hbw⟩
open Go.RowKit
theorem SlAt.cells {α:Type} {size:Nat} {cs:α→List Value} {n₀:Nat} {W W':World} {ad:Option Addr} {cap:Nat} {l:List α} (hc:∀ a:Addr,W'.cell? a=W.cell? a) (h:SlAt size cs n₀ W ad cap l):SlAt size cs n₀ W' ad cap l:=by
 obtain⟨h1,h2,h3⟩:=h
 refine⟨h1,h2,?_⟩
 rcases h3 with h3|⟨b,off,h4,h5,h6⟩
 ·exact .inl h3
 ·exact .inr ⟨b,off,h4,h5,fun j hj i hi=>(hc _).trans (h6 j hj i hi)⟩
theorem Ex.Is.cells {n₀:Nat} {W W':World} (hc:∀ a:Addr,W'.cell? a=W.cell? a):∀ {e:Ex},e.Is n₀ W→e.Is n₀ W':=by
 intro e
 induction e using Ex.ind with
 | h op mon name n ad cap kids pos ih =>
  intro h
  exact Ex.Is.up ⟨h.down.1,h.down.2.1.cells hc,fun x hx=>ih x hx (h.down.2.2 x hx)⟩
theorem Bl.Is.cells {n₀:Nat} {W W':World} (hc:∀ a:Addr,W'.cell? a=W.cell? a) {b:Bl}:b.Is n₀ W→b.Is n₀ W':=
 Bl.ind (P:=fun s=>s.Is n₀ W→s.Is n₀ W') (Q:=fun b=>b.Is n₀ W→b.Is n₀ W') (fun _ _ _ _ _ _ _ _ _ ih h=>St.Is.up ⟨h.down.1,h.down.2.1.cells hc,h.down.2.2.1.cells hc,fun b hb'=>ih b hb' (h.down.2.2.2 b hb')⟩)
  (fun _ _ _ ih h=>Bl.Is.up ⟨h.down.1.cells hc,fun s hs=>ih s hs (h.down.2 s hs)⟩) b
theorem kmW_cell {W:World} {b:Nat} {L:List (Ref × Value)} (h:KMap W b L) (L':List (Ref × Value)) (a:Addr):(kmW W b L').cell? a=W.cell? a:=by
 have hb:=h.1
 by_cases e:a.block=b
 ·have h1:(kmW W b L').heap[a.block]?=some (.map (kmEs L').toArray L'.length):=by
   rw[e]
   have:=h.lt
   simp[kmW,ChangeMaps.setBlock,this]
  rw[← e] at hb
  simp[World.cell?,h1,hb]
 ·have h1:(kmW W b L').heap[a.block]?=W.heap[a.block]?:=by
   show (W.heap.setIfInBounds b _)[a.block]?=_
   rw[Array.getElem?_setIfInBounds_ne (fun h=>e h.symm)]
  simp[World.cell?,h1]
def PBook (W:World) (b:Nat) (p:Pr) (V:List Ref):Prop:=∃ L,KMap W b L∧∀ r:Ref,(kget L r=none∧(r∈V→methIx p.mons r.1 r.2=none)) ∨
 ∃ m ad cap cad ccap,methIx p.mons r.1 r.2=some m∧kget L r=some (.agg #[.slice ad m.body.body.length cap,.slice cad (callsOf m.body).length ccap])∧(Bl.mk ad cap m.body.body).Is W.heap.size W∧SlAt 2 rcells W.heap.size W cad ccap (callsOf m.body)
theorem PBook.lt {W:World} {b:Nat} {p:Pr} {V:List Ref} (h:PBook W b p V):b<W.heap.size:=by obtain⟨L,h1,_⟩:=h;exact h1.lt
theorem PBook.kept {W W':World} {b:Nat} {p:Pr} {V:List Ref} (h:PBook W b p V) (hb:Below W.heap.size W W'):PBook W' b p V:=by
 obtain⟨L,h1,h2⟩:=h
 refine⟨L,h1.below hb h1.lt,fun r=>?_⟩
 rcases h2 r with h|⟨m,ad,cap,cad,ccap,e1,e2,e3,e4⟩
 ·exact .inl h
 ·exact .inr ⟨m,ad,cap,cad,ccap,e1,e2,(e3.below hb).mono hb.size,(e4.below hb).mono hb.size⟩
theorem PBook.none {W:World} {b:Nat} {p:Pr} {V:List Ref} (h:PBook W b p V) {r:Ref} (hr:methIx p.mons r.1 r.2=none):PBook W b p (V++[r]):=by
 obtain⟨L,h1,h2⟩:=h
 refine⟨L,h1,fun s=>?_⟩
 rcases h2 s with ⟨e1,e2⟩|h
 ·refine .inl ⟨e1,fun hs=>?_⟩
  rcases List.mem_append.1 hs with hs|hs
  ·exact e2 hs
  ·rw[List.mem_singleton.1 hs];exact hr
 ·exact .inr h
theorem PBook.put {W:World} {b:Nat} {p:Pr} {V:List Ref} (h:PBook W b p V) {r:Ref} {m:Me} (hv:VLen r) (hr:methIx p.mons r.1 r.2=some m) {ad:Option Addr} {cap:Nat} {cad:Option Addr} {ccap:Nat} (hI:(Bl.mk ad cap m.body.body).Is W.heap.size W) (hc:SlAt 2 rcells W.heap.size W cad ccap (callsOf m.body)) :
  ∃ W',(Instr.mapUpdate 66 (.map (some b)) (.agg #[.string r.1,.string r.2]) (.agg #[.slice ad m.body.body.length cap,.slice cad (callsOf m.body).length ccap])).run Tryz.prog W=.ok () W'∧PBook W' b p (V++[r])∧W.grownBy W' (some b):=by
 obtain⟨L,h1,h2⟩:=h
 refine⟨_,put_km h1 Tryz.underlying66 hv _,⟨_,h1.put hv _,fun s=>?_⟩,kmW_grown _ _ _⟩
 have hcell:=kmW_cell h1 (kput L r (.agg #[.slice ad m.body.body.length cap,.slice cad (callsOf m.body).length ccap]))
 rw[kget_put,kmW_size]
 by_cases es:s=r
 ·subst es
  rw[if_pos rfl]
  exact .inr ⟨m,ad,cap,cad,ccap,hr,rfl,hI.cells hcell,hc.cells hcell⟩
 ·rw[if_neg es]
  rcases h2 s with ⟨e1,e2⟩|⟨m,ad,cap,cad,ccap,e1,e2,e3,e4⟩
  ·refine .inl ⟨e1,fun hs=>?_⟩
   rcases List.mem_append.1 hs with hs|hs
   ·exact e2 hs
   ·exact absurd (List.mem_singleton.1 hs) es
  ·exact .inr ⟨m,ad,cap,cad,ccap,e1,e2,e3.cells hcell,e4.cells hcell⟩
def mrefs (m:Mo):List Ref:=m.meths.map fun f=>(m.name,f.name)
def arefs (l:List Mo):List Ref:=l.flatMap mrefs
theorem methIx_names {l:List Mo} {a c:ByteArray} {f:Me} (h:methIx l a c=some f):(a,c)∈arefs l:=by
 unfold methIx at h
 split at h
 ·cases h
 ·rename_i i hi
  split at h
  ·cases h
  ·rename_i m hm
   split at h
   ·cases h
   ·rename_i k hk
    have h1:m.name=a:=by
     have:=(List.findIdx?_eq_some_iff_getElem.1 hi).2.1
     have e:=(List.getElem?_eq_some_iff.1 hm).2
     simpa[e] using this
    have h2:f.name=c:=by
     have:=(List.findIdx?_eq_some_iff_getElem.1 hk).2.1
     have e:=(List.getElem?_eq_some_iff.1 h).2
     simpa[e] using this
    exact List.mem_flatMap.2 ⟨m,List.mem_of_getElem? hm,List.mem_map.2 ⟨f,List.mem_of_getElem? h,by rw[h1,h2]⟩⟩
theorem PBook.full {W:World} {b:Nat} {p:Pr} (h:PBook W b p (arefs p.mons)):Book W W.heap.size b p:=by
 refine⟨h.lt,?_⟩
 obtain⟨L,h1,h2⟩:=h
 refine⟨L,h1,fun r=>?_⟩
 rcases h2 r with ⟨e1,e2⟩|h
 ·cases hm:methIx p.mons r.1 r.2 with
  | none=>exact .inl ⟨rfl,e1⟩
  | some f=>have:=e2 (methIx_names hm);rw[hm] at this;cases this
 ·exact .inr (by simpa using h)
theorem subs_mk_body (b:Bl) (ad:Option Addr) (cap:Nat):(Bl.mk ad cap b.body).subs=b.subs:=by
 rcases b with ⟨ad',cap',body⟩
 rw[Bl.subs_mk,Bl.subs_mk];rfl
theorem meth_no {args:Array Value} {W:World} (h:Calls Tryz.prog 43 args W fun r w'=>MethBack none W w' r):Calls Tryz.prog 43 args W fun r w'=>r=.returned (.tuple #[.agg #[.string ⟨#[]⟩,.slice none 0 0,.int .i64 0],.bool false])∧Below W.heap.size W w':=by
 refine h.mono ?_
 rintro r w' ⟨⟨_,h⟩|⟨m,ad,cap,h,_⟩,hb⟩
 ·exact⟨h,hb⟩
 ·cases h
theorem meth_yes {args:Array Value} {W:World} {f:Me} (h:Calls Tryz.prog 43 args W fun r w'=>MethBack (some f) W w' r):Calls Tryz.prog 43 args W fun r w'=>∃ ad cap,r=.returned (.tuple #[.agg #[.string f.name,.slice ad f.body.body.length cap,.int .i64 f.pos],.bool true])∧(Bl.mk ad cap f.body.body).Is w'.heap.size w'∧Below W.heap.size W w':=by
 refine h.mono ?_
 rintro r w' ⟨⟨h,_⟩|⟨m,ad,cap,h,h2,h3⟩,hb⟩
 ·cases h
 ·cases h;exact⟨ad,cap,h2,h3,hb⟩
theorem grown_below {W W':World} {row:Option Nat} (h:Below W.heap.size W W'):W.grownBy W' row:=⟨h.os,h.tape,h.output,h.size,fun k hk _=>h.block k hk⟩
def BookBack (p:Pr) (w w':World) (r:Ending):Prop:=∃ b,r=.returned (.map (some b))∧Book w' w'.heap.size b p∧Below w.heap.size w w'
set_option maxRecDepth 100000 in
set_option maxHeartbeats 8000000 in
theorem newBook_any (p:Pr) (n₀:Nat) (w:World) (hn:n₀≤w.heap.size) (hp:p.Is n₀ w) (hbs:∀ m∈p.mons,∀ f∈m.meths,f.body.subs.length≤1000000) (hbl:∀ m∈p.mons,∀ f∈m.meths,f.body.body.length≤1000000) :
  Calls Tryz.prog 21 #[p.val] w fun r w'=>BookBack p w w' r:=by
 have hmm:=@run_makeMap Tryz.prog
 have hq28:=fun (mon name:ByteArray) (W:World) (hW:Below w.heap.size w W)=>method_any p mon name n₀ W (by have:=hW.size;omega) (hp.below (hW.mono hn)) hbl
 have hmem:∀ (mon name:ByteArray) f,methIx p.mons mon name=some f→f.body.subs.length≤1000000:=fun mon name f h=>by
  obtain⟨m,hm,hf⟩:=methIx_mem h
  exact hbs m hm f hf
 obtain⟨P,hP⟩:∃ P:Pr,P=p:=⟨_,rfl⟩
 rcases p with ⟨mad,mcap,mons,rad,rcap,roles⟩
 obtain⟨⟨h3,h4⟩,-⟩:=hp
 simp only[Pr.val] at h3 h4 hq28 ⊢
 have hl1:=h3.1;have hl2:=h3.2.1
 unfold maxLen at hl2
 go_enter Tryz.func21,Tryz.ntmps21
 go_upto_region 2 with fail
 have hPm:P.mons=mons:=by rw[hP]
 have HPM:=hid hPm
 have h1b:=heapNew w (.cells #[.slice mad mons.length mcap,.slice rad roles.length rcap] 25)
 have bP:((w.alloc (.cells #[.slice mad mons.length mcap,.slice rad roles.length rcap] 25)).alloc (.map #[] 0)).heap[w.heap.size]?=some (.cells #[.slice mad mons.length mcap,.slice rad roles.length rcap] 25 (0,0)):=(Below.heap_alloc _ _ _ (by simp)).trans h1b
 have hM0:PBook ((w.alloc (.cells #[.slice mad mons.length mcap,.slice rad roles.length rcap] 25)).alloc (.map #[] 0)) (w.heap.size+1) P []:=by
  have:=KMap.new (w.alloc (.cells #[.slice mad mons.length mcap,.slice rad roles.length rcap] 25))
  rw[World.size_alloc] at this
  exact⟨[],this,fun r=>.inl ⟨rfl,fun h=>by cases h⟩⟩
 have hB0:Below w.heap.size w ((w.alloc (.cells #[.slice mad mons.length mcap,.slice rad roles.length rcap] 25)).alloc (.map #[] 0)):=((Below.refl _ w).al le_rfl' _).al le_rfl' _
 obtain⟨W0,hW0⟩:∃ W0,(w.alloc (.cells #[.slice mad mons.length mcap,.slice rad roles.length rcap] 25)).alloc (.map #[] 0)=W0:=⟨_,rfl⟩
 rw[hW0] at bP hM0 hB0 ⊢
 obtain⟨b,hb⟩:∃ b,w.heap.size+1=b:=⟨_,rfl⟩
 obtain⟨q,hqq⟩:∃ q,w.heap.size=q:=⟨_,rfl⟩
 have HQ:=hid hqq
 have HB:=hid hb
 rw[hb] at hM0 ⊢
 rw[hqq] at bP ⊢
 have HPL:=hid (Array.getElem?_eq_some_iff.1 bP).1
 have s0:=cellOf bP 0
 simp at s0
 clear hW0 h1b hmm hP hb hqq
 go_wp2
 clear s0
 go_loopw [14] (fun i wr=>∃ j:Nat,j≤mons.length∧i=.int .i64 j∧PBook wr b P (arefs (mons.take j))∧W0.grownBy wr (some b))
  (fun i _=>mons.length-(intOf i).toNat)
 case atStart=>exact⟨0,by omega,rfl,hM0,World.grownBy.refl _ _⟩
 case round =>
  obtain⟨j,hj,rfl,hMr,hgw⟩:=hrel
  have hz1:=hgw.size
  have hz0:=hB0.size
  have hbF:Below w.heap.size w wr:=hB0.grown hgw (by omega) (fun k e=>by cases e;have:=HB.out;omega)
  by_cases hlt:j<mons.length
  ·rcases h3.2.2 with h|⟨kb,koff,rfl,hbn,hrow⟩
   ·subst h;simp at hlt
   have HA:Hid (arefs (mons.take (j+1))=arefs (mons.take j)++mrefs mons[j]):=flatMap_snoc mrefs mons j hlt
   have hmj:=h4 _ (List.getElem_mem hlt)
   have hmm2:=hrow.below (hbF.mono hn) hbn
   rcases he':mons[j] with ⟨mname,vad,vcap,vars,fad,fcap,meths,mpos⟩
   have hc4:=row4 hmm2 j hlt (by rw[he'];rfl)
   rw[he'] at hmj HA
   simp only at hc4
   obtain⟨c0,c1,c2,c3⟩:=hc4
   have hkw:kb<wr.heap.size:=by omega
   obtain⟨⟨hml,-⟩,-,hfs,hfI⟩:=hmj
   simp only at hfs hfI hml
   have hf1:=hfs.1;have hf2:=hfs.2.1
   unfold maxLen at hf2
   clear he'
   go_upto_region 5 with fail
   obtain⟨bX,hBX,hzX⟩:=one_box wr #[.string mname,.slice vad vars.length vcap,.slice fad meths.length fcap,.int .i64 mpos] 52
   have hMx:=hMr.kept hBX
   have hgx:W0.grownBy (wr.alloc (.cells #[.string mname,.slice vad vars.length vcap,.slice fad meths.length fcap,.int .i64 mpos] 52)) (some b):=hgw.trans (World.grownBy_alloc _ _ _)
   obtain⟨Bm,hBm⟩:∃ Bm,wr.heap.size=Bm:=⟨_,rfl⟩
   obtain⟨W1,hW1⟩:∃ W1,wr.alloc (.cells #[.string mname,.slice vad vars.length vcap,.slice fad meths.length fcap,.int .i64 mpos] 52)=W1:=⟨_,rfl⟩
   rw[hW1] at bX hMx hgx ⊢
   rw[hBm] at bX ⊢
   have HNE:Hid (Bm≠b∧Bm<W1.heap.size∧q<W0.heap.size∧q≠b∧W0.heap.size≤W1.heap.size):=by
    have e1:=hMr.lt
    have e2:=(Array.getElem?_eq_some_iff.1 bX).1
    have e3:=hgx.size
    have e4:=HB.out
    have e5:=HQ.out
    have e6:=HPL.out
    exact⟨by omega,e2,e6,by omega,e3⟩
   have x2:=cellOf bX 2
   simp at x2
   clear hBX hzX hW1 hBm c0 c1 c2 c3 hMr hbF hmm2
   go_wp2
   clear x2
   go_loopw [21] (fun i wx=>∃ k:Nat,k≤meths.length∧i=.int .i64 k∧PBook wx b P (arefs (mons.take j)++(mrefs ⟨mname,vad,vcap,vars,fad,fcap,meths,mpos⟩).take k)∧W1.grownBy wx (some b))
    (fun i _=>meths.length-(intOf i).toNat)
   case atStart=>exact⟨0,by omega,rfl,(by simpa using hMx),World.grownBy.refl _ _⟩
   case round =>
    obtain⟨k,hk,rfl,hMi,hgi⟩:=hrel
    have hzi:=hgi.size
    have hgt:=hgx.trans hgi
    have hbF:Below w.heap.size w wr:=hB0.grown hgt (by omega) (fun k e=>by cases e;have:=HB.out;omega)
    have bPi:=(hgt.block q HNE.out.2.2.1 (fun e=>HNE.out.2.2.2.1 (by cases e;rfl))).trans bP
    have bXi:=(hgi.block Bm HNE.out.2.1 (fun e=>HNE.out.1 (by cases e;rfl))).trans bX
    by_cases hlk:k<meths.length
    ·rcases hfs.2.2 with h|⟨qb,qoff,rfl,hqn,hqrow⟩
     ·subst h;simp at hlk
     have HT:Hid (arefs (mons.take j)++(mrefs ⟨mname,vad,vcap,vars,some ⟨qb,qoff,none⟩,fcap,meths,mpos⟩).take (k+1)=(arefs (mons.take j)++(mrefs ⟨mname,vad,vcap,vars,some ⟨qb,qoff,none⟩,fcap,meths,mpos⟩).take k)++[(mname,meths[k].name)]):=by
      show _=_
      rw[List.append_assoc]
      congr 1
      simp only[mrefs]
      rw[List.take_succ_eq_append_getElem (by simpa using hlk),List.getElem_map]
     have hIf:=hfI _ (List.getElem_mem hlk)
     have hqrow2:=hqrow.below (hbF.mono hn) hqn
     rcases he':meths[k] with ⟨fname,⟨bad,bcap,bbody⟩,fpos⟩
     have hc3:=row3 hqrow2 k hlk (by rw[he'];rfl)
     rw[he'] at HT hIf
     simp only[Bl.slice] at hc3
     obtain⟨d0,d1,d2⟩:=hc3
     have hfl:=hIf.1
     simp only at hfl
     have hvl:VLen (mname,fname):=by unfold VLen maxLen;unfold Len at hml hfl;exact⟨by simp;omega,by simp;omega⟩
     have hqw:qb<wr.heap.size:=by have:=hbF.size;omega
     have hz0:=hB0.size
     obtain⟨bF,hBF,hzF⟩:=one_box wr #[.string fname,.slice bad bbody.length bcap,.int .i64 fpos] 56
     have hqc:=hq28 mname fname (wr.alloc (.cells #[.string fname,.slice bad bbody.length bcap,.int .i64 fpos] 56)) (hbF.al (by have:=hbF.size;omega) _)
     have p0:=(hBF.cell (p:=⟨q,0,none⟩) (by show q<_;exact (Array.getElem?_eq_some_iff.1 bPi).1)).trans (cellOf bPi 0)
     have p1:=(hBF.cell (p:=⟨q,1,none⟩) (by show q<_;exact (Array.getElem?_eq_some_iff.1 bPi).1)).trans (cellOf bPi 1)
     have m0:=(hBF.cell (p:=⟨Bm,0,none⟩) (by show Bm<_;exact (Array.getElem?_eq_some_iff.1 bXi).1)).trans (cellOf bXi 0)
     simp at p0 p1 m0
     have hMf:=hMi.kept hBF
     have hgf:W1.grownBy (wr.alloc (.cells #[.string fname,.slice bad bbody.length bcap,.int .i64 fpos] 56)) (some b):=hgi.trans (World.grownBy_alloc _ _ _)
     have bXf:=(hBF.block Bm (Array.getElem?_eq_some_iff.1 bXi).1).trans bXi
     clear he' hqrow2 hIf
     cases hmx:methIx mons mname fname with
     | none =>
      rw[hmx] at hqc
      have hqc:=meth_no hqc
      have HN:Hid (methIx P.mons mname fname=none):=by show _=_;rw[HPM.out];exact hmx
      clear hmx
      go_wp2_with (go_at_call 43;(with_reducible refine hqc.mono ?_);rintro r u1 ⟨rfl,bb⟩)
      go_roundw
      case rel=>exact⟨k+1,by omega,by go_num,by rw[HT.out];exact ((hMf.kept bb).kept ((Below.refl _ u1).al le_rfl' _)).none HN.out,(hgf.trans (grown_below bb)).trans (World.grownBy_alloc _ _ _)⟩
      case measure=>simp[intOf];omega
     | some mx =>
      rw[hmx] at hqc
      have hqc:=meth_yes hqc
      have HN:Hid (methIx P.mons mname fname=some mx):=by show _=_;rw[HPM.out];exact hmx
      have hsub:=hmem _ _ _ hmx
      clear hmx
      go_upto_region 10 with (go_at_call 43;(with_reducible refine hqc.mono ?_);rintro r u1 ⟨ad,cap,rfl,hI,bb⟩)
      obtain⟨Bf,hBf⟩:∃ Bf,wr.heap.size=Bf:=⟨_,rfl⟩
      obtain⟨W2,hW2⟩:∃ W2,wr.alloc (.cells #[.string fname,.slice bad bbody.length bcap,.int .i64 fpos] 56)=W2:=⟨_,rfl⟩
      rw[hW2] at hMf bF hgf bXf hzF
      rw[hBf] at bF
      have bb:Below W2.heap.size W2 u1:=by rw[← hW2];exact bb
      rw[hBf]
      obtain⟨bD,hBD,hzD⟩:=one_box u1 #[.string mx.name,.slice ad mx.body.body.length cap,.int .i64 mx.pos] 56
      have hM3:=(hMf.kept bb).kept hBD
      have hI3:=(hI.below hBD).mono hBD.size
      have hg3:=(hgf.trans (grown_below bb)).trans (grown_below hBD)
      have hz2:=bb.size
      have bX3:=(hBD.block Bm (by have:=(Array.getElem?_eq_some_iff.1 bXf).1;omega)).trans ((bb.block Bm (Array.getElem?_eq_some_iff.1 bXf).1).trans bXf)
      have bF3:=(hBD.block Bf (by have:=(Array.getElem?_eq_some_iff.1 bF).1;omega)).trans ((bb.block Bf (Array.getElem?_eq_some_iff.1 bF).1).trans bF)
      obtain⟨Bd,hBd⟩:∃ Bd,u1.heap.size=Bd:=⟨_,rfl⟩
      obtain⟨W3,hW3⟩:∃ W3,u1.alloc (.cells #[.string mx.name,.slice ad mx.body.body.length cap,.int .i64 mx.pos] 56)=W3:=⟨_,rfl⟩
      rw[hW3] at bD hM3 hI3 hg3 bX3 bF3 ⊢
      rw[hBd] at bD ⊢
      have hq12:=fun (W:World) (hW:Below W3.heap.size W3 W)=>calls_any (Bl.mk ad cap mx.body.body) W3.heap.size W hW.size (hI3.below hW) (by rw[subs_mk_body];exact hsub)
      rw[callsOf_mk] at hq12
      simp only[Bl.slice] at hq12
      have hbBf:Bf≠b:=by have:=hMi.lt;omega
      have hbBd:Bd≠b:=by have:=hMi.lt;omega
      have HK:Hid (∀ W,W3.grownBy W (some b)→W.cell? ⟨Bm,0,none⟩=some (.string mname)∧W.cell? ⟨Bf,0,none⟩=some (.string fname)∧W.cell? ⟨Bd,1,none⟩=some (.slice ad mx.body.body.length cap)):=by
       intro W hW
       refine⟨(hW.cell_far ⟨Bm,0,none⟩ (Array.getElem?_eq_some_iff.1 bX3).1 (fun e=>HNE.out.1 (by cases e;rfl))).trans ?_,(hW.cell_far ⟨Bf,0,none⟩ (Array.getElem?_eq_some_iff.1 bF3).1 (fun e=>hbBf (by cases e;rfl))).trans ?_,(hW.cell_far ⟨Bd,1,none⟩ (Array.getElem?_eq_some_iff.1 bD).1 (fun e=>hbBd (by cases e;rfl))).trans ?_⟩
       ·rw[cellOf bX3];simp
       ·rw[cellOf bF3];simp
       ·rw[cellOf bD];simp
      have B:Below W3.heap.size W3 W3.drew:=⟨rfl,rfl,rfl,Nat.le_refl _,fun _ _=>rfl⟩
      clear hW3 hBd hW2 hBf hzD hzF bX3 bF3 bD hBD bb hI hMf hgf bXf bF hqc p0 p1 m0 d0 d1 d2 bXi bPi hMi
      go_region_held3 (fun W=>W.cell? ⟨Bm,0,none⟩=some (.string mname)∧W.cell? ⟨Bf,0,none⟩=some (.string fname)∧W.cell? ⟨Bd,1,none⟩=some (.slice ad mx.body.body.length cap)) (first|exact HK.out _ (grown_below B)|exact HK.out _ ((grown_below B).trans hg5))
       ((go_at_call 16;(with_reducible refine (hq12 _ B).mono ?_);rintro r u ⟨v,rfl,hown,bb⟩;obtain⟨cad,ccap,rfl,hcs⟩:=slOwn rcells_len hown;have B:=B.trans (bb.mono B.size);obtain⟨W5,hput,hM5,hg5⟩:=PBook.put (hM3.kept B) hvl HN.out ((hI3.below B).mono B.size) hcs))
      go_wp2
      go_roundw
      case rel=>exact⟨k+1,by omega,by go_num,by rw[HT.out];exact hM5,(hg3.trans (grown_below B)).trans hg5⟩
      case measure=>simp[intOf];omega
    ·have hkd:decide ((k:Int)<(meths.length:Int))=false:=by simp;omega
     have hke:k=meths.length:=by omega
     have hL6:PBook wr b P (arefs (mons.take (j+1))):=by rw[HA.out];rw[hke,show meths.length=(mrefs ⟨mname,vad,vcap,vars,fad,fcap,meths,mpos⟩).length by simp[mrefs],List.take_length] at hMi;exact hMi
     clear hke hMi
     go_wp2
     go_roundw
     case rel=>exact⟨j+1,by omega,by go_num,hL6,hgt⟩
     case measure=>simp[intOf];omega
  ·have hjd:decide ((j:Int)<(mons.length:Int))=false:=by simp;omega
   have hje:j=mons.length:=by omega
   have hL6:PBook wr b P (arefs P.mons):=by rw[HPM.out];rw[hje,List.take_length] at hMr;exact hMr
   have HFin:Hid (Book wr wr.heap.size b ⟨mad,mcap,mons,rad,rcap,roles⟩):=by
    obtain⟨g1,L,g2,g3⟩:=hL6.full
    rw[HPM.out] at g3
    exact⟨g1,L,g2,g3⟩
   clear hje hMr hL6
   go_wp2
   go_ret
   exact⟨b,rfl,HFin.out,hbF⟩
open Go.RowKit
theorem wrapN (n:Nat) (h:n≤9223372036854775807):IntKind.i64.wrap (n:Int)=(n:Int):=by rw[IntKind.wrap_i64];omega
def zs (Z:List (Ref × Nat)):List (Ref × Value):=Z.map fun x=>(x.1,.int .i64 (x.2:Int))
theorem zs_fst (Z:List (Ref × Nat)):(zs Z).map Prod.fst=Z.map Prod.fst:=by
 induction Z with
 | nil=>rfl
 | cons x Z ih=>simp only[zs,List.map_cons] at ih ⊢;rw[ih]
theorem zs_snoc (Z:List (Ref × Nat)) (x:Ref × Nat):zs (Z++[x])=zs Z++[(x.1,.int .i64 (x.2:Int))]:=by simp[zs]
theorem zs_get (Z:List (Ref × Nat)) (r:Ref):(kget (zs Z) r).getD (.int .i64 0)=.int .i64 (szGet Z r:Int):=by
 induction Z with
 | nil=>rfl
 | cons x Z ih =>
  simp only[zs,kget,szGet,List.map_cons,List.find?_cons] at ih ⊢
  by_cases h:x.1=r
  ·simp[h]
  ·simpa[h] using ih
theorem szGet_le {Z:List (Ref × Nat)} {n:Nat} (h:∀ x∈Z,x.2≤n) (r:Ref):szGet Z r≤n:=by
 unfold szGet
 cases hf:Z.find? (fun x=>decide (x.1=r)) with
 | none=>simp
 | some x=>simpa using h x (List.mem_of_find?_eq_some hf)
def capS (Z:List (Ref × Nat)) (l:List Bl):Nat:=(l.map fun b=>min 401 (tot Z b)).sum
theorem capS_snoc (Z:List (Ref × Nat)) (l:List Bl) (k:Nat) (h:k<l.length):capS Z (l.take (k+1))=capS Z (l.take k)+min 401 (tot Z l[k]):=by
 rw[List.take_succ_eq_append_getElem h,capS,List.map_append,List.sum_append];simp[capS]
theorem capS_le (Z:List (Ref × Nat)) (l:List Bl):capS Z l≤sumOf Z (l.flatMap Bl.subs):=by
 induction l with
 | nil=>simp[capS]
 | cons b l ih =>
  rw[List.flatMap_cons,sumOf_append]
  simp only[capS,List.map_cons,List.sum_cons] at ih ⊢
  have:min 401 (tot Z b)≤sumOf Z b.subs:=Nat.min_le_right _ _
  omega
theorem capS_eq (Z:List (Ref × Nat)) (l:List Bl) (h:capS Z l≤400):capS Z l=sumOf Z (l.flatMap Bl.subs):=by
 induction l with
 | nil=>simp[capS,sumOf]
 | cons b l ih =>
  rw[List.flatMap_cons,sumOf_append]
  simp only[capS,List.map_cons,List.sum_cons] at ih h ⊢
  have h1:=ih (by omega)
  have h2:tot Z b=sumOf Z b.subs:=rfl
  omega
theorem capS_bound (Z:List (Ref × Nat)) (l:List Bl):capS Z l≤401*l.length:=by
 induction l with
 | nil=>simp[capS]
 | cons b l ih=>simp only[capS,List.map_cons,List.sum_cons,List.length_cons] at ih ⊢;omega
def SzBl (Z:List (Ref × Nat)) (x:Bl):Prop:=∀ (n₀ bZ:Nat) (w:World),n₀≤w.heap.size→x.Is n₀ w→KMap w bZ (zs Z)→(∀ s∈x.subs,s.blocks.length≤1000000) →
 Calls Tryz.prog 47 #[x.slice,.map (some bZ)] w fun r w'=>r=.returned (.int .i64 ((min 401 (tot Z x):Nat):Int))∧Below w.heap.size w w'
set_option maxRecDepth 100000 in
set_option maxHeartbeats 4000000 in
theorem size_step {Z:List (Ref × Nat)} (hZ:∀ x∈Z,x.2≤402) (ad:Option Addr) (cap:Nat) (body:List St) (ih:∀ s∈body,∀ x∈s.blocks,SzBl Z x):SzBl Z (.mk ad cap body):=by
 intro n₀ bZ w hn hI hM hbk
 have HT:=hid (show tot Z (.mk ad cap body)=sumOf Z (body.flatMap St.subs) by rw[tot,Bl.subs_mk])
 rw[Bl.subs_mk] at hbk
 have hIk:=hI.down.2
 have hsl:=hI.down.1
 have hl1:=hsl.1;have hl2:=hsl.2.1
 unfold maxLen at hl2
 simp only[Bl.slice]
 go_enter Tryz.func47,Tryz.ntmps47
 go_wp2
 go_loopw [5,12] (fun v i wr=>∃ j:Nat,j≤body.length∧i=.int .i64 j∧(v=.int .i64 ((sumOf Z ((body.take j).flatMap St.subs):Nat):Int)∧sumOf Z ((body.take j).flatMap St.subs)≤400)∧Below w.heap.size w wr)
  (fun v i _=>body.length-(intOf i).toNat)
 case atStart=>exact⟨0,by omega,rfl,⟨rfl,by simp[sumOf]⟩,Below.refl _ _⟩
 case round =>
  obtain⟨j,hj,rfl,⟨rfl,hsm⟩,hbw⟩:=hrel
  have hz1:=hbw.size
  have hb0:Below n₀ w wr:=hbw.mono hn
  by_cases hlt:j<body.length
  ·rcases hsl.2.2 with h|⟨kb,koff,rfl,hbn,hrow⟩
   ·subst h;simp at hlt
   have HB1:=hid (sumOf_body Z body j hlt)
   have HLE:=hid (sumOf_le Z body (j+1))
   have hIj:=hIk _ (List.getElem_mem hlt)
   have ihj:=ih _ (List.getElem_mem hlt)
   have hbkj:body[j].blocks.length≤1000000:=hbk _ (List.mem_flatMap.2 ⟨body[j],List.getElem_mem hlt,by rcases body[j] with ⟨a1,a2,a3,a4,a5,a6,a7,a8,a9⟩;rw[St.subs_mk];exact List.mem_cons_self⟩)
   have hbki:∀ x∈body[j].blocks,∀ s∈x.subs,s.blocks.length≤1000000:=fun x hx s hs=>hbk _ (List.mem_flatMap.2 ⟨body[j],List.getElem_mem hlt,by
    rcases hb':body[j] with ⟨a1,a2,a3,a4,a5,a6,a7,a8,a9⟩
    rw[hb'] at hx
    rw[St.subs_mk]
    exact List.mem_cons_of_mem _ (List.mem_flatMap.2 ⟨x,hx,hs⟩)⟩)
   have hvl:=vlen_ref hIj
   have hrj:=hrow.below hb0 hbn
   have hq:=fun W=>callee_any body[j] W
   obtain⟨A,hA⟩:∃ A,sumOf Z ((body.take j).flatMap St.subs)=A:=⟨_,rfl⟩
   rw[hA] at hsm HB1 ⊢
   rcases he':body[j] with ⟨kind',mon',name',n',⟨eop',emon',ename',en',ead',ecap',ekids',epos'⟩,ad',cap',blocks',pos'⟩
   obtain⟨c0,c1,c2,c3,c4,c5,c6,c7,c8,c9,c10,c11⟩:=row12 hrj j hlt (by rw[he'];rfl)
   rw[he'] at hIj ihj HB1 hvl hbkj hbki
   rw[sumOf_st] at HB1
   simp only[he',St.val,St.cells,Ex.cells,List.cons_append,List.nil_append,St.ref] at hq hvl
   have hsB:=hIj.down.2.2.1
   have hIB:=hIj.down.2.2.2
   have hbl1:=hsB.1;have hbl2:=hsB.2.1
   unfold maxLen at hbl2
   simp only[St.blocks] at ihj hbkj hbki
   have hkbw:kb<wr.heap.size:=by omega
   clear he' ih hA
   go_upto_region 5 with fail
   obtain⟨bX,hBX,hzX⟩:=one_box wr #[.int .i64 kind',.string mon',.string name',.int .i64 n',.int .i64 eop',.string emon',.string ename',.int .i64 en',.slice ead' ekids'.length ecap',.int .i64 epos',.slice ad' blocks'.length cap',.int .i64 pos'] 64
   have hM1:=(hM.below hbw hM.lt).al (.cells #[.int .i64 kind',.string mon',.string name',.int .i64 n',.int .i64 eop',.string emon',.string ename',.int .i64 en',.slice ead' ekids'.length ecap',.int .i64 epos',.slice ad' blocks'.length cap',.int .i64 pos'] 64)
   have hB1:Below w.heap.size w (wr.alloc (.cells #[.int .i64 kind',.string mon',.string name',.int .i64 n',.int .i64 eop',.string emon',.string ename',.int .i64 en',.slice ead' ekids'.length ecap',.int .i64 epos',.slice ad' blocks'.length cap',.int .i64 pos'] 64)):=hbw.trans (hBX.mono (by omega))
   obtain⟨Bs,hBs⟩:∃ Bs,wr.heap.size=Bs:=⟨_,rfl⟩
   obtain⟨W1,hW1⟩:∃ W1,wr.alloc (.cells #[.int .i64 kind',.string mon',.string name',.int .i64 n',.int .i64 eop',.string emon',.string ename',.int .i64 en',.slice ead' ekids'.length ecap',.int .i64 epos',.slice ad' blocks'.length cap',.int .i64 pos'] 64)=W1:=⟨_,rfl⟩
   rw[hW1] at bX hM1 hB1 ⊢
   rw[hBs] at bX ⊢
   have x0:=cellOf bX 0
   have x1:=cellOf bX 1
   have x2:=cellOf bX 2
   have x3:=cellOf bX 3
   have x4:=cellOf bX 4
   have x5:=cellOf bX 5
   have x6:=cellOf bX 6
   have x7:=cellOf bX 7
   have x8:=cellOf bX 8
   have x9:=cellOf bX 9
   have x10:=cellOf bX 10
   have x11:=cellOf bX 11
   simp at x0 x1 x2 x3 x4 x5 x6 x7 x8 x9 x10 x11
   have HBX:=hid bX
   clear c0 c1 c2 c3 c4 c5 c6 c7 c8 c9 c10 c11 bX hBX hzX hW1 hBs hrow hrj hI hIj hIk
   cases hkind:(kind'==8:Bool)
   ·have hso:sown Z (.mk kind' mon' name' n' (Ex.mk eop' emon' ename' en' ead' ecap' ekids' epos') ad' cap' blocks' pos')=1:=by
     rw[sown,if_neg];intro h;have:kind'=8:=h;rw[this] at hkind;simp at hkind
    rw[hso] at HB1
    have i1:(A:Int)+1≤802:=by omega
    go_wp2
    have BW:=hB1
    have HAA:Hid (∃ A1:Nat,A+1=A1):=⟨_,rfl⟩
    obtain⟨A1,hA1⟩:=HAA.out
    have hA1b:A1≤802:=by omega
    have HA1:Hid ((A:Int)+1=(A1:Int)):=by show _=_;omega
    have HB2:Hid (sumOf Z ((body.take (j+1)).flatMap St.subs)=A1+sumOf Z (blocks'.flatMap Bl.subs)):=by show _=_;have:=HB1.out;omega
    clear hA1 HAA HB1 hso i1
    go_loopw [5,30] (fun v i wx=>∃ m:Nat,m≤blocks'.length∧i=.int .i64 m∧v=.int .i64 ((A1+capS Z (blocks'.take m):Nat):Int)∧Below w.heap.size w wx)
     (fun _ i _=>blocks'.length-(intOf i).toNat)
    case atStart=>exact⟨0,by omega,rfl,by rw[HA1.out];simp[capS],BW⟩
    case round =>
     obtain⟨m,hm,rfl,rfl,hbm⟩:=hrel
     have hzm:=hbm.size
     have hbm0:=hbm.mono hn
     have hcb:=capS_bound Z (blocks'.take m)
     have hcl:(blocks'.take m).length≤blocks'.length:=by rw[List.length_take];omega
     by_cases hlm:m<blocks'.length
     ·rcases hsB.2.2 with h|⟨qb,qoff,rfl,hqn,hqrow⟩
      ·subst h;simp at hlm
      have HCS:=hid (capS_snoc Z blocks' m hlm)
      have hq5:=ihj _ (List.getElem_mem hlm) n₀ bZ wr (by omega) ((hIB _ (List.getElem_mem hlm)).below hbm0) (hM.below hbm hM.lt) (hbki _ (List.getElem_mem hlm))
      obtain⟨R,hR⟩:∃ R,A1+capS Z (blocks'.take m)=R:=⟨_,rfl⟩
      have HR:=hid hR
      rw[hR]
      obtain⟨Q2,hQ2⟩:∃ Q2,min 401 (tot Z blocks'[m])=Q2:=⟨_,rfl⟩
      have hQb:Q2≤401:=by omega
      rw[hQ2] at hq5 HCS
      have i5:0≤(R:Int)∧(R:Int)≤1000000000:=by omega
      have i6:0≤(Q2:Int)∧(Q2:Int)≤401:=by omega
      have i7:(R:Int)+(Q2:Int)≤1000000401:=by omega
      have hqw:qb<wr.heap.size:=by omega
      rcases hbk2:blocks'[m] with ⟨qad,qcap,qbody⟩
      have d0:=row1 (hqrow.below hbm0 hqn) m hlm (by rw[hbk2];rfl)
      simp only[hbk2,Bl.slice] at hq5 d0
      clear hbk2 hR hQ2 hcb hcl hQb
      go_wp2_with (go_at_call 47;(with_reducible refine hq5.mono ?_);rintro r w5 ⟨rfl,hb5⟩)
      go_roundw
      case rel=>exact⟨m+1,by omega,by go_num,by rw[HCS.out];congr 1;have:=HR.out;omega,hbm.tr (by omega) hb5⟩
      case measure=>simp[intOf];omega
     ·have hmd:decide ((m:Int)<(blocks'.length:Int))=false:=by simp;omega
      have hme:blocks'.take m=blocks':=List.take_of_length_le (by omega)
      rw[hme] at hcb ⊢
      have hc1:=capS_le Z blocks'
      have hc2:=capS_eq Z blocks'
      obtain⟨C,hC⟩:∃ C,capS Z blocks'=C:=⟨_,rfl⟩
      rw[hC] at hc1 hc2 hcb ⊢
      clear hC hme
      by_cases hbig:400<A1+C
      ·have hbi:(400:Int)<((A1+C:Nat):Int):=by omega
       have HF:Hid (min 401 (tot Z (.mk (some ⟨kb,koff,none⟩) cap body))=401):=by
        show _=_
        have h1:=HT.out;have h2:=HLE.out;have h3:=HB2.out
        omega
       obtain⟨R,hR⟩:∃ R,A1+C=R:=⟨_,rfl⟩
       rw[hR] at hbi ⊢
       clear hR hc1 hc2 hcb hcl hbig
       go_wp2
       go_ret
       exact⟨by rw[HF.out];rfl,hbm⟩
      ·have hbi:¬ (400:Int)<((A1+C:Nat):Int):=by omega
       have HF:Hid (sumOf Z ((body.take (j+1)).flatMap St.subs)=A1+C):=by
        show _=_
        have h3:=HB2.out
        have:=hc2 (by omega)
        omega
       have HF2:Hid (A1+C≤400):=by show _≤_;omega
       obtain⟨R,hR⟩:∃ R,A1+C=R:=⟨_,rfl⟩
       rw[hR] at hbi HF HF2 ⊢
       clear hR hc1 hc2 hcb hcl hbig
       go_wp2
       go_roundw
       case rel=>exact⟨j+1,by omega,by go_num,⟨by rw[HF.out],by rw[HF.out];exact HF2.out⟩,hbm⟩
       case measure=>simp[intOf];omega
   ·have hk8:kind'=8:=by simpa using hkind
    subst hk8
    have hso:sown Z (.mk 8 mon' name' n' (Ex.mk eop' emon' ename' en' ead' ecap' ekids' epos') ad' cap' blocks' pos')=szGet Z (mon',name'):=by
     simp only[sown,St.kind,St.ref,if_true]
    have hgl:=szGet_le hZ (mon',name')
    rw[hso] at HB1
    have hlk:=fun (W:World) (hW:Below W1.heap.size W1 W)=>look_km (hM1.below hW hM1.lt) Tryz.underlying81 (zero3' W) hvl
    simp only[zs_get] at hlk
    obtain⟨G,hG⟩:∃ G,szGet Z (mon',name')=G:=⟨_,rfl⟩
    rw[hG] at HB1 hgl
    simp only[hG] at hlk
    clear hG hso
    have i0:0≤(A:Int)∧(A:Int)≤400:=by omega
    have i1:0≤(G:Int)∧(G:Int)≤402:=by omega
    have i2:(A:Int)+(G:Int)≤802:=by omega
    go_wp2_with (go_at_call 36;(with_reducible refine (hq _).mono ?_);rintro r u1 ⟨rfl,bb1⟩;have hlk:=hlk _ bb1;have y10:=(bb1.cell (p:=⟨Bs,10,none⟩) (Array.getElem?_eq_some_iff.1 HBX.out).1).trans x10)
    have BW:=hB1.trans (bb1.mono hB1.size)
    have HAA:Hid (∃ A1:Nat,A+G=A1):=⟨_,rfl⟩
    obtain⟨A1,hA1⟩:=HAA.out
    have hA1b:A1≤802:=by omega
    have HA1:Hid ((A:Int)+(G:Int)=(A1:Int)):=by show _=_;omega
    have HB2:Hid (sumOf Z ((body.take (j+1)).flatMap St.subs)=A1+sumOf Z (blocks'.flatMap Bl.subs)):=by show _=_;have:=HB1.out;omega
    clear hA1 HAA HB1 hlk i0 i1 i2
    go_loopw [5,30] (fun v i wx=>∃ m:Nat,m≤blocks'.length∧i=.int .i64 m∧v=.int .i64 ((A1+capS Z (blocks'.take m):Nat):Int)∧Below w.heap.size w wx)
     (fun _ i _=>blocks'.length-(intOf i).toNat)
    case atStart=>exact⟨0,by omega,rfl,by rw[HA1.out];simp[capS],BW⟩
    case round =>
     obtain⟨m,hm,rfl,rfl,hbm⟩:=hrel
     have hzm:=hbm.size
     have hbm0:=hbm.mono hn
     have hcb:=capS_bound Z (blocks'.take m)
     have hcl:(blocks'.take m).length≤blocks'.length:=by rw[List.length_take];omega
     by_cases hlm:m<blocks'.length
     ·rcases hsB.2.2 with h|⟨qb,qoff,rfl,hqn,hqrow⟩
      ·subst h;simp at hlm
      have HCS:=hid (capS_snoc Z blocks' m hlm)
      have hq5:=ihj _ (List.getElem_mem hlm) n₀ bZ wr (by omega) ((hIB _ (List.getElem_mem hlm)).below hbm0) (hM.below hbm hM.lt) (hbki _ (List.getElem_mem hlm))
      obtain⟨R,hR⟩:∃ R,A1+capS Z (blocks'.take m)=R:=⟨_,rfl⟩
      have HR:=hid hR
      rw[hR]
      obtain⟨Q2,hQ2⟩:∃ Q2,min 401 (tot Z blocks'[m])=Q2:=⟨_,rfl⟩
      have hQb:Q2≤401:=by omega
      rw[hQ2] at hq5 HCS
      have i5:0≤(R:Int)∧(R:Int)≤1000000000:=by omega
      have i6:0≤(Q2:Int)∧(Q2:Int)≤401:=by omega
      have i7:(R:Int)+(Q2:Int)≤1000000401:=by omega
      have hqw:qb<wr.heap.size:=by omega
      rcases hbk2:blocks'[m] with ⟨qad,qcap,qbody⟩
      have d0:=row1 (hqrow.below hbm0 hqn) m hlm (by rw[hbk2];rfl)
      simp only[hbk2,Bl.slice] at hq5 d0
      clear hbk2 hR hQ2 hcb hcl hQb
      go_wp2_with (go_at_call 47;(with_reducible refine hq5.mono ?_);rintro r w5 ⟨rfl,hb5⟩)
      go_roundw
      case rel=>exact⟨m+1,by omega,by go_num,by rw[HCS.out];congr 1;have:=HR.out;omega,hbm.tr (by omega) hb5⟩
      case measure=>simp[intOf];omega
     ·have hmd:decide ((m:Int)<(blocks'.length:Int))=false:=by simp;omega
      have hme:blocks'.take m=blocks':=List.take_of_length_le (by omega)
      rw[hme] at hcb ⊢
      have hc1:=capS_le Z blocks'
      have hc2:=capS_eq Z blocks'
      obtain⟨C,hC⟩:∃ C,capS Z blocks'=C:=⟨_,rfl⟩
      rw[hC] at hc1 hc2 hcb ⊢
      clear hC hme
      by_cases hbig:400<A1+C
      ·have hbi:(400:Int)<((A1+C:Nat):Int):=by omega
       have HF:Hid (min 401 (tot Z (.mk (some ⟨kb,koff,none⟩) cap body))=401):=by
        show _=_
        have h1:=HT.out;have h2:=HLE.out;have h3:=HB2.out
        omega
       obtain⟨R,hR⟩:∃ R,A1+C=R:=⟨_,rfl⟩
       rw[hR] at hbi ⊢
       clear hR hc1 hc2 hcb hcl hbig
       go_wp2
       go_ret
       exact⟨by rw[HF.out];rfl,hbm⟩
      ·have hbi:¬ (400:Int)<((A1+C:Nat):Int):=by omega
       have HF:Hid (sumOf Z ((body.take (j+1)).flatMap St.subs)=A1+C):=by
        show _=_
        have h3:=HB2.out
        have:=hc2 (by omega)
        omega
       have HF2:Hid (A1+C≤400):=by show _≤_;omega
       obtain⟨R,hR⟩:∃ R,A1+C=R:=⟨_,rfl⟩
       rw[hR] at hbi HF HF2 ⊢
       clear hR hc1 hc2 hcb hcl hbig
       go_wp2
       go_roundw
       case rel=>exact⟨j+1,by omega,by go_num,⟨by rw[HF.out],by rw[HF.out];exact HF2.out⟩,hbm⟩
       case measure=>simp[intOf];omega
  ·have hjd:decide ((j:Int)<(body.length:Int))=false:=by simp;omega
   have HF:Hid (min 401 (tot Z (.mk ad cap body))=sumOf Z ((body.take j).flatMap St.subs)):=by
    show _=_
    have:body.take j=body:=List.take_of_length_le (by omega)
    rw[HT.out]
    rw[this] at hsm ⊢
    omega
   go_wp2
   go_ret
   exact⟨by rw[HF.out];rfl,hbw⟩
end Go.Proofs.YtpbjikncobnkjaaGreatDoor
