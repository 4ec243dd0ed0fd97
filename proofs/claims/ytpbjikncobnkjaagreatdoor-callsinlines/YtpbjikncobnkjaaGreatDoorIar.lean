/-
  Own texts joined by program: ClF ClG ClH ClI ClJ ClK.
-/
import Derived.Test.YtpbjikncobnkjaaGreatDoorIaq
namespace Go.Proofs.YtpbjikncobnkjaaGreatDoor
open Go.RowKit
theorem below_drewV {B:Nat} {w w':World} (h:Below B w w'):Below B w w'.drew:=⟨h.os,h.tape,h.output,h.size,h.block⟩
theorem Book.mono {W:World} {n m b:Nat} {p:Pr} (h:Book W n b p) (hm:n≤m):Book W m b p:=by
 obtain⟨h1,L,h2,h3⟩:=h
 refine⟨by omega,L,h2,fun r=>?_⟩
 rcases h3 r with h|⟨f,ad,cap,cad,ccap,e1,e2,e3,e4⟩
 ·exact .inl h
 ·exact .inr ⟨f,ad,cap,cad,ccap,e1,e2,e3.mono hm,e4.mono hm⟩
theorem size_any {Z:List (Ref × Nat)} (hZ:∀ x∈Z,x.2≤402) (x:Bl):SzBl Z x:=
 Bl.ind (P:=fun s=>∀ x∈s.blocks,SzBl Z x) (Q:=fun x=>SzBl Z x) (fun _ _ _ _ _ _ _ _ _ ih x hx=>ih x hx) (fun ad cap body ih=>size_step hZ ad cap body ih) x
theorem fld80b (ad cad:Option Addr) (l c k d:Nat) (W:World):(Instr.field 89 (.agg #[.slice ad l c,.slice cad k d]) 0).run Tryz.prog W=.ok (.slice ad l c) W:=by kernel_rfl
theorem sizesF_none {G:Ref→List Ref} {body:Ref→Bl} {R:List Ref} {Z:List (Ref × Nat)} (j:Nat) (hj:j<R.length) (x:Ref) (hx:x∈G R[j]) (h0:szGet Z x=0):sizesF G body (R.drop j) Z=none:=by
 rw[List.drop_eq_getElem_cons hj,sizesF,if_pos ⟨x,hx,h0⟩]
theorem sizesF_next {G:Ref→List Ref} {body:Ref→Bl} {R:List Ref} {Z:List (Ref × Nat)} (j:Nat) (hj:j<R.length) (h:∀ x∈G R[j],szGet Z x≠0):sizesF G body (R.drop j) Z=sizesF G body (R.drop (j+1)) (Z++[(R[j],1+min 401 (tot Z (body R[j])))]):=by
 rw[List.drop_eq_getElem_cons hj,sizesF,if_neg (fun ⟨x,hx,h0⟩=>h x hx h0)]
theorem tot_mk (Z:List (Ref × Nat)) (b:Bl) (ad:Option Addr) (cap:Nat):tot Z (.mk ad cap b.body)=tot Z b:=by rw[tot,tot,subs_mk_body]
theorem body_subs {p:Pr} {Q:St→Prop} (h:∀ m∈p.mons,∀ f∈m.meths,∀ s∈f.body.subs,Q s) (r:Ref):∀ s∈(bodyOf p r).subs,Q s:=by
 intro s hs
 rw[bodyOf] at hs
 split at hs
 ·rename_i f hf
  obtain⟨m,hm,hfm⟩:=methIx_mem hf
  exact h m hm f hfm s hs
 ·rw[Bl.subs_mk] at hs;simp at hs
def SizesBack (o:Option (List (Ref × Nat))) (w w':World) (r:Ending):Prop:=
 ((o=none∧r=.returned (.tuple #[.map none,.int .i64 80]))∨∃ Z bZ,o=some Z∧r=.returned (.tuple #[.map (some bZ),.int .i64 0])∧KMap w' bZ (zs Z)∧∀ x∈Z,x.2≤402)∧Below w.heap.size w w'
set_option maxRecDepth 100000 in
set_option maxHeartbeats 8000000 in
theorem sizes_any (p:Pr) (R:List Ref) (ad:Option Addr) (cap n₀ b:Nat) (w:World) (hn:n₀≤w.heap.size) (hBk:Book w n₀ b p) (hsl:SlAt 2 rcells n₀ w ad cap R) (hV:∀ r∈R++allRefs p,VLen r) (hnd:R.Nodup)
  (hbk:∀ m∈p.mons,∀ f∈m.meths,∀ s∈f.body.subs,s.blocks.length≤1000000) :
  Calls Tryz.prog 46 #[.map (some b),.slice ad R.length cap] w fun r w'=>SizesBack (sizesF (leadsOf p) (bodyOf p) R []) w w' r:=by
 have hmm:=@run_makeMap Tryz.prog
 have hl1:=hsl.1;have hl2:=hsl.2.1
 unfold maxLen at hl2
 have HO:Hid (∃ o,sizesF (leadsOf p) (bodyOf p) R []=o):=⟨_,rfl⟩
 obtain⟨o,ho⟩:=HO.out
 rw[ho]
 have HO:=hid ho
 clear ho
 go_enter Tryz.func46,Tryz.ntmps46
 go_upto_region 2 with fail
 have hM0:KMap (w.alloc (.map #[] 0)) w.heap.size (zs []):=KMap.new w
 have hB0:Below w.heap.size w (w.alloc (.map #[] 0)):=(Below.refl _ w).al le_rfl' _
 obtain⟨W0,hW0⟩:∃ W0,w.alloc (.map #[] 0)=W0:=⟨_,rfl⟩
 obtain⟨bZ,hbZ⟩:∃ bZ,w.heap.size=bZ:=⟨_,rfl⟩
 rw[hW0] at hM0 hB0 ⊢
 have HBZ:=hid hbZ
 rw[hbZ] at hM0 ⊢
 clear hW0 hbZ hmm
 go_wp2
 go_loopw [14] (fun i wr=>∃ (j:Nat) (Z:List (Ref × Nat)),j≤R.length∧i=.int .i64 j∧Hid (o=sizesF (leadsOf p) (bodyOf p) (R.drop j) Z)∧KMap wr bZ (zs Z)∧Z.map Prod.fst=R.take j∧(∀ x∈Z,x.2≤402)∧Below w.heap.size w wr)
  (fun i _=>R.length-(intOf i).toNat)
 case atStart=>exact⟨0,[],by omega,rfl,(by show _=_;rw[← HO.out];rfl),hM0,rfl,(fun x hx=>by cases hx),hB0⟩
 case round =>
  obtain⟨j,Z,hj,rfl,HQ,hMr,hZf,hZ,hbw⟩:=hrel
  have hz1:=hbw.size
  by_cases hlt:j<R.length
  ·rcases hsl.2.2 with h|⟨qb,qoff,rfl,hqn,hqrow⟩
   ·subst h;simp at hlt
   have hqrow2:=hqrow.below (hbw.mono hn) hqn
   have d0:=hqrow2 j hlt 0 (by omega)
   have d1:=hqrow2 j hlt 1 (by omega)
   have hqw:qb<wr.heap.size:=by omega
   have hvl:=hV _ (List.mem_append.2 (.inl (List.getElem_mem hlt)))
   have HN1:=hid (fun x hx h0=>sizesF_none (G:=leadsOf p) (body:=bodyOf p) (Z:=Z) j hlt x hx h0)
   have HN2:=hid (fun h=>sizesF_next (G:=leadsOf p) (body:=bodyOf p) (Z:=Z) j hlt h)
   have HNM:Hid (R[j] ∉ Z.map Prod.fst):=by
    show _ ∉ _
    rw[hZf]
    intro hm
    obtain⟨i,hi,he⟩:=List.getElem_of_mem hm
    rw[List.getElem_take] at he
    rw[List.length_take] at hi
    exact (List.pairwise_iff_getElem.1 hnd) i j (by omega) hlt (by omega) he
   have HTK:=hid (List.take_succ_eq_append_getElem hlt)
   have hlV:∀ x∈leadsOf p R[j],VLen x:=fun x hx=>hV x (List.mem_append.2 (.inr (leads_all p _ x hx)))
   have hbkr:=body_subs hbk R[j]
   simp only[rcells] at d0 d1
   simp at d0 d1
   obtain⟨r,hr⟩:∃ r,R[j]=r:=⟨_,rfl⟩
   rw[hr] at d0 d1 hvl HN1 HN2 HNM HTK hlV hbkr
   clear hr
   obtain⟨mon,name⟩:=r
   simp only at d0 d1
   go_upto_region 5 with fail
   obtain⟨bX,hBX,hzX⟩:=one_box wr #[.string mon,.string name] 70
   have hM1:=hMr.al (.cells #[.string mon,.string name] 70)
   have hB1:Below w.heap.size w (wr.alloc (.cells #[.string mon,.string name] 70)):=hbw.trans (hBX.mono (by omega))
   obtain⟨Bs,hBs⟩:∃ Bs,wr.heap.size=Bs:=⟨_,rfl⟩
   obtain⟨W1,hW1⟩:∃ W1,wr.alloc (.cells #[.string mon,.string name] 70)=W1:=⟨_,rfl⟩
   rw[hW1] at bX hM1 hB1 ⊢
   rw[hBs] at bX ⊢
   have HBS:Hid (bZ<Bs∧Bs<W1.heap.size):=⟨by have:=hMr.lt;omega,(Array.getElem?_eq_some_iff.1 bX).1⟩
   have y0:=cellOf bX 0
   have y1:=cellOf bX 1
   simp at y0 y1
   have hBk1:=hBk.below (hB1.mono hn)
   obtain⟨gad,gcap,cad,ccap,hlook,hgI,hcl⟩:=hBk1.look hvl
   simp only at hlook
   have hf80:=fld80
   have hf80b:=fld80b
   have hcl1:=hcl.1;have hcl2:=hcl.2.1
   unfold maxLen at hcl2
   obtain⟨gs,hgs⟩:∃ gs,leadsOf p (mon,name)=gs:=⟨_,rfl⟩
   rw[hgs] at hlook hcl hlV HN1 HN2 hcl1
   obtain⟨gb,hgb⟩:∃ gb,bodyOf p (mon,name)=gb:=⟨_,rfl⟩
   rw[hgb] at hlook hgI HN2 hbkr
   have HGB:=hid hgb
   clear hgs hgb d0 d1 hBX hzX hW1 hBs hMr
   go_wp2
   go_loopw [23] (fun i wx=>∃ k:Nat,k≤gs.length∧i=.int .i64 k∧Hid (∀ x∈gs.take k,szGet Z x≠0)∧Below W1.heap.size W1 wx)
    (fun i _=>gs.length-(intOf i).toNat)
   case atStart=>exact⟨0,by omega,rfl,(fun x hx=>by simp at hx),Below.refl _ _⟩
   case round =>
    obtain⟨k,hk,rfl,HZ0,hbx⟩:=hrel
    have hzx:=hbx.size
    have hbF:Below w.heap.size w wr:=hB1.trans (hbx.mono (by have:=hB1.size;omega))
    by_cases hlk:k<gs.length
    ·rcases hcl.2.2 with h|⟨tb,toff,rfl,htn,htrow⟩
     ·subst h;simp at hlk
     have htrow2:=htrow.below (hbx.mono (by have:=hB1.size;omega)) htn
     have d0:=htrow2 k hlk 0 (by omega)
     have d1:=htrow2 k hlk 1 (by omega)
     have htw:tb<wr.heap.size:=by have:=hB1.size;omega
     have hvx:=hlV _ (List.getElem_mem hlk)
     have HX1:=hid (HN1.out gs[k] (List.getElem_mem hlk))
     have HX2:Hid (szGet Z gs[k]≠0→∀ x∈gs.take (k+1),szGet Z x≠0):=by
      intro h x hx
      rw[List.take_succ_eq_append_getElem hlk] at hx
      rcases List.mem_append.1 hx with hx|hx
      ·exact HZ0.out x hx
      ·rw[List.mem_singleton.1 hx];exact h
     simp only[rcells] at d0 d1
     simp at d0 d1
     obtain⟨g1,hg1⟩:∃ g1,gs[k]=g1:=⟨_,rfl⟩
     rw[hg1] at d0 d1 hvx HX1 HX2
     clear hg1
     obtain⟨gm,gn⟩:=g1
     simp only at d0 d1
     have hMx:=((hM1.below hbx hM1.lt).al (.cells #[.string gm,.string gn] 70))
     have hlkx:=look_km hMx Tryz.underlying81 (zero3' _) hvx
     rw[zs_get] at hlkx
     simp only at hlkx
     obtain⟨G,hG⟩:∃ G,szGet Z (gm,gn)=G:=⟨_,rfl⟩
     rw[hG] at hlkx HX1 HX2
     clear hG hlook y0 y1
     rcases Nat.eq_zero_or_pos G with hG0|hG0
     ·have HE:Hid (o=none):=by show _=_;rw[HQ.out];exact HX1.out hG0
      subst hG0
      go_wp2
      go_ret2
      exact⟨.inl ⟨HE.out,rfl⟩,hbF.al (by have:=hbF.size;omega) _⟩
     ·have hGb:((G:Int)==0)=false:=by rw[beq_eq_false_iff_ne];omega
      have HX2:=hid (HX2.out (by omega))
      clear HX1
      go_wp2
      go_roundw
      case rel=>exact⟨k+1,by omega,by go_num,HX2,hbx.al le_rfl' _⟩
      case measure=>simp[intOf];omega
    ·have hkd:decide ((k:Int)<(gs.length:Int))=false:=by simp;omega
     have HE:=hid (HN2.out (by have:=HZ0.out;rwa [List.take_of_length_le (by omega)] at this))
     clear hlook hgI hcl hcl1 hcl2 HZ0 HN1 HN2 y0 y1
     have bXr:=(hbx.block Bs HBS.out.2).trans bX
     have hMw:=hM1.below hbx hM1.lt
     have hBkd:Book wr.drew n₀ b p:=hBk.below (below_drewV (hbF.mono hn))
     obtain⟨gad2,gcap2,cad2,ccap2,hlook,hgI,-⟩:=hBkd.look hvl
     simp only at hlook
     obtain⟨gl,hgl⟩:∃ gl,(leadsOf p (mon,name)).length=gl:=⟨_,rfl⟩
     rw[hgl] at hlook
     rw[HGB.out] at hlook hgI
     have hsz:=fun (W:World) (hW:Below wr.heap.size wr.drew W)=>size_any hZ (.mk gad2 gcap2 gb.body) n₀ bZ W (by have:=hW.size;have:=hbF.size;show n₀≤W.heap.size;simp at *;omega) (hgI.below (hW.mono (by have:=hbF.size;omega))) (hMw.below (W':=W) ⟨hW.os,hW.tape,hW.output,hW.size,hW.block⟩ hMw.lt) (by rw[subs_mk_body];exact hbkr)
     rw[tot_mk] at hsz
     simp only[Bl.slice] at hsz
     obtain⟨Q,hQ⟩:∃ Q,min 401 (tot Z gb)=Q:=⟨_,rfl⟩
     have hQb:Q≤401:=by omega
     rw[hQ] at hsz HE
     have i1:0≤(Q:Int)∧(Q:Int)≤401:=by omega
     have i2:1+(Q:Int)≤402:=by omega
     have HK:Hid (∀ W,wr.grownBy W (some bZ)→W.cell? ⟨Bs,0,none⟩=some (.string mon)∧W.cell? ⟨Bs,1,none⟩=some (.string name)):=by
      intro W hW
      have hl:=(Array.getElem?_eq_some_iff.1 bXr).1
      have hne:Bs≠bZ:=by have:=HBS.out.1;omega
      refine⟨(hW.cell_far ⟨Bs,0,none⟩ hl (fun e=>hne (by cases e;rfl))).trans ?_,(hW.cell_far ⟨Bs,1,none⟩ hl (fun e=>hne (by cases e;rfl))).trans ?_⟩
      ·rw[cellOf bXr];simp
      ·rw[cellOf bXr];simp
     have B:Below wr.heap.size wr wr.drew:=⟨rfl,rfl,rfl,Nat.le_refl _,fun _ _=>rfl⟩
     have B':Below wr.heap.size wr.drew wr.drew:=Below.refl _ _
     clear hQ hgl hgI hBkd bX bXr
     go_upto_region 11 with fail
     go_region_held3 (fun W=>W.cell? ⟨Bs,0,none⟩=some (.string mon)∧W.cell? ⟨Bs,1,none⟩=some (.string name)) (first|exact HK.out _ (grown_below B)|exact HK.out _ ((grown_below B).trans hg5))
      ((go_at_call 47;(with_reducible refine (hsz _ B').mono ?_);rintro r u ⟨rfl,bb⟩;have B:=B.trans (bb.mono B.size);have hput:=put_km (hMw.below B hMw.lt) Tryz.underlying81 hvl (.int .i64 (IntKind.i64.wrap (1+(Q:Int))));have hg5:=kmW_grown u bZ (kput (zs Z) (mon,name) (.int .i64 (IntKind.i64.wrap (1+(Q:Int)))))))
     have HPM:Hid (kput (zs Z) (mon,name) (.int .i64 (IntKind.i64.wrap (1+(Q:Int))))=zs (Z++[((mon,name),1+Q)])):=by
      show _=_
      rw[kput_new _ _ _ (by rw[zs_fst];exact HNM.out),zs_snoc]
      have:IntKind.i64.wrap (1+(Q:Int))=((1+Q:Nat):Int):=by rw[IntKind.wrap_i64];omega
      rw[this]
     have hM5:=(hMw.below B hMw.lt).put hvl (.int .i64 (IntKind.i64.wrap (1+(Q:Int))))
     rw[HPM.out] at hM5 hg5 ⊢
     have HB5:Hid (Below w.heap.size w (kmW u bZ (zs (Z++[((mon,name),1+Q)])))):=(hbF.trans (B.mono hbF.size)).grown hg5 (by have:=hbF.size;have:=B.size;omega) (fun k e=>by cases e;exact Nat.le_of_eq HBZ.out)
     have HE2:Hid (o=sizesF (leadsOf p) (bodyOf p) (R.drop (j+1)) (Z++[((mon,name),1+Q)])):=HQ.out.trans HE.out
     have HT2:Hid ((Z++[((mon,name),1+Q)]).map Prod.fst=R.take (j+1)):=by show _=_;rw[List.map_append,hZf,HTK.out];rfl
     have HZ2:Hid (∀ x∈Z++[((mon,name),1+Q)],x.2≤402):=by
      intro x hx
      rcases List.mem_append.1 hx with hx|hx
      ·exact hZ x hx
      ·rw[List.mem_singleton.1 hx];show 1+Q≤402;omega
     clear hput hg5 HPM
     go_wp2
     go_roundw
     case rel=>exact⟨j+1,_,by omega,by go_num,HE2,hM5,HT2.out,HZ2.out,HB5.out⟩
     case measure=>simp[intOf];omega
  ·have hjd:decide ((j:Int)<(R.length:Int))=false:=by simp;omega
   have HE:Hid (o=some Z):=by
    show _=_
    rw[HQ.out,List.drop_of_length_le (by omega)];rfl
   go_wp2
   go_ret2
   exact⟨.inr ⟨Z,bZ,HE.out,rfl,hMr,hZ⟩,hbw⟩
open Go.RowKit
def DInv (st:List Ref × List Ref):Prop:=st.2.Nodup∧∀ x∈st.2,x∈st.1
def DStep (st st':List Ref × List Ref):Prop:=DInv st'∧(∀ x∈st'.2,x∈st.2∨x ∉ st.1)∧(∀ x∈st.1,x∈st'.1)∧∀ x∈st.2,x∈st'.2
theorem DStep.refl {st:List Ref × List Ref} (h:DInv st):DStep st st:=⟨h,fun _ hx=>.inl hx,fun _ h=>h,fun _ h=>h⟩
theorem DStep.trans {a b c:List Ref × List Ref} (h:DStep a b) (g:DStep b c):DStep a c:=
 ⟨g.1,fun x hx=>by
  rcases g.2.1 x hx with h1|h1
  ·exact h.2.1 x h1
  ·exact .inr fun h2=>h1 (h.2.2.1 x h2),fun x hx=>g.2.2.1 x (h.2.2.1 x hx),fun x hx=>g.2.2.2 x (h.2.2.2 x hx)⟩
theorem fold_step {f:List Ref × List Ref→Ref→List Ref × List Ref} (hf:∀ st r,DInv st→DStep st (f st r)) (l:List Ref):∀ st,DInv st→DStep st (l.foldl f st):=by
 induction l with
 | nil=>intro st h;exact .refl h
 | cons x l ih=>intro st h;exact (hf st x h).trans (ih _ (hf st x h).1)
theorem dfs_step (G:Ref→List Ref) (n:Nat):∀ st r,DInv st→DStep st (dfs G n st r):=by
 induction n with
 | zero=>intro st r h;exact .refl h
 | succ n ih =>
  rintro⟨S,A⟩ r h
  by_cases hr:r∈S
  ·rw[dfs_seen hr];exact .refl h
  ·rw[dfs_new hr]
   have h0:DInv (S++[r],A):=⟨h.1,fun x hx=>List.mem_append.2 (.inl (h.2 x hx))⟩
   obtain⟨⟨g1,g2⟩,g3,g4,g5⟩:=fold_step ih (G r) (S++[r],A) h0
   have hn:r ∉ ((G r).foldl (dfs G n) (S++[r],A)).2:=fun hm=>by
    rcases g3 r hm with h1|h1
    ·exact hr (h.2 r h1)
    ·exact h1 (by simp)
   refine⟨⟨List.nodup_append.2 ⟨g1,by simp,fun a ha c hc=>by simp at hc;rintro rfl;exact hn (hc▸ha)⟩,fun x hx=>?_⟩,fun x hx=>?_,fun x hx=>g4 x (List.mem_append.2 (.inl hx)),fun x hx=>List.mem_append.2 (.inl (g5 x hx))⟩
   ·rcases List.mem_append.1 hx with hx|hx
    ·exact g2 x hx
    ·rw[List.mem_singleton.1 hx];exact g4 r (by simp)
   ·rcases List.mem_append.1 hx with hx|hx
    ·rcases g3 x hx with h1|h1
     ·exact .inl h1
     ·exact .inr fun h2=>h1 (List.mem_append.2 (.inl h2))
    ·rw[List.mem_singleton.1 hx];exact .inr hr
theorem reached_nodup (p:Pr) (l:List Ref):(reachedOf p l).Nodup:=
 (fold_step (dfs_step (leadsOf p) _) l ([],[]) ⟨List.nodup_nil,fun x hx=>by cases hx⟩).1.1
theorem dfs_sub {G:Ref→List Ref} {U:List Ref} (hU:∀ r∈U,∀ x∈G r,x∈U) (n:Nat):∀ (st:List Ref × List Ref) (r:Ref),r∈U→(∀ x∈st.2,x∈U)→∀ x∈(dfs G n st r).2,x∈U:=by
 induction n with
 | zero=>intro st r _ h;exact h
 | succ n ih =>
  rintro⟨S,A⟩ r hr h
  by_cases hm:r∈S
  ·rw[dfs_seen hm];exact h
  ·rw[dfs_new hm]
   have hf:∀ (l:List Ref),(∀ x∈l,x∈U)→∀ st:List Ref × List Ref,(∀ x∈st.2,x∈U)→∀ x∈(l.foldl (dfs G n) st).2,x∈U:=by
    intro l
    induction l with
    | nil=>intro _ st hs;exact hs
    | cons y l ihl=>intro hl st hs;exact ihl (fun z hz=>hl z (by simp[hz])) _ (ih st y (hl y (by simp)) hs)
   intro x hx
   rcases List.mem_append.1 hx with hx|hx
   ·exact hf (G r) (hU r hr) (S++[r],A) h x hx
   ·rw[List.mem_singleton.1 hx];exact hr
theorem fold_dfs_sub {G:Ref→List Ref} {U:List Ref} (hU:∀ r∈U,∀ x∈G r,x∈U) (n:Nat) (l:List Ref):(∀ x∈l,x∈U)→∀ st:List Ref × List Ref,(∀ x∈st.2,x∈U)→∀ x∈(l.foldl (dfs G n) st).2,x∈U:=by
 induction l with
 | nil=>intro _ st hs;exact hs
 | cons y l ihl=>intro hl st hs;exact ihl (fun z hz=>hl z (by simp[hz])) _ (dfs_sub hU n st y (hl y (by simp)) hs)
theorem reached_sub (p:Pr) (l:List Ref):∀ x∈reachedOf p l,x∈l++allRefs p:=
 fold_dfs_sub (closedU p l) _ l (fun x hx=>List.mem_append.2 (.inl hx)) ([],[]) (fun x hx=>by cases hx)
theorem reached_len (p:Pr) (l:List Ref):(reachedOf p l).length≤l.length+(allRefs p).length:=by
 have h:=fold_dfs_len (closedU p l) (l.length+(allRefs p).length) l (fun x hx=>List.mem_append.2 (.inl hx)) ([],[])
 have h2:left (l++allRefs p) []≤l.length+(allRefs p).length:=Nat.le_trans (List.length_filter_le _ _) (by simp)
 unfold reachedOf
 simp only[List.length_nil] at h
 omega
structure Fine (p:Pr):Prop where
 subs:∀ m∈p.mons,∀ f∈m.meths,f.body.subs.length≤1000000
 lens:∀ m∈p.mons,∀ f∈m.meths,f.body.body.length≤1000000
 blks:∀ m∈p.mons,∀ f∈m.meths,∀ s∈f.body.subs,s.blocks.length≤1000000
 refs:(allRefs p).length≤400000
 lds:∀ r,(leadsOf p r).length≤400000
structure FineB (x:Bl):Prop where
 subs:x.subs.length≤400000
 blks:∀ s∈x.subs,s.blocks.length≤1000000
theorem vlen_calls {x:Bl} {n₀:Nat} {w:World} (h:x.Is n₀ w):∀ r∈callsOf x,VLen r:=by
 intro r hr
 obtain⟨s,hs,_,rfl⟩:=(callsOf_mem x r).1 hr
 exact vlen_ref (h.subs s hs)
theorem vlen_all {p:Pr} {n₀:Nat} {w:World} (h:p.Is n₀ w):∀ r∈allRefs p,VLen r:=by
 intro r hr
 obtain⟨m,hm,hr⟩:=List.mem_flatMap.1 hr
 obtain⟨f,hf,hr⟩:=List.mem_flatMap.1 hr
 exact vlen_calls ((h.1.2 m hm).2.2.2 f hf).2.2 r hr
def cntRes (T:List (Ref × Nat)→Nat):Option (List (Ref × Nat))→Nat × Int
 | none=>(0,80)
 | some Z=>if 400<min 401 (T Z) then (0,81) else (min 401 (T Z),0)
theorem cntOf_eq (p:Pr) (x:Bl):cntOf p x=if ∃ r∈reachedOf p (callsOf x),methIx p.mons r.1 r.2=none then (0,61) else cntRes (fun Z=>tot Z x) (sizesF (leadsOf p) (bodyOf p) (reachedOf p (callsOf x)) []):=by
 rw[cntOf]
 cases sizesF (leadsOf p) (bodyOf p) (reachedOf p (callsOf x)) [] <;> rfl
def CntBack (q:Nat × Int) (w w':World) (r:Ending):Prop:=r=.returned (.tuple #[.int .i64 (q.1:Int),.int .i64 q.2])∧Below w.heap.size w w'
set_option maxRecDepth 100000 in
set_option maxHeartbeats 8000000 in
theorem count_any (p:Pr) (x:Bl) (n₀ b:Nat) (w:World) (hn:n₀≤w.heap.size) (hBk:Book w n₀ b p) (hI:x.Is n₀ w) (hV:∀ r∈allRefs p,VLen r) (hF:Fine p) (hX:FineB x) :
  Calls Tryz.prog 23 #[.map (some b),x.slice] w fun r w'=>CntBack (cntOf p x) w w' r:=by
 have hVx:=vlen_calls hI
 have hcl:(callsOf x).length≤400000:=by
  have h1:=callsA_len x.subs []
  have h2:=hX.subs
  simp only[List.length_nil] at h1
  unfold callsOf;omega
 have hV2:∀ r∈callsOf x++allRefs p,VLen r:=fun r hr=>by
  rcases List.mem_append.1 hr with h|h
  ·exact hVx r h
  ·exact hV r h
 have hq12:=calls_any x n₀ w hn hI (by have:=hX.subs;omega)
 have hRl:=reached_len p (callsOf x)
 have hRs:=reached_sub p (callsOf x)
 have hnd:=reached_nodup p (callsOf x)
 have hV3:∀ r∈reachedOf p (callsOf x)++allRefs p,VLen r:=fun r hr=>by
  rcases List.mem_append.1 hr with h|h
  ·exact hV2 r (hRs r h)
  ·exact hV r h
 have hra:=fun (ad:Option Addr) (cap:Nat) (W:World) (hW:Below w.heap.size w W) (hs:SlAt 2 rcells W.heap.size W ad cap (callsOf x))=>reached_any p (callsOf x) ad cap W.heap.size b W (Nat.le_refl _) (by have h:=hBk.below (hW.mono hn);exact h.mono (by have:=hW.size;omega)) hs hV2 (by have:=hF.refs;omega)
 have hsz:=fun (ad:Option Addr) (cap:Nat) (W:World) (hW:Below w.heap.size w W) (hs:SlAt 2 rcells W.heap.size W ad cap (reachedOf p (callsOf x)))=>sizes_any p (reachedOf p (callsOf x)) ad cap W.heap.size b W (Nat.le_refl _) (by have h:=hBk.below (hW.mono hn);exact h.mono (by have:=hW.size;omega)) hs hV3 hnd hF.blks
 have hsi:=fun (Z:List (Ref × Nat)) (hZ:∀ y∈Z,y.2≤402) (bZ:Nat) (W:World) (hW:Below w.heap.size w W) (hM:KMap W bZ (zs Z))=>size_any hZ x n₀ bZ W (by have:=hW.size;omega) (hI.below (hW.mono hn)) hM hX.blks
 obtain⟨R,hR⟩:∃ R,reachedOf p (callsOf x)=R:=⟨_,rfl⟩
 have HC:=hid (cntOf_eq p x)
 rw[hR] at HC
 rw[hR] at hra hsz hRl hV3
 obtain⟨C,hC⟩:∃ C,callsOf x=C:=⟨_,rfl⟩
 rw[hC] at hra hq12 hcl hRl
 obtain⟨T,hT⟩:∃ T:List (Ref × Nat)→Nat,(fun Z=>tot Z x)=T:=⟨_,rfl⟩
 have hTZ:∀ Z,tot Z x=T Z:=fun Z=>by rw[← hT]
 simp only[hTZ] at hsi
 rw[hT] at HC
 obtain⟨o,ho⟩:∃ o,sizesF (leadsOf p) (bodyOf p) R []=o:=⟨_,rfl⟩
 rw[ho] at hsz HC
 obtain⟨q,hq⟩:∃ q,cntOf p x=q:=⟨_,rfl⟩
 rw[hq] at HC ⊢
 clear hR hC hT hTZ ho hq hRs hnd hVx hV2
 rcases x with ⟨xad,xcap,xbody⟩
 simp only[Bl.slice] at hq12 hsi ⊢
 go_enter Tryz.func23,Tryz.ntmps23
 go_upto_region 2 with (first
  | (go_at_call 16;(with_reducible refine hq12.mono ?_);rintro r u1 ⟨v1,rfl,ho1,bb1⟩;obtain⟨ad1,cp1,rfl,hs1⟩:=slOwn rcells_len ho1)
  | (go_at_call 45;(with_reducible refine (hra _ _ _ bb1 hs1).mono ?_);rintro r u2 ⟨v2,rfl,ho2,bb2⟩;obtain⟨ad2,cp2,rfl,hs2⟩:=slOwn rcells_len ho2))
 have hB2:Below w.heap.size w u2:=bb1.tr le_rfl' bb2
 have hs21:=hs2.1;have hs22:=hs2.2.1
 unfold maxLen at hs22
 have hz2:=hB2.size
 go_wp2
 clear hra hq12 hs1 ho1 ho2 bb1 bb2
 go_loopw [20] (fun i wr=>∃ k:Nat,k≤R.length∧i=.int .i64 k∧Hid (∀ r∈R.take k,methIx p.mons r.1 r.2≠none)∧Below u2.heap.size u2 wr)
  (fun i _=>R.length-(intOf i).toNat)
 case atStart=>exact⟨0,by omega,rfl,(fun x hx=>by simp at hx),Below.refl _ _⟩
 case round =>
  obtain⟨k,hk,rfl,HK0,hbx⟩:=hrel
  have hzx:=hbx.size
  have hbF:Below w.heap.size w wr:=hB2.tr le_rfl' hbx
  by_cases hlk:k<R.length
  ·rcases hs2.2.2 with h|⟨tb,toff,rfl,htn,htrow⟩
   ·subst h;simp at hlk
   have htrow2:=htrow.below hbx htn
   have d0:=htrow2 k hlk 0 (by omega)
   have d1:=htrow2 k hlk 1 (by omega)
   have htw:tb<wr.heap.size:=by omega
   have hvx:=hV3 _ (List.mem_append.2 (.inl (List.getElem_mem hlk)))
   have HX1:Hid (methIx p.mons R[k].1 R[k].2=none→∃ r∈R,methIx p.mons r.1 r.2=none):=fun h=>⟨R[k],List.getElem_mem hlk,h⟩
   have HX2:Hid (methIx p.mons R[k].1 R[k].2≠none→∀ x∈R.take (k+1),methIx p.mons x.1 x.2≠none):=by
    intro h x hx
    rw[List.take_succ_eq_append_getElem hlk] at hx
    rcases List.mem_append.1 hx with hx|hx
    ·exact HK0.out x hx
    ·rw[List.mem_singleton.1 hx];exact h
   simp only[rcells] at d0 d1
   simp at d0 d1
   obtain⟨g1,hg1⟩:∃ g1,R[k]=g1:=⟨_,rfl⟩
   rw[hg1] at d0 d1 hvx HX1 HX2
   clear hg1
   obtain⟨gm,gn⟩:=g1
   simp only at d0 d1 HX1 HX2
   have hBka:=hBk.below ((hbF.mono hn).al (by omega) (.cells #[.string gm,.string gn] 70))
   obtain⟨gad,gcap,cad,ccap,hlook⟩:=hBka.look2 hvx
   simp only at hlook
   obtain⟨gl,hgl⟩:∃ gl,(leadsOf p (gm,gn)).length=gl:=⟨_,rfl⟩
   obtain⟨gb,hgb⟩:∃ gb,(bodyOf p (gm,gn)).body.length=gb:=⟨_,rfl⟩
   rw[hgl,hgb] at hlook
   clear hgl hgb hBka
   cases hmx:methIx p.mons gm gn with
   | none =>
    rw[hmx] at hlook HX1
    have HE:Hid (q=(0,61)):=by show _=_;rw[HC.out,if_pos (HX1.out rfl)]
    simp only[Option.isSome_none] at hlook
    clear HX1 HX2 hmx
    go_wp2
    go_ret2
    exact⟨by rw[HE.out];rfl,(hbF.al (by omega) _).al (by simp <;> omega) _⟩
   | some f =>
    rw[hmx] at hlook HX2
    have HX2:=hid (HX2.out (by simp))
    simp only[Option.isSome_some] at hlook
    clear HX1 hmx
    go_wp2
    go_roundw
    case rel=>exact⟨k+1,by omega,by go_num,HX2,(hbx.al le_rfl' _).al (by simp <;> omega) _⟩
    case measure=>simp[intOf];omega
  ·have hkd:decide ((k:Int)<(R.length:Int))=false:=by simp;omega
   have HC2:Hid (q=cntRes T o):=by
    show _=_
    rw[HC.out,if_neg]
    rintro⟨r,hr,h⟩
    exact HK0.out r (by rw[List.take_of_length_le (by omega)];exact hr) h
   have hszc:=hsz ad2 cp2 wr hbF ((hs2.below hbx).mono hbx.size)
   clear HC hsz HK0
   rcases o with _|Z
   ·have HE:Hid (q=(0,80)):=HC2.out
    have hszc:Calls Tryz.prog 46 #[.map (some b),.slice ad2 R.length cp2] wr fun r w'=>r=.returned (.tuple #[.map none,.int .i64 80])∧Below wr.heap.size wr w':=by
     refine hszc.mono ?_
     rintro r w' ⟨⟨_,h⟩|⟨Z,bZ,h,_⟩,hb⟩
     ·exact⟨h,hb⟩
     ·cases h
    clear HC2
    go_wp2_with (go_at_call 46;(with_reducible refine hszc.mono ?_);rintro r u5 ⟨rfl,bb5⟩)
    go_ret2
    exact⟨by rw[HE.out];rfl,hbF.tr le_rfl' bb5⟩
   ·have hszc:Calls Tryz.prog 46 #[.map (some b),.slice ad2 R.length cp2] wr fun r w'=>∃ bZ,r=.returned (.tuple #[.map (some bZ),.int .i64 0])∧(KMap w' bZ (zs Z)∧∀ y∈Z,y.2≤402)∧Below wr.heap.size wr w':=by
     refine hszc.mono ?_
     rintro r w' ⟨⟨h,_⟩|⟨Z',bZ,h,h2,h3,h4⟩,hb⟩
     ·cases h
     ·cases h;exact⟨bZ,h2,⟨h3,h4⟩,hb⟩
    have HC3:Hid (q=(if 400<min 401 (T Z) then (0,81) else (min 401 (T Z),0):Nat × Int)):=HC2.out
    have hsi:=fun (hZ:∀ y∈Z,y.2≤402)=>hsi Z hZ
    obtain⟨t,ht⟩:∃ t,min 401 (T Z)=t:=⟨_,rfl⟩
    have htb:t≤401:=by omega
    rw[ht] at HC3
    simp only[ht] at hsi
    clear HC2 ht
    by_cases hbig:400<t
    ·have hbi:(400:Int)<(t:Int):=by omega
     have HE:Hid (q=(0,81)):=by show _=_;rw[HC3.out,if_pos hbig]
     clear HC3
     go_wp2_with (first
      | (go_at_call 46;(with_reducible refine hszc.mono ?_);rintro r u5 ⟨bZ,rfl,⟨hM5,hZ5⟩,bb5⟩)
      | (go_at_call 47;(with_reducible refine (hsi hZ5 bZ _ (hbF.tr le_rfl' bb5) hM5).mono ?_);rintro r u6 ⟨rfl,bb6⟩))
     go_ret2
     exact⟨by rw[HE.out];rfl,(hbF.tr le_rfl' bb5).tr le_rfl' bb6⟩
    ·have hbi:¬ (400:Int)<(t:Int):=by omega
     have HE:Hid (q=(t,0)):=by show _=_;rw[HC3.out,if_neg hbig]
     clear HC3
     go_wp2_with (first
      | (go_at_call 46;(with_reducible refine hszc.mono ?_);rintro r u5 ⟨bZ,rfl,⟨hM5,hZ5⟩,bb5⟩)
      | (go_at_call 47;(with_reducible refine (hsi hZ5 bZ _ (hbF.tr le_rfl' bb5) hM5).mono ?_);rintro r u6 ⟨rfl,bb6⟩))
     go_ret2
     exact⟨by rw[HE.out];rfl,(hbF.tr le_rfl' bb5).tr le_rfl' bb6⟩
open Go.RowKit
def Bl.okB (x:Bl):Bool:=x.subs.all St.ok1
def roleP (g:Nat) (x:Bl):Pr:=⟨none,0,[],some ⟨g,0,none⟩,1,[⟨⟨#[114]⟩,false,0,x,0⟩]⟩
theorem nameR:Lx.name ⟨#[114]⟩=true:=by kernel_rfl
theorem roleP_ok (g:Nat) (x:Bl):(roleP g x).ok=x.okB:=by
 have h1:(roleP g x).stmts=x.subs:=by simp[roleP,Pr.stmts]
 have h2:(roleP g x).decl=true:=by simp[roleP,Pr.decl,Ro.ok,nameR,fitsNum]
 rw[Pr.ok,h1,h2];rfl
theorem roleP_is {W:World} {g n:Nat} {x:Bl} (hg:W.heap[g]?=some (.cells #[.string ⟨#[114]⟩,.bool false,.int .i64 0,x.slice,.int .i64 0] 58 (0,0))) (hn:g<n) (hx:x.Is n W):(roleP g x).Is n W:=by
 refine⟨⟨⟨by simp[roleP],by unfold maxLen;simp[roleP],.inl rfl⟩,fun m hm=>by simp[roleP] at hm⟩,⟨by simp[roleP],by unfold maxLen;simp[roleP],.inr ⟨g,0,rfl,hn,fun j hj i hi=>?_⟩⟩,fun r hr=>?_⟩
 ·have hj2:j=0:=by simp[roleP] at hj;omega
  subst hj2
  rw[Nat.zero_add,cellOf hg]
  rcases i with _|_|_|_|_|i <;> first|rfl|omega
 ·simp only[roleP,List.mem_cons,List.not_mem_nil,or_false] at hr
  subst hr
  exact⟨by show (ByteArray.mk #[114]).size≤140737488351232;decide,⟨by show (-9223372036854775808:Int)≤0;decide,by show (0:Int)≤9223372036854775807;decide⟩,⟨by show (-9223372036854775808:Int)≤0;decide,by show (0:Int)≤9223372036854775807;decide⟩,hx⟩
set_option maxRecDepth 100000 in
set_option maxHeartbeats 8000000 in
theorem isShaped_any (p:Pr) (x:Bl) (n₀:Nat) (w:World) (hn:n₀≤w.heap.size) (hp:p.Is n₀ w) (hx:x.Is n₀ w) (hS:Shapes w) (hS3:3≤w.heap.size) :
  Calls Tryz.prog 27 #[p.val,x.slice] w fun r w'=>r=.returned (.bool (p.ok&&x.okB))∧Below w.heap.size w w':=by
 have hc1:=fun (W:World) (hW:Below w.heap.size w W)=>check_any p n₀ W (by have:=hW.size;omega) (hp.below (hW.mono hn)) (hS.below hW hS3)
 have hc2:=fun (g:Nat) (W:World) (hW:Below w.heap.size w W) (hg:W.heap[g]?=some (.cells #[.string ⟨#[114]⟩,.bool false,.int .i64 0,x.slice,.int .i64 0] 58 (0,0)))=>check_any (roleP g x) W.heap.size W (Nat.le_refl _) (roleP_is hg (Array.getElem?_eq_some_iff.1 hg).1 ((hx.below (hW.mono hn)).mono (by have:=hW.size;omega))) (hS.below hW hS3)
 simp only[roleP_ok] at hc2
 simp only[roleP,Pr.val,List.length_nil,List.length_cons,Nat.zero_add] at hc2
 obtain⟨ok1,hok1⟩:∃ ok1,p.ok=ok1:=⟨_,rfl⟩
 obtain⟨ok2,hok2⟩:∃ ok2,x.okB=ok2:=⟨_,rfl⟩
 simp only[hok1] at hc1 ⊢
 simp only[hok2] at hc2 ⊢
 clear hok1 hok2
 rcases p with ⟨mad,mcap,mons,rad,rcap,roles⟩
 rcases x with ⟨ad,cap,body⟩
 simp only[Pr.val,Bl.slice] at hc1 hc2 ⊢
 cases ok1
 ·simp only[Bool.false_eq_true,if_false] at hc1
  go_enter Tryz.func27,Tryz.ntmps27
  go_upto_region 2 with fail
  have hB:Below w.heap.size w ((w.alloc (.cells #[.slice mad mons.length mcap,.slice rad roles.length rcap] 25)).alloc (.cells #[.string ⟨#[114]⟩,.bool false,.int .i64 0,.slice ad body.length cap,.int .i64 0] 58)):=((Below.refl _ w).al le_rfl' _).al le_rfl' _
  go_wp2_with (go_at_call 51;(with_reducible refine (hc1 _ hB).mono ?_);rintro r u1 ⟨rfl,bb1⟩)
  go_ret
  exact⟨rfl,hB.tr le_rfl' bb1⟩
 ·simp only[if_true] at hc1
  go_enter Tryz.func27,Tryz.ntmps27
  go_upto_region 2 with fail
  have hB:Below w.heap.size w ((w.alloc (.cells #[.slice mad mons.length mcap,.slice rad roles.length rcap] 25)).alloc (.cells #[.string ⟨#[114]⟩,.bool false,.int .i64 0,.slice ad body.length cap,.int .i64 0] 58)):=((Below.refl _ w).al le_rfl' _).al le_rfl' _
  obtain⟨b1,b2,-,hz⟩:=two_box w #[.slice mad mons.length mcap,.slice rad roles.length rcap] #[.string ⟨#[114]⟩,.bool false,.int .i64 0,.slice ad body.length cap,.int .i64 0] 25 58
  obtain⟨W0,hW0⟩:∃ W0,(w.alloc (.cells #[.slice mad mons.length mcap,.slice rad roles.length rcap] 25)).alloc (.cells #[.string ⟨#[114]⟩,.bool false,.int .i64 0,.slice ad body.length cap,.int .i64 0] 58)=W0:=⟨_,rfl⟩
  rw[hW0] at hB b1 b2 hz ⊢
  have HZ:=hid hz
  clear hW0 hz
  have p0:=cellOf b1 0
  have p1:=cellOf b1 1
  have q0:=cellOf b2 0
  have q1:=cellOf b2 1
  have q2:=cellOf b2 2
  have q3:=cellOf b2 3
  have q4:=cellOf b2 4
  simp at p0 p1 q0 q1 q2 q3 q4
  cases ok2
  ·simp only[Bool.false_eq_true,if_false] at hc2
   go_wp2_with (first
    | (have B1:=B1;go_at_call 51;(with_reducible refine (hc2 _ _ (hB.tr le_rfl' (bb1.al le_rfl' _)) (heapNew u1 _)).mono ?_);rintro r u2 ⟨rfl,bb2⟩)
    | (go_at_call 51;(with_reducible refine (hc1 _ hB).mono ?_);rintro r u1 ⟨rfl,bb1⟩;have B1:=hid (bb1.size);have k0:=(bb1.cell (p:=⟨w.heap.size+1,0,none⟩) (by have:=HZ.out;show w.heap.size+1<_;omega)).trans q0;have k1:=(bb1.cell (p:=⟨w.heap.size+1,1,none⟩) (by have:=HZ.out;show w.heap.size+1<_;omega)).trans q1;have k2:=(bb1.cell (p:=⟨w.heap.size+1,2,none⟩) (by have:=HZ.out;show w.heap.size+1<_;omega)).trans q2;have k3:=(bb1.cell (p:=⟨w.heap.size+1,3,none⟩) (by have:=HZ.out;show w.heap.size+1<_;omega)).trans q3;have k4:=(bb1.cell (p:=⟨w.heap.size+1,4,none⟩) (by have:=HZ.out;show w.heap.size+1<_;omega)).trans q4))
   go_ret
   exact⟨rfl,(hB.tr le_rfl' (bb1.al le_rfl' _)).tr le_rfl' bb2⟩
  ·simp only[if_true] at hc2
   go_wp2_with (first
    | (have B1:=B1;go_at_call 51;(with_reducible refine (hc2 _ _ (hB.tr le_rfl' (bb1.al le_rfl' _)) (heapNew u1 _)).mono ?_);rintro r u2 ⟨rfl,bb2⟩)
    | (go_at_call 51;(with_reducible refine (hc1 _ hB).mono ?_);rintro r u1 ⟨rfl,bb1⟩;have B1:=hid (bb1.size);have k0:=(bb1.cell (p:=⟨w.heap.size+1,0,none⟩) (by have:=HZ.out;show w.heap.size+1<_;omega)).trans q0;have k1:=(bb1.cell (p:=⟨w.heap.size+1,1,none⟩) (by have:=HZ.out;show w.heap.size+1<_;omega)).trans q1;have k2:=(bb1.cell (p:=⟨w.heap.size+1,2,none⟩) (by have:=HZ.out;show w.heap.size+1<_;omega)).trans q2;have k3:=(bb1.cell (p:=⟨w.heap.size+1,3,none⟩) (by have:=HZ.out;show w.heap.size+1<_;omega)).trans q3;have k4:=(bb1.cell (p:=⟨w.heap.size+1,4,none⟩) (by have:=HZ.out;show w.heap.size+1<_;omega)).trans q4))
   go_ret
   exact⟨rfl,(hB.tr le_rfl' (bb1.al le_rfl' _)).tr le_rfl' bb2⟩
structure Fine0 (p:Pr):Prop where
 subs:∀ m∈p.mons,∀ f∈m.meths,f.body.subs.length≤1000000
 lens:∀ m∈p.mons,∀ f∈m.meths,f.body.body.length≤1000000
 refs:(allRefs p).length≤400000
 lds:∀ r,(leadsOf p r).length≤400000
theorem ok_blocks {s:St} (h:s.ok1=true):s.blocks.length≤8:=by
 rcases s with ⟨kind,mon,name,n,e,ad,cap,blocks,pos⟩
 simp only[St.ok1,Bool.and_eq_true,decide_eq_true_eq] at h
 have h1:=h.2.2
 have h2:stMost kind.toNat≤8:=by unfold stMost;(repeat' split) <;> omega
 exact Nat.le_trans h1 h2
theorem okB_blocks {x:Bl} (h:x.okB=true):∀ s∈x.subs,s.blocks.length≤1000000:=fun s hs=>by
 have:=ok_blocks (List.all_eq_true.1 h s hs);omega
theorem ok_meth {p:Pr} (h:p.ok=true):∀ m∈p.mons,∀ f∈m.meths,f.body.okB=true:=by
 intro m hm f hf
 simp only[Pr.ok,Bool.and_eq_true] at h
 refine List.all_eq_true.2 fun s hs=>List.all_eq_true.1 h.2 s ?_
 exact List.mem_append.2 (.inl (List.mem_flatMap.2 ⟨m,hm,List.mem_flatMap.2 ⟨f,hf,hs⟩⟩))
theorem Fine0.fine {p:Pr} (h:Fine0 p) (hok:p.ok=true):Fine p:=⟨h.subs,h.lens,fun m hm f hf=>okB_blocks (ok_meth hok m hm f hf),h.refs,h.lds⟩
theorem Fine.zero {p:Pr} (h:Fine p):Fine0 p:=⟨h.subs,h.lens,h.refs,h.lds⟩
def countOf (p:Pr) (x:Bl):Nat × Int:=if (p.ok&&x.okB)=true then cntOf p x else (0,20)
set_option maxRecDepth 100000 in
set_option maxHeartbeats 8000000 in
theorem Count_any (p:Pr) (x:Bl) (n₀:Nat) (w:World) (hn:n₀≤w.heap.size) (hp:p.Is n₀ w) (hx:x.Is n₀ w) (hS:Shapes w) (hS3:3≤w.heap.size) (hF:Fine0 p) (hX:x.subs.length≤400000) :
  Calls Tryz.prog 11 #[p.val,x.slice] w fun r w'=>CntBack (countOf p x) w w' r:=by
 have hc1:=fun (W:World) (hW:Below w.heap.size w W)=>isShaped_any p x n₀ W (by have:=hW.size;omega) (hp.below (hW.mono hn)) (hx.below (hW.mono hn)) (hS.below hW hS3) (by have:=hW.size;omega)
 have hc2:=fun (W:World) (hW:Below w.heap.size w W)=>newBook_any p n₀ W (by have:=hW.size;omega) (hp.below (hW.mono hn)) hF.subs hF.lens
 have hc3:=fun (hk:(p.ok&&x.okB)=true) (b:Nat) (W:World) (hW:Below w.heap.size w W) (hB:Book W W.heap.size b p)=>count_any p x W.heap.size b W (Nat.le_refl _) hB ((hx.below (hW.mono hn)).mono (by have:=hW.size;omega)) (vlen_all hp) (hF.fine (Bool.and_eq_true_iff.1 hk).1) ⟨hX,okB_blocks (Bool.and_eq_true_iff.1 hk).2⟩
 have HC:=hid (show countOf p x=if (p.ok&&x.okB)=true then cntOf p x else (0,20) from rfl)
 obtain⟨q,hq⟩:∃ q,cntOf p x=q:=⟨_,rfl⟩
 obtain⟨k,hk⟩:∃ k,(p.ok&&x.okB)=k:=⟨_,rfl⟩
 obtain⟨c,hc⟩:∃ c,countOf p x=c:=⟨_,rfl⟩
 rw[hq,hk,hc] at HC
 rw[hc]
 simp only[hq] at hc3
 rw[hk] at hc3
 simp only[hk] at hc1
 clear hq hk hc
 rcases p with ⟨mad,mcap,mons,rad,rcap,roles⟩
 rcases x with ⟨ad,cap,body⟩
 simp only[Pr.val,Bl.slice] at hc1 hc2 hc3 ⊢
 have hB:=(Below.refl w.heap.size w).al le_rfl' (.cells #[.slice mad mons.length mcap,.slice rad roles.length rcap] 25)
 have b1:=heapNew w (.cells #[.slice mad mons.length mcap,.slice rad roles.length rcap] 25)
 cases k
 ·simp only[Bool.false_eq_true,if_false] at HC
  go_enter Tryz.func11,Tryz.ntmps11
  go_wp2_with (go_at_call 27;(with_reducible refine (hc1 _ hB).mono ?_);rintro r u1 ⟨rfl,bb1⟩)
  go_ret2
  exact⟨by rw[HC.out];rfl,hB.tr le_rfl' bb1⟩
 ·simp only[if_true] at HC
  replace hc3:=hc3 rfl
  go_enter Tryz.func11,Tryz.ntmps11
  go_upto_region 3 with (go_at_call 27;(with_reducible refine (hc1 _ hB).mono ?_);rintro r u1 ⟨rfl,bb1⟩)
  have hB1:=hB.tr le_rfl' bb1
  have b2:=(bb1.block w.heap.size (by simp)).trans b1
  have p0:=cellOf b2 0
  have p1:=cellOf b2 1
  simp at p0 p1
  go_wp2_with (first
   | (go_at_call 21;(with_reducible refine (hc2 _ hB1).mono ?_);rintro r u2 ⟨b,rfl,hbk,bb2⟩)
   | (go_at_call 23;(with_reducible refine (hc3 _ _ (hB1.tr le_rfl' bb2) hbk).mono ?_);rintro r u3 ⟨rfl,bb3⟩))
  go_ret2
  exact⟨by rw[HC.out];rfl,(hB1.tr le_rfl' bb2).tr le_rfl' bb3⟩
open Go.RowKit
def zeroEx:Ex:=.mk 0 ⟨#[]⟩ ⟨#[]⟩ 0 none 0 [] 0
mutual
def St.clr:St→St
 | .mk kind mon name n e _ _ blocks pos=>.mk kind mon name n e none 0 (Bl.clrL blocks) pos
def Bl.clr:Bl→Bl
 | .mk _ _ body=>.mk none 0 (St.clrL body)
def St.clrL:List St→List St
 | []=>[]
 | s::l=>s.clr::St.clrL l
def Bl.clrL:List Bl→List Bl
 | []=>[]
 | b::l=>b.clr::Bl.clrL l
end
theorem St.clrL_eq (l:List St):St.clrL l=l.map St.clr:=by
 induction l with
 | nil=>simp[St.clrL]
 | cons a l ih=>simp[St.clrL,ih]
theorem Bl.clrL_eq (l:List Bl):Bl.clrL l=l.map Bl.clr:=by
 induction l with
 | nil=>simp[Bl.clrL]
 | cons a l ih=>simp[Bl.clrL,ih]
theorem St.clr_mk (kind:Int) (mon name:ByteArray) (n:Int) (e:Ex) (ad:Option Addr) (cap:Nat) (blocks:List Bl) (pos:Int):(St.mk kind mon name n e ad cap blocks pos).clr=.mk kind mon name n e none 0 (blocks.map Bl.clr) pos:=by rw[St.clr,Bl.clrL_eq]
theorem Bl.clr_mk (ad:Option Addr) (cap:Nat) (body:List St):(Bl.mk ad cap body).clr=.mk none 0 (body.map St.clr):=by rw[Bl.clr,St.clrL_eq]
mutual
def St.inl (f:Ref→Bl):St→St
 | .mk kind mon name n e _ _ blocks pos=>if kind=8 then .mk 7 mon ⟨#[]⟩ 0 zeroEx none 0 [f (mon,name)] pos else .mk kind mon name n e none 0 (Bl.inlL f blocks) pos
def Bl.inl (f:Ref→Bl):Bl→Bl
 | .mk _ _ body=>.mk none 0 (St.inlL f body)
def St.inlL (f:Ref→Bl):List St→List St
 | []=>[]
 | s::l=>s.inl f::St.inlL f l
def Bl.inlL (f:Ref→Bl):List Bl→List Bl
 | []=>[]
 | b::l=>b.inl f::Bl.inlL f l
end
theorem St.inlL_eq (f:Ref→Bl) (l:List St):St.inlL f l=l.map (St.inl f):=by
 induction l with
 | nil=>simp[St.inlL]
 | cons a l ih=>simp[St.inlL,ih]
theorem Bl.inlL_eq (f:Ref→Bl) (l:List Bl):Bl.inlL f l=l.map (Bl.inl f):=by
 induction l with
 | nil=>simp[Bl.inlL]
 | cons a l ih=>simp[Bl.inlL,ih]
theorem Bl.inl_mk (f:Ref→Bl) (ad:Option Addr) (cap:Nat) (body:List St):(Bl.mk ad cap body).inl f=.mk none 0 (body.map (St.inl f)):=by rw[Bl.inl,St.inlL_eq]
theorem St.inl_call (f:Ref→Bl) (mon name:ByteArray) (n:Int) (e:Ex) (ad:Option Addr) (cap:Nat) (blocks:List Bl) (pos:Int):(St.mk 8 mon name n e ad cap blocks pos).inl f=.mk 7 mon ⟨#[]⟩ 0 zeroEx none 0 [f (mon,name)] pos:=by rw[St.inl,if_pos rfl]
theorem St.inl_other (f:Ref→Bl) (kind:Int) (hk:kind≠8) (mon name:ByteArray) (n:Int) (e:Ex) (ad:Option Addr) (cap:Nat) (blocks:List Bl) (pos:Int):(St.mk kind mon name n e ad cap blocks pos).inl f=.mk kind mon name n e none 0 (blocks.map (Bl.inl f)) pos:=by rw[St.inl,if_neg hk,Bl.inlL_eq]
theorem Bl.inl_body (f:Ref→Bl) (b:Bl) (ad:Option Addr) (cap:Nat):(Bl.mk ad cap b.body).inl f=b.inl f:=by
 rcases b with ⟨a,c,body⟩
 rw[Bl.inl_mk,Bl.inl_mk];rfl
def inlR (p:Pr):Nat→Ref→Bl
 | 0,_=>.mk none 0 []
 | n+1,r=>(bodyOf p r).inl (inlR p n)
theorem Ex.len (e:Ex):e.cells.length=6:=by rcases e with ⟨a,b,c,d,e,f,g,h⟩;rfl
theorem Bl.len (b:Bl):b.cells.length=1:=rfl
theorem Bl.one (b:Bl):∀ u∈b.cells,u.oneCell'=true:=by
 intro u hu
 rcases b with ⟨a,c,d⟩
 simp only[Bl.cells,Bl.slice,List.mem_cons,List.not_mem_nil,or_false] at hu
 subst hu;rfl
theorem SlAt.imp {α:Type} {size:Nat} {cs:α→List Value} (hlen:∀ x,(cs x).length=size) {n n':Nat} {X Y:World} {ad:Option Addr} {cap:Nat} {l:List α} (hc:∀ (a:Addr) v,a.block<n→X.cell? a=some v→Y.cell? a=some v) (hn:n≤n') (h:SlAt size cs n X ad cap l):SlAt size cs n' Y ad cap l:=by
 obtain⟨h1,h2,h3⟩:=h
 refine⟨h1,h2,?_⟩
 rcases h3 with h3|⟨b,off,h4,h5,h6⟩
 ·exact .inl h3
 ·refine .inr ⟨b,off,h4,by omega,fun j hj i hi=>?_⟩
  have h7:=h6 j hj i hi
  rw[List.getElem?_eq_getElem (by rw[hlen];exact hi)] at h7 ⊢
  exact hc _ _ h5 h7
theorem Ex.Is.imp {n n':Nat} {X Y:World} (hc:∀ (a:Addr) v,a.block<n→X.cell? a=some v→Y.cell? a=some v) (hn:n≤n'):∀ {e:Ex},e.Is n X→e.Is n' Y:=by
 intro e
 induction e using Ex.ind with
 | h op mon name n ad cap kids pos ih =>
  intro h
  exact Ex.Is.up ⟨h.down.1,h.down.2.1.imp Ex.len hc hn,fun x hx=>ih x hx (h.down.2.2 x hx)⟩
theorem Bl.Is.imp {n n':Nat} {X Y:World} (hc:∀ (a:Addr) v,a.block<n→X.cell? a=some v→Y.cell? a=some v) (hn:n≤n') {b:Bl}:b.Is n X→b.Is n' Y:=
 Bl.ind (P:=fun s=>s.Is n X→s.Is n' Y) (Q:=fun b=>b.Is n X→b.Is n' Y) (fun _ _ _ _ _ _ _ _ _ ih h=>St.Is.up ⟨h.down.1,h.down.2.1.imp hc hn,h.down.2.2.1.imp Bl.len hc hn,fun b hb'=>ih b hb' (h.down.2.2.2 b hb')⟩)
  (fun _ _ _ ih h=>Bl.Is.up ⟨h.down.1.imp St.len hc hn,fun s hs=>ih s hs (h.down.2 s hs)⟩) b
theorem St.Is.imp {n n':Nat} {X Y:World} (hc:∀ (a:Addr) v,a.block<n→X.cell? a=some v→Y.cell? a=some v) (hn:n≤n') {s:St}:s.Is n X→s.Is n' Y:=
 St.ind (P:=fun s=>s.Is n X→s.Is n' Y) (Q:=fun b=>b.Is n X→b.Is n' Y) (fun _ _ _ _ _ _ _ _ _ ih h=>St.Is.up ⟨h.down.1,h.down.2.1.imp hc hn,h.down.2.2.1.imp Bl.len hc hn,fun b hb'=>ih b hb' (h.down.2.2.2 b hb')⟩)
  (fun _ _ _ ih h=>Bl.Is.up ⟨h.down.1.imp St.len hc hn,fun s hs=>ih s hs (h.down.2 s hs)⟩) s
def only (Q:Nat→Bool) (W:World):World:={ W with heap:=W.heap.mapIdx fun i o=>if Q i then o else .cells #[] 0 (0,0) }
theorem only_heap (Q:Nat→Bool) (W:World) (k:Nat):(only Q W).heap[k]?=(W.heap[k]?).map fun o=>if Q k then o else .cells #[] 0 (0,0):=by
 simp[only]
theorem only_cell (Q:Nat→Bool) (W:World) (a:Addr) (v:Value):(only Q W).cell? a=some v↔Q a.block=true∧W.cell? a=some v:=by
 have h:=only_heap Q W a.block
 unfold World.cell?
 rw[h]
 cases hq:Q a.block
 ·cases W.heap[a.block]? <;> simp
 ·cases W.heap[a.block]? <;> simp
def bt (n₀ base:Nat) (v:Value) (k:Nat):Bool:=decide (k<n₀) || (decide (base≤k)&&decide (v.ownBlock≠some k))
theorem bt_iff {n₀ base:Nat} {v:Value} {k:Nat}:bt n₀ base v k=true↔k<n₀∨(base≤k∧v.ownBlock≠some k):=by simp[bt]
theorem only_imp {n:Nat} {Q Q':Nat→Bool} {W W':World} (h:∀ k,k<n→Q k=true→Q' k=true∧W'.heap[k]?=W.heap[k]?):∀ (a:Addr) v,a.block<n→(only Q W).cell? a=some v→(only Q' W').cell? a=some v:=by
 intro a v ha hv
 obtain⟨h1,h2⟩:=(only_cell Q W a v).1 hv
 obtain⟨h3,h4⟩:=h a.block ha h1
 exact (only_cell Q' W' a v).2 ⟨h3,by rw[World.cell?_of_block h4];exact h2⟩
theorem only_open {n:Nat} {Q:Nat→Bool} {W:World}:∀ (a:Addr) v,a.block<n→(only Q W).cell? a=some v→W.cell? a=some v:=fun a v _ h=>((only_cell Q W a v).1 h).2
theorem only_close {n:Nat} {Q:Nat→Bool} {W W':World} (h:∀ k,k<n→Q k=true∧W'.heap[k]?=W.heap[k]?):∀ (a:Addr) v,a.block<n→W.cell? a=some v→(only Q W').cell? a=some v:=by
 intro a v ha hv
 obtain⟨h3,h4⟩:=h a.block ha
 exact (only_cell Q W' a v).2 ⟨h3,by rw[World.cell?_of_block h4];exact hv⟩
theorem SlAt.own {α:Type} {size:Nat} {cs:α→List Value} (hlen:∀ x,(cs x).length=size) {base:Nat} {T:TypeId} {v:Value} {l:List α} {w:World} (h:w.ownsRow base T size v l.length (l.flatMap cs)) :
  ∃ ad cp,v=.slice ad l.length cp∧∀ (Q:Nat→Bool),(∀ k,base≤k→k<w.heap.size→Q k=true)→SlAt size cs w.heap.size (only Q w) ad cp l:=by
 obtain⟨ad,cp,hv,h1,h2,h3⟩:=slOwn2 hlen h
 refine⟨ad,cp,hv,fun Q hQ=>⟨h1,h2,?_⟩⟩
 rcases h3 with h3|⟨b,h4,h5,h6,h7⟩
 ·exact .inl h3
 ·refine .inr ⟨b,0,h4,h6,fun j hj i hi=>?_⟩
  have h8:=h7 j hj i hi
  rw[List.getElem?_eq_getElem (by rw[hlen];exact hi)] at h8 ⊢
  exact (only_cell Q w _ _).2 ⟨hQ b h5 h6,h8⟩
open Go.RowKit
theorem own_lt {w:World} {base e size n k:Nat} {v:Value} {xs:List Value} (h:w.ownsRow base e size v n xs) (hk:v.ownBlock=some k):base≤k∧k<w.heap.size:=by
 rcases h.2 with ⟨rfl,_⟩|⟨g,cap,cur,rfl,hb,hgb,_⟩
 ·simp[Value.ownBlock] at hk
 ·obtain rfl:g=k:=by simpa[Value.ownBlock] using hk
  exact⟨hb,(Array.getElem?_eq_some_iff.1 hgb).1⟩
theorem row_step {n₀ base e size n g m cap:Nat} {wr W4 w1:World} {v:Value} {xs:List Value} (hn:n₀≤base) (ho:wr.ownsRow base e size v n xs) (hB:Below wr.heap.size wr W4) (hg:W4.grownBy w1 v.ownBlock) (hat:v.ownBlock=some g∨wr.heap.size≤g) :
  ∀ k,k<wr.heap.size→bt n₀ base v k=true→bt n₀ base (.slice (some ⟨g,0,none⟩) m cap) k=true∧w1.heap[k]?=wr.heap[k]?:=by
 intro k hk hq
 have hv:v.ownBlock≠some k:=fun h=>by
  rcases bt_iff.1 hq with h1|h1
  ·have:=(own_lt ho h).1;omega
  ·exact h1.2 h
 refine⟨bt_iff.2 ?_,(hg.block k (by have:=hB.size;omega) (fun h=>hv h.symm)).trans (hB.block k hk)⟩
 rcases bt_iff.1 hq with h1|h1
 ·exact .inl h1
 ·refine .inr ⟨h1.1,fun h=>?_⟩
  obtain rfl:g=k:=by simpa[Value.ownBlock] using h
  rcases hat with h2|h2
  ·exact hv h2
  ·omega
theorem new_step {n₀ base e size n g m cap B1:Nat} {wr U W4 w1:World} {v:Value} {xs:List Value} (hn:n₀≤base) (ho:wr.ownsRow base e size v n xs) (hb:base≤wr.heap.size) (hB1:wr.heap.size≤B1) (hU:U.heap.size≤W4.heap.size) (hB:∀ k,k<U.heap.size→bt n₀ B1 (.slice none 0 0) k=true→W4.heap[k]?=U.heap[k]?) (hg:W4.grownBy w1 v.ownBlock) (hat:v.ownBlock=some g∨W4.heap.size≤g) :
  ∀ k,k<U.heap.size→bt n₀ B1 (.slice none 0 0) k=true→bt n₀ base (.slice (some ⟨g,0,none⟩) m cap) k=true∧w1.heap[k]?=U.heap[k]?:=by
 intro k hk hq
 have hv:v.ownBlock≠some k:=fun h=>by
  have h2:=own_lt ho h
  rcases bt_iff.1 hq with h1|h1
  ·omega
  ·have:=h1.1;omega
 refine⟨bt_iff.2 ?_,(hg.block k (by omega) (fun h=>hv h.symm)).trans (hB k hk hq)⟩
 rcases bt_iff.1 hq with h1|h1
 ·exact .inl h1
 ·refine .inr ⟨by have:=h1.1;omega,fun h=>?_⟩
  obtain rfl:g=k:=by simpa[Value.ownBlock] using h
  rcases hat with h2|h2
  ·exact hv h2
  ·omega
theorem bt_nil {n₀ base:Nat} {v:Value}:∀ k,bt n₀ base v k=true→bt n₀ base (.slice none 0 0) k=true:=by
 intro k h
 rcases bt_iff.1 h with h1|h1
 ·exact bt_iff.2 (.inl h1)
 ·exact bt_iff.2 (.inr ⟨h1.1,by simp[Value.ownBlock]⟩)
def FineC (x:Bl):Prop:=x.subs.length≤1000000∧∀ s∈x.subs,s.blocks.length≤1000000
def InBack (n₀:Nat) (X:Bl) (w w':World) (r:Ending):Prop:=∃ ad cap body,r=.returned (.slice ad body.length cap)∧(Bl.mk ad cap body).Is w'.heap.size (only (bt n₀ w.heap.size (.slice none 0 0)) w')∧body.map St.clr=X.body∧Below w.heap.size w w'
def InlBl (p:Pr) (D:Ref→Prop) (rk:Ref→Nat) (N:Nat) (x:Bl):Prop:=∀ (n₀ b:Nat) (w:World),n₀≤w.heap.size→Book w n₀ b p→x.Is n₀ w→FineC x→(∀ r∈callsOf x,D r∧rk r<N) →
 Calls Tryz.prog 33 #[.map (some b),x.slice] w fun r w'=>InBack n₀ (x.inl (inlR p N)) w w' r
theorem subs_self (s:St):s∈s.subs:=by rcases s with ⟨a1,a2,a3,a4,a5,a6,a7,a8,a9⟩;rw[St.subs_mk];exact List.mem_cons_self
theorem subs_block {s:St} {x:Bl} (hx:x∈s.blocks):∀ t∈x.subs,t∈s.subs:=by
 intro t ht
 rcases s with ⟨a1,a2,a3,a4,a5,a6,a7,a8,a9⟩
 rw[St.subs_mk];exact List.mem_cons_of_mem _ (List.mem_flatMap.2 ⟨x,hx,ht⟩)
theorem len_flat {α β:Type} (f:α→List β) (l:List α) (x:α) (hx:x∈l):(f x).length≤(l.flatMap f).length:=by
 obtain⟨a,b,rfl⟩:=List.append_of_mem hx
 simp;omega
theorem len_flat1 {α β:Type} (f:α→List β) (l:List α) (h:∀ x∈l,1≤(f x).length):l.length≤(l.flatMap f).length:=by
 induction l with
 | nil=>simp
 | cons x l ih =>
  rw[List.flatMap_cons,List.length_append,List.length_cons]
  have h1:=h x (by simp)
  have h2:=ih (fun y hy=>h y (by simp[hy]))
  omega
theorem FineC.len {ad:Option Addr} {cap:Nat} {body:List St} (h:FineC (.mk ad cap body)):body.length≤1000000:=by
 have h1:=h.1
 rw[Bl.subs_mk] at h1
 exact Nat.le_trans (len_flat1 St.subs body (fun s _=>List.length_pos_of_mem (subs_self s))) h1
theorem FineC.st {ad:Option Addr} {cap:Nat} {body:List St} (h:FineC (.mk ad cap body)) {s:St} (hs:s∈body):s.blocks.length≤1000000∧∀ x∈s.blocks,FineC x:=by
 have h2:∀ t∈s.subs,t∈(Bl.mk ad cap body).subs:=fun t ht=>by rw[Bl.subs_mk];exact List.mem_flatMap.2 ⟨s,hs,ht⟩
 refine⟨h.2 s (h2 s (subs_self s)),fun x hx=>⟨?_,fun t ht=>h.2 t (h2 t (subs_block hx t ht))⟩⟩
 have h3:=h.1
 rw[Bl.subs_mk] at h3
 have h4:=len_flat St.subs body s hs
 have h5:x.subs.length≤s.subs.length:=by
  rcases s with ⟨a1,a2,a3,a4,a5,a6,a7,a8,a9⟩
  have:=len_flat Bl.subs a8 x hx
  rw[St.subs_mk,List.length_cons];omega
 omega
theorem calls_st {ad:Option Addr} {cap:Nat} {body:List St} {s:St} (hs:s∈body):(s.kind=8→s.ref∈callsOf (.mk ad cap body))∧∀ x∈s.blocks,∀ r∈callsOf x,r∈callsOf (.mk ad cap body):=by
 have h2:∀ t∈s.subs,t∈(Bl.mk ad cap body).subs:=fun t ht=>by rw[Bl.subs_mk];exact List.mem_flatMap.2 ⟨s,hs,ht⟩
 refine⟨fun hk=>(callsOf_mem _ _).2 ⟨s,h2 s (subs_self s),hk,rfl⟩,fun x hx r hr=>?_⟩
 obtain⟨t,ht,h3,h4⟩:=(callsOf_mem _ _).1 hr
 exact (callsOf_mem _ _).2 ⟨t,h2 t (subs_block hx t ht),h3,h4⟩
theorem body_len {p:Pr} (h:Fine p) (r:Ref):(bodyOf p r).subs.length≤1000000:=by
 rw[bodyOf]
 split
 ·rename_i f hf
  obtain⟨m,hm,hfm⟩:=methIx_mem hf
  exact h.subs m hm f hfm
 ·rw[Bl.subs_mk];simp
theorem infoBl:(Tryz.prog.info? 35).map (fun i=>(i.zero,i.size,i.bytes))=some (some (.slice none 0 0),1,24):=by kernel_rfl
theorem zeroEx_is (n:Nat) (W:World):zeroEx.Is n W:=Ex.Is.up ⟨⟨⟨by decide,by decide⟩,⟨by decide,by decide⟩,⟨by decide,by decide⟩,by unfold Len;decide,by unfold Len;decide⟩,⟨by simp,by unfold maxLen;simp,.inl rfl⟩,fun x hx=>by cases hx⟩
set_option maxRecDepth 100000 in
set_option maxHeartbeats 16000000 in
theorem inline_step {p:Pr} {D:Ref→Prop} {rk:Ref→Nat} {N:Nat} (hF:Fine p) (hV:∀ r,D r→VLen r) (hD:∀ r,D r→∀ x∈leadsOf p r,D x∧rk x<rk r) (ihN:∀ M,N=M+1→∀ x,InlBl p D rk M x)
  (ad:Option Addr) (cap:Nat) (body:List St) (ih:∀ s∈body,∀ x∈s.blocks,InlBl p D rk N x):InlBl p D rk N (.mk ad cap body):=by
 intro n₀ b w hn hBk hI hFC hR
 rw[Bl.inl_mk]
 have hlen:=hFC.len
 have hst:=fun s hs=>hFC.st (s:=s) hs
 have hcs:=fun s hs=>calls_st (ad:=ad) (cap:=cap) (body:=body) (s:=s) hs
 have hIk:=hI.down.2
 have hsl:=hI.down.1
 have hl1:=hsl.1;have hl2:=hsl.2.1
 unfold maxLen at hl2
 obtain⟨f,hf⟩:∃ f,St.inl (inlR p N)=f:=⟨_,rfl⟩
 rw[hf]
 have HFF:=hid hf
 clear hf
 simp only[Bl.slice]
 go_enter Tryz.func33,Tryz.ntmps33
 go_wp2
 go_loopw [5,14] (fun v i wr=>∃ (j:Nat) (l':List St),j≤body.length∧i=.int .i64 j∧wr.ownsRow w.heap.size 64 12 v l'.length (l'.flatMap St.cells)∧Hid (l'.map St.clr=(body.take j).map f)∧(∀ s∈l',s.Is wr.heap.size (only (bt n₀ w.heap.size v) wr))∧Below w.heap.size w wr)
  (fun _ i _=>body.length-(intOf i).toNat)
 case atStart=>exact⟨0,[],by omega,rfl,World.ownsRow_nil _ _ _ _,rfl,(fun s hs=>by cases hs),Below.refl _ _⟩
 case round =>
  obtain⟨j,l',hj,rfl,hown,HCL,hIs,hbw⟩:=hrel
  have hz1:=hbw.size
  have HLL:Hid (l'.length=j):=by
   show _=_
   have:=congrArg List.length HCL.out
   simp at this;omega
  by_cases hlt:j<body.length
  ·rcases hsl.2.2 with h|⟨kb,koff,rfl,hbn,hrow⟩
   ·subst h;simp at hlt
   have hIj:=hIk _ (List.getElem_mem hlt)
   have ihj:=ih _ (List.getElem_mem hlt)
   obtain⟨hbkj,hfj⟩:=hst _ (List.getElem_mem hlt)
   obtain⟨hc8,hcb⟩:=hcs _ (List.getElem_mem hlt)
   have HTK:Hid ((body.take (j+1)).map f=(body.take j).map f++[f body[j]]):=by show _=_;rw[List.take_succ_eq_append_getElem hlt,List.map_append];rfl
   have hrj:=hrow.below (hbw.mono hn) hbn
   have hq:=fun W=>callee_any body[j] W
   rcases he':body[j] with ⟨kind',mon',name',n',⟨eop',emon',ename',en',ead',ecap',ekids',epos'⟩,ad',cap',blocks',pos'⟩
   obtain⟨c0,c1,c2,c3,c4,c5,c6,c7,c8,c9,c10,c11⟩:=row12 hrj j hlt (by rw[he'];rfl)
   rw[he'] at hIj ihj HTK hbkj hfj hc8 hcb
   simp only[he',St.val,St.cells,Ex.cells,List.cons_append,List.nil_append,St.ref] at hq
   have hIe:=hIj.down.2.1
   have hI5:=hIj.down.1
   have hsB:=hIj.down.2.2.1
   have hIB:=hIj.down.2.2.2
   have hbl1:=hsB.1;have hbl2:=hsB.2.1
   unfold maxLen at hbl2
   simp only[St.blocks] at ihj hbkj hfj hcb
   simp only[St.kind,St.ref] at hc8
   have hkbw:kb<wr.heap.size:=by omega
   clear he' ih
   go_upto_region 5 with fail
   obtain⟨bX,hBX,hzX⟩:=one_box wr #[.int .i64 kind',.string mon',.string name',.int .i64 n',.int .i64 eop',.string emon',.string ename',.int .i64 en',.slice ead' ekids'.length ecap',.int .i64 epos',.slice ad' blocks'.length cap',.int .i64 pos'] 64
   obtain⟨Bs,hBs⟩:∃ Bs,wr.heap.size=Bs:=⟨_,rfl⟩
   obtain⟨W1,hW1⟩:∃ W1,wr.alloc (.cells #[.int .i64 kind',.string mon',.string name',.int .i64 n',.int .i64 eop',.string emon',.string ename',.int .i64 en',.slice ead' ekids'.length ecap',.int .i64 epos',.slice ad' blocks'.length cap',.int .i64 pos'] 64)=W1:=⟨_,rfl⟩
   have HBX:Hid (Below wr.heap.size wr W1∧W1.heap.size=wr.heap.size+1∧wr.heap.size=Bs):=⟨by rw[← hW1];exact hBX,by rw[← hW1];exact hzX,hBs⟩
   have hB1:Below w.heap.size w W1:=hbw.trans (HBX.out.1.mono (by omega))
   rw[hW1] at bX ⊢
   rw[hBs] at bX ⊢
   have x0:=cellOf bX 0
   have x1:=cellOf bX 1
   have x2:=cellOf bX 2
   have x3:=cellOf bX 3
   have x4:=cellOf bX 4
   have x5:=cellOf bX 5
   have x6:=cellOf bX 6
   have x7:=cellOf bX 7
   have x8:=cellOf bX 8
   have x9:=cellOf bX 9
   have x10:=cellOf bX 10
   have x11:=cellOf bX 11
   simp at x0 x1 x2 x3 x4 x5 x6 x7 x8 x9 x10 x11
   clear c0 c1 c2 c3 c4 c5 c6 c7 c8 c9 c10 c11 hBX hzX hW1 hBs hrow hrj hI hIj hIk
   cases hkind:(kind'==8:Bool)
   ·have hkn:kind'≠8:=by simpa using hkind
    have HST:Hid (f (.mk kind' mon' name' n' (Ex.mk eop' emon' ename' en' ead' ecap' ekids' epos') ad' cap' blocks' pos')=.mk kind' mon' name' n' (Ex.mk eop' emon' ename' en' ead' ecap' ekids' epos') none 0 (blocks'.map (Bl.inl (inlR p N))) pos'):=by
     show _=_
     rw[← HFF.out,St.inl_other _ _ hkn]
    have HRR:Hid (∀ x∈blocks',∀ r∈callsOf x,D r∧rk r<N):=fun x hx r hr=>hR r (hcb x hx r hr)
    obtain⟨fb,hfb⟩:∃ fb,Bl.inl (inlR p N)=fb:=⟨_,rfl⟩
    have HFB:=hid hfb
    rw[hfb] at HST
    have HO:Hid (wr.ownsRow w.heap.size 64 12 u5 l'.length (l'.flatMap St.cells)):=hown
    clear hfb hq hR hc8 hcb hst hcs hsl
    obtain⟨wo,hwo⟩:∃ wo:World,wo=wr:=⟨_,rfl⟩
    subst hwo
    go_wp2
    clear x10
    go_loopw [9,41] (fun v i wx=>∃ (m:Nat) (lb:List Bl),m≤blocks'.length∧i=.int .i64 m∧wx.ownsRow W1.heap.size 35 1 v lb.length (lb.flatMap Bl.cells)∧Hid (lb.map Bl.clr=(blocks'.take m).map fb)∧(∀ y∈lb,y.Is wx.heap.size (only (bt n₀ W1.heap.size v) wx))∧Below W1.heap.size W1 wx)
     (fun _ i _=>blocks'.length-(intOf i).toNat)
    case atStart=>exact⟨0,[],by omega,rfl,World.ownsRow_nil _ _ _ _,rfl,(fun s hs=>by cases hs),Below.refl _ _⟩
    case round =>
     obtain⟨m,lb,hm,rfl,hownB,HCB,hIb,hbx⟩:=hrel
     have hzx:=hbx.size
     have hz1b:=hB1.size
     have hbF:Below w.heap.size w wr:=hB1.trans (hbx.mono hz1b)
     have HLB:Hid (lb.length=m):=by
      show _=_
      have:=congrArg List.length HCB.out
      simp at this;omega
     have HN1:Hid (n₀≤W1.heap.size∧W1.heap.size≤wr.heap.size):=⟨by omega,hzx⟩
     by_cases hlm:m<blocks'.length
     ·rcases hsB.2.2 with h|⟨qb,qoff,rfl,hqn,hqrow⟩
      ·subst h;simp at hlm
      have HTB:Hid ((blocks'.take (m+1)).map fb=(blocks'.take m).map fb++[fb blocks'[m]]):=by show _=_;rw[List.take_succ_eq_append_getElem hlm,List.map_append];rfl
      have hq5:=ihj _ (List.getElem_mem hlm) n₀ b wr (by omega) (hBk.below (hbF.mono hn)) ((hIB _ (List.getElem_mem hlm)).below (hbF.mono hn)) (hfj _ (List.getElem_mem hlm)) (HRR.out _ (List.getElem_mem hlm))
      rw[HFB.out] at hq5
      have hqw:qb<wr.heap.size:=by omega
      rcases hbk2:blocks'[m] with ⟨qad,qcap,qbody⟩
      have d0:=row1 (hqrow.below (hbF.mono hn) hqn) m hlm (by rw[hbk2];rfl)
      rw[hbk2] at HTB
      simp only[hbk2,Bl.slice] at hq5 d0
      obtain⟨X,hX⟩:∃ X,fb (.mk qad qcap qbody)=X:=⟨_,rfl⟩
      have HX:Hid (X=.mk none 0 X.body):=by
       show _=_
       rw[← hX,← HFB.out,Bl.inl_mk];rfl
      rw[hX] at hq5 HTB
      clear hbk2 hX
      obtain⟨i0,hi,iz0,iz1,iz2⟩:=info_parts infoBl
      have how:=hownB
      go_wp2_with (first
       | (go_at_call 33;(with_reducible refine hq5.mono ?_);rintro r u2 ⟨yad,ycap,ybody,rfl,hyI,hyc,bb2⟩;have hs22:=bb2.size;have hBr:Below wr.heap.size wr (u2.alloc (.cells #[.slice yad ybody.length ycap] 35)):=bb2.al le_rfl' _;have hown4:=owns_below how hBr;have hcn:=World.news_of_block (heapNew u2 (.cells #[.slice yad ybody.length ycap] 35)))
       | (at_builtin;refine wpList_append_lies _ rfl _ _ 62 rfl W1.heap.size 35 i0 _ 1 24 Tryz.underlying62 hi iz0 iz1 iz2 rfl (by decide) _ _ _ rfl hown4 ⟨u2.heap.size,0,none⟩ 1 1 (#[.slice yad ybody.length ycap]:Array Value).toList rfl rfl hcn (by simp[Value.oneCell']) (by omega) (by unfold maxLen;have:=HLB.out;omega) (by have:=HLB.out;omega) (by simp;omega) _ rfl ?_;intro g gcp w1 hown' hgrow hat hltg))
      have hat2:u9.ownBlock=some g∨wr.heap.size≤g:=by
       rcases hat with h|h
       ·exact .inl h
       ·right;simp at h;omega
      have hat3:u9.ownBlock=some g∨(u2.alloc (.cells #[.slice yad ybody.length ycap] 35)).heap.size≤g:=by
       rcases hat with h|h
       ·exact .inl h
       ·right;simp at h ⊢;omega
      have HALL:Hid (∀ s∈lb++[Bl.mk yad ycap ybody],s.Is w1.heap.size (only (bt n₀ W1.heap.size (.slice (some ⟨g,0,none⟩) (lb.length+1) gcp)) w1)):=by
       intro s hs
       have hsz:=hgrow.size
       have hsz2:=hBr.size
       rcases List.mem_append.1 hs with hs|hs
       ·exact (hIb s hs).imp (only_imp (row_step HN1.out.1 hownB hBr hgrow hat2)) (by omega)
       ·rw[List.mem_singleton.1 hs]
        exact hyI.imp (only_imp (new_step HN1.out.1 hownB HN1.out.2 (Nat.le_refl _) (by simp) (fun k hk _=>Below.heap_alloc _ _ _ hk) hgrow hat3)) (by simp at hsz;omega)
      have HBF:Hid (Below W1.heap.size W1 w1):=by
       refine Below.grown (hbx.trans (hBr.mono hzx)) hgrow (by have:=hBr.size;omega) (fun k e=>?_)
       exact (own_lt hownB e).1
      have HOW:Hid (w1.ownsRow W1.heap.size 35 1 (.slice (some ⟨g,0,none⟩) (lb.length+1) gcp) (lb++[Bl.mk yad ycap ybody]).length ((lb++[Bl.mk yad ycap ybody]).flatMap Bl.cells)):=by
       have h1:(lb++[Bl.mk yad ycap ybody]).flatMap Bl.cells=lb.flatMap Bl.cells++(#[.slice yad ybody.length ycap]:Array Value).toList:=by rw[List.flatMap_append];rfl
       rw[h1,List.length_append]
       exact hown'
      have HCB2:Hid ((lb++[Bl.mk yad ycap ybody]).map Bl.clr=(blocks'.take (m+1)).map fb):=by
       show _=_
       rw[HTB.out,List.map_append,HCB.out,List.map_cons,List.map_nil,Bl.clr_mk,hyc,← HX.out]
      clear hat hat2 hat3 hgrow hown' hBr hown4 hcn hyI hyc how
      go_roundw
      case rel=>exact⟨m+1,_,by omega,by go_num,HOW.out,HCB2,HALL.out,HBF.out⟩
      case measure=>simp[intOf];omega
     ·have hmd:decide ((m:Int)<(blocks'.length:Int))=false:=by simp;omega
      obtain⟨bad,bcp,rfl,hbs⟩:=SlAt.own Bl.len hownB
      have HST2:Hid ((St.mk kind' mon' name' n' (Ex.mk eop' emon' ename' en' ead' ecap' ekids' epos') bad bcp lb pos').clr=f (.mk kind' mon' name' n' (Ex.mk eop' emon' ename' en' ead' ecap' ekids' epos') ad' cap' blocks' pos')):=by
       show _=_
       rw[HST.out,St.clr_mk,HCB.out,List.take_of_length_le (by omega)]
      have HNS0:Hid ((St.mk kind' mon' name' n' (Ex.mk eop' emon' ename' en' ead' ecap' ekids' epos') bad bcp lb pos').Is wr.heap.size (only (bt n₀ W1.heap.size (.slice none 0 0)) wr)):=by
       refine St.Is.up ⟨hI5,?_,hbs _ (fun k hk _=>bt_iff.2 (.inr ⟨hk,by simp[Value.ownBlock]⟩)),fun y hy=>(hIb y hy).imp (only_imp fun k _ hq=>⟨bt_nil k hq,rfl⟩) (Nat.le_refl _)⟩
       exact hIe.imp (only_close fun k hk=>⟨bt_iff.2 (.inl hk),hbF.block k (by omega)⟩) (by omega)
      have bXr:=(hbx.block Bs (Array.getElem?_eq_some_iff.1 bX).1).trans bX
      have HBS:Hid (wo.heap.size=Bs∧W1.heap.size=wo.heap.size+1):=⟨HBX.out.2.2,HBX.out.2.1⟩
      have z0:=cellOf bXr 0
      have z1:=cellOf bXr 1
      have z2:=cellOf bXr 2
      have z3:=cellOf bXr 3
      have z4:=cellOf bXr 4
      have z5:=cellOf bXr 5
      have z6:=cellOf bXr 6
      have z7:=cellOf bXr 7
      have z8:=cellOf bXr 8
      have z9:=cellOf bXr 9
      have z10:=cellOf bXr 10
      have z11:=cellOf bXr 11
      have zf:=frozen_of bXr 10
      simp at z0 z1 z2 z3 z4 z5 z6 z7 z8 z9 z10 z11
      have hBsw:Bs<wr.heap.size:=(Array.getElem?_eq_some_iff.1 bXr).1
      have hBo:Below wo.heap.size wo wr:=HBX.out.1.trans (hbx.mono (by have:=HBS.out;omega))
      have hB5:Below wo.heap.size wo (wr.setCell ⟨Bs,10,none⟩ (.slice bad lb.length bcp)):=hBo.setCell (p:=⟨Bs,10,none⟩) (by show wo.heap.size≤Bs;have:=HBS.out;omega) _
      have hsz5:(wr.setCell ⟨Bs,10,none⟩ (.slice bad lb.length bcp)).heap.size=wr.heap.size:=by simp
      have hBr:Below wo.heap.size wo ((wr.setCell ⟨Bs,10,none⟩ (.slice bad lb.length bcp)).alloc (.cells #[.int .i64 kind',.string mon',.string name',.int .i64 n',.int .i64 eop',.string emon',.string ename',.int .i64 en',.slice ead' ekids'.length ecap',.int .i64 epos',.slice bad lb.length bcp,.int .i64 pos'] 64)):=hB5.al le_rfl' _
      have hown4:=owns_below HO.out hBr
      have hbl:=heapNew (wr.setCell ⟨Bs,10,none⟩ (.slice bad lb.length bcp)) (.cells #[.int .i64 kind',.string mon',.string name',.int .i64 n',.int .i64 eop',.string emon',.string ename',.int .i64 en',.slice ead' ekids'.length ecap',.int .i64 epos',.slice bad lb.length bcp,.int .i64 pos'] 64)
      rw[hsz5] at hbl
      have hcn:=World.news_of_block hbl
      obtain⟨i0,hi,iz0,iz1,iz2⟩:=info_parts info56
      have hbb:w.heap.size≤wr.heap.size:=hbF.size
      have HCL2:Hid ((l'++[(St.mk kind' mon' name' n' (Ex.mk eop' emon' ename' en' ead' ecap' ekids' epos') bad bcp lb pos')]).map St.clr=(body.take (j+1)).map f):=by
       show _=_
       rw[HTK.out,List.map_append,HCL.out,List.map_cons,List.map_nil,HST2.out]
      clear HST HST2 hbs hIb hownB HCB HTK hsz5 hbl hB5 x0 x1 x2 x3 x4 x5 x6 x7 x8 x9 x11 bX bXr
      go_wp2_with (at_builtin;refine wpList_append_lies _ rfl _ _ 35 rfl w.heap.size 64 i0 _ 12 160 Tryz.underlying35 hi iz0 iz1 iz2 rfl (by decide) _ _ _ rfl hown4 ⟨wr.heap.size,0,none⟩ 1 1 (#[.int .i64 kind',.string mon',.string name',.int .i64 n',.int .i64 eop',.string emon',.string ename',.int .i64 en',.slice ead' ekids'.length ecap',.int .i64 epos',.slice bad lb.length bcp,.int .i64 pos']:Array Value).toList rfl rfl hcn (by simp[Value.oneCell']) (by omega) (by unfold maxLen;have:=HLL.out;omega) (by have:=HLL.out;omega) (by simp;omega) _ rfl ?_;intro g gcp w1 hown' hgrow hat hltg)
      have hat2:u5.ownBlock=some g∨wo.heap.size≤g:=by
       rcases hat with h|h
       ·exact .inl h
       ·right;simp at h;have:=HBS.out;omega
      have hat3:u5.ownBlock=some g∨((wr.setCell ⟨Bs,10,none⟩ (.slice bad lb.length bcp)).alloc (.cells #[.int .i64 kind',.string mon',.string name',.int .i64 n',.int .i64 eop',.string emon',.string ename',.int .i64 en',.slice ead' ekids'.length ecap',.int .i64 epos',.slice bad lb.length bcp,.int .i64 pos'] 64)).heap.size≤g:=by
       rcases hat with h|h
       ·exact .inl h
       ·right;simp at h ⊢;omega
      have hb1:=HBS.out
      have HALL:Hid (∀ s∈l'++[(St.mk kind' mon' name' n' (Ex.mk eop' emon' ename' en' ead' ecap' ekids' epos') bad bcp lb pos')],s.Is w1.heap.size (only (bt n₀ w.heap.size (.slice (some ⟨g,0,none⟩) (l'.length+1) gcp)) w1)):=by
       intro s hs
       have hsz:=hgrow.size
       have hsz2:=hBr.size
       rcases List.mem_append.1 hs with hs|hs
       ·exact (hIs s hs).imp (only_imp (row_step hn HO.out hBr hgrow hat2)) (by omega)
       ·rw[List.mem_singleton.1 hs]
        refine HNS0.out.imp (only_imp (new_step (U:=wr) hn HO.out hz1 (by omega:wo.heap.size≤W1.heap.size) (by simp) (fun k hk hq=>?_) hgrow hat3)) (by simp at hsz;omega)
        have hkB:k≠Bs:=by
         rcases bt_iff.1 hq with h|h
         ·omega
         ·have:=h.1;omega
        exact (Below.heap_alloc _ _ _ (by simp;exact hk)).trans (Below.heap_setCell _ ⟨Bs,10,none⟩ _ k hkB)
      have HBF:Hid (Below w.heap.size w w1):=by
       refine Below.grown (hbw.trans (hBr.mono hz1)) hgrow (by have:=hBr.size;omega) (fun k e=>?_)
       exact (own_lt HO.out e).1
      have HOW:Hid (w1.ownsRow w.heap.size 64 12 (.slice (some ⟨g,0,none⟩) (l'.length+1) gcp) (l'++[(St.mk kind' mon' name' n' (Ex.mk eop' emon' ename' en' ead' ecap' ekids' epos') bad bcp lb pos')]).length ((l'++[(St.mk kind' mon' name' n' (Ex.mk eop' emon' ename' en' ead' ecap' ekids' epos') bad bcp lb pos')]).flatMap St.cells)):=by
       have h1:(l'++[(St.mk kind' mon' name' n' (Ex.mk eop' emon' ename' en' ead' ecap' ekids' epos') bad bcp lb pos')]).flatMap St.cells=l'.flatMap St.cells++(#[.int .i64 kind',.string mon',.string name',.int .i64 n',.int .i64 eop',.string emon',.string ename',.int .i64 en',.slice ead' ekids'.length ecap',.int .i64 epos',.slice bad lb.length bcp,.int .i64 pos']:Array Value).toList:=by rw[List.flatMap_append];rfl
       rw[h1,List.length_append]
       exact hown'
      clear hat hat2 hat3 hgrow hown' hBr hown4 hcn
      go_roundw
      case rel=>exact⟨j+1,_,by omega,by go_num,HOW.out,HCL2,HALL.out,HBF.out⟩
      case measure=>simp[intOf];omega
   ·have hk8:kind'=8:=by simpa using hkind
    subst hk8
    obtain⟨hDr,hrN⟩:=hR _ (hc8 rfl)
    have hvl:=hV _ hDr
    obtain⟨M,hM⟩:∃ M,N=M+1:=⟨N-1,by omega⟩
    have hlk:=fun (W:World) (hW:Below W1.heap.size W1 W)=>(hBk.below ((hB1.trans (hW.mono hB1.size)).mono hn)).look hvl
    have hf80:=fld80b
    have HST:Hid (f (.mk 8 mon' name' n' (Ex.mk eop' emon' ename' en' ead' ecap' ekids' epos') ad' cap' blocks' pos')=.mk 7 mon' ⟨#[]⟩ 0 zeroEx none 0 [(bodyOf p (mon',name')).inl (inlR p M)] pos'):=by
     show _=_
     rw[← HFF.out,St.inl_call,hM];rfl
    have hrec:=fun (gad:Option Addr) (gcap:Nat) (W:World) (hW:Below W1.heap.size W1 W) (hG:(Bl.mk gad gcap (bodyOf p (mon',name')).body).Is n₀ W)=>ihN M hM (.mk gad gcap (bodyOf p (mon',name')).body) n₀ b W (by have:=hW.size;have:=hB1.size;omega) (hBk.below ((hB1.trans (hW.mono hB1.size)).mono hn)) hG
     ⟨by rw[subs_mk_body];exact body_len hF _,by rw[subs_mk_body];exact body_subs hF.blks _⟩ (by rw[callsOf_mk];intro r hr;obtain⟨h1,h2⟩:=hD _ hDr r hr;exact⟨h1,by omega⟩)
    simp only[Bl.inl_body] at hrec
    obtain⟨gb,hgb⟩:∃ gb,bodyOf p (mon',name')=gb:=⟨_,rfl⟩
    obtain⟨gl,hgl⟩:∃ gl,(leadsOf p (mon',name')).length=gl:=⟨_,rfl⟩
    simp only[hgb,hgl] at hlk
    simp only[hgb,Bl.slice] at hrec
    rw[hgb] at HST
    clear hgb hgl
    go_upto_region 7 with (first
     | (go_at_call 36;(with_reducible refine (hq _).mono ?_);rintro r u1 ⟨rfl,bb1⟩;obtain⟨gad,gcap,cad,ccap,hlook,hgI,-⟩:=hlk _ bb1)
     | (go_at_call 33;(with_reducible refine (hrec gad gcap _ bb1 hgI).mono ?_);rintro r u2 ⟨yad,ycap,ybody,rfl,hyI,hyc,bb2⟩))
    have hs12:=bb1.size
    have hs22:=bb2.size
    have bX2:=(bb2.block Bs (by have:=(Array.getElem?_eq_some_iff.1 bX).1;omega)).trans ((bb1.block Bs (Array.getElem?_eq_some_iff.1 bX).1).trans bX)
    have y1:=cellOf bX2 1
    have y11:=cellOf bX2 11
    simp at y1 y11
    have hbb:w.heap.size≤u2.heap.size:=by have:=HBX.out;omega
    have hBsu:Bs<u2.heap.size:=(Array.getElem?_eq_some_iff.1 bX2).1
    have hB2:Below W1.heap.size W1 u2:=bb1.tr le_rfl' bb2
    have hBr:Below wr.heap.size wr ((u2.alloc (.cells #[.slice yad ybody.length ycap] 35)).alloc (.cells #[.int .i64 7,.string mon',.string ⟨#[]⟩,.int .i64 0,.int .i64 0,.string ⟨#[]⟩,.string ⟨#[]⟩,.int .i64 0,.slice none 0 0,.int .i64 0,.slice (some ⟨u2.heap.size,0,none⟩) 1 1,.int .i64 pos'] 64)):=((HBX.out.1.trans (hB2.mono (by have:=HBX.out;omega))).al (by have:=HBX.out;omega) _).al (by have:=HBX.out;simp <;> omega) _
    have hown4:=owns_below hown hBr
    obtain⟨i0,hi,iz0,iz1,iz2⟩:=info_parts info56
    have hbl:((u2.alloc (.cells #[.slice yad ybody.length ycap] 35)).alloc (.cells #[.int .i64 7,.string mon',.string ⟨#[]⟩,.int .i64 0,.int .i64 0,.string ⟨#[]⟩,.string ⟨#[]⟩,.int .i64 0,.slice none 0 0,.int .i64 0,.slice (some ⟨u2.heap.size,0,none⟩) 1 1,.int .i64 pos'] 64)).heap[u2.heap.size+1]?=some (.cells #[.int .i64 7,.string mon',.string ⟨#[]⟩,.int .i64 0,.int .i64 0,.string ⟨#[]⟩,.string ⟨#[]⟩,.int .i64 0,.slice none 0 0,.int .i64 0,.slice (some ⟨u2.heap.size,0,none⟩) 1 1,.int .i64 pos'] 64 (0,0)):=by
     have:=heapNew (u2.alloc (.cells #[.slice yad ybody.length ycap] 35)) (.cells #[.int .i64 7,.string mon',.string ⟨#[]⟩,.int .i64 0,.int .i64 0,.string ⟨#[]⟩,.string ⟨#[]⟩,.int .i64 0,.slice none 0 0,.int .i64 0,.slice (some ⟨u2.heap.size,0,none⟩) 1 1,.int .i64 pos'] 64)
     rwa [World.size_alloc] at this
    have hbl3:((u2.alloc (.cells #[.slice yad ybody.length ycap] 35)).alloc (.cells #[.int .i64 7,.string mon',.string ⟨#[]⟩,.int .i64 0,.int .i64 0,.string ⟨#[]⟩,.string ⟨#[]⟩,.int .i64 0,.slice none 0 0,.int .i64 0,.slice (some ⟨u2.heap.size,0,none⟩) 1 1,.int .i64 pos'] 64)).heap[u2.heap.size]?=some (.cells #[.slice yad ybody.length ycap] 35 (0,0)):=(Below.heap_alloc _ _ _ (by simp)).trans (heapNew u2 _)
    have hcn:=World.news_of_block hbl
    have HNS:Hid ((St.mk 7 mon' ⟨#[]⟩ 0 zeroEx (some ⟨u2.heap.size,0,none⟩) 1 [.mk yad ycap ybody] pos').Is ((u2.alloc (.cells #[.slice yad ybody.length ycap] 35)).alloc (.cells #[.int .i64 7,.string mon',.string ⟨#[]⟩,.int .i64 0,.int .i64 0,.string ⟨#[]⟩,.string ⟨#[]⟩,.int .i64 0,.slice none 0 0,.int .i64 0,.slice (some ⟨u2.heap.size,0,none⟩) 1 1,.int .i64 pos'] 64)).heap.size (only (bt n₀ W1.heap.size (.slice none 0 0)) ((u2.alloc (.cells #[.slice yad ybody.length ycap] 35)).alloc (.cells #[.int .i64 7,.string mon',.string ⟨#[]⟩,.int .i64 0,.int .i64 0,.string ⟨#[]⟩,.string ⟨#[]⟩,.int .i64 0,.slice none 0 0,.int .i64 0,.slice (some ⟨u2.heap.size,0,none⟩) 1 1,.int .i64 pos'] 64)))):=by
     refine St.Is.up ⟨⟨⟨by decide,by decide⟩,⟨by decide,by decide⟩,hI5.2.2.1,hI5.2.2.2.1,by unfold Len;decide⟩,zeroEx_is _ _,⟨by simp,by unfold maxLen;omega,.inr ⟨u2.heap.size,0,rfl,by simp <;> omega,fun j hj i hi=>?_⟩⟩,fun x hx=>?_⟩
     ·obtain rfl:j=0:=by simp at hj;omega
      obtain rfl:i=0:=by omega
      refine (only_cell _ _ _ _).2 ⟨bt_iff.2 (.inr ⟨by show W1.heap.size≤u2.heap.size;omega,by simp[Value.ownBlock]⟩),?_⟩
      show ((u2.alloc (.cells #[.slice yad ybody.length ycap] 35)).alloc (.cells #[.int .i64 7,.string mon',.string ⟨#[]⟩,.int .i64 0,.int .i64 0,.string ⟨#[]⟩,.string ⟨#[]⟩,.int .i64 0,.slice none 0 0,.int .i64 0,.slice (some ⟨u2.heap.size,0,none⟩) 1 1,.int .i64 pos'] 64)).cell? ⟨u2.heap.size,0+0*1+0,none⟩=_
      rw[cellOf hbl3];rfl
     ·obtain rfl:=List.mem_singleton.1 hx
      refine hyI.imp (only_imp fun k hk hq=>⟨?_,?_⟩) (by simp;omega)
      ·rcases bt_iff.1 hq with h|h
       ·exact bt_iff.2 (.inl h)
       ·exact bt_iff.2 (.inr ⟨by have:=h.1;omega,by simp[Value.ownBlock]⟩)
      ·exact (Below.heap_alloc _ _ _ (by simp;omega)).trans (Below.heap_alloc _ _ _ hk)
    have HCL2:Hid ((l'++[St.mk 7 mon' ⟨#[]⟩ 0 zeroEx (some ⟨u2.heap.size,0,none⟩) 1 [.mk yad ycap ybody] pos']).map St.clr=(body.take (j+1)).map f):=by
     show _=_
     have:(gb.inl (inlR p M))=.mk none 0 (gb.inl (inlR p M)).body:=by rcases gb with ⟨g1,g2,g3⟩;rw[Bl.inl_mk];rfl
     rw[HTK.out,List.map_append,HCL.out,List.map_cons,List.map_nil,HST.out,St.clr_mk,List.map_cons,List.map_nil,Bl.clr_mk,hyc,← this]
    clear hbl3 hlook hgI hrec hlk hq hB2 bX bX2 HST hyI hyc x0 x1 x2 x3 x4 x5 x6 x7 x8 x9 x10 x11 HTK
    go_wp2_with (at_builtin;refine wpList_append_lies _ rfl _ _ 35 rfl w.heap.size 64 i0 _ 12 160 Tryz.underlying35 hi iz0 iz1 iz2 rfl (by decide) _ _ _ rfl hown4 ⟨u2.heap.size+1,0,none⟩ 1 1 (#[.int .i64 7,.string mon',.string ⟨#[]⟩,.int .i64 0,.int .i64 0,.string ⟨#[]⟩,.string ⟨#[]⟩,.int .i64 0,.slice none 0 0,.int .i64 0,.slice (some ⟨u2.heap.size,0,none⟩) 1 1,.int .i64 pos']:Array Value).toList rfl rfl hcn (by simp[Value.oneCell']) (by omega) (by unfold maxLen;have:=HLL.out;omega) (by have:=HLL.out;omega) (by simp;omega) _ rfl ?_;intro g gcp w1 hown' hgrow hat hltg)
    have hat2:u5.ownBlock=some g∨wr.heap.size≤g:=by
     rcases hat with h|h
     ·exact .inl h
     ·right;simp at h;have:=HBX.out;omega
    have hat3:u5.ownBlock=some g∨((u2.alloc (.cells #[.slice yad ybody.length ycap] 35)).alloc (.cells #[.int .i64 7,.string mon',.string ⟨#[]⟩,.int .i64 0,.int .i64 0,.string ⟨#[]⟩,.string ⟨#[]⟩,.int .i64 0,.slice none 0 0,.int .i64 0,.slice (some ⟨u2.heap.size,0,none⟩) 1 1,.int .i64 pos'] 64)).heap.size≤g:=by
     rcases hat with h|h
     ·exact .inl h
     ·right;simp at h ⊢;omega
    have HALL:Hid (∀ s∈l'++[St.mk 7 mon' ⟨#[]⟩ 0 zeroEx (some ⟨u2.heap.size,0,none⟩) 1 [.mk yad ycap ybody] pos'],s.Is w1.heap.size (only (bt n₀ w.heap.size (.slice (some ⟨g,0,none⟩) (l'.length+1) gcp)) w1)):=by
     intro s hs
     have hsz:=hgrow.size
     have hsz2:=hBr.size
     rcases List.mem_append.1 hs with hs|hs
     ·exact (hIs s hs).imp (only_imp (row_step hn hown hBr hgrow hat2)) (by omega)
     ·rw[List.mem_singleton.1 hs]
      exact HNS.out.imp (only_imp (new_step hn hown hz1 (by have:=HBX.out;omega) (Nat.le_refl _) (fun _ _ _=>rfl) hgrow hat3)) hsz
    have HBF:Hid (Below w.heap.size w w1):=by
     refine Below.grown (hbw.trans (hBr.mono hz1)) hgrow (by have:=hBr.size;omega) (fun k e=>?_)
     exact (own_lt hown e).1
    have HOW:Hid (w1.ownsRow w.heap.size 64 12 (.slice (some ⟨g,0,none⟩) (l'.length+1) gcp) (l'++[St.mk 7 mon' ⟨#[]⟩ 0 zeroEx (some ⟨u2.heap.size,0,none⟩) 1 [.mk yad ycap ybody] pos']).length ((l'++[St.mk 7 mon' ⟨#[]⟩ 0 zeroEx (some ⟨u2.heap.size,0,none⟩) 1 [.mk yad ycap ybody] pos']).flatMap St.cells)):=by
     have h1:(l'++[St.mk 7 mon' ⟨#[]⟩ 0 zeroEx (some ⟨u2.heap.size,0,none⟩) 1 [.mk yad ycap ybody] pos']).flatMap St.cells=l'.flatMap St.cells++(#[.int .i64 7,.string mon',.string ⟨#[]⟩,.int .i64 0,.int .i64 0,.string ⟨#[]⟩,.string ⟨#[]⟩,.int .i64 0,.slice none 0 0,.int .i64 0,.slice (some ⟨u2.heap.size,0,none⟩) 1 1,.int .i64 pos']:Array Value).toList:=by rw[List.flatMap_append];rfl
     rw[h1,List.length_append]
     exact hown'
    clear hat hat2 hat3 hgrow hown' hBr HNS hown4 hbl hcn
    go_roundw
    case rel=>exact⟨j+1,_,by omega,by go_num,HOW.out,HCL2,HALL.out,HBF.out⟩
    case measure=>simp[intOf];omega
  ·have hjd:decide ((j:Int)<(body.length:Int))=false:=by simp;omega
   have HE:Hid (l'.map St.clr=body.map f):=by
    show _=_
    rw[HCL.out,List.take_of_length_le (by omega)]
   obtain⟨rad,rcp,rfl,hrs⟩:=SlAt.own St.len hown
   have HY:Hid ((Bl.mk rad rcp l').Is wr.heap.size (only (bt n₀ w.heap.size (.slice none 0 0)) wr)):=by
    refine Bl.Is.up ⟨hrs _ (fun k hk _=>bt_iff.2 (.inr ⟨hk,by simp[Value.ownBlock]⟩)),fun s hs=>?_⟩
    exact (hIs s hs).imp (only_imp fun k _ hq=>⟨bt_nil k hq,rfl⟩) (Nat.le_refl _)
   clear hIs hrs hown HCL
   go_wp2
   go_ret
   exact⟨rad,rcp,l',rfl,HY.out,HE.out,hbw⟩
theorem inline_any {p:Pr} {D:Ref→Prop} {rk:Ref→Nat} (hF:Fine p) (hV:∀ r,D r→VLen r) (hD:∀ r,D r→∀ x∈leadsOf p r,D x∧rk x<rk r) (N:Nat):∀ x,InlBl p D rk N x:=by
 induction N with
 | zero =>
  intro x
  exact Bl.ind (P:=fun s=>∀ x∈s.blocks,InlBl p D rk 0 x) (Q:=fun x=>InlBl p D rk 0 x) (fun _ _ _ _ _ _ _ _ _ ih x hx=>ih x hx) (fun ad cap body ih=>inline_step hF hV hD (fun M h=>by omega) ad cap body ih) x
 | succ N ihN =>
  intro x
  have h1:∀ M,N+1=M+1→∀ x,InlBl p D rk M x:=by
   intro M h
   have h2:N=M:=by omega
   subst h2
   exact ihN
  exact Bl.ind (P:=fun s=>∀ x∈s.blocks,InlBl p D rk (N+1) x) (Q:=fun x=>InlBl p D rk (N+1) x) (fun _ _ _ _ _ _ _ _ _ ih x hx=>ih x hx) (fun ad cap body ih=>inline_step hF hV hD h1 ad cap body ih) x
open Go.RowKit
theorem dfs_mono2 (G:Ref→List Ref) (n:Nat):∀ (st:List Ref × List Ref) (r:Ref),∀ x∈st.2,x∈(dfs G n st r).2:=by
 induction n with
 | zero=>intro st r x hx;exact hx
 | succ n ih =>
  rintro⟨S,A⟩ r x hx
  by_cases h:r∈S
  ·rw[dfs_seen h];exact hx
  ·rw[dfs_new h]
   exact List.mem_append.2 (.inl (fold_mono (R:=fun (a b:List Ref × List Ref)=>∀ x∈a.2,x∈b.2) (fun _ _ h=>h) (fun _ _ _ h1 h2 x hx=>h2 x (h1 x hx)) (dfs G n) (fun a b=>ih a b) (G r) (S++[r],A) x hx))
theorem fold_dfs_mono2 (G:Ref→List Ref) (n:Nat) (l:List Ref) (st:List Ref × List Ref):∀ x∈st.2,x∈(l.foldl (dfs G n) st).2:=
 fold_mono (R:=fun (a b:List Ref × List Ref)=>∀ x∈a.2,x∈b.2) (fun _ _ h=>h) (fun _ _ _ h1 h2 x hx=>h2 x (h1 x hx)) (dfs G n) (fun a b=>dfs_mono2 G n a b) l st
theorem dfs_done {G:Ref→List Ref} {U:List Ref} (hU:∀ r∈U,∀ x∈G r,x∈U) (n:Nat):∀ (st:List Ref × List Ref) (r:Ref),r∈U→left U st.1≤n→r∈(dfs G n st r).1∧∀ x∈(dfs G n st r).1,x∈st.1∨x∈(dfs G n st r).2:=by
 induction n with
 | zero =>
  intro st r hr hl
  have hm:r∈st.1:=by
   by_cases hm:r∈st.1
   ·exact hm
   ·have:=left_snoc hr hm;omega
  exact⟨hm,fun x hx=>.inl hx⟩
 | succ n ih =>
  rintro⟨S,A⟩ r hr hl
  by_cases hm:r∈S
  ·rw[dfs_seen hm];exact⟨hm,fun x hx=>.inl hx⟩
  ·rw[dfs_new hm]
   have hl2:=left_snoc hr hm
   have hf:∀ (l:List Ref),(∀ x∈l,x∈U)→∀ st:List Ref × List Ref,left U st.1≤n→∀ x∈(l.foldl (dfs G n) st).1,x∈st.1∨x∈(l.foldl (dfs G n) st).2:=by
    intro l
    induction l with
    | nil=>intro _ st _ x hx;exact .inl hx
    | cons y l ihl =>
     intro hl st hs x hx
     have h1:=ih st y (hl y (by simp)) hs
     have h2:=left_mono (U:=U) (dfs_mono G n st y)
     rcases ihl (fun z hz=>hl z (by simp[hz])) _ (by omega) x hx with h|h
     ·rcases h1.2 x h with h|h
      ·exact .inl h
      ·exact .inr (fold_dfs_mono2 G n l _ x h)
     ·exact .inr h
   refine⟨fold_dfs_mono G n (G r) (S++[r],A) r (by simp),fun x hx=>?_⟩
   rcases hf (G r) (hU r hr) (S++[r],A) (by show left U (S++[r])≤n;simp only at hl;omega) x hx with h|h
   ·rcases List.mem_append.1 h with h|h
    ·exact .inl h
    ·exact .inr (List.mem_append.2 (.inr h))
   ·exact .inr (List.mem_append.2 (.inl h))
theorem reached_has (p:Pr) (l:List Ref):∀ r∈l,r∈reachedOf p l:=by
 have hU:=closedU p l
 have key:∀ (m:List Ref),(∀ x∈m,x∈l++allRefs p)→∀ st:List Ref × List Ref,left (l++allRefs p) st.1≤l.length+(allRefs p).length→(∀ x∈st.1,x∈st.2)→(∀ x∈(m.foldl (dfs (leadsOf p) (l.length+(allRefs p).length)) st).1,x∈(m.foldl (dfs (leadsOf p) (l.length+(allRefs p).length)) st).2)∧∀ x∈m,x∈(m.foldl (dfs (leadsOf p) (l.length+(allRefs p).length)) st).1:=by
  intro m
  induction m with
  | nil=>intro _ st _ h;exact⟨h,fun x hx=>by cases hx⟩
  | cons y m ih =>
   intro hm st hs h
   have h1:=dfs_done hU _ st y (hm y (by simp)) hs
   have h2:=left_mono (U:=l++allRefs p) (dfs_mono (leadsOf p) (l.length+(allRefs p).length) st y)
   obtain⟨h3,h4⟩:=ih (fun x hx=>hm x (by simp[hx])) (dfs (leadsOf p) (l.length+(allRefs p).length) st y) (by omega) (fun x hx=>by
    rcases h1.2 x hx with h5|h5
    ·exact dfs_mono2 _ _ _ _ x (h x h5)
    ·exact h5)
   refine⟨h3,fun x hx=>?_⟩
   rcases List.mem_cons.1 hx with rfl|hx
   ·exact fold_dfs_mono _ _ m _ x h1.1
   ·exact h4 x hx
 have h2:left (l++allRefs p) []≤l.length+(allRefs p).length:=Nat.le_trans (List.length_filter_le _ _) (by simp)
 obtain⟨h3,h4⟩:=key l (fun x hx=>List.mem_append.2 (.inl hx)) ([],[]) h2 (fun x hx=>by cases hx)
 exact fun r hr=>h3 r (h4 r hr)
theorem szGet_mem {Z:List (Ref × Nat)} {r:Ref} (h:szGet Z r≠0):r∈Z.map Prod.fst:=by
 unfold szGet at h
 cases hf:Z.find? (fun x=>decide (x.1=r)) with
 | none=>rw[hf] at h;simp at h
 | some x=>exact List.mem_map.2 ⟨x,List.mem_of_find?_eq_some hf,by simpa using List.find?_some hf⟩
theorem szGet_app {Z E:List (Ref × Nat)} {r:Ref} (h:r∈Z.map Prod.fst):szGet (Z++E) r=szGet Z r:=by
 unfold szGet
 rw[List.find?_append]
 cases hf:Z.find? (fun x=>decide (x.1=r)) with
 | none =>
  obtain⟨x,hx,he⟩:=List.mem_map.1 h
  exact absurd (List.find?_eq_none.1 hf x hx) (by simp[he])
 | some x=>rfl
theorem szGet_new {Z E:List (Ref × Nat)} {r:Ref} {v:Nat} (h:r ∉ Z.map Prod.fst):szGet (Z++[(r,v)]++E) r=v:=by
 unfold szGet
 rw[List.append_assoc,List.find?_append,List.find?_eq_none.2 (fun x hx=>by
  have:x.1≠r:=fun e=>h (List.mem_map.2 ⟨x,hx,e⟩)
  simpa using this)]
 simp
theorem sumOf_congr {Z Z':List (Ref × Nat)} {l:List St} (h:∀ s∈l,s.kind=8→szGet Z s.ref=szGet Z' s.ref):sumOf Z l=sumOf Z' l:=by
 induction l with
 | nil=>rfl
 | cons s l ih =>
  have h1:sown Z s=sown Z' s:=by
   unfold sown
   split
   ·rename_i hk;exact h s (by simp) hk
   ·rfl
  have h2:=ih (fun t ht=>h t (by simp[ht]))
  simp only[sumOf,List.map_cons,List.sum_cons] at h2 ⊢
  rw[h1,h2]
theorem sizesF_some {body:Ref→Bl}:∀ (R:List Ref) (Z Z':List (Ref × Nat)),sizesF (fun r=>callsOf (body r)) body R Z=some Z'→(Z.map Prod.fst++R).Nodup →
  (∃ E,Z'=Z++E)∧Z'.map Prod.fst=Z.map Prod.fst++R∧(∀ (i:Nat) (h:i<R.length),∀ y∈callsOf (body R[i]),y∈Z.map Prod.fst++R.take i)∧∀ r∈R,szGet Z' r=1+min 401 (tot Z' (body r)):=by
 intro R
 induction R with
 | nil =>
  intro Z Z' h hn
  have h:some Z=some Z':=h
  obtain rfl:=Option.some.inj h
  exact⟨⟨[],by simp⟩,by simp,fun i h=>by simp at h,fun r hr=>by cases hr⟩
 | cons r R ih =>
  intro Z Z' h hn
  rw[sizesF] at h
  split at h
  ·cases h
  ·rename_i hz
   have hk:∀ y∈callsOf (body r),y∈Z.map Prod.fst:=fun y hy=>szGet_mem (fun h0=>hz ⟨y,hy,h0⟩)
   have hn2:((Z++[(r,1+min 401 (tot Z (body r)))]).map Prod.fst++R).Nodup:=by simpa using hn
   obtain⟨⟨E,hE⟩,g2,g3,g4⟩:=ih _ _ h hn2
   have hrn:r ∉ Z.map Prod.fst:=by
    intro hm
    exact (List.nodup_append.1 hn).2.2 r hm r (by simp) rfl
   refine⟨⟨[(r,1+min 401 (tot Z (body r)))]++E,by rw[hE,List.append_assoc]⟩,by rw[g2];simp,fun i hi y hy=>?_,fun s hs=>?_⟩
   ·cases i with
    | zero=>exact List.mem_append.2 (.inl (hk y hy))
    | succ i =>
     have:=g3 i (by simpa using hi) y hy
     simpa[or_assoc] using this
   ·rcases List.mem_cons.1 hs with rfl|hs
    ·rw[hE,szGet_new hrn]
     congr 2
     unfold tot
     refine sumOf_congr fun t ht hk8=>?_
     have:=hk t.ref ((callsOf_mem _ _).2 ⟨t,ht,hk8,rfl⟩)
     rw[List.append_assoc,szGet_app this]
    ·exact g4 s hs
def rkOf (R:List Ref) (r:Ref):Nat:=R.findIdx fun y=>decide (y=r)
theorem rkOf_lt {R:List Ref} {r:Ref} (h:r∈R):rkOf R r<R.length:=List.findIdx_lt_length_of_exists ⟨r,h,by simp⟩
theorem rkOf_at {R:List Ref} (hn:R.Nodup) {i:Nat} (h:i<R.length):rkOf R R[i]=i:=by
 have h1:rkOf R R[i]<R.length:=rkOf_lt (List.getElem_mem h)
 have h2:R[rkOf R R[i]]=R[i]:=by
  have:=List.findIdx_getElem (xs:=R) (p:=fun y=>decide (y=R[i])) (w:=h1)
  exact of_decide_eq_true this
 rcases Nat.lt_trichotomy (rkOf R R[i]) i with h3|h3|h3
 ·exact absurd h2 ((List.pairwise_iff_getElem.1 hn) _ _ h1 h h3)
 ·exact h3
 ·exact absurd h2.symm ((List.pairwise_iff_getElem.1 hn) _ _ h h1 h3)
structure Good (p:Pr) (x:Bl) (R:List Ref) (Z:List (Ref × Nat)):Prop where
 root:∀ r∈callsOf x,r∈R
 nodup:R.Nodup
 leads:∀ r∈R,∀ y∈leadsOf p r,y∈R∧rkOf R y<rkOf R r
 size:∀ r∈R,szGet Z r=1+min 401 (tot Z (bodyOf p r))
 known:∀ r∈R,methIx p.mons r.1 r.2≠none
theorem good_of {p:Pr} {x:Bl} {n:Nat} (h:cntOf p x=(n,0)):∃ Z,Good p x (reachedOf p (callsOf x)) Z∧tot Z x=n∧n≤400:=by
 rw[cntOf_eq] at h
 split at h
 ·cases h
 ·rename_i hk
  cases hz:sizesF (leadsOf p) (bodyOf p) (reachedOf p (callsOf x)) [] with
  | none=>rw[hz] at h;cases h
  | some Z =>
   rw[hz] at h
   simp only[cntRes] at h
   split at h
   ·cases h
   ·rename_i hb
    have h1:min 401 (tot Z x)=n:=congrArg Prod.fst h
    have hnd:=reached_nodup p (callsOf x)
    obtain⟨-,g2,g3,g4⟩:=sizesF_some (body:=bodyOf p) _ _ _ hz (by simpa using hnd)
    refine⟨Z,⟨reached_has p _,hnd,fun r hr y hy=>?_,g4,fun r hr hn=>hk ⟨r,hr,hn⟩⟩,by omega,by omega⟩
    obtain⟨i,hi,rfl⟩:=List.getElem_of_mem hr
    have h2:=g3 i hi y hy
    simp only[List.map_nil,List.nil_append] at h2
    obtain⟨k,hk2,rfl⟩:=List.getElem_of_mem h2
    rw[List.length_take] at hk2
    rw[List.getElem_take]
    exact⟨List.getElem_mem _,by rw[rkOf_at hnd,rkOf_at hnd hi];omega⟩
def InlineBack (p:Pr) (x:Bl) (w w':World) (r:Ending):Prop:=
 (((countOf p x).2≠0∧r=.returned (.tuple #[.slice none 0 0,.int .i64 (countOf p x).2]))∨((countOf p x).2=0∧∃ ad cap body,r=.returned (.tuple #[.slice ad body.length cap,.int .i64 0])∧(Bl.mk ad cap body).Is w'.heap.size w'∧(Bl.mk ad cap body).clr=x.inl (inlR p (reachedOf p (callsOf x)).length)))∧Below w.heap.size w w'
set_option maxRecDepth 100000 in
set_option maxHeartbeats 8000000 in
theorem Inline_any (p:Pr) (x:Bl) (n₀:Nat) (w:World) (hn:n₀≤w.heap.size) (hp:p.Is n₀ w) (hx:x.Is n₀ w) (hS:Shapes w) (hS3:3≤w.heap.size) (hF:Fine0 p) (hX:x.subs.length≤400000) :
  Calls Tryz.prog 13 #[p.val,x.slice] w fun r w'=>InlineBack p x w w' r:=by
 have hc1:=fun (W:World) (hW:Below w.heap.size w W)=>isShaped_any p x n₀ W (by have:=hW.size;omega) (hp.below (hW.mono hn)) (hx.below (hW.mono hn)) (hS.below hW hS3) (by have:=hW.size;omega)
 have hc2:=fun (W:World) (hW:Below w.heap.size w W)=>newBook_any p n₀ W (by have:=hW.size;omega) (hp.below (hW.mono hn)) hF.subs hF.lens
 have hc3:=fun (hk:(p.ok&&x.okB)=true) (b:Nat) (W:World) (hW:Below w.heap.size w W) (hB:Book W W.heap.size b p)=>count_any p x W.heap.size b W (Nat.le_refl _) hB ((hx.below (hW.mono hn)).mono (by have:=hW.size;omega)) (vlen_all hp) (hF.fine (Bool.and_eq_true_iff.1 hk).1) ⟨hX,okB_blocks (Bool.and_eq_true_iff.1 hk).2⟩
 have hc4:(p.ok&&x.okB)=true→(cntOf p x).2=0→∀ (b n:Nat) (W:World),Below w.heap.size w W→n≤W.heap.size→w.heap.size≤n→Book W n b p→Calls Tryz.prog 33 #[.map (some b),x.slice] W fun r w'=>InBack n (x.inl (inlR p (reachedOf p (callsOf x)).length)) W w' r:=by
  intro hk h0 b n W hW hnW hwn hB
  obtain⟨Z,hg,-,-⟩:=good_of (n:=(cntOf p x).1) (by rw[← h0])
  have hVx:=vlen_calls hx
  have hVa:=vlen_all hp
  refine inline_any (D:=fun r=>r∈reachedOf p (callsOf x)) (rk:=rkOf (reachedOf p (callsOf x))) (hF.fine (Bool.and_eq_true_iff.1 hk).1) (fun r hr=>?_) hg.leads _ x n b W hnW hB ((hx.below (hW.mono hn)).mono (by omega)) ⟨by omega,okB_blocks (Bool.and_eq_true_iff.1 hk).2⟩ (fun r hr=>⟨hg.root r hr,rkOf_lt (hg.root r hr)⟩)
  rcases List.mem_append.1 (reached_sub p _ r hr) with h|h
  ·exact hVx r h
  ·exact hVa r h
 have HC:=hid (show countOf p x=if (p.ok&&x.okB)=true then cntOf p x else (0,20) from rfl)
 obtain⟨q,hq⟩:∃ q,cntOf p x=q:=⟨_,rfl⟩
 obtain⟨k,hk⟩:∃ k,(p.ok&&x.okB)=k:=⟨_,rfl⟩
 rw[hq,hk] at HC
 simp only[hq] at hc3
 rw[hq] at hc4
 rw[hk] at hc3 hc4
 simp only[hk] at hc1
 obtain⟨X,hX0⟩:∃ X,x.inl (inlR p (reachedOf p (callsOf x)).length)=X:=⟨_,rfl⟩
 rw[hX0] at hc4
 have HX:Hid (X=.mk none 0 X.body):=by
  show _=_
  rw[← hX0];rcases x with ⟨a,c,d⟩;rw[Bl.inl_mk];rfl
 show Calls Tryz.prog 13 _ w fun r w'=>(((countOf p x).2≠0∧_)∨((countOf p x).2=0∧∃ ad cap body,_∧_∧_=x.inl (inlR p (reachedOf p (callsOf x)).length)))∧_
 rw[hX0]
 obtain⟨c,hc⟩:∃ c,countOf p x=c:=⟨_,rfl⟩
 rw[hc] at HC ⊢
 clear hq hk hc hX0
 rcases p with ⟨mad,mcap,mons,rad,rcap,roles⟩
 rcases x with ⟨ad,cap,body⟩
 simp only[Pr.val,Bl.slice] at hc1 hc2 hc3 hc4 ⊢
 have hB:=(Below.refl w.heap.size w).al le_rfl' (.cells #[.slice mad mons.length mcap,.slice rad roles.length rcap] 25)
 have b1:=heapNew w (.cells #[.slice mad mons.length mcap,.slice rad roles.length rcap] 25)
 cases k
 ·simp only[Bool.false_eq_true,if_false] at HC
  go_enter Tryz.func13,Tryz.ntmps13
  go_wp2_with (go_at_call 27;(with_reducible refine (hc1 _ hB).mono ?_);rintro r u1 ⟨rfl,bb1⟩)
  go_ret2
  exact⟨.inl ⟨by rw[HC.out];decide,by rw[HC.out];rfl⟩,hB.tr le_rfl' bb1⟩
 ·simp only[if_true] at HC
  replace hc3:=hc3 rfl
  replace hc4:=hc4 rfl
  obtain⟨qn,qe⟩:=q
  simp only[CntBack] at hc3
  go_enter Tryz.func13,Tryz.ntmps13
  go_upto_region 3 with (go_at_call 27;(with_reducible refine (hc1 _ hB).mono ?_);rintro r u1 ⟨rfl,bb1⟩)
  have hB1:=hB.tr le_rfl' bb1
  have b2:=(bb1.block w.heap.size (by simp)).trans b1
  have p0:=cellOf b2 0
  have p1:=cellOf b2 1
  simp at p0 p1
  cases hqe:(qe != 0:Bool)
  ·have hq0:qe=0:=by simpa using hqe
   subst hq0
   have hc5:=hc4 rfl
   go_wp2_with (first
    | (go_at_call 21;(with_reducible refine (hc2 _ hB1).mono ?_);rintro r u2 ⟨b,rfl,hbk,bb2⟩)
    | (go_at_call 23;(with_reducible refine (hc3 _ _ (hB1.tr le_rfl' bb2) hbk).mono ?_);rintro r u3 ⟨rfl,bb3⟩)
    | (go_at_call 33;(with_reducible refine (hc5 b u2.heap.size _ ((hB1.tr le_rfl' bb2).tr le_rfl' bb3) bb3.size (hB1.tr le_rfl' bb2).size (hbk.below bb3)).mono ?_);rintro r u4 ⟨yad,ycap,ybody,rfl,hyI,hyc,bb4⟩))
   go_ret2
   refine⟨.inr ⟨by rw[HC.out],yad,ycap,ybody,rfl,hyI.imp only_open (Nat.le_refl _),?_⟩,((hB1.tr le_rfl' bb2).tr le_rfl' bb3).tr le_rfl' bb4⟩
   rw[Bl.clr_mk,hyc,← HX.out]
  ·have hqn:¬ qe=0:=by simpa using hqe
   go_wp2_with (first
    | (go_at_call 21;(with_reducible refine (hc2 _ hB1).mono ?_);rintro r u2 ⟨b,rfl,hbk,bb2⟩)
    | (go_at_call 23;(with_reducible refine (hc3 _ _ (hB1.tr le_rfl' bb2) hbk).mono ?_);rintro r u3 ⟨rfl,bb3⟩))
   go_ret2
   exact⟨.inl ⟨by rw[HC.out];exact hqn,by rw[HC.out];rfl⟩,(hB1.tr le_rfl' bb2).tr le_rfl' bb3⟩
end Go.Proofs.YtpbjikncobnkjaaGreatDoor
