/-
  Own texts joined by program: IlA.
-/
import Derived.Test.YtpbjikncobnkjaaGreatDoorIbg
import Derived.Test.YtpbjikncobnkjaaGreatDoorIbo
import Derived.Test.YtpbjikncobnkjaaGreatDoorIbp
namespace Go.Proofs.YtpbjikncobnkjaaGreatDoor
open Go.RowKit
theorem sum_memM {α:Type} (f:α→Nat) {l:List α} {x:α} (h:x∈l):f x≤(l.map f).sum:=by
 obtain⟨a,b,rfl⟩:=List.append_of_mem h
 simp
 omega
theorem len_sum (l:List Bl):l.length≤(l.map Bl.co1).sum:=by
 induction l with
 | nil=>simp
 | cons b l ih =>
  rw[List.length_cons,List.map_cons,List.sum_cons]
  unfold Bl.co1 at ih ⊢
  omega
theorem cost_blk (x:Bl):∀ s∈x.subs,s.blocks.length≤x.cost:=
 Bl.ind (P:=fun s=>∀ t∈s.subs,t.blocks.length≤s.cost) (Q:=fun b=>∀ t∈b.subs,t.blocks.length≤b.cost) (fun kind mon name n e ad cap blocks pos ih t ht=>by
  rw[St.cost_mk]
  rw[St.subs_mk] at ht
  rcases List.mem_cons.1 ht with rfl|ht
  ·show blocks.length≤_
   have:=len_sum blocks
   omega
  ·obtain⟨b,hb,ht⟩:=List.mem_flatMap.1 ht
   have h1:=ih b hb t ht
   have h2:=sum_memM Bl.co1 hb
   unfold Bl.co1 at h2
   unfold Bl.co1
   omega)
  (fun ad cap body ih t ht=>by
   rw[Bl.cost_mk]
   rw[Bl.subs_mk] at ht
   obtain⟨s,hs,ht⟩:=List.mem_flatMap.1 ht
   exact Nat.le_trans (ih s hs t ht) (sum_memM St.cost hs)) x
theorem cost_subs (x:Bl):x.subs.length≤x.cost:=by
 have h1:=len_le_sz x.subs
 have h2:=sz_cost x
 unfold Bl.sz at h2
 omega
theorem fine_cost {p:Pr} (hc:(p.mons.map Mo.mco).sum+(p.roles.map Ro.bco).sum≤300):Fine p:=by
 have h0:=fine_small (p:=p) (Nat.le_trans (size_cost p) (by omega))
 refine⟨h0.subs,h0.lens,fun m hm f hf s hs=>?_,h0.refs,h0.lds⟩
 have h1:=cost_blk f.body s hs
 have h2:=sum_memM Mo.mco hm
 have h3:=sum_memM Me.bco hf
 have h4:m.mco=(m.meths.map Me.bco).sum:=rfl
 have h5:f.bco=f.body.cost:=rfl
 omega
set_option exponentiation.threshold 500 in
theorem top300:401*300+topV 300*99≤4611686018427387904:=by
 unfold topV
 decide
theorem cvAll_small2 {p:Pr} {x:Bl} (hok:p.ok=true) (hx:x.okB=true) (hc:(p.mons.map Mo.mco).sum≤300) (hxc:x.cost≤300)
  (hk:∀ r∈reachedOf p (callsOf x),methIx p.mons r.1 r.2≠none) (hg:∀ r∈reachedOf p (callsOf x),¬ Round p r):cvAll p x≤4611686018427387904:=by
 rcases cnt_cases p x with ⟨⟨r,h1,h3⟩,-⟩|⟨-,⟨r,h1,h3⟩,-⟩|⟨-,-,Z,h3,-⟩
 ·exact absurd h3 (hk r h1)
 ·exact absurd h3 (hg r h1)
 ·have hb:=okB_iff.1 hx
  have h6:preC p (reachedOf p (callsOf x)) (reachedOf p (callsOf x)).length≤300:=by
   refine Nat.le_trans ?_ hc
   rw[← allCo_sum]
   unfold preC
   rw[List.take_length]
   exact sum_sub (rco p) h3.nodup (fun r hr=>rco_mem (hk r hr))
  obtain⟨nb,k,g1,g2,-,g4⟩:=cv_bound (f:=cvR p (reachedOf p (callsOf x)).length) (M:=topV 300) x (fun s hs hk8=>⟨call_blocks (hb s hs) hk8,by
   have h5:=h3.root s.ref ((callsOf_mem _ _).2 ⟨s,hs,hk8,rfl⟩)
   exact ((cvR_lim h3 hok _ s.ref h5 (rkOf_lt h5)).mono (Nat.le_trans (preC_mono p _ (rkOf_lt h5)) h6)).top⟩)
  have g5:k≤99:=by omega
  have g6:topV 300*k≤topV 300*99:=Nat.mul_le_mul_left _ g5
  have g7:401*nb≤401*300:=Nat.mul_le_mul_left _ (by omega)
  have g8:=top300
  unfold cvAll
  omega
theorem docCount_small (p:Pr) (x:Bl) (n₀:Nat) (w:World) (hn:n₀≤w.heap.size) (hp:p.Is n₀ w) (hx:x.Is n₀ w) (hc:(p.mons.map Mo.mco).sum+(p.roles.map Ro.bco).sum≤300) (hxc:x.cost≤300) :
  Calls Tryz.prog 12 #[p.val,x.slice] w fun r w'=>CntBack (countOf p x) w w' r:=by
 have h1:=count_doc2 p (fine_cost hc) x n₀ w hn hp hx (by have:=cost_subs x;omega) p.ok x.ok (fun a b hk hg=>cvAll_small2 a b (by omega) hxc hk hg) (fun V hV=>refIs_any n₀ p V (by have:=hV.size;omega) (hp.below (hV.mono hn))) (fun V hV=>refIsStmts_any n₀ x V (by have:=hV.size;omega) (hx.below (hV.mono hn)))
 have e:(if p.ok=true∧x.ok=true then cntOf p x else (0,20))=countOf p x:=by
  unfold countOf
  have:x.ok=x.okB:=rfl
  rw[this]
  by_cases a:p.ok=true <;> by_cases b:x.okB=true <;> simp[a,b]
 rw[e] at h1
 exact h1
set_option maxRecDepth 100000 in
set_option maxHeartbeats 4000000 in
theorem docInline_small (p:Pr) (x:Bl) (n₀:Nat) (w:World) (hn:n₀≤w.heap.size) (hp:p.Is n₀ w) (hx:x.Is n₀ w) (hc:(p.mons.map Mo.mco).sum+(p.roles.map Ro.bco).sum≤300) (hxc:x.cost≤300) :
  Calls Tryz.prog 14 #[p.val,x.slice] w fun r w'=>InlineBack p x w w' r:=by
 have hc1:=fun (W:World) (hW:Below w.heap.size w W)=>docCount_small p x n₀ W (by have:=hW.size;omega) (hp.below (hW.mono hn)) (hx.below (hW.mono hn)) hc hxc
 have hc4:(countOf p x).2=0→∀ (W:World),Below w.heap.size w W→Calls Tryz.prog 34 #[p.val,x.slice] W fun r w'=>InBack n₀ (x.inl (inlR p (reachedOf p (callsOf x)).length)) W w' r:=by
  intro h0 W hW
  have h1:p.ok=true∧x.okB=true∧cntOf p x=((countOf p x).1,0):=countOf_ok (e:=(countOf p x).2) rfl h0
  obtain⟨Z,hg,-,-⟩:=good_of h1.2.2
  have hcs:=cost_subs x
  exact put_any (D:=fun r=>r∈reachedOf p (callsOf x)) (rk:=rkOf (reachedOf p (callsOf x))) (fine_cost hc) hg.leads _ x n₀ W (by have:=hW.size;omega) (hp.below (hW.mono hn)) (hx.below (hW.mono hn)) ⟨by omega,fun s hs=>by have:=cost_blk x s hs;omega⟩ (fun r hr=>⟨hg.root r hr,rkOf_lt (hg.root r hr)⟩)
 obtain⟨X,hX0⟩:∃ X,x.inl (inlR p (reachedOf p (callsOf x)).length)=X:=⟨_,rfl⟩
 rw[hX0] at hc4
 have HX:Hid (X=.mk none 0 X.body):=by
  show _=_
  rw[← hX0];rcases x with ⟨a,c,d⟩;rw[Bl.inl_mk];rfl
 show Calls Tryz.prog 14 _ w fun r w'=>(((countOf p x).2≠0∧_)∨((countOf p x).2=0∧∃ ad cap body,_∧_∧_=x.inl (inlR p (reachedOf p (callsOf x)).length)))∧_
 rw[hX0]
 obtain⟨q,hq⟩:∃ q,countOf p x=q:=⟨_,rfl⟩
 rw[hq] at hc4 ⊢
 simp only[hq] at hc1
 obtain⟨qn,qe⟩:=q
 clear hq hX0 hc hxc
 rcases p with ⟨mad,mcap,mons,rad,rcap,roles⟩
 rcases x with ⟨ad,cap,body⟩
 simp only[Pr.val,Bl.slice] at hc1 hc4 ⊢
 simp only[CntBack] at hc1
 have hB:=(Below.refl w.heap.size w).al le_rfl' (.cells #[.slice mad mons.length mcap,.slice rad roles.length rcap] 25)
 have b1:=heapNew w (.cells #[.slice mad mons.length mcap,.slice rad roles.length rcap] 25)
 cases hqe:(qe != 0:Bool)
 ·have hq0:qe=0:=by simpa using hqe
  subst hq0
  have hc5:=hc4 rfl
  go_enter Tryz.func14,Tryz.ntmps14
  go_wp2_with (first
   | (go_at_call 12;(with_reducible refine (hc1 _ hB).mono ?_);rintro r u1 ⟨rfl,bb1⟩;have b2:=(bb1.block w.heap.size (by simp)).trans b1;have p0:=cellOf b2 0;have p1:=cellOf b2 1;simp at p0 p1)
   | (go_at_call 34;(with_reducible refine (hc5 _ (hB.tr le_rfl' bb1)).mono ?_);rintro r u4 ⟨yad,ycap,ybody,rfl,hyI,hyc,bb4⟩))
  go_ret2
  refine⟨.inr ⟨(by trivial),yad,ycap,ybody,rfl,hyI.imp only_open (Nat.le_refl _),?_⟩,(hB.tr le_rfl' bb1).tr le_rfl' bb4⟩
  rw[Bl.clr_mk,hyc,← HX.out]
 ·have hqn:¬ qe=0:=by simpa using hqe
  go_enter Tryz.func14,Tryz.ntmps14
  go_wp2_with (go_at_call 12;(with_reducible refine (hc1 _ hB).mono ?_);rintro r u1 ⟨rfl,bb1⟩)
  go_ret2
  exact⟨.inl ⟨hqn,rfl⟩,hB.tr le_rfl' bb1⟩
end Go.Proofs.YtpbjikncobnkjaaGreatDoor
