/-
  Own texts joined by program: CiW.
-/
import Derived.Test.YtpbjikncobnkjaaGreatDoorIbq
import Derived.Test.YtpbjikncobnkjaaGreatDoorIbs
import Derived.Test.YtpbjikncobnkjaaGreatDoorIbt
import Derived.Test.YtpbjikncobnkjaaGreatDoorIbv
namespace Go.Proofs.YtpbjikncobnkjaaGreatDoor
open Go.RowKit
def inY (p:Pr) (x:Bl):Bl:=if (countOf p x).2=0 then x.inl (inlR p (reachedOf p (callsOf x)).length) else .mk none 0 []
theorem inl_uni {p:Pr} {x:Bl} {w w':World} {r:Ending} (h:InlineBack p x w w' r):∃ ad cap body,r=.returned (.tuple #[.slice ad body.length cap,.int .i64 (countOf p x).2])∧(Bl.mk ad cap body).Is w'.heap.size w'∧Hid ((Bl.mk ad cap body).clr=inY p x)∧Below w.heap.size w w':=by
 obtain⟨⟨h1,h2⟩|⟨h1,ad,cap,body,h2,h3,h4⟩,hb⟩:=h
 ·refine⟨none,0,[],h2,Bl.Is.up ⟨⟨Nat.le_refl 0,by unfold maxLen;simp,.inl rfl⟩,fun x hx=>by cases hx⟩,?_,hb⟩
  show _=_
  rw[inY,if_neg h1,Bl.clr_mk];rfl
 ·refine⟨ad,cap,body,by rw[h2,h1],h3,?_,hb⟩
  show _=_
  rw[inY,if_pos h1,h4]
theorem calls_uni {S:List Ref} {w w':World} {r:Ending} (h:CallsBack S w w' r):∃ ad cp,r=.returned (.slice ad S.length cp)∧SlAt 2 rcells w'.heap.size w' ad cp S∧Below w.heap.size w w':=by
 obtain⟨v,rfl,ho,hb⟩:=h
 obtain⟨ad,cp,rfl,hs⟩:=slOwn rcells_len ho
 exact⟨ad,cp,rfl,hs,hb⟩
theorem SlAt.go {l:List Ref} {w W:World} {ad:Option Addr} {cp:Nat} (h:SlAt 2 rcells w.heap.size w ad cp l) (hW:Below w.heap.size w W):SlAt 2 rcells W.heap.size W ad cp l:=
 h.imp rcells_len (fun _ _ ha hv=>(hW.cell ha).trans hv) hW.size
set_option maxRecDepth 100000 in
set_option maxHeartbeats 16000000 in
theorem inlines_walk (p:Pr) (x:Bl) (w:World) (hS:Shapes w) (hp:p.Is w.heap.size w) (hx:x.Is w.heap.size w):Calls Tryz.prog 4 #[p.val,x.slice] w fun r w'=>r=.returned (.bool true)∧Below w.heap.size w w':=by
 have hS3:=hS.size
 have hsm:∀ W,Below w.heap.size w W→Calls Tryz.prog 5 #[p.val,.int .i64 300] W fun r w'=>∃ c:Bool,r=.returned (.bool c)∧(c=true→(p.mons.map Mo.mco).sum+(p.roles.map Ro.bco).sum≤300∧p.mons.length≤20∧∀ m∈p.mons,m.vars.length≤40)∧Below W.heap.size W w':=fun W hW=>smallc_any w.heap.size p W hW.size (hp.below hW)
 have hre:=fun (W:World) (hW:Below w.heap.size w W)=>restc_any w.heap.size x 300 W (by omega) (by omega) hW.size (hx.below hW)
 have hli:=fun (W:World) (hW:Below w.heap.size w W)=>live_any W (hS.below hW hS3) (by have:=hW.size;omega)
 have HCO:=hid (fun (h1:(p.mons.map Mo.mco).sum+(p.roles.map Ro.bco).sum≤300) (h2:x.cost≤300) (W:World) (hW:Below w.heap.size w W)=>Count_any p x w.heap.size W hW.size (hp.below hW) (hx.below hW) (hS.below hW hS3) (by have:=hW.size;omega) (fine_cost h1).zero (by have:=cost_subs x;omega))
 have HDC:=hid (fun (h1:(p.mons.map Mo.mco).sum+(p.roles.map Ro.bco).sum≤300) (h2:x.cost≤300) (W:World) (hW:Below w.heap.size w W)=>docCount_small p x w.heap.size W hW.size (hp.below hW) (hx.below hW) h1 h2)
 have HIN:=hid (fun (h1:(p.mons.map Mo.mco).sum+(p.roles.map Ro.bco).sum≤300) (h2:x.cost≤300) (W:World) (hW:Below w.heap.size w W)=>(Inline_any p x w.heap.size W hW.size (hp.below hW) (hx.below hW) (hS.below hW hS3) (by have:=hW.size;omega) (fine_cost h1).zero (by have:=cost_subs x;omega)).mono fun _ _ h=>inl_uni h)
 have HDI:=hid (fun (h1:(p.mons.map Mo.mco).sum+(p.roles.map Ro.bco).sum≤300) (h2:x.cost≤300) (W:World) (hW:Below w.heap.size w W)=>(docInline_small p x w.heap.size W hW.size (hp.below hW) (hx.below hW) h1 h2).mono fun _ _ h=>inl_uni h)
 have HCA:=hid (fun (h2:x.cost≤300) (W:World) (hW:Below w.heap.size w W)=>(calls_any x w.heap.size W hW.size (hx.below hW) (by have:=cost_subs x;omega)).mono fun _ _ h=>calls_uni h)
 have HRC:=hid (fun (h2:x.cost≤300) (W:World) (hW:Below w.heap.size w W)=>(rcal_any x w.heap.size W hW.size (hx.below hW) (by have:=cost_subs x;omega)).mono fun _ _ h=>calls_uni h)
 have hVC:=vlen_calls hx
 have hrf:=fun (ad ad':Option Addr) (cap cap':Nat) (W:World) (h1:SlAt 2 rcells W.heap.size W ad cap (callsOf x)) (h2:SlAt 2 rcells W.heap.size W ad' cap' (callsOf x))=>refs_any (callsOf x) ad ad' cap cap' W.heap.size W (Nat.le_refl _) h1 h2 hVC
 have hnum:=num_any
 obtain⟨cs,hcs⟩:∃ cs,callsOf x=cs:=⟨_,rfl⟩
 obtain⟨cq,hcq⟩:∃ cq,countOf p x=cq:=⟨_,rfl⟩
 obtain⟨Y,hY⟩:∃ Y,inY p x=Y:=⟨_,rfl⟩
 simp only[hcs] at HCA HRC hrf
 simp only[hcq] at HCO HDC HIN HDI
 simp only[hY] at HIN HDI
 clear hcs hcq hY hVC
 obtain⟨cn,ce⟩:=cq
 simp only[CntBack] at HCO HDC
 obtain⟨P,hP⟩:∃ P:Pr,P=p:=⟨_,rfl⟩
 obtain⟨X,hX⟩:∃ X:Bl,X=x:=⟨_,rfl⟩
 rcases p with ⟨mad,mcap,mons,rad,rcap,roles⟩
 rcases x with ⟨ad,cap,body⟩
 rw[← hP] at hsm HCO HDC HIN HDI
 rw[← hX] at hre HCO HDC HIN HDI HCA HRC
 have hPv:P.val=.agg #[.slice mad mons.length mcap,.slice rad roles.length rcap]:=by rw[hP];rfl
 have hXv:X.slice=.slice ad body.length cap:=by rw[hX];rfl
 simp only[hPv,hXv] at hsm hre HCO HDC HIN HDI HCA HRC
 clear hP hX hPv hXv hp hx
 simp only[Pr.val,Bl.slice]
 have hB:=(Below.refl w.heap.size w).al le_rfl' (.cells #[.slice mad mons.length mcap,.slice rad roles.length rcap] 25)
 have b1:=heapNew w (.cells #[.slice mad mons.length mcap,.slice rad roles.length rcap] 25)
 have hcell:∀ W,Below (w.heap.size+1) (w.alloc (.cells #[.slice mad mons.length mcap,.slice rad roles.length rcap] 25)) W→W.cell? ⟨w.heap.size,0,none⟩=some (.slice mad mons.length mcap)∧W.cell? ⟨w.heap.size,1,none⟩=some (.slice rad roles.length rcap):=by
  intro W hW
  refine⟨(hW.cell (p:=⟨w.heap.size,0,none⟩) (by show w.heap.size<_;omega)).trans ?_,(hW.cell (p:=⟨w.heap.size,1,none⟩) (by show w.heap.size<_;omega)).trans ?_⟩
  ·rw[cellOf b1];rfl
  ·rw[cellOf b1];rfl
 go_enter Tryz.func4,Tryz.ntmps4
 go_upto_region 1 with fail
 obtain⟨W0,hW0⟩:∃ W0,w.alloc (.cells #[.slice mad mons.length mcap,.slice rad roles.length rcap] 25)=W0:=⟨_,rfl⟩
 have hz0:W0.heap.size=w.heap.size+1:=by rw[← hW0];simp
 rw[hW0] at hB hcell ⊢
 rw[← hz0] at hcell
 have HZ0:=hid hz0
 clear hW0 b1 hz0
 obtain⟨p0,p1⟩:=hcell W0 (Below.refl _ _)
 go_upto_if 20 with (first
  | (go_at_call 5;(with_reducible refine (hsm _ hB).mono ?_);rintro r wa ⟨c,rfl,hsz,ba⟩;have Ba:=hB.tr le_rfl' ba;have Ka:=(Below.refl W0.heap.size W0).trans ba;cases c)
  | (go_at_call 10;(with_reducible refine (hre _ Ba).mono ?_);rintro r wb ⟨c2,rfl,hc1,hc2,Hc3,bb⟩;have Bb:=Ba.tr le_rfl' bb;have Kb:=Ka.tr le_rfl' bb;rcases Int.lt_or_le c2 0 with hc0|hc0))
 ·go_wp2_with (go_at_call 6;(with_reducible refine (hli _ Ba).mono ?_);rintro r wz ⟨rfl,bz⟩)
  go_ret
  exact⟨rfl,Ba.tr le_rfl' bz⟩
 ·go_wp2_with (go_at_call 6;(with_reducible refine (hli _ Bb).mono ?_);rintro r wz ⟨rfl,bz⟩)
  go_ret
  exact⟨rfl,Bb.tr le_rfl' bz⟩
 ·have hnc:¬ c2<0:=by omega
  have hps:=(hsz trivial).1
  have hxs:X.cost≤300:=by have:=Hc3.out hc0;omega
  have hco:=HCO.out hps hxs
  have hdc:=HDC.out hps hxs
  have hin:=HIN.out hps hxs
  have hdi:=HDI.out hps hxs
  have hca:=HCA.out hxs
  have hrc:=HRC.out hxs
  obtain⟨q0,q1⟩:=hcell wb Kb
  clear hsm hre hsz Hc3 hc1 hc2 hps hxs p0 p1 HCO HDC HIN HDI HCA HRC
  go_upto_region 7 with (first
   | (go_at_call 11;(with_reducible refine (hco _ Bb).mono ?_);rintro r wc ⟨rfl,bc⟩;have Bc:=Bb.tr le_rfl' bc;have Kc:=Kb.tr le_rfl' bc;obtain⟨r0,r1⟩:=hcell wc Kc)
   | (go_at_call 12;(with_reducible refine (hdc _ Bc).mono ?_);rintro r wd ⟨rfl,bd⟩;have Bd:=Bc.tr le_rfl' bd;have Kd:=Kc.tr le_rfl' bd;obtain⟨s0,s1⟩:=hcell wd Kd)
   | (go_at_call 13;(with_reducible refine (hin _ Bd).mono ?_);rintro r we ⟨yad,ycap,ybody,rfl,hyI,HYC,be⟩;have Be:=Bd.tr le_rfl' be;have Ke:=Kd.tr le_rfl' be;obtain⟨t0,t1⟩:=hcell we Ke)
   | (go_at_call 14;(with_reducible refine (hdi _ Be).mono ?_);rintro r wf ⟨zad,zcap,zbody,rfl,hzI,HZC,bf⟩;have Bf:=Be.tr le_rfl' bf))
  have hyI2:=(hyI.below bf).mono bf.size
  have hss:=fun (W:World) (hW:Below wf.heap.size wf W)=>sameS_any wf.heap.size (.mk yad ycap ybody) (.mk zad zcap zbody) W hW.size (hyI2.below hW) (hzI.below hW) (HYC.out.trans HZC.out.symm)
  have hps:=fun (W:World) (hW:Below wf.heap.size wf W)=>placedS_any wf.heap.size (.mk yad ycap ybody) (.mk zad zcap zbody) W hW.size (hyI2.below hW) (hzI.below hW) (HYC.out.trans HZC.out.symm)
  simp only[Bl.slice] at hss hps
  clear hyI hyI2 hzI HYC HZC hcell q0 q1 r0 r1 s0 s1 t0 t1
  go_wp2_with (first
   | (go_at_call 16;(with_reducible refine (hca _ Bf).mono ?_);rintro r wg ⟨gad,gcp,rfl,hgs,bg⟩)
   | (go_at_call 17;(with_reducible refine (hrc _ (Bf.tr le_rfl' bg)).mono ?_);rintro r wh ⟨had,hcp,rfl,hhs,bh⟩;have Fh:=bg.tr le_rfl' bh;have hgs2:=SlAt.go hgs bh)
   | (go_at_call 15;(with_reducible refine (hrf gad had gcp hcp _ hgs2 hhs).mono ?_);rintro r wi ⟨rfl,bi⟩;have Fi:=Fh.tr le_rfl' bi)
   | (go_at_call 9;(with_reducible refine (hnum _ _).mono ?_);rintro rr ww ⟨rfl,hw'⟩;have hw2:=hw'.symm;subst hw2)
   | (go_at_call 18;(with_reducible refine (hss _ Fi).mono ?_);rintro r wj ⟨rfl,bj⟩;have Fj:=Fi.tr le_rfl' bj)
   | (go_at_call 19;(with_reducible refine (hps _ Fj).mono ?_);rintro r wk ⟨rfl,bk⟩;have Fk:=Bf.tr le_rfl' (Fj.tr le_rfl' bk))
   | (go_at_call 6;(with_reducible refine (hli _ Fk).mono ?_);rintro r wz ⟨rfl,bz⟩))
  go_ret
  exact⟨rfl,Fk.tr le_rfl' bz⟩
end Go.Proofs.YtpbjikncobnkjaaGreatDoor
