/-
  Own texts joined by program: CcA CcW.
-/
import Derived.Test.YtpbjikncobnkjaaGreatDoorQbg
import Derived.Test.YtpbjikncobnkjaaGreatDoorQbh
import Derived.Test.YtpbjikncobnkjaaGreatDoorQbv
import Derived.Deep.DeepCutAuto
namespace Go.Proofs.YtpbjikncobnkjaaGreatDoor
open Go.RowKit
theorem tchk_pos {p:Pr} (h:p.tchk.1=0):p.nchk.1=0:=by
 unfold Pr.tchk at h
 split at h
 ·assumption
 ·exact h
set_option maxRecDepth 100000 in
set_option maxHeartbeats 4000000 in
theorem Check_small (p:Pr) (n₀:Nat) (w:World) (hn:n₀≤w.heap.size) (hp:p.Is n₀ w) (hS:Shapes w) (hS3:3≤w.heap.size) (hvs:vsum p.mons≤1000000) (hF:Fine0 p) (hR:∀ r∈p.roles,r.body.subs.length≤400000) :
  Calls Tryz.prog 7 #[p.val] w fun r w'=>ChkBack p.cchk w w' r:=by
 by_cases hok:p.ok=true
 ·exact Check_any p n₀ w hn hp hS hS3 hvs (hF.fine hok) (fun r hr=>⟨hR r hr,okB_blocks (by
   unfold Pr.ok at hok
   have h1:=(Bool.and_eq_true_iff.1 hok).2
   unfold Bl.okB
   exact List.all_eq_true.2 fun s hs=>List.all_eq_true.1 h1 s (List.mem_append.2 (.inr (List.mem_flatMap.2 ⟨r,hr,hs⟩))))⟩)
 ·have htn:p.tchk.1≠0:=fun h=>hok (chk_parts (tchk_pos h)).1
  have hc1:=fun (W:World) (hW:Below w.heap.size w W)=>typesCheck_any p hvs n₀ W (by have:=hW.size;omega) (hp.below (hW.mono hn)) (hS.below hW hS3)
  have HCC:Hid (p.cchk=p.tchk):=by show _=_;rw[Pr.cchk,if_neg htn]
  obtain⟨tc,htc⟩:∃ tc,p.tchk=tc:=⟨_,rfl⟩
  obtain⟨cc,hcc⟩:∃ cc,p.cchk=cc:=⟨_,rfl⟩
  rw[htc,hcc] at HCC
  rw[htc] at htn
  simp only[htc] at hc1
  rw[hcc]
  clear htc hcc hok hp hF hR hvs hS
  rcases p with ⟨mad,mcap,mons,rad,rcap,roles⟩
  obtain⟨tc1,tc2⟩:=tc
  simp only[Pr.val] at hc1 ⊢
  simp only[ChkBack] at hc1
  have hB:=(Below.refl w.heap.size w).al le_rfl' (.cells #[.slice mad mons.length mcap,.slice rad roles.length rcap] 25)
  have htb:(tc1==0)=false:=by rw[beq_eq_false_iff_ne];exact htn
  have htb2:(tc1 != 0)=true:=by rw[bne,htb];rfl
  go_enter Tryz.func7,Tryz.ntmps7
  go_wp2_with (go_at_call 20;(with_reducible refine (hc1 _ hB).mono ?_);rintro r wA ⟨rfl,bb1⟩)
  go_ret2
  exact chkBack_mk HCC.out (hB.tr le_rfl' bb1)
theorem small_subs {p:Pr} (h:p.size≤400):(∀ m∈p.mons,∀ f∈m.meths,f.body.subs.length≤400000)∧∀ r∈p.roles,r.body.subs.length≤400000:=by
 have h1:p.stmts.length≤400:=Nat.le_trans (len_le_sz _) h
 have h2:p.stmts=(p.mons.flatMap fun m=>m.meths.flatMap fun x=>x.body.subs)++p.roles.flatMap fun r=>r.body.subs:=rfl
 rw[h2,List.length_append] at h1
 refine⟨fun m hm f hf=>?_,fun r hr=>?_⟩
 ·have a1:=len_flat (fun m:Mo=>m.meths.flatMap fun x=>x.body.subs) p.mons m hm
  have a2:=len_flat (fun x:Me=>x.body.subs) m.meths f hf
  omega
 ·have a1:=len_flat (fun r:Ro=>r.body.subs) p.roles r hr
  omega
theorem Bl.ok_B (x:Bl):x.ok=x.okB:=rfl
theorem okB_role {p:Pr} (hok:p.ok=true) {r:Ro} (hr:r∈p.roles):r.body.okB=true:=by
 unfold Pr.ok at hok
 have h1:=(Bool.and_eq_true_iff.1 hok).2
 unfold Bl.okB
 exact List.all_eq_true.2 fun s hs=>List.all_eq_true.1 h1 s (List.mem_append.2 (.inr (List.mem_flatMap.2 ⟨r,hr,hs⟩)))
theorem sum_memN {α:Type} (f:α→Nat) {l:List α} {x:α} (h:x∈l):f x≤(l.map f).sum:=by
 obtain⟨a,b,rfl⟩:=List.append_of_mem h
 simp
 omega
theorem cost_ex (x:Bl):∀ s∈x.subs,s.e.subs.length≤x.cost:=
 Bl.ind (P:=fun s=>∀ t∈s.subs,t.e.subs.length≤s.cost) (Q:=fun b=>∀ t∈b.subs,t.e.subs.length≤b.cost) (fun kind mon name n e ad cap blocks pos ih t ht=>by
  rw[St.cost_mk]
  rw[St.subs_mk] at ht
  rcases List.mem_cons.1 ht with rfl|ht
  ·show e.subs.length≤_
   omega
  ·obtain⟨b,hb,ht⟩:=List.mem_flatMap.1 ht
   have h1:=ih b hb t ht
   have h2:=sum_memN Bl.co1 hb
   unfold Bl.co1 at h2
   unfold Bl.co1
   omega)
  (fun ad cap body ih t ht=>by
   rw[Bl.cost_mk]
   rw[Bl.subs_mk] at ht
   obtain⟨s,hs,ht⟩:=List.mem_flatMap.1 ht
   exact Nat.le_trans (ih s hs t ht) (sum_memN St.cost hs)) x
theorem docCheck_small (p:Pr) (n₀:Nat) (w:World) (hn:n₀≤w.heap.size) (hp:p.Is n₀ w) (hc:(p.mons.map Mo.mco).sum+(p.roles.map Ro.bco).sum≤300) (hvs:vsum p.mons≤1000000) :
  Calls Tryz.prog 8 #[p.val] w fun r w'=>ChkBack p.cchk w w' r:=by
 have hs4:p.size≤400:=Nat.le_trans (size_cost p) (by omega)
 have hok:p.tchk.1=0→p.ok=true:=fun h=>(chk_parts (tchk_pos h)).1
 refine check_doc p (fun h=>(fine_small hs4).fine (hok h)) n₀ w hn hp (fun W hW=>refTypesCheck_any p hvs n₀ W (by have:=hW.size;omega) (hp.below (hW.mono hn))) (fun h x hx W hW=>?_)
 have hxk:=okB_role (hok h) hx
 have hI:x.body.Is n₀ w:=(hp.2.2 x hx).2.2.2
 have h1:=count_doc2 p ((fine_small hs4).fine (hok h)) x.body n₀ W (by have:=hW.size;omega) (hp.below (hW.mono hn)) (hI.below (hW.mono hn)) ((small_subs hs4).2 x hx) p.ok x.body.ok (fun _ _ hk hg=>cvAll_small (hok h) hxk (by have:=sum_memN Ro.bco hx;unfold Ro.bco at this;unfold Ro.bco at hc;omega) hk hg) (fun V hV=>refIs_any n₀ p V (by have:=hV.size;have:=hW.size;omega) (hp.below ((hW.tr le_rfl' hV).mono hn))) (fun V hV=>refIsStmts_any n₀ x.body V (by have:=hV.size;have:=hW.size;omega) (hI.below ((hW.tr le_rfl' hV).mono hn)))
 rw[if_pos ⟨hok h,by rw[Bl.ok_B];exact hxk⟩] at h1
 exact h1
open Go.RowKit
set_option maxRecDepth 100000 in
set_option maxHeartbeats 16000000 in
theorem checks_walk (p:Pr) (w:World) (hS:Shapes w) (hp:p.Is w.heap.size w):Calls Tryz.prog 3 #[p.val] w fun r w'=>r=.returned (.bool true)∧Below w.heap.size w w':=by
 have hS3:=hS.size
 have hsm:∀ W,Below w.heap.size w W→Calls Tryz.prog 5 #[p.val,.int .i64 300] W fun r w'=>∃ c:Bool,r=.returned (.bool c)∧(c=true→(p.mons.map Mo.mco).sum+(p.roles.map Ro.bco).sum≤300∧p.mons.length≤20∧∀ m∈p.mons,m.vars.length≤40)∧Below W.heap.size W w':=fun W hW=>smallc_any w.heap.size p W hW.size (hp.below hW)
 have hli:=fun (W:World) (hW:Below w.heap.size w W)=>live_any W (hS.below hW hS3) (by have:=hW.size;omega)
 have HCH:=hid (fun (hc:(p.mons.map Mo.mco).sum+(p.roles.map Ro.bco).sum≤300) (h2:p.mons.length≤20) (h3:∀ m∈p.mons,m.vars.length≤40) (W:World) (hW:Below w.heap.size w W)=>Check_small p w.heap.size W hW.size (hp.below hW) (hS.below hW hS3) (by have:=hW.size;omega) (vsum_small _ h2 h3) (fine_small (Nat.le_trans (size_cost p) (by omega))) (small_subs (Nat.le_trans (size_cost p) (by omega))).2)
 have HDC:=hid (fun (hc:(p.mons.map Mo.mco).sum+(p.roles.map Ro.bco).sum≤300) (h2:p.mons.length≤20) (h3:∀ m∈p.mons,m.vars.length≤40) (W:World) (hW:Below w.heap.size w W)=>docCheck_small p w.heap.size W hW.size (hp.below hW) hc (vsum_small _ h2 h3))
 have hnum:=num_any
 obtain⟨oc,hoc⟩:∃ oc,p.cchk=oc:=⟨_,rfl⟩
 simp only[hoc] at HCH HDC
 obtain⟨o1,o2⟩:=oc
 have hpv:∃ mad ml mcap rad rl rcap,p.val=.agg #[.slice mad ml mcap,.slice rad rl rcap]:=by
  rcases p with ⟨mad,mcap,mons,rad,rcap,roles⟩
  exact⟨mad,mons.length,mcap,rad,roles.length,rcap,rfl⟩
 obtain⟨mad,ml,mcap,rad,rl,rcap,hpv⟩:=hpv
 simp only[hpv,ChkBack] at hsm HCH HDC
 rw[hpv]
 obtain⟨b1,hB,hz0⟩:=one_box w #[.slice mad ml mcap,.slice rad rl rcap] 25
 go_enter Tryz.func3,Tryz.ntmps3
 go_upto_region 1 with fail
 obtain⟨W0,hW0⟩:∃ W0,w.alloc (.cells #[.slice mad ml mcap,.slice rad rl rcap] 25)=W0:=⟨_,rfl⟩
 rw[hW0] at b1 hB hz0 ⊢
 have HZ0:=hid hz0
 have hcell:∀ W,Below W0.heap.size W0 W→W.cell? ⟨w.heap.size,0,none⟩=some (.slice mad ml mcap)∧W.cell? ⟨w.heap.size,1,none⟩=some (.slice rad rl rcap):=by
  intro W hW
  have hb:=(hW.block w.heap.size (by omega)).trans b1
  exact⟨by rw[cellOf hb];rfl,by rw[cellOf hb];rfl⟩
 clear hW0 b1 hz0
 obtain⟨p0,p1⟩:=hcell W0 (Below.refl _ _)
 have hw0:w.heap.size<W0.heap.size:=by have:=HZ0.out;omega
 go_upto_if 9 with (go_at_call 5;(with_reducible refine (hsm _ hB).mono ?_);rintro r wa ⟨c,rfl,hsz,ba⟩;have Ba:=hB.tr le_rfl' ba;cases c)
 ·go_wp2_with (go_at_call 6;(with_reducible refine (hli _ Ba).mono ?_);rintro r wz ⟨rfl,bz⟩)
  go_ret
  exact⟨rfl,Ba.tr le_rfl' bz⟩
 ·obtain⟨s1,s2,s3⟩:=hsz trivial
  have hch:=HCH.out s1 s2 s3 wa Ba
  have hdc:=fun W hW=>HDC.out s1 s2 s3 W hW
  obtain⟨q0,q1⟩:=hcell wa ba
  have hwa:w.heap.size<wa.heap.size:=by have:=ba.size;omega
  clear hsz s1 s2 s3 p0 p1
  go_wp2_with (first
   | (go_at_call 7;(with_reducible refine hch.mono ?_);rintro r wb ⟨rfl,bb⟩;have Bb:=Ba.tr le_rfl' bb;obtain⟨q0,q1⟩:=hcell wb (ba.tr le_rfl' bb);have hwb:w.heap.size<wb.heap.size:=by have:=bb.size;omega)
   | (go_at_call 8;(with_reducible refine (hdc wb Bb).mono ?_);rintro r wd ⟨rfl,bd⟩;have Bd:=Bb.tr le_rfl' bd)
   | (go_at_call 9;(with_reducible refine (hnum _ _).mono ?_);rintro rr ww ⟨rfl,hw'⟩;have hw2:=hw'.symm;subst hw2)
   | (go_at_call 6;(with_reducible refine (hli _ Bd).mono ?_);rintro r we ⟨rfl,be⟩))
  all_goals go_ret
  all_goals exact⟨rfl,Bd.tr le_rfl' be⟩
end Go.Proofs.YtpbjikncobnkjaaGreatDoor
