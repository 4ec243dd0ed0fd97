/-
  Own texts joined by program: CmB.
-/
import Derived.Test.YtpbjikncobnkjaaGreatDoorQbc
namespace Go.Proofs.YtpbjikncobnkjaaGreatDoor
open Go.RowKit
theorem goes_leads {p:Pr} {r:Ref} {L:List Ref} (h:Leads p (leadsOf p r) L):hasR L r=goesR p r:=by
 unfold hasR goesR
 by_cases hr:r∈L
 ·rw[decide_eq_true hr,decide_eq_true ((h.iff r).1 hr)]
 ·rw[decide_eq_false hr,decide_eq_false (fun h2=>hr ((h.iff r).2 h2))]
set_option maxRecDepth 100000 in
set_option maxHeartbeats 16000000 in
theorem cyclic_doc (p:Pr) (hF:Fine p) (a c:ByteArray) (n₀:Nat) (w:World) (hn:n₀≤w.heap.size) (hp:p.Is n₀ w) (hr:VLen (a,c)) :
  Calls Tryz.prog 25 #[p.val,.agg #[.string a,.string c]] w fun e w'=>e=.returned (.bool (goesR p (a,c)))∧Below w.heap.size w w':=by
 have hmeth:∀ (W:World),Below w.heap.size w W→_:=fun W hW=>methOne (a:=a) (c:=c) hF (refMethod_at p a c n₀ W (by have:=hW.size;omega) (hp.below (hW.mono hn)))
 have hlead:∀ (n₁:Nat) (l:List Ref) (lad:Option Addr) (lcap:Nat) (W:World),Below w.heap.size w W→n₁≤W.heap.size→SlAt 2 rcells n₁ W lad lcap l→l=leadsOf p (a,c)→(∀ r∈l,VLen r)→_:=fun n₁ l lad lcap W hW h1 hs hl hV=>leads_any p hF l lad lcap n₀ n₁ W (by have:=hW.size;omega) h1 (hp.below (hW.mono hn)) hs (by rw[hl];exact callsOf_nodup _) (by rw[hl];exact hF.lds _) hV
 rcases p with ⟨mad,mcap,mons,rad,rcap,roles⟩
 simp only[Pr.val] at hmeth hlead ⊢
 obtain⟨p,hpp⟩:∃ p,Pr.mk mad mcap mons rad rcap roles=p:=⟨_,rfl⟩
 rw[hpp] at hmeth hlead hF hp ⊢
 obtain⟨bo,hbo⟩:∃ bo,(methIx mons a c).isSome=bo:=⟨_,rfl⟩
 simp only[hbo] at hmeth
 clear hbo
 obtain⟨G,hG⟩:∃ G,goesR p (a,c)=G:=⟨_,rfl⟩
 rw[hG]
 have HGG:=hid hG
 clear hG
 go_enter Tryz.func25,Tryz.ntmps25
 go_upto_region 1 with fail
 obtain⟨bX,bR,hBX,hzX⟩:=two_box w #[.slice mad mons.length mcap,.slice rad roles.length rcap] #[.string a,.string c] 25 70
 obtain⟨W0,hW0⟩:∃ W0,(w.alloc (.cells #[.slice mad mons.length mcap,.slice rad roles.length rcap] 25)).alloc (.cells #[.string a,.string c] 70)=W0:=⟨_,rfl⟩
 rw[hW0] at bX bR hBX hzX ⊢
 clear hW0
 have HZ:=hid hzX
 have hw0:w.heap.size<W0.heap.size:=by omega
 have hw1:w.heap.size+1<W0.heap.size:=by omega
 clear hzX
 have s0:=cellOf bX 0
 have s1:=cellOf bX 1
 have r0:=cellOf bR 0
 have r1:=cellOf bR 1
 simp at s0 s1 r0 r1
 have hm1:=hmeth W0 hBX
 go_upto_region 2 with (go_at_call 31;(with_reducible refine hm1.mono ?_);rintro r wf ⟨nm,ad,cap,body,ps,rfl,hbI,HBO,bf⟩)
 obtain⟨bM,hBM,hzM⟩:=one_box wf #[.string nm,.slice ad body.length cap,.int .i64 ps] 56
 obtain⟨W1,hW1⟩:∃ W1,wf.alloc (.cells #[.string nm,.slice ad body.length cap,.int .i64 ps] 56)=W1:=⟨_,rfl⟩
 rw[hW1] at bM hBM hzM ⊢
 clear hW1
 have hB1:Below W0.heap.size W0 W1:=bf.tr le_rfl' hBM
 have hBw:Below w.heap.size w W1:=hBX.tr le_rfl' hB1
 have hbI1:(Bl.mk ad cap body).Is n₀ W1:=hbI.below (hBM.mono (by have:=hBX.size;have:=bf.size;omega))
 have hwf:wf.heap.size<W1.heap.size:=by omega
 have hw02:w.heap.size<W1.heap.size:=by have:=hB1.size;omega
 have hw12:w.heap.size+1<W1.heap.size:=by have:=hB1.size;omega
 have HK:Hid (∀ W,Below W1.heap.size W1 W→W.cell? ⟨w.heap.size,0,none⟩=some (.slice mad mons.length mcap)∧W.cell? ⟨w.heap.size,1,none⟩=some (.slice rad roles.length rcap)∧W.cell? ⟨w.heap.size+1,0,none⟩=some (.string a)∧W.cell? ⟨w.heap.size+1,1,none⟩=some (.string c)∧W.cell? ⟨wf.heap.size,1,none⟩=some (.slice ad body.length cap)):=fun W hW=>by
  have h1:=(hW.block w.heap.size hw02).trans ((hB1.block w.heap.size hw0).trans bX)
  have h2:=(hW.block (w.heap.size+1) hw12).trans ((hB1.block (w.heap.size+1) hw1).trans bR)
  have h3:=(hW.block wf.heap.size hwf).trans bM
  exact⟨by rw[cellOf h1];rfl,by rw[cellOf h1];rfl,by rw[cellOf h2];rfl,by rw[cellOf h2];rfl,by rw[cellOf h3];rfl⟩
 have hcal:=fun (W:World) (hW:Below W1.heap.size W1 W)=>rcal_any (.mk ad cap body) n₀ W (by have:=hBw.size;have:=hW.size;omega) (hbI1.below (hW.mono (by have:=hBw.size;omega))) HBO.out.2.1
 have HVM:=hid (vlen_calls hbI)
 rw[HBO.out.1] at HVM
 simp only[HBO.out.1,Bl.slice,CallsBack] at hcal
 have hhas:=fun (L:List Ref) (lad:Option Addr) (lcap:Nat) (W W':World) (hs:SlAt 2 rcells W.heap.size W lad lcap L) (hW:Below W.heap.size W W') (hV:∀ x∈L,VLen x)=>hasRef_any L lad lcap W.heap.size a c W' hW.size (hs.below hW) hr hV
 have hlead2:=fun (l:List Ref) (lad:Option Addr) (lcap:Nat) (W W':World) (hs:SlAt 2 rcells W.heap.size W lad lcap l) (hw:Below W1.heap.size W1 W) (hW:Below W.heap.size W W') (hl:l=leadsOf p (a,c)) (hV:∀ x∈l,VLen x)=>hlead W.heap.size l lad lcap W' ((hBw.tr le_rfl' hw).tr le_rfl' hW) hW.size (hs.below hW) hl hV
 simp only[LeadBack] at hlead2
 obtain⟨M,hM⟩:∃ M,leadsOf p (a,c)=M:=⟨_,rfl⟩
 have HG:Hid (∀ L,Leads p M L→hasR L (a,c)=G):=fun L h=>(goes_leads (by rw[hM];exact h)).trans HGG.out
 simp only[hM] at hcal HVM hlead2
 clear hM hlead hmeth hm1 s0 s1 r0 r1 bX bR bM HBO hbI hbI1
 have BB:=Below.refl W1.heap.size W1
 go_region_held3 (fun W=>W.cell? ⟨w.heap.size,0,none⟩=some (.slice mad mons.length mcap)∧W.cell? ⟨w.heap.size,1,none⟩=some (.slice rad roles.length rcap)∧W.cell? ⟨w.heap.size+1,0,none⟩=some (.string a)∧W.cell? ⟨w.heap.size+1,1,none⟩=some (.string c)∧W.cell? ⟨wf.heap.size,1,none⟩=some (.slice ad body.length cap)) (exact HK.out _ (by repeat (first|exact BB|with_reducible refine below_drewV ?_|with_reducible refine below_drewN ?_ _)))
  (first
   | (go_at_call 17;(with_reducible refine (hcal _ (by repeat (first|exact BB|with_reducible refine below_drewV ?_|with_reducible refine below_drewN ?_ _))).mono ?_);rintro r w5 ⟨mv,rfl,hmo,hb5⟩;have BB:=Below.tr (n₀:=W1.heap.size) (A:=W1) (by repeat (first|exact BB|with_reducible refine below_drewV ?_|with_reducible refine below_drewN ?_ _)) le_rfl' hb5;obtain⟨xad,xcap,rfl,hms⟩:=slOwn rcells_len hmo)
   | (go_at_call 30;(with_reducible refine (hlead2 M xad xcap w5 _ hms BB (by repeat (first|exact Below.refl _ _|with_reducible refine below_drewV ?_|with_reducible refine below_drewN ?_ _)) rfl HVM.out).mono ?_);rintro r w6 ⟨yad,ycap,L,rfl,hls,HL,hb6⟩;have BB:=Below.tr (n₀:=W1.heap.size) (A:=W1) (by repeat (first|exact BB|with_reducible refine below_drewV ?_|with_reducible refine below_drewN ?_ _)) le_rfl' hb6)
   | (go_at_call 37;(with_reducible refine (hhas L yad ycap w6 _ hls (by repeat (first|exact Below.refl _ _|with_reducible refine below_drewV ?_|with_reducible refine below_drewN ?_ _)) HL.out.2.2.1).mono ?_);rintro r w7 ⟨rfl,hb7⟩;have BB:=Below.tr (n₀:=W1.heap.size) (A:=W1) (by repeat (first|exact BB|with_reducible refine below_drewV ?_|with_reducible refine below_drewN ?_ _)) le_rfl' hb7))
 all_goals go_wp2
 all_goals go_ret
 all_goals exact⟨by rw[HG.out L HL.out.1];rfl,hBw.tr le_rfl' BB⟩
end Go.Proofs.YtpbjikncobnkjaaGreatDoor
