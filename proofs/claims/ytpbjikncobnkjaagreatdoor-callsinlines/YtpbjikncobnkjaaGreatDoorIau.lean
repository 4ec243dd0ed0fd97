/-
  Own texts joined by program: TyS TyC.
-/
import Derived.Test.YtpbjikncobnkjaaGreatDoorIat
namespace Go.Proofs.YtpbjikncobnkjaaGreatDoor
open Go.RowKit
theorem RoleBack.yes2 {f:FuncId} {args:Array Value} {o:Option (Int × Int)} {w:World} (h:Calls Tryz.prog f args w fun r w'=>RoleBack o w w' r) {c a:Int} (ho:o=some (c,a)):Calls Tryz.prog f args w fun r w'=>r=.returned (.tuple #[.int .i64 c,.int .i64 a])∧(c != 0)=true∧Below w.heap.size w w':=
 h.mono fun r w' hh=>by
  rcases hh.1 with ⟨h1,_⟩|⟨c',a',h0,h1,h2⟩
  ·rw[ho] at h1;cases h1
  ·rw[ho] at h1;cases h1;exact⟨h2,by rw[bne_iff_ne];exact h0,hh.2⟩
theorem roleBack_no {o:Option (Int × Int)} {w w':World} (h:o=none) (hb:Below w.heap.size w w'):RoleBack o w w' (.returned (.tuple #[.int .i64 0,.int .i64 0])):=⟨.inl ⟨h,rfl⟩,hb⟩
theorem roleBack_yes {o:Option (Int × Int)} {w w':World} {c a:Int} (hc:(c != 0)=true) (h:o=some (c,a)) (hb:Below w.heap.size w w'):RoleBack o w w' (.returned (.tuple #[.int .i64 c,.int .i64 a])):=⟨.inr ⟨c,a,(by rw[bne_iff_ne] at hc;exact hc),h,rfl⟩,hb⟩
theorem varBack_no {o:Option Int} {w w':World} (h:o=none) (hb:Below w.heap.size w w'):VarBack o w w' (.returned (.tuple #[.int .i64 0,.bool false])):=⟨.inl ⟨h,rfl⟩,hb⟩
theorem varBack_yes {o:Option Int} {w w':World} {t:Int} (ht:t=1∨t=2) (h:o=some t) (hb:Below w.heap.size w w'):VarBack o w w' (.returned (.tuple #[.int .i64 t,.bool true])):=⟨.inr ⟨t,ht,h,rfl⟩,hb⟩
theorem varTy_two {l:List Mo} {mon name:ByteArray} {t:Int} (h:varTy l mon name=some t):t=1∨t=2:=by
 cases hs:slotIx l mon name with
 | none=>rw[varTy_none hs] at h;cases h
 | some s =>
  obtain⟨t',h1,h2⟩:=varTy_some hs
  rw[h] at h1;cases h1;exact h2
set_option maxRecDepth 100000 in
set_option maxHeartbeats 4000000 in
theorem wants_any (p:Pr) (hvs:vsum p.mons≤1000000) (kind:Int) (mon name:ByteArray) (n:Int) (e:Ex) (ad:Option Addr) (cap:Nat) (blocks:List Bl) (pos:Int) (n₀:Nat) (w:World) (hn:n₀≤w.heap.size) (hp:p.Is n₀ w) :
  Calls Tryz.prog 84 #[p.val,(St.mk kind mon name n e ad cap blocks pos).val] w fun r w'=>VarBack (stWant p.mons kind mon name) w w' r:=by
 have h35:∀ W,Below w.heap.size w W→Calls Tryz.prog 99 #[p.val,.string mon,.string name] W fun r w'=>VarBack (varTy p.mons mon name) W w' r:=fun W hW=>variable_any p mon name n₀ W (by have:=hW.size;omega) (hp.below (hW.mono hn)) hvs
 have HS:Hid (stWant p.mons kind mon name=if kind=2 then varTy p.mons mon name else if kind=3∨kind=4 then some 1 else none):=rfl
 obtain⟨pad,hpad⟩:∃ a,p.mad=a:=⟨_,rfl⟩
 obtain⟨pml,hpml⟩:∃ a,p.mons.length=a:=⟨_,rfl⟩
 obtain⟨pmc,hpmc⟩:∃ a,p.mcap=a:=⟨_,rfl⟩
 obtain⟨prd,hprd⟩:∃ a,p.rad=a:=⟨_,rfl⟩
 obtain⟨prl,hprl⟩:∃ a,p.roles.length=a:=⟨_,rfl⟩
 obtain⟨prc,hprc⟩:∃ a,p.rcap=a:=⟨_,rfl⟩
 simp only[Pr.val,hpad,hpml,hpmc,hprd,hprl,hprc] at h35 ⊢
 clear hpad hpml hpmc hprd hprl hprc hp
 rcases e with ⟨eop,emon,ename,en,ead,ecap,ekids,epos⟩
 simp only[St.val,St.cells,Ex.cells,List.cons_append,List.nil_append]
 go_enter Tryz.func84,Tryz.ntmps84
 go_upto_region 1 with fail
 obtain⟨bR,bX,hB,hz⟩:=two_box w #[.slice pad pml pmc,.slice prd prl prc] #[.int .i64 kind,.string mon,.string name,.int .i64 n,.int .i64 eop,.string emon,.string ename,.int .i64 en,.slice ead ekids.length ecap,.int .i64 epos,.slice ad blocks.length cap,.int .i64 pos] 25 64
 obtain⟨W0,hW0⟩:∃ W0,(w.alloc (.cells #[.slice pad pml pmc,.slice prd prl prc] 25)).alloc (.cells #[.int .i64 kind,.string mon,.string name,.int .i64 n,.int .i64 eop,.string emon,.string ename,.int .i64 en,.slice ead ekids.length ecap,.int .i64 epos,.slice ad blocks.length cap,.int .i64 pos] 64)=W0:=⟨_,rfl⟩
 rw[hW0] at bR bX hB hz ⊢
 clear hW0
 have r0:=cellOf bR 0
 have r1:=cellOf bR 1
 have s0:=cellOf bX 0
 have s1:=cellOf bX 1
 have s2:=cellOf bX 2
 simp at r0 r1 s0 s1 s2
 clear hz bR bX
 by_cases k2:kind=2
 ·subst k2
  have HS2:=hid (HS.out.trans (if_pos rfl))
  have hq:=h35 W0 hB
  clear h35
  rcases hv:varTy p.mons mon name with _|t
  ·have hq:=VarBack.no hq hv
   have HS3:=hid (HS2.out.trans hv)
   clear hv HS2 HS
   go_wp2_with (go_at_call 99;(with_reducible refine hq.mono ?_);rintro r u1 ⟨rfl,bb1⟩)
   go_ret2
   exact varBack_no HS3.out (hB.tr le_rfl' bb1)
  ·have hq:=VarBack.yes hq hv
   have HT:=hid (varTy_two hv)
   have HS3:=hid (HS2.out.trans hv)
   clear hv HS2 HS
   go_wp2_with (go_at_call 99;(with_reducible refine hq.mono ?_);rintro r u1 ⟨rfl,bb1⟩)
   go_ret2
   exact varBack_yes HT.out HS3.out (hB.tr le_rfl' bb1)
 have k2':(kind==2)=false:=by rw[beq_eq_false_iff_ne];exact k2
 have HS2:=hid (HS.out.trans (if_neg k2))
 clear HS h35
 by_cases k3:kind=3
 ·subst k3
  clear k2
  go_wp2
  go_ret2
  exact varBack_yes (.inl rfl) HS2.out hB
 have k3':(kind==3)=false:=by rw[beq_eq_false_iff_ne];exact k3
 by_cases k4:kind=4
 ·subst k4
  clear k2 k3
  go_wp2
  go_ret2
  exact varBack_yes (.inl rfl) HS2.out hB
 have k4':(kind==4)=false:=by rw[beq_eq_false_iff_ne];exact k4
 have HS3:=hid (HS2.out.trans (if_neg (by simp;exact⟨k3,k4⟩)))
 clear k2 k3 k4 HS2
 go_wp2
 go_ret2
 exact varBack_no HS3.out hB
def StTy (p:Pr) (s:St):Prop:=∀ (n₀:Nat) (w:World),n₀≤w.heap.size→p.Is n₀ w→s.Is n₀ w→Shapes w→Calls Tryz.prog 62 #[p.val,s.val] w fun r w'=>RoleBack (s.tyc p.mons) w w' r
def BlTy (p:Pr) (x:Bl):Prop:=∀ (n₀:Nat) (w:World),n₀≤w.heap.size→p.Is n₀ w→x.Is n₀ w→Shapes w→Calls Tryz.prog 42 #[p.val,x.slice] w fun r w'=>RoleBack (x.tyc p.mons) w w' r
set_option maxRecDepth 100000 in
set_option maxHeartbeats 4000000 in
theorem tyBlock_step (p:Pr) (ad:Option Addr) (cap:Nat) (body:List St) (ih:∀ s∈body,StTy p s):BlTy p (.mk ad cap body):=by
 intro n₀ w hn hp hI hS
 have hs3:=hS.size
 have HU:=hid (Bl.tyc_mk p.mons ad cap body)
 have hIk:=hI.down.2
 have hsl:=hI.down.1
 have hl1:=hsl.1;have hl2:=hsl.2.1
 unfold maxLen at hl2
 have h45:∀ x∈body,∀ W,Below w.heap.size w W→Calls Tryz.prog 62 #[p.val,x.val] W fun r w'=>RoleBack (x.tyc p.mons) W w' r:=fun x hx W hW=>ih x hx n₀ W (by have:=hW.size;omega) (hp.below (hW.mono hn)) ((hIk x hx).below (hW.mono hn)) (hS.below hW hs3)
 clear ih hIk hI
 obtain⟨pad,hpad⟩:∃ a,p.mad=a:=⟨_,rfl⟩
 obtain⟨pml,hpml⟩:∃ a,p.mons.length=a:=⟨_,rfl⟩
 obtain⟨pmc,hpmc⟩:∃ a,p.mcap=a:=⟨_,rfl⟩
 obtain⟨prd,hprd⟩:∃ a,p.rad=a:=⟨_,rfl⟩
 obtain⟨prl,hprl⟩:∃ a,p.roles.length=a:=⟨_,rfl⟩
 obtain⟨prc,hprc⟩:∃ a,p.rcap=a:=⟨_,rfl⟩
 simp only[Pr.val,hpad,hpml,hpmc,hprd,hprl,hprc] at h45 ⊢
 clear hpad hpml hpmc hprd hprl hprc hp
 simp only[Bl.slice]
 go_enter Tryz.func42,Tryz.ntmps42
 go_upto_region 1 with fail
 obtain⟨bR,hB,hz⟩:=one_box w #[.slice pad pml pmc,.slice prd prl prc] 25
 obtain⟨W0,hW0⟩:∃ W0,w.alloc (.cells #[.slice pad pml pmc,.slice prd prl prc] 25)=W0:=⟨_,rfl⟩
 rw[hW0] at bR hB hz ⊢
 clear hW0
 have r0:=cellOf bR 0
 have r1:=cellOf bR 1
 simp at r0 r1
 have HZ:=hid hz
 clear hz bR
 go_wp2
 go_loopw [12] (fun i wr=>∃ j:Nat,j≤body.length∧i=.int .i64 j∧Hid (St.tycL p.mons body=St.tycL p.mons (body.drop j))∧Below W0.heap.size W0 wr)
  (fun i _=>body.length-(intOf i).toNat)
 case atStart=>exact⟨0,by omega,rfl,rfl,Below.refl _ _⟩
 case round =>
  obtain⟨j,hj,rfl,HQ,hbw⟩:=hrel
  have hz1:=hbw.size
  have hz0:=HZ.out
  have hbF:Below w.heap.size w wr:=hB.trans (hbw.mono (by omega))
  have hb0:Below n₀ w wr:=hbF.mono hn
  by_cases hlt:j<body.length
  ·rcases hsl.2.2 with h|⟨kb,koff,rfl,hbn,hrow⟩
   ·subst h;simp at hlt
   have hbn2:kb<wr.heap.size:=by omega
   have HD:=hid (St.tycL_drop p.mons body j hlt)
   have hrj:=hrow.below hb0 hbn
   have hq:=h45 _ (List.getElem_mem hlt) (wr.alloc (.cells (body[j]).cells.toArray 64)) (hbF.al le_rfl' _)
   obtain⟨u,hu⟩:∃ u,body[j].tyc p.mons=u:=⟨_,rfl⟩
   rw[hu] at hq HD
   clear hu
   have x0:∀ o,(wr.alloc o).cell? ⟨w.heap.size,0,none⟩=_:=fun o=>(((Below.refl _ wr).al le_rfl' o).cell (p:=⟨w.heap.size,0,none⟩) (by show w.heap.size<_;omega)).trans ((hbw.cell (p:=⟨w.heap.size,0,none⟩) (by show w.heap.size<_;omega)).trans r0)
   have x1:∀ o,(wr.alloc o).cell? ⟨w.heap.size,1,none⟩=_:=fun o=>(((Below.refl _ wr).al le_rfl' o).cell (p:=⟨w.heap.size,1,none⟩) (by show w.heap.size<_;omega)).trans ((hbw.cell (p:=⟨w.heap.size,1,none⟩) (by show w.heap.size<_;omega)).trans r1)
   rcases he':body[j] with ⟨kind',mon',name',n',⟨eop',emon',ename',en',ead',ecap',ekids',epos'⟩,ad',cap',blocks',pos'⟩
   obtain⟨c0,c1,c2,c3,c4,c5,c6,c7,c8,c9,c10,c11⟩:=row12 hrj j hlt (by rw[he'];rfl)
   simp only[he',St.val,St.cells,Ex.cells,List.cons_append,List.nil_append] at hq
   clear he' h45
   rcases u with _|⟨c,a⟩
   ·have hq:=RoleBack.no hq rfl
    go_wp2_with (go_at_call 62;(with_reducible refine hq.mono ?_);rintro r w1 ⟨rfl,hb1⟩)
    go_roundw
    case rel=>exact⟨j+1,by omega,by go_num,by show _=_;rw[HQ.out,HD.out];rfl,(hbw.al le_rfl' _).tr le_rfl' hb1⟩
    case measure=>simp[intOf];omega
   ·have hq:=RoleBack.yes2 hq rfl
    go_wp2_with (go_at_call 62;(with_reducible refine hq.mono ?_);rintro r w1 ⟨rfl,hcb,hb1⟩)
    go_ret2
    exact roleBack_yes hcb (by rw[HU.out,HQ.out,HD.out];rfl) ((hbF.al le_rfl' _).tr le_rfl' hb1)
  ·have hjd:decide ((j:Int)<(body.length:Int))=false:=by simp;omega
   go_wp2
   go_ret2
   exact roleBack_no (by rw[HU.out,HQ.out,St.tycL_end _ _ _ (by omega)]) hbF
set_option maxRecDepth 100000 in
set_option maxHeartbeats 8000000 in
theorem tyStmt_step (p:Pr) (hvs:vsum p.mons≤1000000) (kind:Int) (mon name:ByteArray) (n:Int) (e:Ex) (ad:Option Addr) (cap:Nat) (blocks:List Bl) (pos:Int) (ih:∀ x∈blocks,BlTy p x):StTy p (.mk kind mon name n e ad cap blocks pos):=by
 intro n₀ w hn hp hI hS
 have hs3:=hS.size
 have HU:=hid (St.tyc_mk p.mons kind mon name n e ad cap blocks pos)
 have hIe:=hI.down.2.1
 have hIk:=hI.down.2.2.2
 have hsl:=hI.down.2.2.1
 have hl1:=hsl.1;have hl2:=hsl.2.1
 unfold maxLen at hl2
 have h66:∀ W,Below w.heap.size w W→Calls Tryz.prog 84 #[p.val,(St.mk kind mon name n e ad cap blocks pos).val] W fun r w'=>VarBack (stWant p.mons kind mon name) W w' r:=fun W hW=>wants_any p hvs kind mon name n e ad cap blocks pos n₀ W (by have:=hW.size;omega) (hp.below (hW.mono hn))
 have h11:∀ W,Below w.heap.size w W→Calls Tryz.prog 85 #[p.val,e.val] W fun r w'=>TyBack (e.is p.mons) (e.tero p.mons) W w' r:=fun W hW=>type_any p hvs e n₀ W (by have:=hW.size;omega) (hp.below (hW.mono hn)) (hIe.below (hW.mono hn)) (hS.below hW hs3)
 have h26:∀ x∈blocks,∀ W,Below w.heap.size w W→Calls Tryz.prog 42 #[p.val,x.slice] W fun r w'=>RoleBack (x.tyc p.mons) W w' r:=fun x hx W hW=>ih x hx n₀ W (by have:=hW.size;omega) (hp.below (hW.mono hn)) ((hIk x hx).below (hW.mono hn)) (hS.below hW hs3)
 clear ih hIk hI hIe
 have HPO:=hid (Ex.tero_pos p.mons e)
 have HOW:Hid (stOwn p.mons kind mon name e=match stWant p.mons kind mon name with|none=>none|some t=>(e.tero p.mons).or (if e.is p.mons=t then none else some (70,e.pos))):=rfl
 obtain⟨wa,hwa⟩:∃ wa,stWant p.mons kind mon name=wa:=⟨_,rfl⟩
 obtain⟨is,his⟩:∃ is,e.is p.mons=is:=⟨_,rfl⟩
 obtain⟨te,hte⟩:∃ te,e.tero p.mons=te:=⟨_,rfl⟩
 rw[hwa,his,hte] at HOW
 rw[hte] at HPO
 simp only[hwa,his,hte] at h66 h11
 clear hwa his hte
 obtain⟨pad,hpad⟩:∃ a,p.mad=a:=⟨_,rfl⟩
 obtain⟨pml,hpml⟩:∃ a,p.mons.length=a:=⟨_,rfl⟩
 obtain⟨pmc,hpmc⟩:∃ a,p.mcap=a:=⟨_,rfl⟩
 obtain⟨prd,hprd⟩:∃ a,p.rad=a:=⟨_,rfl⟩
 obtain⟨prl,hprl⟩:∃ a,p.roles.length=a:=⟨_,rfl⟩
 obtain⟨prc,hprc⟩:∃ a,p.rcap=a:=⟨_,rfl⟩
 simp only[Pr.val,hpad,hpml,hpmc,hprd,hprl,hprc] at h66 h11 h26 ⊢
 clear hpad hpml hpmc hprd hprl hprc hp
 rcases e with ⟨eop,emon,ename,en,ead,ecap,ekids,epos⟩
 simp only[Ex.pos] at HOW
 simp only[St.val,St.cells,Ex.val,Ex.cells,List.cons_append,List.nil_append] at h66 h11 ⊢
 go_enter Tryz.func62,Tryz.ntmps62
 go_upto_region 1 with fail
 obtain⟨bR,bX,hB,hz⟩:=two_box w #[.slice pad pml pmc,.slice prd prl prc] #[.int .i64 kind,.string mon,.string name,.int .i64 n,.int .i64 eop,.string emon,.string ename,.int .i64 en,.slice ead ekids.length ecap,.int .i64 epos,.slice ad blocks.length cap,.int .i64 pos] 25 64
 obtain⟨W0,hW0⟩:∃ W0,(w.alloc (.cells #[.slice pad pml pmc,.slice prd prl prc] 25)).alloc (.cells #[.int .i64 kind,.string mon,.string name,.int .i64 n,.int .i64 eop,.string emon,.string ename,.int .i64 en,.slice ead ekids.length ecap,.int .i64 epos,.slice ad blocks.length cap,.int .i64 pos] 64)=W0:=⟨_,rfl⟩
 rw[hW0] at bR bX hB hz ⊢
 clear hW0
 have r0:=cellOf bR 0
 have r1:=cellOf bR 1
 have s0:=cellOf bX 0
 have s1:=cellOf bX 1
 have s2:=cellOf bX 2
 have s3:=cellOf bX 3
 have s4:=cellOf bX 4
 have s5:=cellOf bX 5
 have s6:=cellOf bX 6
 have s7:=cellOf bX 7
 have s8:=cellOf bX 8
 have s9:=cellOf bX 9
 have s10:=cellOf bX 10
 have s11:=cellOf bX 11
 simp at r0 r1 s0 s1 s2 s3 s4 s5 s6 s7 s8 s9 s10 s11
 have HZ:=hid hz
 clear hz bX bR
 have hK:=h66 W0 hB
 rcases wa with _|t
 ·have hK:=VarBack.no hK rfl
  have HOWN:Hid (stOwn p.mons kind mon name (.mk eop emon ename en ead ecap ekids epos)=none):=HOW
  go_wp2_with (go_at_call 84;(with_reducible refine hK.mono ?_);rintro r u1 ⟨rfl,bb1⟩;have hz_bb1:=bb1.size;have x0:=(bb1.cell (p:=⟨w.heap.size,0,none⟩) (by show w.heap.size<_;have:=HZ.out;omega)).trans r0;have x1:=(bb1.cell (p:=⟨w.heap.size,1,none⟩) (by show w.heap.size<_;have:=HZ.out;omega)).trans r1;have y4:=(bb1.cell (p:=⟨w.heap.size+1,4,none⟩) (by show w.heap.size+1<_;have:=HZ.out;omega)).trans s4;have y5:=(bb1.cell (p:=⟨w.heap.size+1,5,none⟩) (by show w.heap.size+1<_;have:=HZ.out;omega)).trans s5;have y6:=(bb1.cell (p:=⟨w.heap.size+1,6,none⟩) (by show w.heap.size+1<_;have:=HZ.out;omega)).trans s6;have y7:=(bb1.cell (p:=⟨w.heap.size+1,7,none⟩) (by show w.heap.size+1<_;have:=HZ.out;omega)).trans s7;have y8:=(bb1.cell (p:=⟨w.heap.size+1,8,none⟩) (by show w.heap.size+1<_;have:=HZ.out;omega)).trans s8;have y9:=(bb1.cell (p:=⟨w.heap.size+1,9,none⟩) (by show w.heap.size+1<_;have:=HZ.out;omega)).trans s9;have y10:=(bb1.cell (p:=⟨w.heap.size+1,10,none⟩) (by show w.heap.size+1<_;have:=HZ.out;omega)).trans s10;have y11:=(bb1.cell (p:=⟨w.heap.size+1,11,none⟩) (by show w.heap.size+1<_;have:=HZ.out;omega)).trans s11)
  have hBu:Below W0.heap.size W0 u1:=bb1
  clear h66 h11
  go_loopw [43] (fun i wr=>∃ j:Nat,j≤blocks.length∧i=.int .i64 j∧Hid (Bl.tycL p.mons blocks=Bl.tycL p.mons (blocks.drop j))∧Below W0.heap.size W0 wr)
   (fun i _=>blocks.length-(intOf i).toNat)
  case atStart=>exact⟨0,by omega,rfl,rfl,hBu⟩
  case round =>
   obtain⟨j,hj,rfl,HQ,hbw⟩:=hrel
   have hz3:=hbw.size
   have hz0:=HZ.out
   have hbF:Below w.heap.size w wr:=hB.trans (hbw.mono (by omega))
   have hb0:Below n₀ w wr:=hbF.mono hn
   by_cases hlt:j<blocks.length
   ·rcases hsl.2.2 with h|⟨kb,koff,rfl,hbn,hrow⟩
    ·subst h;simp at hlt
    have hbn2:kb<wr.heap.size:=by omega
    have HD:=hid (Bl.tycL_drop p.mons blocks j hlt)
    have hrj:=hrow.below hb0 hbn
    have hq:=h26 _ (List.getElem_mem hlt) wr hbF
    obtain⟨u,hu⟩:∃ u,blocks[j].tyc p.mons=u:=⟨_,rfl⟩
    rw[hu] at hq HD
    clear hu
    have v0:=(hbw.cell (p:=⟨w.heap.size,0,none⟩) (by show w.heap.size<_;omega)).trans r0
    have v1:=(hbw.cell (p:=⟨w.heap.size,1,none⟩) (by show w.heap.size<_;omega)).trans r1
    rcases he':blocks[j] with ⟨bad,bcap,bbody⟩
    have c0:=hrj j hlt 0 (by omega)
    simp only[he',Bl.cells,Bl.slice,Nat.mul_one,Nat.add_zero,List.getElem?_cons_zero] at hq c0
    clear he' h26
    rcases u with _|⟨c,a⟩
    ·have hq:=RoleBack.no hq rfl
     go_wp2_with (go_at_call 42;(with_reducible refine hq.mono ?_);rintro r w1 ⟨rfl,hb1⟩)
     go_roundw
     case rel=>exact⟨j+1,by omega,by go_num,by show _=_;rw[HQ.out,HD.out];rfl,hbw.tr le_rfl' hb1⟩
     case measure=>simp[intOf];omega
    ·have hq:=RoleBack.yes2 hq rfl
     go_wp2_with (go_at_call 42;(with_reducible refine hq.mono ?_);rintro r w1 ⟨rfl,hcb,hb1⟩)
     go_ret2
     exact roleBack_yes hcb (by rw[HU.out,HOWN.out,HQ.out,HD.out];rfl) (hbF.tr le_rfl' hb1)
   ·have hjd:decide ((j:Int)<(blocks.length:Int))=false:=by simp;omega
    go_wp2
    go_ret2
    exact roleBack_no (by rw[HU.out,HOWN.out,HQ.out,Bl.tycL_end _ _ _ (by omega)];rfl) hbF
 ·have hK:=VarBack.yes hK rfl
  rcases te with _|⟨c,a⟩
  ·by_cases hit:is=t
   ·have HOWN:Hid (stOwn p.mons kind mon name (.mk eop emon ename en ead ecap ekids epos)=none):=by
     show _=_
     rw[HOW.out];simp[hit]
    subst hit
    go_wp2_with (first
     | (go_at_call 84;(with_reducible refine hK.mono ?_);rintro r u1 ⟨rfl,bb1⟩;have hz_bb1:=bb1.size;have x0:=(bb1.cell (p:=⟨w.heap.size,0,none⟩) (by show w.heap.size<_;have:=HZ.out;omega)).trans r0;have x1:=(bb1.cell (p:=⟨w.heap.size,1,none⟩) (by show w.heap.size<_;have:=HZ.out;omega)).trans r1;have y4:=(bb1.cell (p:=⟨w.heap.size+1,4,none⟩) (by show w.heap.size+1<_;have:=HZ.out;omega)).trans s4;have y5:=(bb1.cell (p:=⟨w.heap.size+1,5,none⟩) (by show w.heap.size+1<_;have:=HZ.out;omega)).trans s5;have y6:=(bb1.cell (p:=⟨w.heap.size+1,6,none⟩) (by show w.heap.size+1<_;have:=HZ.out;omega)).trans s6;have y7:=(bb1.cell (p:=⟨w.heap.size+1,7,none⟩) (by show w.heap.size+1<_;have:=HZ.out;omega)).trans s7;have y8:=(bb1.cell (p:=⟨w.heap.size+1,8,none⟩) (by show w.heap.size+1<_;have:=HZ.out;omega)).trans s8;have y9:=(bb1.cell (p:=⟨w.heap.size+1,9,none⟩) (by show w.heap.size+1<_;have:=HZ.out;omega)).trans s9;have y10:=(bb1.cell (p:=⟨w.heap.size+1,10,none⟩) (by show w.heap.size+1<_;have:=HZ.out;omega)).trans s10;have y11:=(bb1.cell (p:=⟨w.heap.size+1,11,none⟩) (by show w.heap.size+1<_;have:=HZ.out;omega)).trans s11;have hE:=TyBack.no (h11 u1 (hB.tr le_rfl' bb1)) rfl)
     | (go_at_call 85;(with_reducible refine hE.mono ?_);rintro r u2 ⟨rfl,bb2⟩;have hz_bb2:=bb2.size;have xx0:=(bb2.cell (p:=⟨w.heap.size,0,none⟩) (by show w.heap.size<_;have:=HZ.out;omega)).trans x0;have xx1:=(bb2.cell (p:=⟨w.heap.size,1,none⟩) (by show w.heap.size<_;have:=HZ.out;omega)).trans x1;have yy9:=(bb2.cell (p:=⟨w.heap.size+1,9,none⟩) (by show w.heap.size+1<_;have:=HZ.out;omega)).trans y9;have yy10:=(bb2.cell (p:=⟨w.heap.size+1,10,none⟩) (by show w.heap.size+1<_;have:=HZ.out;omega)).trans y10))
    have hBu:Below W0.heap.size W0 u2:=bb1.tr le_rfl' bb2
    clear h66 h11
    go_loopw [43] (fun i wr=>∃ j:Nat,j≤blocks.length∧i=.int .i64 j∧Hid (Bl.tycL p.mons blocks=Bl.tycL p.mons (blocks.drop j))∧Below W0.heap.size W0 wr)
     (fun i _=>blocks.length-(intOf i).toNat)
    case atStart=>exact⟨0,by omega,rfl,rfl,hBu⟩
    case round =>
     obtain⟨j,hj,rfl,HQ,hbw⟩:=hrel
     have hz3:=hbw.size
     have hz0:=HZ.out
     have hbF:Below w.heap.size w wr:=hB.trans (hbw.mono (by omega))
     have hb0:Below n₀ w wr:=hbF.mono hn
     by_cases hlt:j<blocks.length
     ·rcases hsl.2.2 with h|⟨kb,koff,rfl,hbn,hrow⟩
      ·subst h;simp at hlt
      have hbn2:kb<wr.heap.size:=by omega
      have HD:=hid (Bl.tycL_drop p.mons blocks j hlt)
      have hrj:=hrow.below hb0 hbn
      have hq:=h26 _ (List.getElem_mem hlt) wr hbF
      obtain⟨u,hu⟩:∃ u,blocks[j].tyc p.mons=u:=⟨_,rfl⟩
      rw[hu] at hq HD
      clear hu
      have v0:=(hbw.cell (p:=⟨w.heap.size,0,none⟩) (by show w.heap.size<_;omega)).trans r0
      have v1:=(hbw.cell (p:=⟨w.heap.size,1,none⟩) (by show w.heap.size<_;omega)).trans r1
      rcases he':blocks[j] with ⟨bad,bcap,bbody⟩
      have c0:=hrj j hlt 0 (by omega)
      simp only[he',Bl.cells,Bl.slice,Nat.mul_one,Nat.add_zero,List.getElem?_cons_zero] at hq c0
      clear he' h26
      rcases u with _|⟨c,a⟩
      ·have hq:=RoleBack.no hq rfl
       go_wp2_with (go_at_call 42;(with_reducible refine hq.mono ?_);rintro r w1 ⟨rfl,hb1⟩)
       go_roundw
       case rel=>exact⟨j+1,by omega,by go_num,by show _=_;rw[HQ.out,HD.out];rfl,hbw.tr le_rfl' hb1⟩
       case measure=>simp[intOf];omega
      ·have hq:=RoleBack.yes2 hq rfl
       go_wp2_with (go_at_call 42;(with_reducible refine hq.mono ?_);rintro r w1 ⟨rfl,hcb,hb1⟩)
       go_ret2
       exact roleBack_yes hcb (by rw[HU.out,HOWN.out,HQ.out,HD.out];rfl) (hbF.tr le_rfl' hb1)
     ·have hjd:decide ((j:Int)<(blocks.length:Int))=false:=by simp;omega
      go_wp2
      go_ret2
      exact roleBack_no (by rw[HU.out,HOWN.out,HQ.out,Bl.tycL_end _ _ _ (by omega)];rfl) hbF
   ·have hib:(is != t)=true:=by rw[bne_iff_ne];exact hit
    have HOWN:Hid (stOwn p.mons kind mon name (.mk eop emon ename en ead ecap ekids epos)=some (70,epos)):=by
     show _=_
     rw[HOW.out];simp[hit]
    clear hit HOW h26
    go_upto_region 7 with (first
     | (go_at_call 84;(with_reducible refine hK.mono ?_);rintro r u1 ⟨rfl,bb1⟩;have hz_bb1:=bb1.size;have x0:=(bb1.cell (p:=⟨w.heap.size,0,none⟩) (by show w.heap.size<_;have:=HZ.out;omega)).trans r0;have x1:=(bb1.cell (p:=⟨w.heap.size,1,none⟩) (by show w.heap.size<_;have:=HZ.out;omega)).trans r1;have y4:=(bb1.cell (p:=⟨w.heap.size+1,4,none⟩) (by show w.heap.size+1<_;have:=HZ.out;omega)).trans s4;have y5:=(bb1.cell (p:=⟨w.heap.size+1,5,none⟩) (by show w.heap.size+1<_;have:=HZ.out;omega)).trans s5;have y6:=(bb1.cell (p:=⟨w.heap.size+1,6,none⟩) (by show w.heap.size+1<_;have:=HZ.out;omega)).trans s6;have y7:=(bb1.cell (p:=⟨w.heap.size+1,7,none⟩) (by show w.heap.size+1<_;have:=HZ.out;omega)).trans s7;have y8:=(bb1.cell (p:=⟨w.heap.size+1,8,none⟩) (by show w.heap.size+1<_;have:=HZ.out;omega)).trans s8;have y9:=(bb1.cell (p:=⟨w.heap.size+1,9,none⟩) (by show w.heap.size+1<_;have:=HZ.out;omega)).trans s9;have y10:=(bb1.cell (p:=⟨w.heap.size+1,10,none⟩) (by show w.heap.size+1<_;have:=HZ.out;omega)).trans s10;have y11:=(bb1.cell (p:=⟨w.heap.size+1,11,none⟩) (by show w.heap.size+1<_;have:=HZ.out;omega)).trans s11;have hE:=TyBack.no (h11 u1 (hB.tr le_rfl' bb1)) rfl)
     | (go_at_call 85;(with_reducible refine hE.mono ?_);rintro r u2 ⟨rfl,bb2⟩;have hz_bb2:=bb2.size;have xx0:=(bb2.cell (p:=⟨w.heap.size,0,none⟩) (by show w.heap.size<_;have:=HZ.out;omega)).trans x0;have xx1:=(bb2.cell (p:=⟨w.heap.size,1,none⟩) (by show w.heap.size<_;have:=HZ.out;omega)).trans x1;have yy9:=(bb2.cell (p:=⟨w.heap.size+1,9,none⟩) (by show w.heap.size+1<_;have:=HZ.out;omega)).trans y9;have yy10:=(bb2.cell (p:=⟨w.heap.size+1,10,none⟩) (by show w.heap.size+1<_;have:=HZ.out;omega)).trans y10))
    go_quiet (fail)
    go_wp2
    go_ret2
    have hbf:=(hB.tr le_rfl' bb1).tr le_rfl' bb2
    exact roleBack_yes rfl (by rw[HU.out,HOWN.out];rfl) ⟨hbf.os,hbf.tape,hbf.output,hbf.size,hbf.block⟩
  ·have hcb:(c != 0)=true:=by rw[bne_iff_ne];exact HPO.out c a rfl
   have HOWN:Hid (stOwn p.mons kind mon name (.mk eop emon ename en ead ecap ekids epos)=some (c,a)):=by
    show _=_
    rw[HOW.out];rfl
   clear HOW h26
   go_wp2_with (first
    | (go_at_call 84;(with_reducible refine hK.mono ?_);rintro r u1 ⟨rfl,bb1⟩;have hz_bb1:=bb1.size;have x0:=(bb1.cell (p:=⟨w.heap.size,0,none⟩) (by show w.heap.size<_;have:=HZ.out;omega)).trans r0;have x1:=(bb1.cell (p:=⟨w.heap.size,1,none⟩) (by show w.heap.size<_;have:=HZ.out;omega)).trans r1;have y4:=(bb1.cell (p:=⟨w.heap.size+1,4,none⟩) (by show w.heap.size+1<_;have:=HZ.out;omega)).trans s4;have y5:=(bb1.cell (p:=⟨w.heap.size+1,5,none⟩) (by show w.heap.size+1<_;have:=HZ.out;omega)).trans s5;have y6:=(bb1.cell (p:=⟨w.heap.size+1,6,none⟩) (by show w.heap.size+1<_;have:=HZ.out;omega)).trans s6;have y7:=(bb1.cell (p:=⟨w.heap.size+1,7,none⟩) (by show w.heap.size+1<_;have:=HZ.out;omega)).trans s7;have y8:=(bb1.cell (p:=⟨w.heap.size+1,8,none⟩) (by show w.heap.size+1<_;have:=HZ.out;omega)).trans s8;have y9:=(bb1.cell (p:=⟨w.heap.size+1,9,none⟩) (by show w.heap.size+1<_;have:=HZ.out;omega)).trans s9;have y10:=(bb1.cell (p:=⟨w.heap.size+1,10,none⟩) (by show w.heap.size+1<_;have:=HZ.out;omega)).trans s10;have y11:=(bb1.cell (p:=⟨w.heap.size+1,11,none⟩) (by show w.heap.size+1<_;have:=HZ.out;omega)).trans s11;have hE:=TyBack.yes (h11 u1 (hB.tr le_rfl' bb1)) rfl)
    | (go_at_call 85;(with_reducible refine hE.mono ?_);rintro r u2 ⟨rfl,bb2⟩))
   go_ret2
   exact roleBack_yes hcb (by rw[HU.out,HOWN.out];rfl) ((hB.tr le_rfl' bb1).tr le_rfl' bb2)
theorem tyBlock_any (p:Pr) (hvs:vsum p.mons≤1000000) (x:Bl):BlTy p x:=
 Bl.ind (P:=StTy p) (Q:=BlTy p) (fun kind mon name n e ad cap blocks pos ih=>tyStmt_step p hvs kind mon name n e ad cap blocks pos ih) (fun ad cap body ih=>tyBlock_step p ad cap body ih) x
open Go.RowKit
set_option maxRecDepth 100000 in
set_option maxHeartbeats 8000000 in
theorem checkFirsts_any (n₀:Nat) (mad:Option Addr) (mcap:Nat) (mons:List Mo) (w:World) (hn:n₀≤w.heap.size) (h3:SlAt 4 Mo.cells n₀ w mad mcap mons) (h4:∀ m∈mons,m.Is n₀ w) :
  Calls Tryz.prog 41 #[.slice mad mons.length mcap] w fun r w'=>RoleBack (fstOf Mo.offs mons) w w' r:=by
 have hl1:=h3.1;have hl2:=h3.2.1
 unfold maxLen at hl2
 go_enter Tryz.func41,Tryz.ntmps41
 go_wp2
 go_loopw [10] (fun i wr=>∃ j:Nat,j≤mons.length∧i=.int .i64 j∧Hid (fstOf Mo.offs mons=fstOf Mo.offs (mons.drop j))∧Below w.heap.size w wr)
  (fun i _=>mons.length-(intOf i).toNat)
 case atStart=>exact⟨0,by omega,rfl,rfl,Below.refl _ _⟩
 case round =>
  obtain⟨j,hj,rfl,HQ,hbw⟩:=hrel
  have hz1:=hbw.size
  have hb0:Below n₀ w wr:=hbw.mono hn
  by_cases hlt:j<mons.length
  ·rcases h3.2.2 with h|⟨kb,koff,rfl,hbn,hrow⟩
   ·subst h;simp at hlt
   have hbn2:kb<wr.heap.size:=by omega
   have HD:=hid (fstOf_drop Mo.offs mons j hlt)
   have HMU:Hid (Mo.offs mons[j]=fstOf Va.off mons[j].vars):=rfl
   have hrj:=hrow.below hb0 hbn
   have hIm:=(h4 _ (List.getElem_mem hlt)).2.1.1
   rcases he':mons[j] with ⟨mname,mvad,mvcap,mvars,mmad,mmcap,mmeths,mpos⟩
   obtain⟨c0,c1,c2,c3⟩:=row4 hrj j hlt (by rw[he'];rfl)
   rw[he'] at HMU hIm
   rw[he'] at HD
   simp only at HMU hIm
   clear he'
   have hml1:=hIm.1;have hml2:=hIm.2.1
   unfold maxLen at hml2
   go_wp2
   obtain⟨bM,hBM,hzM⟩:=one_box wr #[.string mname,.slice mvad mvars.length mvcap,.slice mmad mmeths.length mmcap,.int .i64 mpos] 52
   obtain⟨W1,hW1⟩:∃ W1,wr.alloc (.cells #[.string mname,.slice mvad mvars.length mvcap,.slice mmad mmeths.length mmcap,.int .i64 mpos] 52)=W1:=⟨_,rfl⟩
   rw[hW1] at bM hBM hzM ⊢
   clear hW1
   have hbw1:Below w.heap.size w W1:=hbw.tr le_rfl' hBM
   clear hzM c0 c1 c2 c3
   obtain⟨wo,hwo⟩:∃ wo:World,wo=wr:=⟨_,rfl⟩
   subst hwo
   go_loopw [17] (fun i wr=>∃ l:Nat,l≤mvars.length∧i=.int .i64 l∧Hid (fstOf Va.off mvars=fstOf Va.off (mvars.drop l))∧Below w.heap.size w wr)
    (fun i _=>mvars.length-(intOf i).toNat)
   case atStart=>exact⟨0,by omega,rfl,rfl,hbw1⟩
   case round =>
    obtain⟨l,hl,rfl,HQ2,hbv⟩:=hrel
    have hzv:=hbv.size
    have hv0:Below n₀ w wr:=hbv.mono hn
    by_cases hlt2:l<mvars.length
    ·rcases hIm.2.2 with h|⟨mb,moff,rfl,hmn,hmrow⟩
     ·subst h;simp at hlt2
     have hmn2:mb<wr.heap.size:=by omega
     have HD2:=hid (fstOf_drop Va.off mvars l hlt2)
     have hmr:=hmrow.below hv0 hmn
     have HVO:Hid (Va.off mvars[l]=if mvars[l].type=3∧(mvars[l].init<mvars[l].lo∨mvars[l].hi<mvars[l].init) then some (71,mvars[l].pos) else none):=rfl
     rcases he':mvars[l] with ⟨vn,vt,vlo,vhi,vin,vps⟩
     obtain⟨c0,c1,c2,c3,c4,c5⟩:=row6 hmr l hlt2 (by rw[he'];rfl)
     rw[he'] at HVO
     rw[he'] at HD2
     simp only at HVO
     clear he'
     by_cases ht:vt=3
     ·subst ht
      by_cases hlo:vin<vlo
      ·have HV2:=hid (HVO.out.trans (if_pos ⟨rfl,.inl hlo⟩))
       clear HVO
       have hbf:=hbv.al le_rfl' (.cells #[.string vn,.int .i64 3,.int .i64 vlo,.int .i64 vhi,.int .i64 vin,.int .i64 vps] 54)
       go_upto_region 8 with fail
       go_quiet (fail)
       go_wp2
       go_ret2
       exact roleBack_yes rfl (by rw[HQ.out,HD.out,HMU.out,HQ2.out,HD2.out,HV2.out];rfl) ⟨hbf.os,hbf.tape,hbf.output,hbf.size,hbf.block⟩
      ·have hlo':decide (vin<vlo)=false:=by simp;omega
       by_cases hhi:vhi<vin
       ·have HV2:=hid (HVO.out.trans (if_pos ⟨rfl,.inr hhi⟩))
        clear HVO hlo
        have hbf:=hbv.al le_rfl' (.cells #[.string vn,.int .i64 3,.int .i64 vlo,.int .i64 vhi,.int .i64 vin,.int .i64 vps] 54)
        go_upto_region 8 with fail
        go_quiet (fail)
        go_wp2
        go_ret2
        exact roleBack_yes rfl (by rw[HQ.out,HD.out,HMU.out,HQ2.out,HD2.out,HV2.out];rfl) ⟨hbf.os,hbf.tape,hbf.output,hbf.size,hbf.block⟩
       ·have hhi':decide (vhi<vin)=false:=by simp;omega
        have HV2:=hid (HVO.out.trans (if_neg (by omega)))
        clear HVO hlo hhi
        go_wp2
        go_roundw
        case rel=>exact⟨l+1,by omega,by go_num,by show _=_;rw[HQ2.out,HD2.out,HV2.out];rfl,hbv.al le_rfl' _⟩
        case measure=>simp[intOf];omega
     ·have ht':(vt==3)=false:=by rw[beq_eq_false_iff_ne];exact ht
      have HV2:=hid (HVO.out.trans (if_neg (by simp;intro h;exact absurd h ht)))
      clear HVO ht
      go_wp2
      go_roundw
      case rel=>exact⟨l+1,by omega,by go_num,by show _=_;rw[HQ2.out,HD2.out,HV2.out];rfl,hbv.al le_rfl' _⟩
      case measure=>simp[intOf];omega
    ·have hjd:decide ((l:Int)<(mvars.length:Int))=false:=by simp;omega
     go_wp2
     go_roundw
     case rel=>exact⟨j+1,by omega,by go_num,by show _=_;rw[HQ.out,HD.out,HMU.out,HQ2.out,fstOf_end _ _ _ (by omega)];rfl,hbv⟩
     case measure=>simp[intOf];omega
  ·have hjd:decide ((j:Int)<(mons.length:Int))=false:=by simp;omega
   go_wp2
   go_ret2
   exact roleBack_no (by rw[HQ.out,fstOf_end _ _ _ (by omega)]) hbw
theorem off_pos (mons:List Mo) (c a:Int) (h:fstOf Mo.offs mons=some (c,a)):(c != 0)=true:=by
 have hv:∀ l:List Va,fstOf Va.off l=some (c,a)→c=71:=by
  intro l
  induction l with
  | nil=>intro h;cases h
  | cons x l ih =>
   intro h
   rw[fstOf] at h
   cases hx:x.off with
   | none=>rw[hx] at h;exact ih h
   | some y =>
    rw[hx] at h
    simp only[Option.some_or,Option.some.injEq] at h
    rw[h,Va.off] at hx
    split at hx
    ·cases hx;rfl
    ·cases hx
 have:c=71:=by
  induction mons with
  | nil=>cases h
  | cons x l ih =>
   rw[fstOf] at h
   cases hx:x.offs with
   | none=>rw[hx] at h;exact ih h
   | some y =>
    rw[hx] at h
    simp only[Option.some_or,Option.some.injEq] at h
    rw[h] at hx
    exact hv _ hx
 subst this;rfl
theorem tchk_names {p:Pr} (h:p.nchk.1≠0):p.tchk=p.nchk:=by rw[Pr.tchk,if_neg h]
theorem tchk_some {p:Pr} {x:Int × Int} (h:p.nchk.1=0) (h2:(fstOf Mo.offs p.mons).or ((fstOf (Mo.tyc p.mons) p.mons).or (fstOf (Ro.tyc p.mons) p.roles))=some x):p.tchk=x:=by rw[Pr.tchk,if_pos h,h2];rfl
theorem tchk_none {p:Pr} (h:p.nchk.1=0) (h2:(fstOf Mo.offs p.mons).or ((fstOf (Mo.tyc p.mons) p.mons).or (fstOf (Ro.tyc p.mons) p.roles))=none):p.tchk=(0,0):=by rw[Pr.tchk,if_pos h,h2];rfl
def ChkBack (x:Int × Int) (w w':World) (r:Ending):Prop:=r=.returned (.tuple #[.int .i64 x.1,.int .i64 x.2])∧Below w.heap.size w w'
theorem chkBack_mk {x:Int × Int} {w w':World} {c a:Int} (h:x=(c,a)) (hb:Below w.heap.size w w'):ChkBack x w w' (.returned (.tuple #[.int .i64 c,.int .i64 a])):=by subst h;exact⟨rfl,hb⟩
set_option maxRecDepth 100000 in
set_option maxHeartbeats 16000000 in
theorem typesCheck_any (p:Pr) (hvs:vsum p.mons≤1000000) (n₀:Nat) (w:World) (hn:n₀≤w.heap.size) (hI:p.Is n₀ w) (hS:Shapes w) :
  Calls Tryz.prog 20 #[p.val] w fun r w'=>ChkBack p.tchk w w' r:=by
 have hs3:=hS.size
 have h24:∀ W,Below w.heap.size w W→Calls Tryz.prog 40 #[p.val] W fun r w'=>r=.returned (.tuple #[.int .i64 p.nchk.1,.int .i64 p.nchk.2])∧Below W.heap.size W w':=fun W hW=>namesCheck_any p n₀ W (by have:=hW.size;omega) (hI.below (hW.mono hn)) (hS.below hW hs3)
 have h25:∀ W,Below w.heap.size w W→Calls Tryz.prog 41 #[.slice p.mad p.mons.length p.mcap] W fun r w'=>RoleBack (fstOf Mo.offs p.mons) W w' r:=fun W hW=>checkFirsts_any n₀ p.mad p.mcap p.mons W (by have:=hW.size;omega) (hI.below (hW.mono hn)).1.1 (hI.below (hW.mono hn)).1.2
 have h26:∀ x:Bl,x.Is n₀ w→∀ W,Below w.heap.size w W→Calls Tryz.prog 42 #[p.val,x.slice] W fun r w'=>RoleBack (x.tyc p.mons) W w' r:=fun x hx W hW=>tyBlock_any p hvs x n₀ W (by have:=hW.size;omega) (hI.below (hW.mono hn)) (hx.below (hW.mono hn)) (hS.below hW hs3)
 have HNA:Hid (p.nchk.1≠0→p.tchk=p.nchk):=fun h=>tchk_names h
 have HSO:Hid (p.nchk.1=0→∀ x,(fstOf Mo.offs p.mons).or ((fstOf (Mo.tyc p.mons) p.mons).or (fstOf (Ro.tyc p.mons) p.roles))=some x→p.tchk=x):=fun h x h2=>tchk_some h h2
 have HNO:Hid (p.nchk.1=0→(fstOf Mo.offs p.mons).or ((fstOf (Mo.tyc p.mons) p.mons).or (fstOf (Ro.tyc p.mons) p.roles))=none→p.tchk=(0,0)):=fun h h2=>tchk_none h h2
 obtain⟨TC,hTC⟩:∃ TC,p.tchk=TC:=⟨_,rfl⟩
 rw[hTC]
 rw[hTC] at HNA
 simp only[hTC] at HSO
 rw[hTC] at HNO
 obtain⟨⟨c1,c2⟩,hcc⟩:∃ cc,p.nchk=cc:=⟨_,rfl⟩
 rw[hcc] at HNA HSO HNO
 simp only[hcc] at h24 HNA HSO HNO
 clear hTC hcc
 rcases p with ⟨mad,mcap,mons,rad,rcap,roles⟩
 obtain⟨⟨h3,h4⟩,h5,h6⟩:=hI
 simp only[Pr.val] at h3 h4 h5 h6 h24 h25 h26 HSO HNO hvs ⊢
 have hl1:=h3.1;have hl2:=h3.2.1;have hl3:=h5.1;have hl4:=h5.2.1
 unfold maxLen at hl2 hl4
 go_enter Tryz.func20,Tryz.ntmps20
 go_upto_region 1 with fail
 obtain⟨bX,hB,hz⟩:=one_box w #[.slice mad mons.length mcap,.slice rad roles.length rcap] 25
 obtain⟨W0,hW0⟩:∃ W0,w.alloc (.cells #[.slice mad mons.length mcap,.slice rad roles.length rcap] 25)=W0:=⟨_,rfl⟩
 rw[hW0] at bX hB hz ⊢
 clear hW0
 have s0:=cellOf bX 0
 have s1:=cellOf bX 1
 simp at s0 s1
 have HZ:=hid hz
 clear hz bX
 have hq:=h24 W0 hB
 clear h24
 by_cases hc0:c1=0
 case neg =>
  have hcb:(c1 != 0)=true:=by rw[bne_iff_ne];exact hc0
  have HT:=hid (HNA.out hc0)
  clear hc0
  go_wp2_with (go_at_call 40;(with_reducible refine hq.mono ?_);rintro r u1 ⟨rfl,bb1⟩)
  go_ret2
  exact chkBack_mk HT.out (hB.tr le_rfl' bb1)
 subst hc0
 have HSO2:=hid (HSO.out rfl)
 have HNO2:=hid (HNO.out rfl)
 clear HSO HNO HNA
 have HOP:=hid (off_pos mons)
 obtain⟨OF,hOF⟩:∃ OF,fstOf Mo.offs mons=OF:=⟨_,rfl⟩
 rw[hOF] at HOP
 simp only[hOF] at h25 HSO2
 rw[hOF] at HNO2
 clear hOF
 rcases OF with _|⟨c,a⟩
 case some =>
  have hcb:=HOP.out c a rfl
  have HT:=hid (HSO2.out (c,a) rfl)
  go_wp2_with (first
   | (go_at_call 40;(with_reducible refine hq.mono ?_);rintro r u1 ⟨rfl,bb1⟩;have hz_1:=bb1.size;have x0:=(bb1.cell (p:=⟨w.heap.size,0,none⟩) (by show w.heap.size<_;have:=HZ.out;omega)).trans s0;have hF:=RoleBack.yes (h25 u1 (hB.tr le_rfl' bb1)) rfl)
   | (go_at_call 41;(with_reducible refine hF.mono ?_);rintro r u2 ⟨rfl,bb2⟩))
  go_ret2
  exact chkBack_mk HT.out ((hB.tr le_rfl' bb1).tr le_rfl' bb2)
 go_wp2_with (first
  | (go_at_call 40;(with_reducible refine hq.mono ?_);rintro r u1 ⟨rfl,bb1⟩;have hz_1:=bb1.size;have x0:=(bb1.cell (p:=⟨w.heap.size,0,none⟩) (by show w.heap.size<_;have:=HZ.out;omega)).trans s0;have hF:=RoleBack.no (h25 u1 (hB.tr le_rfl' bb1)) rfl)
  | (go_at_call 41;(with_reducible refine hF.mono ?_);rintro r u2 ⟨rfl,bb2⟩;have hz_2:=bb2.size;have xx0:=(bb2.cell (p:=⟨w.heap.size,0,none⟩) (by show w.heap.size<_;have:=HZ.out;omega)).trans x0))
 have hBu:Below W0.heap.size W0 u2:=bb1.tr le_rfl' bb2
 clear h25 hq hF HOP x0 xx0
 go_loopw [40] (fun i wr=>∃ j:Nat,j≤mons.length∧i=.int .i64 j∧Hid (fstOf (Mo.tyc mons) mons=fstOf (Mo.tyc mons) (mons.drop j))∧Below W0.heap.size W0 wr)
  (fun i _=>mons.length-(intOf i).toNat)
 case atStart=>exact⟨0,by omega,rfl,rfl,hBu⟩
 case round =>
  obtain⟨j,hj,rfl,HQ,hbw⟩:=hrel
  have hz1:=hbw.size
  have hz0:=HZ.out
  have hbF:Below w.heap.size w wr:=hB.trans (hbw.mono (by omega))
  have hb0:Below n₀ w wr:=hbF.mono hn
  by_cases hlt:j<mons.length
  ·rcases h3.2.2 with h|⟨kb,koff,rfl,hbn,hrow⟩
   ·subst h;simp at hlt
   have hbn2:kb<wr.heap.size:=by omega
   have HD:=hid (fstOf_drop (Mo.tyc mons) mons j hlt)
   have HMU:Hid (Mo.tyc mons mons[j]=fstOf (Me.tyc mons) mons[j].meths):=rfl
   have hrj:=hrow.below hb0 hbn
   have hIm:=(h4 _ (List.getElem_mem hlt)).2.2
   rcases he':mons[j] with ⟨mname,mvad,mvcap,mvars,mmad,mmcap,mmeths,mpos⟩
   obtain⟨c0,c1,c2,c3⟩:=row4 hrj j hlt (by rw[he'];rfl)
   rw[he'] at HMU hIm
   rw[he'] at HD
   simp only at HMU hIm
   clear he'
   have hml1:=hIm.1.1;have hml2:=hIm.1.2.1
   unfold maxLen at hml2
   go_wp2
   obtain⟨bM,hBM,hzM⟩:=one_box wr #[.string mname,.slice mvad mvars.length mvcap,.slice mmad mmeths.length mmcap,.int .i64 mpos] 52
   obtain⟨W1,hW1⟩:∃ W1,wr.alloc (.cells #[.string mname,.slice mvad mvars.length mvcap,.slice mmad mmeths.length mmcap,.int .i64 mpos] 52)=W1:=⟨_,rfl⟩
   rw[hW1] at bM hBM hzM ⊢
   clear hW1
   have hbw1:Below W0.heap.size W0 W1:=hbw.tr le_rfl' hBM
   clear hzM c0 c1 c2 c3
   obtain⟨wo,hwo⟩:∃ wo:World,wo=wr:=⟨_,rfl⟩
   subst hwo
   go_loopw [47] (fun i wr=>∃ l:Nat,l≤mmeths.length∧i=.int .i64 l∧Hid (fstOf (Me.tyc mons) mmeths=fstOf (Me.tyc mons) (mmeths.drop l))∧Below W0.heap.size W0 wr)
    (fun i _=>mmeths.length-(intOf i).toNat)
   case atStart=>exact⟨0,by omega,rfl,rfl,hbw1⟩
   case round =>
    obtain⟨l,hl,rfl,HQ2,hbv⟩:=hrel
    have hzv:=hbv.size
    have hvF:Below w.heap.size w wr:=hB.trans (hbv.mono (by omega))
    have hv0:Below n₀ w wr:=hvF.mono hn
    by_cases hlt2:l<mmeths.length
    ·rcases hIm.1.2.2 with h|⟨mb,moff,rfl,hmn,hmrow⟩
     ·subst h;simp at hlt2
     have hmn2:mb<wr.heap.size:=by omega
     have HD2:=hid (fstOf_drop (Me.tyc mons) mmeths l hlt2)
     have hmr:=hmrow.below hv0 hmn
     have hq:=h26 mmeths[l].body (hIm.2 _ (List.getElem_mem hlt2)).2.2 (wr.alloc (.cells (mmeths[l]).cells.toArray 56)) (hvF.al le_rfl' _)
     have HMe:Hid (Me.tyc mons mmeths[l]=mmeths[l].body.tyc mons):=rfl
     obtain⟨u,hu⟩:∃ u,mmeths[l].body.tyc mons=u:=⟨_,rfl⟩
     rw[hu] at hq HMe
     clear hu
     have x0:∀ o,(wr.alloc o).cell? ⟨w.heap.size,0,none⟩=_:=fun o=>(((Below.refl _ wr).al le_rfl' o).cell (p:=⟨w.heap.size,0,none⟩) (by show w.heap.size<_;omega)).trans ((hbv.cell (p:=⟨w.heap.size,0,none⟩) (by show w.heap.size<_;omega)).trans s0)
     have x1:∀ o,(wr.alloc o).cell? ⟨w.heap.size,1,none⟩=_:=fun o=>(((Below.refl _ wr).al le_rfl' o).cell (p:=⟨w.heap.size,1,none⟩) (by show w.heap.size<_;omega)).trans ((hbv.cell (p:=⟨w.heap.size,1,none⟩) (by show w.heap.size<_;omega)).trans s1)
     rcases he':mmeths[l] with ⟨fname,⟨fad,fcap,fbody⟩,fpos⟩
     obtain⟨c0,c1,c2⟩:=row3 hmr l hlt2 (by rw[he'];rfl)
     simp only[he',Me.cells,Bl.slice] at hq c1
     rw[he'] at HMe
     rw[he'] at HD2
     clear he' h26
     rcases u with _|⟨c,a⟩
     ·have hq:=RoleBack.no hq rfl
      go_wp2_with (go_at_call 42;(with_reducible refine hq.mono ?_);rintro r w1 ⟨rfl,hb1⟩)
      go_roundw
      case rel=>exact⟨l+1,by omega,by go_num,by show _=_;rw[HQ2.out,HD2.out,HMe.out];rfl,(hbv.al le_rfl' _).tr le_rfl' hb1⟩
      case measure=>simp[intOf];omega
     ·have hq:=RoleBack.yes2 hq rfl
      go_wp2_with (go_at_call 42;(with_reducible refine hq.mono ?_);rintro r w1 ⟨rfl,hcb,hb1⟩)
      go_ret2
      exact chkBack_mk (HSO2.out (c,a) (by rw[HQ.out,HD.out,HMU.out,HQ2.out,HD2.out,HMe.out];rfl)) ((hvF.al le_rfl' _).tr le_rfl' hb1)
    ·have hjd:decide ((l:Int)<(mmeths.length:Int))=false:=by simp;omega
     go_wp2
     go_roundw
     case rel=>exact⟨j+1,by omega,by go_num,by show _=_;rw[HQ.out,HD.out,HMU.out,HQ2.out,fstOf_end _ _ _ (by omega)];rfl,hbv⟩
     case measure=>simp[intOf];omega
  ·have hjd:decide ((j:Int)<(mons.length:Int))=false:=by simp;omega
   have HMN:Hid (fstOf (Mo.tyc mons) mons=none):=by show _=_;rw[HQ.out,fstOf_end _ _ _ (by omega)]
   have y1:=(hbw.cell (p:=⟨w.heap.size,1,none⟩) (by show w.heap.size<_;omega)).trans s1
   go_wp2
   obtain⟨wo,hwo⟩:∃ wo:World,wo=wr:=⟨_,rfl⟩
   subst hwo
   go_loopw [67] (fun i wr=>∃ l:Nat,l≤roles.length∧i=.int .i64 l∧Hid (fstOf (Ro.tyc mons) roles=fstOf (Ro.tyc mons) (roles.drop l))∧Below W0.heap.size W0 wr)
    (fun i _=>roles.length-(intOf i).toNat)
   case atStart=>exact⟨0,by omega,rfl,rfl,hbw⟩
   case round =>
    obtain⟨l,hl,rfl,HQ2,hbv⟩:=hrel
    have hzv:=hbv.size
    have hvF:Below w.heap.size w wr:=hB.trans (hbv.mono (by omega))
    have hv0:Below n₀ w wr:=hvF.mono hn
    by_cases hlt2:l<roles.length
    ·rcases h5.2.2 with h|⟨mb,moff,rfl,hmn,hmrow⟩
     ·subst h;simp at hlt2
     have hmn2:mb<wr.heap.size:=by omega
     have HD2:=hid (fstOf_drop (Ro.tyc mons) roles l hlt2)
     have hmr:=hmrow.below hv0 hmn
     have hq:=h26 roles[l].body (h6 _ (List.getElem_mem hlt2)).2.2.2 (wr.alloc (.cells (roles[l]).cells.toArray 58)) (hvF.al le_rfl' _)
     have HMe:Hid (Ro.tyc mons roles[l]=roles[l].body.tyc mons):=rfl
     obtain⟨u,hu⟩:∃ u,roles[l].body.tyc mons=u:=⟨_,rfl⟩
     rw[hu] at hq HMe
     clear hu
     have x0:∀ o,(wr.alloc o).cell? ⟨w.heap.size,0,none⟩=_:=fun o=>(((Below.refl _ wr).al le_rfl' o).cell (p:=⟨w.heap.size,0,none⟩) (by show w.heap.size<_;omega)).trans ((hbv.cell (p:=⟨w.heap.size,0,none⟩) (by show w.heap.size<_;omega)).trans s0)
     have x1:∀ o,(wr.alloc o).cell? ⟨w.heap.size,1,none⟩=_:=fun o=>(((Below.refl _ wr).al le_rfl' o).cell (p:=⟨w.heap.size,1,none⟩) (by show w.heap.size<_;omega)).trans ((hbv.cell (p:=⟨w.heap.size,1,none⟩) (by show w.heap.size<_;omega)).trans s1)
     rcases he':roles[l] with ⟨rname,rstar,rcount,⟨fad,fcap,fbody⟩,rpos⟩
     obtain⟨c0,c1,c2,c3,c4⟩:=row5 hmr l hlt2 (by rw[he'];rfl)
     simp only[he',Ro.cells,Bl.slice] at hq c3
     rw[he'] at HMe
     rw[he'] at HD2
     clear he' h26
     rcases u with _|⟨c,a⟩
     ·have hq:=RoleBack.no hq rfl
      go_wp2_with (go_at_call 42;(with_reducible refine hq.mono ?_);rintro r w1 ⟨rfl,hb1⟩)
      go_roundw
      case rel=>exact⟨l+1,by omega,by go_num,by show _=_;rw[HQ2.out,HD2.out,HMe.out];rfl,(hbv.al le_rfl' _).tr le_rfl' hb1⟩
      case measure=>simp[intOf];omega
     ·have hq:=RoleBack.yes2 hq rfl
      go_wp2_with (go_at_call 42;(with_reducible refine hq.mono ?_);rintro r w1 ⟨rfl,hcb,hb1⟩)
      go_ret2
      exact chkBack_mk (HSO2.out (c,a) (by rw[HMN.out,HQ2.out,HD2.out,HMe.out];rfl)) ((hvF.al le_rfl' _).tr le_rfl' hb1)
    ·have hjd2:decide ((l:Int)<(roles.length:Int))=false:=by simp;omega
     go_wp2
     go_ret2
     exact chkBack_mk (HNO2.out (by rw[HMN.out,HQ2.out,fstOf_end _ _ _ (by omega)];rfl)) hvF
end Go.Proofs.YtpbjikncobnkjaaGreatDoor
