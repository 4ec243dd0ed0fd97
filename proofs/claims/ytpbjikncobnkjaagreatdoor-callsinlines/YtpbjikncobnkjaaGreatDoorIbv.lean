/-
  Own texts joined by program: SsA SsZ.
-/
import Derived.Test.YtpbjikncobnkjaaGreatDoorIar
import Derived.Test.YtpbjikncobnkjaaGreatDoorIbu
import Derived.Deep.DeepCutAuto
import Derived.Deep.LoopGhost
namespace Go.Proofs.YtpbjikncobnkjaaGreatDoor
open Go.RowKit
theorem StBox.keepS {W W':World} {b:Nat} {s:St} (h:StBox W b s) (hb:Below W.heap.size W W'):StBox W' b s:=(hb.block b h.lt).trans h
theorem two_boxes (W:World) (s t:St):StBox ((W.alloc (.cells s.cells.toArray 64)).alloc (.cells t.cells.toArray 64)).drew W.heap.size s∧StBox ((W.alloc (.cells s.cells.toArray 64)).alloc (.cells t.cells.toArray 64)).drew (W.heap.size+1) t:=by
 have h1:StBox ((W.alloc (.cells s.cells.toArray 64)).alloc (.cells t.cells.toArray 64)) W.heap.size s:=StBox.keepS (StBox.new W s) ((Below.refl _ _).al le_rfl' _)
 have h2:StBox ((W.alloc (.cells s.cells.toArray 64)).alloc (.cells t.cells.toArray 64)) (W.heap.size+1) t:=by
  have h0:=heapNew (W.alloc (.cells s.cells.toArray 64)) (.cells t.cells.toArray 64)
  rw[World.size_alloc] at h0
  exact h0
 exact⟨h1,h2⟩
theorem stSame_doc (kind kind':Int) (mon name mon' name':ByteArray) (n n':Int) (e e':Ex) (ad ad':Option Addr) (cap cap':Nat) (blocks blocks':List Bl) (pos pos':Int) :
  (St.mk kind mon name n e ad cap blocks pos).same (St.mk kind' mon' name' n' e' ad' cap' blocks' pos')=(!(kind != kind')&&!(mon.toList != mon'.toList)&&!(name.toList != name'.toList)&&!(n != n')&&e.same e'&&!((blocks.length:Int) != (blocks'.length:Int))&&all2 Bl.same blocks blocks'):=by
 rw[stSame_mk,← not_bne,← not_bne,← not_bne,← not_bne,Bool.and_assoc (b:=!_),← len_beq]
set_option maxRecDepth 100000 in
set_option maxHeartbeats 16000000 in
theorem sameStmts_step (n₀:Nat) (ad:Option Addr) (cap:Nat) (body:List St)
  (ih:∀ s∈body,∀ b∈s.blocks,∀ (c:Bl) (w:World),n₀≤w.heap.size→b.Is n₀ w→c.Is n₀ w→Calls Tryz.prog 18 #[b.slice,c.slice] w fun r w'=>r=.returned (.bool (b.same c))∧Below w.heap.size w w')
  (ad':Option Addr) (cap':Nat) (body':List St) (w:World) (hn:n₀≤w.heap.size) (hI:(Bl.mk ad cap body).Is n₀ w) (hI':(Bl.mk ad' cap' body').Is n₀ w) :
  Calls Tryz.prog 18 #[.slice ad body.length cap,.slice ad' body'.length cap'] w fun r w'=>r=.returned (.bool ((Bl.mk ad cap body).same (Bl.mk ad' cap' body')))∧Below w.heap.size w w':=by
 have HR:=hid (blSame_mk ad ad' cap cap' body body')
 have hd:=hI.down
 have hd':=hI'.down
 have hl1:=hd.1.1;have hl2:=hd.1.2.1;have hl3:=hd'.1.1;have hl4:=hd'.1.2.1
 unfold maxLen at hl2 hl4
 cases q0:((body.length:Int) != (body'.length:Int))
 case true =>
  have HF:Hid ((Bl.mk ad cap body).same (Bl.mk ad' cap' body')=false):=by
   show _=_
   rw[HR.out,all2_len]
   intro h
   rw[h] at q0
   simp at q0
  go_enter Tryz.func18,Tryz.ntmps18
  go_wp2
  go_ret
  exact⟨ret_bool HF.out.symm,Below.refl _ _⟩
 have HL:Hid (body.length=body'.length):=by
  have h:=q0
  rw[bne_eq_false_iff_eq] at h
  show _=_
  omega
 go_enter Tryz.func18,Tryz.ntmps18
 go_wp2
 go_loopg [5] body.length (fun k i wr=>∃ j:Nat,j≤body.length∧k=body.length-j∧i=.int .i64 j∧Hid (all2 St.same (body.take j) (body'.take j)=true)∧Below w.heap.size w wr)
 case atStart=>exact⟨0,by omega,by omega,rfl,by simp[Hid,all2],Below.refl _ _⟩
 case round =>
  obtain⟨wo,hwo⟩:∃ wo:World,wo=wr:=⟨_,rfl⟩
  subst hwo
  obtain⟨j,hj,rfl,rfl,HA,hbw⟩:=hrel
  have hz:=hbw.size
  by_cases hlt:j<body.length
  ·have hlt':j<body'.length:=by have:=HL.out;omega
   rcases hd.1.2.2 with h|⟨b,off,rfl,hbn,hrow⟩
   ·subst h;simp at hlt
   rcases hd'.1.2.2 with h|⟨b',off',rfl,hbn',hrow'⟩
   ·subst h;simp at hlt'
   have hb0:=hbw.mono hn
   have hr:=hrow.below hb0 hbn
   have hr':=hrow'.below hb0 hbn'
   have hIj:=(hd.2 _ (List.getElem_mem hlt)).below hb0
   have hIj':=(hd'.2 _ (List.getElem_mem hlt')).below hb0
   have hih:=ih _ (List.getElem_mem hlt)
   have HX:Hid (body[j].same body'[j]=false→(Bl.mk (some ⟨b,off,none⟩) cap body).same (Bl.mk (some ⟨b',off',none⟩) cap' body')=false):=fun h=>by
    rw[HR.out];exact all2_cut St.same body body' j hlt hlt' h
   have HY:Hid (body[j].same body'[j]=true→all2 St.same (body.take (j+1)) (body'.take (j+1))=true):=fun h=>by
    rw[all2_snoc St.same body body' j hlt hlt',HA.out,h];rfl
   clear ih
   rcases he:body[j] with ⟨xkind,xmon,xname,xn,xe,xad,xcap,xblocks,xpos⟩
   rcases he':body'[j] with ⟨ykind,ymon,yname,yn,ye,yad,ycap,yblocks,ypos⟩
   rcases hxe:xe with ⟨xeop,xemon,xename,xen,xead,xecap,xekids,xepos⟩
   rcases hye:ye with ⟨yeop,yemon,yename,yen,yead,yecap,yekids,yepos⟩
   obtain⟨c0,c1,c2,c3,c4,c5,c6,c7,c8,c9,c10,c11⟩:=row12 hr j hlt (by rw[he,hxe];rfl)
   obtain⟨d0,d1,d2,d3,d4,d5,d6,d7,d8,d9,d10,d11⟩:=row12 hr' j hlt' (by rw[he',hye];rfl)
   rw[he] at hIj hih HX HY
   rw[he'] at hIj' HX HY
   clear he he'
   have hIs:=hIj.down
   have hIs':=hIj'.down
   have hih:∀ b∈xblocks,∀ (c:Bl) (w:World),n₀≤w.heap.size→b.Is n₀ w→c.Is n₀ w→Calls Tryz.prog 18 #[b.slice,c.slice] w fun r w'=>r=.returned (.bool (b.same c))∧Below w.heap.size w w':=hih
   have hlb1:=hIs.2.2.1.1;have hlb2:=hIs.2.2.1.2.1;have hlb3:=hIs'.2.2.1.1;have hlb4:=hIs'.2.2.1.2.1
   unfold maxLen at hlb2 hlb4
   clear hIj hIj'
   rw[hxe] at hIs HX HY
   rw[hye] at hIs' HX HY
   clear hxe hye
   have hkeep:∀ W,Below wo.heap.size wo W→((W.cell? ⟨b,off+j*12,none⟩=some (.int .i64 xkind)∧W.cell? ⟨b,off+j*12+1,none⟩=some (.string xmon)∧W.cell? ⟨b,off+j*12+2,none⟩=some (.string xname)∧W.cell? ⟨b,off+j*12+3,none⟩=some (.int .i64 xn)∧W.cell? ⟨b,off+j*12+4,none⟩=some (.int .i64 xeop)∧W.cell? ⟨b,off+j*12+5,none⟩=some (.string xemon)∧W.cell? ⟨b,off+j*12+6,none⟩=some (.string xename)∧W.cell? ⟨b,off+j*12+7,none⟩=some (.int .i64 xen)∧W.cell? ⟨b,off+j*12+8,none⟩=some (.slice xead xekids.length xecap)∧W.cell? ⟨b,off+j*12+9,none⟩=some (.int .i64 xepos)∧W.cell? ⟨b,off+j*12+10,none⟩=some (.slice xad xblocks.length xcap)∧W.cell? ⟨b,off+j*12+11,none⟩=some (.int .i64 xpos))∧(W.cell? ⟨b',off'+j*12,none⟩=some (.int .i64 ykind)∧W.cell? ⟨b',off'+j*12+1,none⟩=some (.string ymon)∧W.cell? ⟨b',off'+j*12+2,none⟩=some (.string yname)∧W.cell? ⟨b',off'+j*12+3,none⟩=some (.int .i64 yn)∧W.cell? ⟨b',off'+j*12+4,none⟩=some (.int .i64 yeop)∧W.cell? ⟨b',off'+j*12+5,none⟩=some (.string yemon)∧W.cell? ⟨b',off'+j*12+6,none⟩=some (.string yename)∧W.cell? ⟨b',off'+j*12+7,none⟩=some (.int .i64 yen)∧W.cell? ⟨b',off'+j*12+8,none⟩=some (.slice yead yekids.length yecap)∧W.cell? ⟨b',off'+j*12+9,none⟩=some (.int .i64 yepos)∧W.cell? ⟨b',off'+j*12+10,none⟩=some (.slice yad yblocks.length ycap)∧W.cell? ⟨b',off'+j*12+11,none⟩=some (.int .i64 ypos))):=fun W hW=>by
    have k1:b<wo.heap.size:=by omega
    have k2:b'<wo.heap.size:=by omega
    exact⟨⟨(hW.cell (p:=⟨b,off+j*12,none⟩) k1).trans c0,(hW.cell (p:=⟨b,off+j*12+1,none⟩) k1).trans c1,(hW.cell (p:=⟨b,off+j*12+2,none⟩) k1).trans c2,(hW.cell (p:=⟨b,off+j*12+3,none⟩) k1).trans c3,(hW.cell (p:=⟨b,off+j*12+4,none⟩) k1).trans c4,(hW.cell (p:=⟨b,off+j*12+5,none⟩) k1).trans c5,(hW.cell (p:=⟨b,off+j*12+6,none⟩) k1).trans c6,(hW.cell (p:=⟨b,off+j*12+7,none⟩) k1).trans c7,(hW.cell (p:=⟨b,off+j*12+8,none⟩) k1).trans c8,(hW.cell (p:=⟨b,off+j*12+9,none⟩) k1).trans c9,(hW.cell (p:=⟨b,off+j*12+10,none⟩) k1).trans c10,(hW.cell (p:=⟨b,off+j*12+11,none⟩) k1).trans c11⟩,⟨(hW.cell (p:=⟨b',off'+j*12,none⟩) k2).trans d0,(hW.cell (p:=⟨b',off'+j*12+1,none⟩) k2).trans d1,(hW.cell (p:=⟨b',off'+j*12+2,none⟩) k2).trans d2,(hW.cell (p:=⟨b',off'+j*12+3,none⟩) k2).trans d3,(hW.cell (p:=⟨b',off'+j*12+4,none⟩) k2).trans d4,(hW.cell (p:=⟨b',off'+j*12+5,none⟩) k2).trans d5,(hW.cell (p:=⟨b',off'+j*12+6,none⟩) k2).trans d6,(hW.cell (p:=⟨b',off'+j*12+7,none⟩) k2).trans d7,(hW.cell (p:=⟨b',off'+j*12+8,none⟩) k2).trans d8,(hW.cell (p:=⟨b',off'+j*12+9,none⟩) k2).trans d9,(hW.cell (p:=⟨b',off'+j*12+10,none⟩) k2).trans d10,(hW.cell (p:=⟨b',off'+j*12+11,none⟩) k2).trans d11⟩⟩
   have HK:=hid hkeep
   clear hkeep c0 c1 c2 c3 c4 c5 c6 c7 c8 c9 c10 c11 d0 d1 d2 d3 d4 d5 d6 d7 d8 d9 d10 d11
   have hj0:(0:Int)≤(j:Int):=Int.natCast_nonneg _
   have hj1:(j:Int)<(body.length:Int):=by omega
   have hj2:(j:Int)<(body'.length:Int):=by omega
   go_upto_region 6 with fail
   go_cut [6,7] (fun p q wx=>∃ g h:Nat,p=.pointer (some ⟨g,0,none⟩)∧q=.pointer (some ⟨h,0,none⟩)∧Hid (StBox wx g (St.mk xkind xmon xname xn (Ex.mk xeop xemon xename xen xead xecap xekids xepos) xad xcap xblocks xpos))∧Hid (StBox wx h (St.mk ykind ymon yname yn (Ex.mk yeop yemon yename yen yead yecap yekids yepos) yad ycap yblocks ypos))∧Below wo.heap.size wo wx)
   case first =>
    have B:=below_drewS (Below.refl wo.heap.size wo)
    go_region_held3 (fun W=>(W.cell? ⟨b,off+j*12,none⟩=some (.int .i64 xkind)∧W.cell? ⟨b,off+j*12+1,none⟩=some (.string xmon)∧W.cell? ⟨b,off+j*12+2,none⟩=some (.string xname)∧W.cell? ⟨b,off+j*12+3,none⟩=some (.int .i64 xn)∧W.cell? ⟨b,off+j*12+4,none⟩=some (.int .i64 xeop)∧W.cell? ⟨b,off+j*12+5,none⟩=some (.string xemon)∧W.cell? ⟨b,off+j*12+6,none⟩=some (.string xename)∧W.cell? ⟨b,off+j*12+7,none⟩=some (.int .i64 xen)∧W.cell? ⟨b,off+j*12+8,none⟩=some (.slice xead xekids.length xecap)∧W.cell? ⟨b,off+j*12+9,none⟩=some (.int .i64 xepos)∧W.cell? ⟨b,off+j*12+10,none⟩=some (.slice xad xblocks.length xcap)∧W.cell? ⟨b,off+j*12+11,none⟩=some (.int .i64 xpos))∧(W.cell? ⟨b',off'+j*12,none⟩=some (.int .i64 ykind)∧W.cell? ⟨b',off'+j*12+1,none⟩=some (.string ymon)∧W.cell? ⟨b',off'+j*12+2,none⟩=some (.string yname)∧W.cell? ⟨b',off'+j*12+3,none⟩=some (.int .i64 yn)∧W.cell? ⟨b',off'+j*12+4,none⟩=some (.int .i64 yeop)∧W.cell? ⟨b',off'+j*12+5,none⟩=some (.string yemon)∧W.cell? ⟨b',off'+j*12+6,none⟩=some (.string yename)∧W.cell? ⟨b',off'+j*12+7,none⟩=some (.int .i64 yen)∧W.cell? ⟨b',off'+j*12+8,none⟩=some (.slice yead yekids.length yecap)∧W.cell? ⟨b',off'+j*12+9,none⟩=some (.int .i64 yepos)∧W.cell? ⟨b',off'+j*12+10,none⟩=some (.slice yad yblocks.length ycap)∧W.cell? ⟨b',off'+j*12+11,none⟩=some (.int .i64 ypos))) (first|(exact HK.out _ B)|(exact HK.out _ (B.al le_rfl' _))|(exact HK.out _ ((B.al le_rfl' _).al le_rfl' _))) (fail)
    ·go_wp2_with fail
     go_meet
     exact⟨wo.heap.size,wo.heap.size+1,rfl,rfl,(two_boxes wo (St.mk xkind xmon xname xn (Ex.mk xeop xemon xename xen xead xecap xekids xepos) xad xcap xblocks xpos) (St.mk ykind ymon yname yn (Ex.mk yeop yemon yename yen yead yecap yekids yepos) yad ycap yblocks ypos)).1,(two_boxes wo (St.mk xkind xmon xname xn (Ex.mk xeop xemon xename xen xead xecap xekids xepos) xad xcap xblocks xpos) (St.mk ykind ymon yname yn (Ex.mk yeop yemon yename yen yead yecap yekids yepos) yad ycap yblocks ypos)).2,below_drewS (((Below.refl _ wo).al le_rfl' _).al le_rfl' _)⟩
    ·go_wp2_with fail
     go_meet
     exact⟨wo.heap.size+1,wo.heap.size,rfl,rfl,(two_boxes wo (St.mk ykind ymon yname yn (Ex.mk yeop yemon yename yen yead yecap yekids yepos) yad ycap yblocks ypos) (St.mk xkind xmon xname xn (Ex.mk xeop xemon xename xen xead xecap xekids xepos) xad xcap xblocks xpos)).2,(two_boxes wo (St.mk ykind ymon yname yn (Ex.mk yeop yemon yename yen yead yecap yekids yepos) yad ycap yblocks ypos) (St.mk xkind xmon xname xn (Ex.mk xeop xemon xename xen xead xecap xekids xepos) xad xcap xblocks xpos)).1,below_drewS (((Below.refl _ wo).al le_rfl' _).al le_rfl' _)⟩
   case rest =>
    obtain⟨g,h,rfl,rfl,HG,HH,B6⟩:=hcut
    have hz6:=B6.size
    have HSD:=hid (stSame_doc xkind ykind xmon xname ymon yname xn yn (Ex.mk xeop xemon xename xen xead xecap xekids xepos) (Ex.mk yeop yemon yename yen yead yecap yekids yepos) xad yad xcap ycap xblocks yblocks xpos ypos)
    obtain⟨⟨g0,g1,g2,g3⟩,⟨g4,g5,g6,g7,g8,g9⟩,g10,g11⟩:=HG.out.cells
    obtain⟨⟨h0,h1,h2,h3⟩,⟨h4,h5,h6,h7,h8,h9⟩,h10,h11⟩:=HH.out.cells
    cases q1:(xkind != ykind)
    case true =>
     go_wp2
     go_ret
     exact⟨ret_bool (HX.out (by rw[HSD.out];simp[q1])).symm,hbw.tr le_rfl' B6⟩
    cases q2:(xmon.toList != ymon.toList)
    case true =>
     have q2a:(xmon.toList==ymon.toList)=false:=by rw[beq_eq_false_iff_ne];exact bne_iff_ne.1 q2
     have q2b:¬ xmon.toList=ymon.toList:=bne_iff_ne.1 q2
     go_wp2
     go_ret
     exact⟨ret_bool (HX.out (by rw[HSD.out];simp[q1,q2])).symm,hbw.tr le_rfl' B6⟩
    have q2a:(xmon.toList==ymon.toList)=true:=by rw[beq_iff_eq];exact (bne_eq_false_iff_eq.1 q2)
    cases q3:(xname.toList != yname.toList)
    case true =>
     have q3a:(xname.toList==yname.toList)=false:=by rw[beq_eq_false_iff_ne];exact bne_iff_ne.1 q3
     have q3b:¬ xname.toList=yname.toList:=bne_iff_ne.1 q3
     go_wp2
     go_ret
     exact⟨ret_bool (HX.out (by rw[HSD.out];simp[q1,q2,q3])).symm,hbw.tr le_rfl' B6⟩
    have q3a:(xname.toList==yname.toList)=true:=by rw[beq_iff_eq];exact (bne_eq_false_iff_eq.1 q3)
    cases q4:(xn != yn)
    case true =>
     go_wp2
     go_ret
     exact⟨ret_bool (HX.out (by rw[HSD.out];simp[q1,q2,q3,q4])).symm,hbw.tr le_rfl' B6⟩
    have h16:=refSameExpr_any n₀ (Ex.mk xeop xemon xename xen xead xecap xekids xepos) (Ex.mk yeop yemon yename yen yead yecap yekids yepos) wc (by omega) (hIs.2.1.below (B6.mono (by omega))) (hIs'.2.1.below (B6.mono (by omega)))
    obtain⟨es,hes⟩:∃ es,(Ex.mk xeop xemon xename xen xead xecap xekids xepos).same (Ex.mk yeop yemon yename yen yead yecap yekids yepos)=es:=⟨_,rfl⟩
    rw[hes] at HSD h16
    clear hes
    simp only[Ex.val,Ex.cells] at h16
    cases es
    case false =>
     go_wp2_with (go_at_call 38;refine h16.mono ?_;rintro r w1 ⟨rfl,bb1⟩)
     go_ret
     exact⟨ret_bool (HX.out (by rw[HSD.out];simp)).symm,hbw.tr le_rfl' (B6.tr le_rfl' bb1)⟩
    cases q6:((xblocks.length:Int) != (yblocks.length:Int))
    case true =>
     go_wp2_with (go_at_call 38;refine h16.mono ?_;rintro r w1 ⟨rfl,bb1⟩;obtain⟨-,-,g10,-⟩:=(HG.out.keepS bb1).cells;obtain⟨-,-,h10,-⟩:=(HH.out.keepS bb1).cells)
     go_ret
     exact⟨ret_bool (HX.out (by rw[HSD.out];simp[q6])).symm,hbw.tr le_rfl' (B6.tr le_rfl' bb1)⟩
    have HLB:Hid (xblocks.length=yblocks.length):=by
     have h:=q6
     rw[bne_eq_false_iff_eq] at h
     show _=_
     omega
    have HSD:Hid ((St.mk xkind xmon xname xn (Ex.mk xeop xemon xename xen xead xecap xekids xepos) xad xcap xblocks xpos).same (St.mk ykind ymon yname yn (Ex.mk yeop yemon yename yen yead yecap yekids yepos) yad ycap yblocks ypos)=all2 Bl.same xblocks yblocks):=by
     show _=_
     rw[HSD.out]
     simp[q1,q2,q3,q4,q6]
    go_wp2_with (go_at_call 38;refine h16.mono ?_;rintro r w1 ⟨rfl,bb1⟩;obtain⟨-,-,g10,-⟩:=(HG.out.keepS bb1).cells;obtain⟨-,-,h10,-⟩:=(HH.out.keepS bb1).cells)
    clear g0 g1 g2 g3 g4 g5 g6 g7 g8 g9 g10 g11 h0 h1 h2 h3 h4 h5 h6 h7 h8 h9 h10 h11 h16
    go_loopg [8] xblocks.length (fun k i wr=>∃ m:Nat,m≤xblocks.length∧k=xblocks.length-m∧i=.int .i64 m∧Hid (all2 Bl.same (xblocks.take m) (yblocks.take m)=true)∧Below wc.heap.size wc wr)
    case atStart=>exact⟨0,by omega,by omega,rfl,by simp[Hid,all2],bb1⟩
    case round =>
     obtain⟨m,hm,rfl,rfl,HM,hbm⟩:=hrel
     have hzm:=hbm.size
     obtain⟨-,-,g10,-⟩:=(HG.out.keepS hbm).cells
     obtain⟨-,-,h10,-⟩:=(HH.out.keepS hbm).cells
     have lg:=HG.out.lt
     have lh:=HH.out.lt
     by_cases hlt2:m<xblocks.length
     ·have hlt2':m<yblocks.length:=by have:=HLB.out;omega
      rcases hIs.2.2.1.2.2 with hh|⟨b3,off3,rfl,hbn3,hrow3⟩
      ·subst hh;simp at hlt2
      rcases hIs'.2.2.1.2.2 with hh|⟨b4,off4,rfl,hbn4,hrow4⟩
      ·subst hh;simp at hlt2'
      have hB3:Below n₀ wo wr:=(B6.mono (by omega)).trans (hbm.mono (by omega))
      have hr3:=hrow3.below hB3 hbn3
      have hr4:=hrow4.below hB3 hbn4
      have HS2:=hid (all2_snoc Bl.same xblocks yblocks m hlt2 hlt2')
      have HC2:=hid (fun h=>all2_cut Bl.same xblocks yblocks m hlt2 hlt2' h)
      have hq:∀ W,Below wr.heap.size wr W→Calls Tryz.prog 18 #[xblocks[m].slice,yblocks[m].slice] W fun r w'=>r=.returned (.bool (xblocks[m].same yblocks[m]))∧Below W.heap.size W w':=fun W hW=>by
       have hzW:=hW.size
       exact hih _ (List.getElem_mem hlt2) _ W (by omega) ((hIs.2.2.2 _ (List.getElem_mem hlt2)).below (hB3.trans (hW.mono (by omega)))) ((hIs'.2.2.2 _ (List.getElem_mem hlt2')).below (hB3.trans (hW.mono (by omega))))
      obtain⟨res,hres⟩:∃ res,xblocks[m].same yblocks[m]=res:=⟨_,rfl⟩
      rw[hres] at HS2
      simp only[hres] at hq
      have HRES:=hid hres
      clear hres
      rcases he2:xblocks[m] with ⟨uad,ucap,ubody⟩
      rcases he3:yblocks[m] with ⟨vad,vcap,vbody⟩
      have d0:=row1 hr3 m hlt2 (by rw[he2];rfl)
      have d1:=row1 hr4 m hlt2' (by rw[he3];rfl)
      simp only[he2,he3,Bl.slice] at hq d0 d1
      clear he2 he3
      have hkeep:∀ W,Below wr.heap.size wr W→(W.cell? ⟨g,10,none⟩=some (.slice (some ⟨b3,off3,none⟩) xblocks.length xcap)∧W.cell? ⟨h,10,none⟩=some (.slice (some ⟨b4,off4,none⟩) yblocks.length ycap)∧W.cell? ⟨b3,off3+m,none⟩=some (.slice uad ubody.length ucap)∧W.cell? ⟨b4,off4+m,none⟩=some (.slice vad vbody.length vcap)):=fun W hW =>
       ⟨(hW.cell (p:=⟨g,10,none⟩) (by show g<_;omega)).trans g10,(hW.cell (p:=⟨h,10,none⟩) (by show h<_;omega)).trans h10,(hW.cell (p:=⟨b3,off3+m,none⟩) (by show b3<_;omega)).trans d0,(hW.cell (p:=⟨b4,off4+m,none⟩) (by show b4<_;omega)).trans d1⟩
      have HK2:=hid hkeep
      clear hkeep d0 d1
      have hm0:(0:Int)≤(m:Int):=Int.natCast_nonneg _
      have hm1:(m:Int)<(xblocks.length:Int):=by omega
      have hm2:(m:Int)<(yblocks.length:Int):=by omega
      have B:=below_drewS (Below.refl wr.heap.size wr)
      cases res
      ·go_wp2_with fail
       go_region_held3 (fun W=>W.cell? ⟨g,10,none⟩=some (.slice (some ⟨b3,off3,none⟩) xblocks.length xcap)∧W.cell? ⟨h,10,none⟩=some (.slice (some ⟨b4,off4,none⟩) yblocks.length ycap)∧W.cell? ⟨b3,off3+m,none⟩=some (.slice uad ubody.length ucap)∧W.cell? ⟨b4,off4+m,none⟩=some (.slice vad vbody.length vcap)) (exact HK2.out _ B)
        ((go_at_call 18;refine (hq _ B).mono ?_;rintro r u1 ⟨rfl,bb⟩;have B:=B.tr le_rfl' bb))
       go_wp2
       go_ret
       exact⟨ret_bool (HX.out (by rw[HSD.out,HC2.out HRES.out])).symm,hbw.tr le_rfl' (B6.tr le_rfl' (hbm.tr le_rfl' B))⟩
      ·go_wp2_with fail
       go_region_held3 (fun W=>W.cell? ⟨g,10,none⟩=some (.slice (some ⟨b3,off3,none⟩) xblocks.length xcap)∧W.cell? ⟨h,10,none⟩=some (.slice (some ⟨b4,off4,none⟩) yblocks.length ycap)∧W.cell? ⟨b3,off3+m,none⟩=some (.slice uad ubody.length ucap)∧W.cell? ⟨b4,off4+m,none⟩=some (.slice vad vbody.length vcap)) (exact HK2.out _ B)
        ((go_at_call 18;refine (hq _ B).mono ?_;rintro r u1 ⟨rfl,bb⟩;have B:=B.tr le_rfl' bb))
       go_wp2
       go_roundg (xblocks.length-(m+1))
       case measure=>omega
       case rel=>exact⟨m+1,by omega,rfl,by go_num,by show _=_;rw[HS2.out,HM.out];rfl,hbm.tr le_rfl' B⟩
     ·have hmd:decide ((m:Int)<(xblocks.length:Int))=false:=by simp;omega
      go_wp2
      go_roundg (body.length-(j+1))
      case measure=>omega
      case rel =>
       refine⟨j+1,by omega,rfl,by go_num,HY.out ?_,hbw.tr le_rfl' (B6.tr le_rfl' hbm)⟩
       have e1:=HM.out
       have e2:=HLB.out
       rw[List.take_of_length_le (by omega),List.take_of_length_le (by omega)] at e1
       rw[HSD.out,e1]
  ·have hjd:decide ((j:Int)<(body.length:Int))=false:=by simp;omega
   go_wp2
   go_ret
   refine⟨ret_bool ?_,hbw⟩
   have h1:=HA.out
   have h2:=HL.out
   rw[List.take_of_length_le (by omega),List.take_of_length_le (by omega)] at h1
   rw[HR.out,h1]
theorem refSameStmts_any (n₀:Nat) (b:Bl):∀ (c:Bl) (w:World),n₀≤w.heap.size→b.Is n₀ w→c.Is n₀ w→Calls Tryz.prog 18 #[b.slice,c.slice] w fun r w'=>r=.returned (.bool (b.same c))∧Below w.heap.size w w':=
 Bl.ind (P:=fun s=>∀ b∈s.blocks,∀ (c:Bl) (w:World),n₀≤w.heap.size→b.Is n₀ w→c.Is n₀ w→Calls Tryz.prog 18 #[b.slice,c.slice] w fun r w'=>r=.returned (.bool (b.same c))∧Below w.heap.size w w')
  (Q:=fun b=>∀ (c:Bl) (w:World),n₀≤w.heap.size→b.Is n₀ w→c.Is n₀ w→Calls Tryz.prog 18 #[b.slice,c.slice] w fun r w'=>r=.returned (.bool (b.same c))∧Below w.heap.size w w')
  (fun _ _ _ _ _ _ _ _ _ ih b hb=>ih b hb) (fun ad cap body ih c w h1 h2 h3=>by
   rcases c with ⟨ad',cap',body'⟩
   exact sameStmts_step n₀ ad cap body ih ad' cap' body' w h1 h2 h3) b
open Go.RowKit
theorem all2_self {α:Type} (f:α→α→Bool) (l:List α) (h:∀ x∈l,f x x=true):all2 f l l=true:=by
 induction l with
 | nil=>simp[all2]
 | cons a l ih=>simp[all2,h a (by simp),ih (fun x hx=>h x (by simp[hx]))]
theorem Ex.same_self (e:Ex):e.same e=true:=by
 induction e using Ex.ind with
 | h op mon name n ad cap kids pos ih =>
  rw[same_mk]
  simp[all2_self Ex.same kids ih]
theorem all2_at {α:Type} (f:α→α→Bool) (l r:List α) (hl:l.length=r.length) (h:∀ j (hj:j<l.length) (hr:j<r.length),f l[j] r[j]=true):all2 f l r=true:=by
 induction l generalizing r with
 | nil=>cases r with
  | nil=>simp[all2]
  | cons b r=>simp at hl
 | cons a l ih=>cases r with
  | nil=>simp at hl
  | cons b r =>
   have h0:=h 0 (by simp) (by simp)
   have h1:=ih r (by simpa using hl) (fun j hj hr=>h (j+1) (by simpa using hj) (by simpa using hr))
   simp only[List.getElem_cons_zero] at h0
   simp[all2,h0,h1]
theorem map_atZ {α β:Type} {f:α→β} {l r:List α} (h:l.map f=r.map f):l.length=r.length∧∀ j (hj:j<l.length) (hr:j<r.length),f l[j]=f r[j]:=by
 refine⟨by simpa using congrArg List.length h,fun j hj hr=>?_⟩
 have e:=congrArg (fun x=>x[j]?) h
 simpa[List.getElem?_map,List.getElem?_eq_getElem hj,List.getElem?_eq_getElem hr] using e
theorem clr_same (x:Bl):∀ y:Bl,x.clr=y.clr→x.same y=true:=
 Bl.ind (P:=fun s=>∀ t:St,s.clr=t.clr→s.same t=true) (Q:=fun b=>∀ c:Bl,b.clr=c.clr→b.same c=true)
  (fun kind mon name n e ad cap blocks pos ih t h=>by
   rcases t with ⟨kind',mon',name',n',e',ad',cap',blocks',pos'⟩
   rw[St.clr_mk,St.clr_mk] at h
   injection h with g1 g2 g3 g4 g5 g6 g7 g8 g9
   subst g1 g2 g3 g4 g5
   obtain⟨hl,ha⟩:=map_atZ g8
   rw[stSame_mk,Ex.same_self]
   simp[all2_at Bl.same blocks blocks' hl (fun j hj hr=>ih _ (List.getElem_mem hj) _ (ha j hj hr))])
  (fun ad cap body ih c h=>by
   rcases c with ⟨ad',cap',body'⟩
   rw[Bl.clr_mk,Bl.clr_mk] at h
   injection h with _ _ g
   obtain⟨hl,ha⟩:=map_atZ g
   rw[blSame_mk]
   exact all2_at St.same body body' hl (fun j hj hr=>ih _ (List.getElem_mem hj) _ (ha j hj hr))) x
theorem sameS_any (n₀:Nat) (x y:Bl) (w:World) (hn:n₀≤w.heap.size) (hx:x.Is n₀ w) (hy:y.Is n₀ w) (h:x.clr=y.clr):Calls Tryz.prog 18 #[x.slice,y.slice] w fun r w'=>r=.returned (.bool true)∧Below w.heap.size w w':=
 (refSameStmts_any n₀ x y w hn hx hy).mono fun _ _ hh=>⟨by rw[hh.1,clr_same x y h],hh.2⟩
end Go.Proofs.YtpbjikncobnkjaaGreatDoor
