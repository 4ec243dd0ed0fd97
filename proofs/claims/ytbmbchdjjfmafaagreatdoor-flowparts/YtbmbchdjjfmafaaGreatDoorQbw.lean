/-
  Own texts joined by program: SeA.
-/
import Derived.Test.YtbmbchdjjfmafaaGreatDoorQaq
import Derived.Deep.RegionHeld3
namespace Go.Proofs.YtbmbchdjjfmafaaGreatDoor
open Go.RowKit
theorem not_bne {α:Type} [BEq α] (a b:α):(a==b)=!(a != b):=by simp[bne]
theorem len_beq {α:Type} (f:α→α→Bool) (xs ys:List α):all2 f xs ys=(!((xs.length:Int) != (ys.length:Int))&&all2 f xs ys):=by
 by_cases h:xs.length=ys.length
 ·rw[h];simp
 ·rw[all2_len f xs ys h,Bool.and_false]
theorem same_doc (op op':Int) (mon name mon' name':ByteArray) (n n':Int) (kids kids':List Ex):((op==op')&&(mon.toList==mon'.toList)&&(name.toList==name'.toList)&&(n==n')&&all2 Ex.same kids kids') =
  (!(op != op')&&!(mon.toList != mon'.toList)&&!(name.toList != name'.toList)&&!(n != n')&&!((kids.length:Int) != (kids'.length:Int))&&all2 Ex.same kids kids'):=by
 rw[← not_bne,← not_bne,← not_bne,← not_bne,Bool.and_assoc (b:=!_),← len_beq]
theorem heapAt' {W:World} {o:Obj} {k:Nat} (h:W.heap.size=k):(W.alloc o).heap[k]?=some o:=by subst h;exact World.alloc_heap_new W o
theorem below_drewS {B:Nat} {w w':World} (h:Below B w w'):Below B w w'.drew:=⟨h.os,h.tape,h.output,h.size,h.block⟩
set_option maxRecDepth 100000 in
set_option maxHeartbeats 8000000 in
theorem refSameExpr_any (n₀:Nat) (a:Ex):∀ (c:Ex) (w:World),n₀≤w.heap.size→a.Is n₀ w→c.Is n₀ w →
  Calls Tryz.prog 19 #[a.val,c.val] w fun r w'=>r=.returned (.bool (a.same c))∧Below w.heap.size w w':=by
 induction a using Ex.ind with
 | h op mon name n ad cap kids pos ih =>
  intro c w hn ha hc
  rcases c with ⟨op',mon',name',n',ad',cap',kids',pos'⟩
  have HR:=hid (same_mk op op' mon name mon' name' n n' ad ad' cap cap' kids kids' pos pos')
  have hd:=ha.down
  have hd':=hc.down
  have hl1:=hd.2.1.1;have hl2:=hd.2.1.2.1;have hl3:=hd'.2.1.1;have hl4:=hd'.2.1.2.1
  unfold maxLen at hl2 hl4
  simp only[Ex.val,Ex.cells]
  cases q1:(op != op')
  case true =>
   have HF:Hid ((Ex.mk op mon name n ad cap kids pos).same (Ex.mk op' mon' name' n' ad' cap' kids' pos')=false):=by
    show _=_
    rw[HR.out,same_doc]
    simp[q1]
   go_enter Tryz.func19,Tryz.ntmps19
   go_wp2
   go_ret
   exact⟨ret_bool HF.out.symm,((Below.refl _ _).al le_rfl' _).al le_rfl' _⟩
  cases q2:(mon.toList != mon'.toList)
  case true =>
   have HF:Hid ((Ex.mk op mon name n ad cap kids pos).same (Ex.mk op' mon' name' n' ad' cap' kids' pos')=false):=by
    show _=_
    rw[HR.out,same_doc]
    simp[q1,q2]
   have q2a:(mon.toList==mon'.toList)=false:=by rw[beq_eq_false_iff_ne];exact bne_iff_ne.1 q2
   have q2b:¬ mon.toList=mon'.toList:=bne_iff_ne.1 q2
   go_enter Tryz.func19,Tryz.ntmps19
   go_wp2
   go_ret
   exact⟨ret_bool HF.out.symm,((Below.refl _ _).al le_rfl' _).al le_rfl' _⟩
  have q2a:(mon.toList==mon'.toList)=true:=by rw[beq_iff_eq];exact (bne_eq_false_iff_eq.1 q2)
  cases q3:(name.toList != name'.toList)
  case true =>
   have HF:Hid ((Ex.mk op mon name n ad cap kids pos).same (Ex.mk op' mon' name' n' ad' cap' kids' pos')=false):=by
    show _=_
    rw[HR.out,same_doc]
    simp[q1,q2,q3]
   have q3a:(name.toList==name'.toList)=false:=by rw[beq_eq_false_iff_ne];exact bne_iff_ne.1 q3
   have q3b:¬ name.toList=name'.toList:=bne_iff_ne.1 q3
   go_enter Tryz.func19,Tryz.ntmps19
   go_wp2
   go_ret
   exact⟨ret_bool HF.out.symm,((Below.refl _ _).al le_rfl' _).al le_rfl' _⟩
  have q3a:(name.toList==name'.toList)=true:=by rw[beq_iff_eq];exact (bne_eq_false_iff_eq.1 q3)
  cases q4:(n != n')
  case true =>
   have HF:Hid ((Ex.mk op mon name n ad cap kids pos).same (Ex.mk op' mon' name' n' ad' cap' kids' pos')=false):=by
    show _=_
    rw[HR.out,same_doc]
    simp[q1,q2,q3,q4]
   go_enter Tryz.func19,Tryz.ntmps19
   go_wp2
   go_ret
   exact⟨ret_bool HF.out.symm,((Below.refl _ _).al le_rfl' _).al le_rfl' _⟩
  cases q5:((kids.length:Int) != (kids'.length:Int))
  case true =>
   have HF:Hid ((Ex.mk op mon name n ad cap kids pos).same (Ex.mk op' mon' name' n' ad' cap' kids' pos')=false):=by
    show _=_
    rw[HR.out,same_doc]
    simp[q1,q2,q3,q4,q5]
   go_enter Tryz.func19,Tryz.ntmps19
   go_wp2
   go_ret
   exact⟨ret_bool HF.out.symm,((Below.refl _ _).al le_rfl' _).al le_rfl' _⟩
  have HL:Hid (kids.length=kids'.length):=by
   have h:=q5
   rw[bne_eq_false_iff_eq] at h
   show _=_
   omega
  have HR:Hid ((Ex.mk op mon name n ad cap kids pos).same (Ex.mk op' mon' name' n' ad' cap' kids' pos')=all2 Ex.same kids kids'):=by
   show _=_
   rw[HR.out,same_doc]
   simp only[q1,q2,q3,q4,q5,Bool.not_false,Bool.true_and]
  go_enter Tryz.func19,Tryz.ntmps19
  go_wp2
  go_loopw [5] (fun i wr=>∃ j:Nat,j≤kids.length∧i=.int .i64 j∧Hid (all2 Ex.same (kids.take j) (kids'.take j)=true)∧Below (w.heap.size+1+1) ((w.alloc (.cells #[.int .i64 op,.string mon,.string name,.int .i64 n,.slice ad kids.length cap,.int .i64 pos] 55)).alloc (.cells #[.int .i64 op',.string mon',.string name',.int .i64 n',.slice ad' kids'.length cap',.int .i64 pos'] 55)) wr)
   (fun i _=>kids.length-(intOf i).toNat)
  case atStart=>exact⟨0,by omega,rfl,by simp[Hid,all2],Below.refl _ _⟩
  case round =>
   obtain⟨j,hj,rfl,HA,hbw⟩:=hrel
   have hbF:Below w.heap.size w wr:=(((Below.refl _ w).al le_rfl' _).al le_rfl' _).trans (hbw.mono (by omega))
   have hb0:Below n₀ w wr:=hbF.mono hn
   have hz:=hbw.size
   simp at hz
   have bx:wr.cell? ⟨w.heap.size,4,none⟩=some (.slice ad kids.length cap):=(hbw.cell (p:=⟨w.heap.size,4,none⟩) (by show w.heap.size<_;omega)).trans (cell_of' ((Below.heap_alloc _ _ _ (by simp)).trans (World.alloc_heap_new w _)) 4)
   have by':wr.cell? ⟨w.heap.size+1,4,none⟩=some (.slice ad' kids'.length cap'):=(hbw.cell (p:=⟨w.heap.size+1,4,none⟩) (by show w.heap.size+1<_;omega)).trans (cell_of' (heapAt' (by simp)) 4)
   by_cases hlt:j<kids.length
   ·have hlt':j<kids'.length:=by have:=HL.out;omega
    rcases hd.2.1.2.2 with h|⟨b,off,rfl,hbn,hrow⟩
    ·subst h;simp at hlt
    rcases hd'.2.1.2.2 with h|⟨b',off',rfl,hbn',hrow'⟩
    ·subst h;simp at hlt'
    have hr:=hrow.below hb0 hbn
    have hr':=hrow'.below hb0 hbn'
    have HS:=hid (all2_snoc Ex.same kids kids' j hlt hlt')
    have HC:=hid (fun h=>all2_cut Ex.same kids kids' j hlt hlt' h)
    have hq:∀ W,Below wr.heap.size wr W→Calls Tryz.prog 19 #[kids[j].val,kids'[j].val] W fun r w'=>r=.returned (.bool (kids[j].same kids'[j]))∧Below W.heap.size W w':=fun W hW=>by
     have hzW:=hW.size
     exact ih _ (List.getElem_mem hlt) _ W (by omega) ((hd.2.2 _ (List.getElem_mem hlt)).below (hb0.trans (hW.mono (by omega)))) ((hd'.2.2 _ (List.getElem_mem hlt')).below (hb0.trans (hW.mono (by omega))))
    obtain⟨res,hres⟩:∃ res,kids[j].same kids'[j]=res:=⟨_,rfl⟩
    rw[hres] at HS
    simp only[hres] at hq
    have HRES:=hid hres
    clear hres ih
    rcases he:kids[j] with ⟨xop,xmon,xname,xn,xad,xcap,xkids,xpos⟩
    rcases he':kids'[j] with ⟨yop,ymon,yname,yn,yad,ycap,ykids,ypos⟩
    obtain⟨c0,c1,c2,c3,c4,c5⟩:=row6 hr j hlt (by rw[he];rfl)
    obtain⟨d0,d1,d2,d3,d4,d5⟩:=row6 hr' j hlt' (by rw[he'];rfl)
    simp only[he,he',Ex.val,Ex.cells] at hq
    clear he he'
    have hkeep:∀ W,Below wr.heap.size wr W→(W.cell? ⟨w.heap.size,4,none⟩=some (.slice (some ⟨b,off,none⟩) kids.length cap)∧W.cell? ⟨w.heap.size+1,4,none⟩=some (.slice (some ⟨b',off',none⟩) kids'.length cap')∧(W.cell? ⟨b,off+j*6,none⟩=some (.int .i64 xop)∧W.cell? ⟨b,off+j*6+1,none⟩=some (.string xmon)∧W.cell? ⟨b,off+j*6+2,none⟩=some (.string xname)∧W.cell? ⟨b,off+j*6+3,none⟩=some (.int .i64 xn)∧W.cell? ⟨b,off+j*6+4,none⟩=some (.slice xad xkids.length xcap)∧W.cell? ⟨b,off+j*6+5,none⟩=some (.int .i64 xpos))∧(W.cell? ⟨b',off'+j*6,none⟩=some (.int .i64 yop)∧W.cell? ⟨b',off'+j*6+1,none⟩=some (.string ymon)∧W.cell? ⟨b',off'+j*6+2,none⟩=some (.string yname)∧W.cell? ⟨b',off'+j*6+3,none⟩=some (.int .i64 yn)∧W.cell? ⟨b',off'+j*6+4,none⟩=some (.slice yad ykids.length ycap)∧W.cell? ⟨b',off'+j*6+5,none⟩=some (.int .i64 ypos))):=fun W hW=>by
     have k1:b<wr.heap.size:=by omega
     have k2:b'<wr.heap.size:=by omega
     exact⟨(hW.cell (p:=⟨w.heap.size,4,none⟩) (by show w.heap.size<_;omega)).trans bx,(hW.cell (p:=⟨w.heap.size+1,4,none⟩) (by show w.heap.size+1<_;omega)).trans by',
      ⟨(hW.cell (p:=⟨b,off+j*6,none⟩) k1).trans c0,(hW.cell (p:=⟨b,off+j*6+1,none⟩) k1).trans c1,(hW.cell (p:=⟨b,off+j*6+2,none⟩) k1).trans c2,(hW.cell (p:=⟨b,off+j*6+3,none⟩) k1).trans c3,(hW.cell (p:=⟨b,off+j*6+4,none⟩) k1).trans c4,(hW.cell (p:=⟨b,off+j*6+5,none⟩) k1).trans c5⟩,
      ⟨(hW.cell (p:=⟨b',off'+j*6,none⟩) k2).trans d0,(hW.cell (p:=⟨b',off'+j*6+1,none⟩) k2).trans d1,(hW.cell (p:=⟨b',off'+j*6+2,none⟩) k2).trans d2,(hW.cell (p:=⟨b',off'+j*6+3,none⟩) k2).trans d3,(hW.cell (p:=⟨b',off'+j*6+4,none⟩) k2).trans d4,(hW.cell (p:=⟨b',off'+j*6+5,none⟩) k2).trans d5⟩⟩
    have HK:=hid hkeep
    clear hkeep c0 c1 c2 c3 c4 c5 d0 d1 d2 d3 d4 d5
    have hj0:(0:Int)≤(j:Int):=Int.natCast_nonneg _
    have hj1:(j:Int)<(kids.length:Int):=by omega
    have hj2:(j:Int)<(kids'.length:Int):=by omega
    have B:=below_drewS (Below.refl wr.heap.size wr)
    cases res
    ·go_wp2_with fail
     go_region_held3 (fun W=>W.cell? ⟨w.heap.size,4,none⟩=some (.slice (some ⟨b,off,none⟩) kids.length cap)∧W.cell? ⟨w.heap.size+1,4,none⟩=some (.slice (some ⟨b',off',none⟩) kids'.length cap')∧(W.cell? ⟨b,off+j*6,none⟩=some (.int .i64 xop)∧W.cell? ⟨b,off+j*6+1,none⟩=some (.string xmon)∧W.cell? ⟨b,off+j*6+2,none⟩=some (.string xname)∧W.cell? ⟨b,off+j*6+3,none⟩=some (.int .i64 xn)∧W.cell? ⟨b,off+j*6+4,none⟩=some (.slice xad xkids.length xcap)∧W.cell? ⟨b,off+j*6+5,none⟩=some (.int .i64 xpos))∧(W.cell? ⟨b',off'+j*6,none⟩=some (.int .i64 yop)∧W.cell? ⟨b',off'+j*6+1,none⟩=some (.string ymon)∧W.cell? ⟨b',off'+j*6+2,none⟩=some (.string yname)∧W.cell? ⟨b',off'+j*6+3,none⟩=some (.int .i64 yn)∧W.cell? ⟨b',off'+j*6+4,none⟩=some (.slice yad ykids.length ycap)∧W.cell? ⟨b',off'+j*6+5,none⟩=some (.int .i64 ypos))) (exact HK.out _ B)
      ((go_at_call 19;refine (hq _ B).mono ?_;rintro r u1 ⟨rfl,bb⟩;have B:=B.tr le_rfl' bb))
     go_wp2
     go_ret
     exact⟨ret_bool (by rw[HR.out,HC.out HRES.out]),hbF.tr le_rfl' B⟩
    ·go_wp2_with fail
     go_region_held3 (fun W=>W.cell? ⟨w.heap.size,4,none⟩=some (.slice (some ⟨b,off,none⟩) kids.length cap)∧W.cell? ⟨w.heap.size+1,4,none⟩=some (.slice (some ⟨b',off',none⟩) kids'.length cap')∧(W.cell? ⟨b,off+j*6,none⟩=some (.int .i64 xop)∧W.cell? ⟨b,off+j*6+1,none⟩=some (.string xmon)∧W.cell? ⟨b,off+j*6+2,none⟩=some (.string xname)∧W.cell? ⟨b,off+j*6+3,none⟩=some (.int .i64 xn)∧W.cell? ⟨b,off+j*6+4,none⟩=some (.slice xad xkids.length xcap)∧W.cell? ⟨b,off+j*6+5,none⟩=some (.int .i64 xpos))∧(W.cell? ⟨b',off'+j*6,none⟩=some (.int .i64 yop)∧W.cell? ⟨b',off'+j*6+1,none⟩=some (.string ymon)∧W.cell? ⟨b',off'+j*6+2,none⟩=some (.string yname)∧W.cell? ⟨b',off'+j*6+3,none⟩=some (.int .i64 yn)∧W.cell? ⟨b',off'+j*6+4,none⟩=some (.slice yad ykids.length ycap)∧W.cell? ⟨b',off'+j*6+5,none⟩=some (.int .i64 ypos))) (exact HK.out _ B)
      ((go_at_call 19;refine (hq _ B).mono ?_;rintro r u1 ⟨rfl,bb⟩;have B:=B.tr le_rfl' bb))
     go_wp2
     go_roundw
     case rel=>exact⟨j+1,by omega,by go_num,by show _=_;rw[HS.out,HA.out];rfl,hbw.tr (by simp) B⟩
     case measure=>simp[intOf];omega
   ·have hjd:decide ((j:Int)<(kids.length:Int))=false:=by simp;omega
    go_wp2
    go_ret
    refine⟨ret_bool ?_,hbF⟩
    have h1:=HA.out
    have h2:=HL.out
    rw[List.take_of_length_le (by omega),List.take_of_length_le (by omega)] at h1
    rw[HR.out,h1]
end Go.Proofs.YtbmbchdjjfmafaaGreatDoor
