/-
  Own texts joined by program: PcE.
-/
import Derived.Test.YtpbjikncobnkjaaGreatDoorIax
import Derived.Deep.RegionHeld3
namespace Go.Proofs.YtpbjikncobnkjaaGreatDoor
open Go.RowKit
theorem heapAtP {W:World} {o:Obj} {k:Nat} (h:W.heap.size=k):(W.alloc o).heap[k]?=some o:=by subst h;exact World.alloc_heap_new W o
theorem below_drewP {B:Nat} {w w':World} (h:Below B w w'):Below B w w'.drew:=⟨h.os,h.tape,h.output,h.size,h.block⟩
set_option maxRecDepth 100000 in
set_option maxHeartbeats 8000000 in
theorem placed_self (n₀:Nat) (a:Ex):∀ (w:World),n₀≤w.heap.size→a.Is n₀ w →
  Calls Tryz.prog 39 #[a.val,a.val] w fun r w'=>r=.returned (.bool true)∧Below w.heap.size w w':=by
 induction a using Ex.ind with
 | h op mon name n ad cap kids pos ih =>
  intro w hn ha
  have hd:=ha.down
  have hl1:=hd.2.1.1;have hl2:=hd.2.1.2.1
  unfold maxLen at hl2
  simp only[Ex.val,Ex.cells]
  go_enter Tryz.func39,Tryz.ntmps39
  go_wp2
  go_loopw [5] (fun i wr=>∃ j:Nat,j≤kids.length∧i=.int .i64 j∧Below (w.heap.size+1+1) ((w.alloc (.cells #[.int .i64 op,.string mon,.string name,.int .i64 n,.slice ad kids.length cap,.int .i64 pos] 61)).alloc (.cells #[.int .i64 op,.string mon,.string name,.int .i64 n,.slice ad kids.length cap,.int .i64 pos] 61)) wr)
   (fun i _=>kids.length-(intOf i).toNat)
  case atStart=>exact⟨0,by omega,rfl,Below.refl _ _⟩
  case round =>
   obtain⟨j,hj,rfl,hbw⟩:=hrel
   have hbF:Below w.heap.size w wr:=(((Below.refl _ w).al le_rfl' _).al le_rfl' _).trans (hbw.mono (by omega))
   have hb0:Below n₀ w wr:=hbF.mono hn
   have hz:=hbw.size
   simp at hz
   have bx:wr.cell? ⟨w.heap.size,4,none⟩=some (.slice ad kids.length cap):=(hbw.cell (p:=⟨w.heap.size,4,none⟩) (by show w.heap.size<_;omega)).trans (cell_of' ((Below.heap_alloc _ _ _ (by simp)).trans (World.alloc_heap_new w _)) 4)
   have by':wr.cell? ⟨w.heap.size+1,4,none⟩=some (.slice ad kids.length cap):=(hbw.cell (p:=⟨w.heap.size+1,4,none⟩) (by show w.heap.size+1<_;omega)).trans (cell_of' (heapAtP (by simp)) 4)
   by_cases hlt:j<kids.length
   ·rcases hd.2.1.2.2 with h|⟨b,off,rfl,hbn,hrow⟩
    ·subst h;simp at hlt
    have hr:=hrow.below hb0 hbn
    have hq:∀ W,Below wr.heap.size wr W→Calls Tryz.prog 39 #[kids[j].val,kids[j].val] W fun r w'=>r=.returned (.bool true)∧Below W.heap.size W w':=fun W hW=>by
     have hzW:=hW.size
     exact ih _ (List.getElem_mem hlt) W (by omega) ((hd.2.2 _ (List.getElem_mem hlt)).below (hb0.trans (hW.mono (by omega))))
    clear ih
    rcases he:kids[j] with ⟨xop,xmon,xname,xn,xad,xcap,xkids,xpos⟩
    obtain⟨c0,c1,c2,c3,c4,c5⟩:=row6 hr j hlt (by rw[he];rfl)
    simp only[he,Ex.val,Ex.cells] at hq
    clear he
    have hkeep:∀ W,Below wr.heap.size wr W→(W.cell? ⟨w.heap.size,4,none⟩=some (.slice (some ⟨b,off,none⟩) kids.length cap)∧W.cell? ⟨w.heap.size+1,4,none⟩=some (.slice (some ⟨b,off,none⟩) kids.length cap)∧W.cell? ⟨b,off+j*6,none⟩=some (.int .i64 xop)∧W.cell? ⟨b,off+j*6+1,none⟩=some (.string xmon)∧W.cell? ⟨b,off+j*6+2,none⟩=some (.string xname)∧W.cell? ⟨b,off+j*6+3,none⟩=some (.int .i64 xn)∧W.cell? ⟨b,off+j*6+4,none⟩=some (.slice xad xkids.length xcap)∧W.cell? ⟨b,off+j*6+5,none⟩=some (.int .i64 xpos)):=fun W hW=>by
     have k1:b<wr.heap.size:=by omega
     exact⟨(hW.cell (p:=⟨w.heap.size,4,none⟩) (by show w.heap.size<_;omega)).trans bx,(hW.cell (p:=⟨w.heap.size+1,4,none⟩) (by show w.heap.size+1<_;omega)).trans by',
      (hW.cell (p:=⟨b,off+j*6,none⟩) k1).trans c0,(hW.cell (p:=⟨b,off+j*6+1,none⟩) k1).trans c1,(hW.cell (p:=⟨b,off+j*6+2,none⟩) k1).trans c2,(hW.cell (p:=⟨b,off+j*6+3,none⟩) k1).trans c3,(hW.cell (p:=⟨b,off+j*6+4,none⟩) k1).trans c4,(hW.cell (p:=⟨b,off+j*6+5,none⟩) k1).trans c5⟩
    have HK:=hid hkeep
    clear hkeep c0 c1 c2 c3 c4 c5
    have hj0:(0:Int)≤(j:Int):=Int.natCast_nonneg _
    have hj1:(j:Int)<(kids.length:Int):=by omega
    have B:=below_drewP (Below.refl wr.heap.size wr)
    go_wp2_with fail
    go_region_held3 (fun W=>W.cell? ⟨w.heap.size,4,none⟩=some (.slice (some ⟨b,off,none⟩) kids.length cap)∧W.cell? ⟨w.heap.size+1,4,none⟩=some (.slice (some ⟨b,off,none⟩) kids.length cap)∧W.cell? ⟨b,off+j*6,none⟩=some (.int .i64 xop)∧W.cell? ⟨b,off+j*6+1,none⟩=some (.string xmon)∧W.cell? ⟨b,off+j*6+2,none⟩=some (.string xname)∧W.cell? ⟨b,off+j*6+3,none⟩=some (.int .i64 xn)∧W.cell? ⟨b,off+j*6+4,none⟩=some (.slice xad xkids.length xcap)∧W.cell? ⟨b,off+j*6+5,none⟩=some (.int .i64 xpos))
     (exact HK.out _ B)
     ((go_at_call 39;refine (hq _ B).mono ?_;rintro r u1 ⟨rfl,bb⟩;have B:=B.tr le_rfl' bb))
    go_wp2
    go_roundw
    case rel=>exact⟨j+1,by omega,by go_num,hbw.tr (by simp) B⟩
    case measure=>simp[intOf];omega
   ·have hjd:decide ((j:Int)<(kids.length:Int))=false:=by simp;omega
    go_wp2
    go_ret
    exact⟨rfl,hbF⟩
end Go.Proofs.YtpbjikncobnkjaaGreatDoor
