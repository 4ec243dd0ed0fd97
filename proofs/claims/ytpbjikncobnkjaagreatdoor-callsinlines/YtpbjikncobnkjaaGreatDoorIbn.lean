/-
  Own texts joined by program: VrA.
-/
import Derived.Test.YtpbjikncobnkjaaGreatDoorIbj
import Derived.RegionTactic
namespace Go.Proofs.YtpbjikncobnkjaaGreatDoor
open Go.RowKit
theorem ltCell {w:World} {b o:Nat} {v:Value} (h:w.cell? ⟨b,o,none⟩=some v):b<w.heap.size:=by
 rcases Nat.lt_or_ge b w.heap.size with h1|h1
 ·exact h1
 ·exfalso
  have h2:w.heap[b]?=none:=by rw[Array.getElem?_eq_none_iff];exact h1
  simp[World.cell?,h2] at h
theorem heapAtV {W:World} (o:Obj) {k:Nat} (h:W.heap.size=k):(W.alloc o).heap[k]?=some o:=by subst h;exact World.alloc_heap_new W o
theorem six_new {W:World} {c0 c1 c2 c3 c4 c5:Value} {t:TypeId} {p:Nat} (hp:W.heap.size=p):(W.alloc (.cells #[c0,c1,c2,c3,c4,c5] t)).cell? ⟨p,0,none⟩=some c0∧(W.alloc (.cells #[c0,c1,c2,c3,c4,c5] t)).cell? ⟨p,1,none⟩=some c1∧(W.alloc (.cells #[c0,c1,c2,c3,c4,c5] t)).cell? ⟨p,2,none⟩=some c2∧(W.alloc (.cells #[c0,c1,c2,c3,c4,c5] t)).cell? ⟨p,3,none⟩=some c3∧(W.alloc (.cells #[c0,c1,c2,c3,c4,c5] t)).cell? ⟨p,4,none⟩=some c4∧(W.alloc (.cells #[c0,c1,c2,c3,c4,c5] t)).cell? ⟨p,5,none⟩=some c5:=by
 have h:(W.alloc (.cells #[c0,c1,c2,c3,c4,c5] t)).heap[p]?=some (.cells #[c0,c1,c2,c3,c4,c5] t (0,0)):=heapAtV _ hp
 exact⟨cell_of h 0,cell_of h 1,cell_of h 2,cell_of h 3,cell_of h 4,cell_of h 5⟩
theorem six_keep {W W':World} {p:Nat} {c0 c1 c2 c3 c4 c5:Value} (h:W.cell? ⟨p,0,none⟩=some c0∧W.cell? ⟨p,1,none⟩=some c1∧W.cell? ⟨p,2,none⟩=some c2∧W.cell? ⟨p,3,none⟩=some c3∧W.cell? ⟨p,4,none⟩=some c4∧W.cell? ⟨p,5,none⟩=some c5) (hb:Below W.heap.size W W') :
  W'.cell? ⟨p,0,none⟩=some c0∧W'.cell? ⟨p,1,none⟩=some c1∧W'.cell? ⟨p,2,none⟩=some c2∧W'.cell? ⟨p,3,none⟩=some c3∧W'.cell? ⟨p,4,none⟩=some c4∧W'.cell? ⟨p,5,none⟩=some c5:=by
 have hp:=ltCell h.1
 obtain⟨h0,h1,h2,h3,h4,h5⟩:=h
 exact⟨(hb.cell (p:=⟨p,0,none⟩) hp).trans h0,(hb.cell (p:=⟨p,1,none⟩) hp).trans h1,(hb.cell (p:=⟨p,2,none⟩) hp).trans h2,(hb.cell (p:=⟨p,3,none⟩) hp).trans h3,(hb.cell (p:=⟨p,4,none⟩) hp).trans h4,(hb.cell (p:=⟨p,5,none⟩) hp).trans h5⟩
set_option maxRecDepth 100000 in
set_option maxHeartbeats 4000000 in
theorem refIsVar_any (v:Va) (w:World) (hv:v.Is) :
  Calls Tryz.prog 53 #[v.val] w fun r w'=>r=.returned (.bool v.ok)∧Below w.heap.size w w':=by
 rcases v with ⟨name,type,lo,hi,init,pos⟩
 obtain⟨h1,h2,h3,h4,h5,h6⟩:=hv
 simp only[Va.val,Va.cells] at *
 unfold I64 at h2 h3 h4 h5 h6
 unfold Len at h1
 obtain⟨res,hres⟩:∃ res,Va.ok ⟨name,type,lo,hi,init,pos⟩=res:=⟨_,rfl⟩
 rw[hres]
 have HS:Hid ((Lx.name name&&!(decide (lo=-9223372036854775808∨hi=-9223372036854775808∨init=-9223372036854775808)) &&
  decide ((type=1∧lo=0∧hi=0∧(init=0∨init=1))∨(type=2∧lo=0∧hi=0)∨(type=3∧lo≤hi)))=res):=hres
 clear hres
 have hcA:=six_new (W:=w) (t:=54) (c0:=.string name) (c1:=.int .i64 type) (c2:=.int .i64 lo) (c3:=.int .i64 hi) (c4:=.int .i64 init) (c5:=.int .i64 pos) rfl
 have B1:Below w.heap.size w (w.alloc (.cells #[.string name,.int .i64 type,.int .i64 lo,.int .i64 hi,.int .i64 init,.int .i64 pos] 54)):=(Below.refl _ w).al le_rfl' _
 cases hN:Lx.name name
 ·go_enter Tryz.func53,Tryz.ntmps53
  go_wp2_with (go_at_call 52;refine (refName_any _ _ h1).mono ?_;rintro e w1 ⟨rfl,bb⟩;obtain⟨e0,e1,e2,e3,e4,e5⟩:=six_keep hcA bb)
  go_ret
  exact⟨ret_bool (by rw[← HS.out,hN];rfl),B1.tr le_rfl' bb⟩
 ·rw[hN,Bool.true_and] at HS
  go_enter Tryz.func53,Tryz.ntmps53
  go_wp2_with (go_at_call 52;refine (refName_any _ _ h1).mono ?_;rintro e w1 ⟨rfl,bb⟩;obtain⟨e0,e1,e2,e3,e4,e5⟩:=six_keep hcA bb)
  all_goals go_ret
  all_goals refine⟨ret_bool ?_,B1.tr le_rfl' bb⟩
  all_goals rw[← HS.out]
  all_goals (clear HS hcA B1 e0 e1 e2 e3 e4 e5 bb;try simp only[beq_iff_eq,beq_eq_false_iff_ne,ne_eq] at *)
  all_goals (rw[Bool.eq_iff_iff];simp;omega)
end Go.Proofs.YtpbjikncobnkjaaGreatDoor
