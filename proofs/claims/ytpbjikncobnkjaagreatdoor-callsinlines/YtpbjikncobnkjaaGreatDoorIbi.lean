/-
  Own texts joined by program: EmA.
-/
import Derived.Test.YtpbjikncobnkjaaGreatDoorIbh
namespace Go.Proofs.YtpbjikncobnkjaaGreatDoor
open Go.RowKit
theorem heapAt {W:World} (o:Obj) {k:Nat} (h:W.heap.size=k):(W.alloc o).heap[k]?=some o:=by subst h;exact World.alloc_heap_new W o
set_option maxRecDepth 100000 in
set_option maxHeartbeats 2000000 in
theorem empty_any (n₀:Nat) (e:Ex) (w:World) (he:e.Is n₀ w):Calls Tryz.prog 56 #[e.val] w fun r w'=>r=.returned (.bool e.none)∧Below w.heap.size w w':=by
 rcases e with ⟨op,mon,name,n,ad,cap,kids,pos⟩
 have hd:=he.down
 have hl1:=hd.2.1.1;have hl2:=hd.2.1.2.1
 unfold maxLen at hl2
 have HR:=hid (none_mk op mon name n ad cap kids pos)
 simp only[Ex.val,Ex.cells]
 cases q1:(op==0)
 ·go_enter Tryz.func56,Tryz.ntmps56
  go_wp2
  go_ret
  exact⟨ret_bool (by rw[HR.out,q1];rfl),(Below.refl _ _).al le_rfl' _⟩
 cases q2:mon.toList.isEmpty
 ·go_enter Tryz.func56,Tryz.ntmps56
  go_wp2
  go_ret
  exact⟨ret_bool (by rw[HR.out,q1,q2];rfl),(Below.refl _ _).al le_rfl' _⟩
 cases q3:name.toList.isEmpty
 ·go_enter Tryz.func56,Tryz.ntmps56
  go_wp2
  go_ret
  exact⟨ret_bool (by rw[HR.out,q1,q2,q3];rfl),(Below.refl _ _).al le_rfl' _⟩
 cases q4:(n==0)
 ·go_enter Tryz.func56,Tryz.ntmps56
  go_wp2
  go_ret
  exact⟨ret_bool (by rw[HR.out,q1,q2,q3,q4];rfl),(Below.refl _ _).al le_rfl' _⟩
 ·go_enter Tryz.func56,Tryz.ntmps56
  go_wp2
  go_ret
  exact⟨ret_bool (by rw[HR.out,q1,q2,q3,q4];rfl),(Below.refl _ _).al le_rfl' _⟩
end Go.Proofs.YtpbjikncobnkjaaGreatDoor
