/-
  The document's own answer for expressions: kids, empty, IsExpr.
-/
import Derived.Test.YtnljhlmopjgogaaDoorRsA
namespace Go.Proofs.YtnljhlmopjgogaaDoor
open Go.RowKit
def kidsOf (op : Int) : Int := if 1 ≤ op ∧ op ≤ 4 then 0 else if 5 ≤ op ∧ op ≤ 7 then 1 else if 8 ≤ op ∧ op ≤ 17 then 2 else -1
theorem kids_any (op : Int) (w : World) : Calls Tryd.prog 44 #[.int .i64 op] w fun e w' => e = .returned (.int .i64 (kidsOf op)) ∧ w' = w := by
  go_enter Tryd.func44, Tryd.ntmps44
  go_wp2
  all_goals go_ret
  all_goals (refine ⟨ret_i64 ?_, rfl⟩; simp only [kidsOf]; (repeat' split) <;> omega)
theorem none_mk (op : Int) (mon name : ByteArray) (n : Int) (ad : Option Addr) (cap : Nat) (kids : List Ex) (pos : Int) :
    (Ex.mk op mon name n ad cap kids pos).none = ((op == 0) && mon.toList.isEmpty && name.toList.isEmpty && (n == 0) && ((kids.length : Int) == 0)) := by
  have e0 : (ByteArray.mk #[]).toList = [] := by rw [ByteArray.toList_eq]
  have hk : all2 Ex.same kids [] = ((kids.length : Int) == 0) := by
    cases kids with
    | nil => rfl
    | cons a r => rw [all2_len _ _ _ (by simp)]; symm; rw [beq_eq_false_iff_ne]; simp; omega
  have hs : ∀ l : List UInt8, (l == []) = l.isEmpty := fun l => by cases l <;> rfl
  rw [Ex.none, same_mk, e0, hk, hs, hs]
end Go.Proofs.YtnljhlmopjgogaaDoor
