/-
  The document's own answer for expressions: kids, empty, IsExpr.
-/
import Derived.Test.YtjgomkkmmhkpdaaDoorRsA
namespace Go.Proofs.YtjgomkkmmhkpdaaDoor
open Go.RowKit
def kidsOf (op : Int) : Int := if 1 ≤ op ∧ op ≤ 4 then 0 else if 5 ≤ op ∧ op ≤ 7 then 1 else if 8 ≤ op ∧ op ≤ 17 then 2 else -1
theorem kids_any (op : Int) (w : World) : Calls Tryd.prog 37 #[.int .i64 op] w fun e w' => e = .returned (.int .i64 (kidsOf op)) ∧ w' = w := by
  go_enter Tryd.func37, Tryd.ntmps37
  go_wp2
  all_goals go_ret
  all_goals (refine ⟨ret_i64 ?_, rfl⟩; simp only [kidsOf]; (repeat' split) <;> omega)
theorem none_mk (op : Int) (mon name : ByteArray) (n : Int) (ad : Option Addr) (cap : Nat) (kids : List Ex) (pos : Int) :
    (Ex.mk op mon name n ad cap kids pos).none = ((op == 0) && mon.toList.isEmpty && name.toList.isEmpty && (n == 0) && ((kids.length : Int) == 0)) := by
  have e0 : (ByteArray.mk #[]).toList = [] := by rw [ByteArray.toList_eq]
  have hk : all2 Ex.same kids [] = ((kids.length : Int) == 0) := by
    cases kids with
    | nil => rfl
    | cons a r => rw [all2_len _ _ _ (by simp)]; symm; rw [beq_eq_false_iff_ne]; simp; omega
  have hs : ∀ l : List UInt8, (l == []) = l.isEmpty := fun l => by cases l <;> rfl
  rw [Ex.none, same_mk, e0, hk, hs, hs]
set_option maxRecDepth 100000 in
set_option maxHeartbeats 2000000 in
theorem empty_any (n₀ : Nat) (e : Ex) (w : World) (he : e.Is n₀ w) : Calls Tryd.prog 60 #[e.val] w fun r w' => r = .returned (.bool e.none) ∧ Below w.heap.size w w' := by
  rcases e with ⟨op, mon, name, n, ad, cap, kids, pos⟩
  have hd := he.down
  have hl1 := hd.2.1.1; have hl2 := hd.2.1.2.1
  unfold maxLen at hl2
  have HR := hid (none_mk op mon name n ad cap kids pos)
  simp only [Ex.val, Ex.cells]
  cases q1 : (op == 0)
  · go_enter Tryd.func60, Tryd.ntmps60
    go_wp2
    go_ret
    exact ⟨ret_bool (by rw [HR.out, q1]; rfl), (Below.refl _ _).al le_rfl' _⟩
  cases q2 : mon.toList.isEmpty
  · go_enter Tryd.func60, Tryd.ntmps60
    go_wp2
    go_ret
    exact ⟨ret_bool (by rw [HR.out, q1, q2]; rfl), (Below.refl _ _).al le_rfl' _⟩
  cases q3 : name.toList.isEmpty
  · go_enter Tryd.func60, Tryd.ntmps60
    go_wp2
    go_ret
    exact ⟨ret_bool (by rw [HR.out, q1, q2, q3]; rfl), (Below.refl _ _).al le_rfl' _⟩
  cases q4 : (n == 0)
  · go_enter Tryd.func60, Tryd.ntmps60
    go_wp2
    go_ret
    exact ⟨ret_bool (by rw [HR.out, q1, q2, q3, q4]; rfl), (Below.refl _ _).al le_rfl' _⟩
  · go_enter Tryd.func60, Tryd.ntmps60
    go_wp2
    go_ret
    exact ⟨ret_bool (by rw [HR.out, q1, q2, q3, q4]; rfl), (Below.refl _ _).al le_rfl' _⟩
end Go.Proofs.YtjgomkkmmhkpdaaDoor
