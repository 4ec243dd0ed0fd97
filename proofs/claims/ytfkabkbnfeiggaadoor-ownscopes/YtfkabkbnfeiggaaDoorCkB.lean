/-
  isVar, isRole, isMonitor, declares of package tree: whether a program is right in all but its statements.
-/
import Derived.Test.YtfkabkbnfeiggaaDoorCkA
import Derived.Test.YtfkabkbnfeiggaaDoorEqC
namespace Go.Proofs.YtfkabkbnfeiggaaDoor
open Go.RowKit
/-- A variable is one. -/
def Va.ok (v : Va) : Bool := Lx.name v.name && !(decide (v.lo = -9223372036854775808 ∨ v.hi = -9223372036854775808 ∨ v.init = -9223372036854775808)) &&
  decide ((v.type = 1 ∧ v.lo = 0 ∧ v.hi = 0 ∧ (v.init = 0 ∨ v.init = 1)) ∨ (v.type = 2 ∧ v.lo = 0 ∧ v.hi = 0) ∨ (v.type = 3 ∧ v.lo ≤ v.hi))
set_option maxRecDepth 100000 in
set_option maxHeartbeats 2000000 in
theorem isVar_any (v : Va) (w : World) (hv : v.Is) :
    Calls Tryd.prog 82 #[v.val] w fun r w' => r = .returned (.bool v.ok) ∧ Below w.heap.size w w' := by
  rcases v with ⟨name, type, lo, hi, init, pos⟩
  obtain ⟨h1, h2, h3, h4, h5, h6⟩ := hv
  simp only [Va.val, Va.cells] at *
  unfold I64 at h2 h3 h4 h5 h6
  obtain ⟨res, hres⟩ : ∃ res, Va.ok ⟨name, type, lo, hi, init, pos⟩ = res := ⟨_, rfl⟩
  rw [hres]
  have HS : Hid ((Lx.name name && !(decide (lo = -9223372036854775808 ∨ hi = -9223372036854775808 ∨ init = -9223372036854775808)) &&
    decide ((type = 1 ∧ lo = 0 ∧ hi = 0 ∧ (init = 0 ∨ init = 1)) ∨ (type = 2 ∧ lo = 0 ∧ hi = 0) ∨ (type = 3 ∧ lo ≤ hi))) = res) := hres
  clear hres
  have key : ((if init < (if hi < lo then hi else lo) then init else (if hi < lo then hi else lo)) == (-9223372036854775808 : Int)) = decide (lo = -9223372036854775808 ∨ hi = -9223372036854775808 ∨ init = -9223372036854775808) := by
    rw [Bool.eq_iff_iff]; simp only [beq_iff_eq, decide_eq_true_iff]
    (repeat' split) <;> omega
  cases hN : Lx.name name
  · clear key
    go_enter Tryd.func82, Tryd.ntmps82
    go_wp2_with (go_at_call 81; refine (name_any _ _ h1).mono ?_; rintro e w' ⟨rfl, hw'⟩; have hw2 := hw'.symm; subst hw2)
    go_ret
    exact ⟨ret_bool (by rw [← HS.out, hN]; rfl), (Below.refl _ _).al le_rfl' _⟩
  by_cases hM : lo = -9223372036854775808 ∨ hi = -9223372036854775808 ∨ init = -9223372036854775808
  · rw [decide_eq_true hM] at key
    have HM := hid hM
    clear hM
    go_enter Tryd.func82, Tryd.ntmps82
    go_wp2_with (go_at_call 81; refine (name_any _ _ h1).mono ?_; rintro e w' ⟨rfl, hw'⟩; have hw2 := hw'.symm; subst hw2)
    all_goals go_ret
    all_goals refine ⟨ret_bool ?_, (Below.refl _ _).al le_rfl' _⟩
    all_goals (rw [← HS.out, hN, decide_eq_true HM.out]; rfl)
  · rw [decide_eq_false hM] at key
    have HM := hid hM
    clear hM
    rw [hN, decide_eq_false HM.out, Bool.not_false, Bool.true_and, Bool.true_and] at HS
    go_enter Tryd.func82, Tryd.ntmps82
    go_wp2_with (go_at_call 81; refine (name_any _ _ h1).mono ?_; rintro e w' ⟨rfl, hw'⟩; have hw2 := hw'.symm; subst hw2)
    all_goals go_ret
    all_goals refine ⟨ret_bool ?_, (Below.refl _ _).al le_rfl' _⟩
    all_goals rw [← HS.out]
    all_goals (clear key HS; simp only [beq_iff_eq, beq_eq_false_iff_ne, ne_eq] at *)
    all_goals (rw [Bool.eq_iff_iff]; simp; omega)
end Go.Proofs.YtfkabkbnfeiggaaDoor
