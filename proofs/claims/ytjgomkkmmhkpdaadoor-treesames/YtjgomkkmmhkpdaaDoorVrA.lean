/-
  The document's own answer for variables: isVar.
-/
import Derived.Test.YtjgomkkmmhkpdaaDoorFmA
import Derived.Test.YtjgomkkmmhkpdaaDoorPtR
namespace Go.Proofs.YtjgomkkmmhkpdaaDoor
open Go.RowKit
set_option maxRecDepth 100000 in
set_option maxHeartbeats 4000000 in
theorem refIsVar_any (v : Va) (w : World) (hv : v.Is) :
    Calls Tryd.prog 33 #[v.val] w fun r w' => r = .returned (.bool v.ok) ∧ Below w.heap.size w w' := by
  rcases v with ⟨name, type, lo, hi, init, pos⟩
  obtain ⟨h1, h2, h3, h4, h5, h6⟩ := hv
  simp only [Va.val, Va.cells] at *
  unfold I64 at h2 h3 h4 h5 h6
  unfold Len at h1
  obtain ⟨res, hres⟩ : ∃ res, Va.ok ⟨name, type, lo, hi, init, pos⟩ = res := ⟨_, rfl⟩
  rw [hres]
  have HS : Hid ((Lx.name name && !(decide (lo = -9223372036854775808 ∨ hi = -9223372036854775808 ∨ init = -9223372036854775808)) &&
    decide ((type = 1 ∧ lo = 0 ∧ hi = 0 ∧ (init = 0 ∨ init = 1)) ∨ (type = 2 ∧ lo = 0 ∧ hi = 0) ∨ (type = 3 ∧ lo ≤ hi))) = res) := hres
  clear hres
  have hcA := six_new (W := w) (t := 55) (c0 := .string name) (c1 := .int .i64 type) (c2 := .int .i64 lo) (c3 := .int .i64 hi) (c4 := .int .i64 init) (c5 := .int .i64 pos) rfl
  have B1 : Below w.heap.size w (w.alloc (.cells #[.string name, .int .i64 type, .int .i64 lo, .int .i64 hi, .int .i64 init, .int .i64 pos] 55)) := (Below.refl _ w).al le_rfl' _
  cases hN : Lx.name name
  · go_enter Tryd.func33, Tryd.ntmps33
    go_wp2_with (go_at_call 32; refine (refName_any _ _ h1).mono ?_; rintro e w1 ⟨rfl, bb⟩; obtain ⟨e0, e1, e2, e3, e4, e5⟩ := six_keep hcA bb)
    go_ret
    exact ⟨ret_bool (by rw [← HS.out, hN]; rfl), B1.tr le_rfl' bb⟩
  · rw [hN, Bool.true_and] at HS
    go_enter Tryd.func33, Tryd.ntmps33
    go_wp2_with (go_at_call 32; refine (refName_any _ _ h1).mono ?_; rintro e w1 ⟨rfl, bb⟩; obtain ⟨e0, e1, e2, e3, e4, e5⟩ := six_keep hcA bb)
    all_goals go_ret
    all_goals refine ⟨ret_bool ?_, B1.tr le_rfl' bb⟩
    all_goals rw [← HS.out]
    all_goals (clear HS hcA B1 e0 e1 e2 e3 e4 e5 bb; try simp only [beq_iff_eq, beq_eq_false_iff_ne, ne_eq] at *)
    all_goals (rw [Bool.eq_iff_iff]; simp; omega)
end Go.Proofs.YtjgomkkmmhkpdaaDoor
