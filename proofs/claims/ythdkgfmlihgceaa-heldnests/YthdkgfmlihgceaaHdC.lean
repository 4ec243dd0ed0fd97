/-
  isPlace, hasMonitor and isSound of package held.
-/
import Derived.Test.YthdkgfmlihgceaaHdA
namespace Go.Proofs.Ythdkgfmlihgceaa
open Go.RowKit
def isPl (a n : Int) : Bool := decide (0 ≤ a) && decide (a < n)
def hasM (k : Int) : Bool := decide (4 ≤ k) && decide (k ≤ 8)
theorem isPl_iff {a n : Int} : isPl a n = true ↔ 0 ≤ a ∧ a < n := by simp [isPl]
theorem hasM_iff {k : Int} : hasM k = true ↔ 4 ≤ k ∧ k ≤ 8 := by simp [hasM]
theorem ret_b {x y : Bool} (h : x = y) : Ending.returned (.bool x) = .returned (.bool y) := by rw [h]
set_option maxHeartbeats 400000 in
theorem isPlace_any (a n : Int) (w : World) : Calls Try.prog 24 #[.int .i64 a, .int .i64 n] w fun r w' => r = .returned (.bool (isPl a n)) ∧ w' = w := by
  have HB := hid (show isPl a n = (decide (0 ≤ a) && decide (a < n)) from rfl)
  by_cases h0 : 0 ≤ a
  · have hd : decide (0 ≤ a) = true := by simpa using h0
    rw [hd, Bool.true_and] at HB
    go_enter Try.func24, Try.ntmps24
    go_wp2
    go_ret
    exact ⟨ret_b HB.out.symm, rfl⟩
  · have hd : decide (0 ≤ a) = false := by simpa using h0
    rw [hd, Bool.false_and] at HB
    go_enter Try.func24, Try.ntmps24
    go_wp2
    go_ret
    exact ⟨ret_b HB.out.symm, rfl⟩
set_option maxHeartbeats 1000000 in
theorem hasMonitor_any (k : Int) (w : World) : Calls Try.prog 28 #[.int .i64 k] w fun r w' => r = .returned (.bool (hasM k)) ∧ w' = w := by
  have HB := hid (show hasM k = true ↔ 4 ≤ k ∧ k ≤ 8 from hasM_iff)
  by_cases h4 : k = 4
  · subst h4
    go_enter Try.func28, Try.ntmps28
    go_wp2
    go_ret
    exact ⟨ret_b rfl, rfl⟩
  by_cases h5 : k = 5
  · subst h5
    go_enter Try.func28, Try.ntmps28
    go_wp2
    go_ret
    exact ⟨ret_b rfl, rfl⟩
  by_cases h6 : k = 6
  · subst h6
    go_enter Try.func28, Try.ntmps28
    go_wp2
    go_ret
    exact ⟨ret_b rfl, rfl⟩
  by_cases h7 : k = 7
  · subst h7
    go_enter Try.func28, Try.ntmps28
    go_wp2
    go_ret
    exact ⟨ret_b rfl, rfl⟩
  by_cases h8 : k = 8
  · subst h8
    go_enter Try.func28, Try.ntmps28
    go_wp2
    go_ret
    exact ⟨ret_b rfl, rfl⟩
  have HF : Hid (hasM k = false) := by
    show _ = _
    cases h : hasM k
    · rfl
    · have := HB.out.1 h; omega
  clear HB
  go_enter Try.func28, Try.ntmps28
  go_wp2
  go_ret
  exact ⟨ret_b HF.out.symm, rfl⟩
end Go.Proofs.Ythdkgfmlihgceaa
