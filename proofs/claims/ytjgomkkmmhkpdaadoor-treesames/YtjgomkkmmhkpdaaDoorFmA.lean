/-
  The document's own answer for statements and variables: form, isVar.
-/
import Derived.Test.YtjgomkkmmhkpdaaDoorIeB
namespace Go.Proofs.YtjgomkkmmhkpdaaDoor
open Go.RowKit
set_option maxRecDepth 100000 in
set_option maxHeartbeats 4000000 in
theorem form_no (kind : Int) (w : World) (h : ¬ (1 ≤ kind ∧ kind ≤ 11)) :
    Calls Tryd.prog 59 #[.int .i64 kind] w fun r w' => r = .returned (.tuple #[.slice none 0 0, .int .i64 0, .int .i64 0, .bool false]) ∧ w' = w := by
  have h1 : kind ≠ 1 := by omega
  have h2 : kind ≠ 2 := by omega
  have h3 : kind ≠ 3 := by omega
  have h4 : kind ≠ 4 := by omega
  have h5 : kind ≠ 5 := by omega
  have h6 : kind ≠ 6 := by omega
  have h7 : kind ≠ 7 := by omega
  have h8 : kind ≠ 8 := by omega
  have h9 : kind ≠ 9 := by omega
  have h10 : kind ≠ 10 := by omega
  have h11 : kind ≠ 11 := by omega
  clear h
  go_enter Tryd.func59, Tryd.ntmps59
  go_wp2
  exact bodyPost_ret (v := .tuple #[.slice none 0 0, .int .i64 0, .int .i64 0, .bool false]) (by simp [results, Tryd.results59, go_sem]) rfl ⟨rfl, rfl⟩
set_option maxRecDepth 100000 in
set_option maxHeartbeats 8000000 in
theorem form_yes (k : Nat) (w : World) (h1 : 1 ≤ k) (h2 : k ≤ 11) :
    Calls Tryd.prog 59 #[.int .i64 (k : Int)] w fun r w' => r = .returned (.tuple #[.slice (some ⟨w.heap.size, 0, none⟩) 4 4, .int .i64 ((stLeast k : Nat) : Int), .int .i64 ((stMost k : Nat) : Int), .bool true]) ∧
      w' = w.alloc (.cells #[.bool (stMon k), .bool (stName k), .bool (stNumber k), .bool (stExpr k)] 4) := by
  have hk : k = 1 ∨ k = 2 ∨ k = 3 ∨ k = 4 ∨ k = 5 ∨ k = 6 ∨ k = 7 ∨ k = 8 ∨ k = 9 ∨ k = 10 ∨ k = 11 := by omega
  rcases hk with rfl | rfl | rfl | rfl | rfl | rfl | rfl | rfl | rfl | rfl | rfl
  all_goals
    go_enter Tryd.func59, Tryd.ntmps59
    go_wp2
    exact bodyPost_ret (v := .tuple #[.slice (some ⟨w.heap.size, 0, none⟩) 4 4, _, _, .bool true]) (by simp [results, Tryd.results59, go_sem]; exact ⟨rfl, rfl⟩) rfl ⟨rfl, rfl⟩
end Go.Proofs.YtjgomkkmmhkpdaaDoor
