/-
  The statement TreeChecks: its walk.
-/
import Derived.Test.YtjgomkkmmhkpdaaDoorIcA
import Derived.Test.YtjgomkkmmhkpdaaDoorSmA
import Derived.Test.YtjgomkkmmhkpdaaDoorLvB
import Derived.Deep.RegionHeld3
namespace Go.Proofs.YtjgomkkmmhkpdaaDoor
open Go.RowKit
theorem pair_new {W : World} {c0 c1 : Value} {t : TypeId} {p : Nat} (hp : W.heap.size = p) : (W.alloc (.cells #[c0, c1] t)).cell? ⟨p, 0, none⟩ = some c0 ∧ (W.alloc (.cells #[c0, c1] t)).cell? ⟨p, 1, none⟩ = some c1 := by
  have h : (W.alloc (.cells #[c0, c1] t)).heap[p]? = some (.cells #[c0, c1] t (0, 0)) := heapAt _ hp
  exact ⟨cell_of' h 0, cell_of' h 1⟩
theorem pair_keep {W W' : World} {p : Nat} {c0 c1 : Value} (h : W.cell? ⟨p, 0, none⟩ = some c0 ∧ W.cell? ⟨p, 1, none⟩ = some c1) (hb : Below W.heap.size W W') : W'.cell? ⟨p, 0, none⟩ = some c0 ∧ W'.cell? ⟨p, 1, none⟩ = some c1 := by
  have hp := lt_of_cell h.1
  exact ⟨(hb.cell (p := ⟨p, 0, none⟩) hp).trans h.1, (hb.cell (p := ⟨p, 1, none⟩) hp).trans h.2⟩
theorem below_drewK {B : Nat} {w w' : World} (h : Below B w w') : Below B w w'.drew := ⟨h.os, h.tape, h.output, h.size, h.block⟩
set_option maxRecDepth 100000 in
set_option maxHeartbeats 8000000 in
theorem treeChecks_walk (p : Pr) (w : World) (hS : Shapes w) (hp : p.Is w.heap.size w) :
    Calls Tryd.prog 3 #[p.val] w fun e w' => e = .returned (.bool true) ∧ Below w.heap.size w w' := by
  have hs2 := hS.size
  have h8 : ∀ W, Below w.heap.size w W → Calls Tryd.prog 8 #[p.val, .int .i64 400] W fun r w' => SmallBack p W w' r := fun W hW => small_any w.heap.size p W hW.size (hp.below hW)
  have h9 : ∀ W, Below w.heap.size w W → Calls Tryd.prog 9 #[] W fun r w' => r = .returned (.bool true) ∧ Below W.heap.size W w' := fun W hW => live_any W (hS.below hW hs2)
  have h10 : ∀ W, Below w.heap.size w W → Calls Tryd.prog 10 #[p.val] W fun r w' => r = .returned (.int .i64 (if p.ok then 0 else 20)) ∧ Below W.heap.size W w' := fun W hW => check_any p w.heap.size W hW.size (hp.below hW) (hS.below hW hs2)
  have h11 : ∀ W, Below w.heap.size w W → Calls Tryd.prog 11 #[p.val] W fun r w' => r = .returned (.bool p.ok) ∧ Below W.heap.size W w' := fun W hW => refIs_any w.heap.size p W hW.size (hp.below hW)
  obtain ⟨ok, hok⟩ : ∃ ok, p.ok = ok := ⟨_, rfl⟩
  simp only [hok] at h10 h11
  clear hok
  simp only [Pr.val] at h8 h10 h11 ⊢
  rcases p with ⟨mad, mcap, mons, rad, rcap, roles⟩
  simp only at h8 h10 h11 ⊢
  have B1 : Below w.heap.size w (w.alloc (.cells #[.slice mad mons.length mcap, .slice rad roles.length rcap] 25)) := (Below.refl _ w).al le_rfl' _
  have hcP := pair_new (W := w) (t := 25) (c0 := .slice mad mons.length mcap) (c1 := .slice rad roles.length rcap) rfl
  go_enter Tryd.func3, Tryd.ntmps3
  go_upto_if 5 with (go_at_call 8; refine (h8 _ B1).mono ?_; rintro r w1 ⟨c, rfl, -, bb1⟩)
  have B2 := B1.tr le_rfl' bb1
  have hcQ := pair_keep hcP bb1
  clear h8
  cases c
  · go_wp2_with (go_at_call 9; refine (h9 _ B2).mono ?_; rintro r w2 ⟨rfl, bb2⟩)
    go_ret
    exact ⟨rfl, B2.tr le_rfl' bb2⟩
  · have B := below_drewK (Below.refl w1.heap.size w1)
    have SP := pair_keep hcQ B
    have H10 := fun W (hW : Below w1.heap.size w1 W) => h10 W (B2.tr le_rfl' hW)
    have H11 := fun W (hW : Below w1.heap.size w1 W) => h11 W (B2.tr le_rfl' hW)
    have H9 := fun W (hW : Below w1.heap.size w1 W) => h9 W (B2.tr le_rfl' hW)
    clear h9 h10 h11
    cases ok
    all_goals
      go_wp2_with fail
      go_region_held3 (fun W => W.cell? ⟨w.heap.size, 0, none⟩ = some (.slice mad mons.length mcap) ∧ W.cell? ⟨w.heap.size, 1, none⟩ = some (.slice rad roles.length rcap))
        (exact SP)
        (first
          | (go_at_call 10; refine (H10 _ B).mono ?_; rintro r u1 ⟨rfl, bb⟩; have B := B.tr le_rfl' bb; have SP := pair_keep hcQ B)
          | (go_at_call 11; refine (H11 _ B).mono ?_; rintro r u2 ⟨rfl, bb⟩; have B := B.tr le_rfl' bb; have SP := pair_keep hcQ B)
          | (go_at_call 9; refine (H9 _ B).mono ?_; rintro r u3 ⟨rfl, bb⟩; have B := B.tr le_rfl' bb; have SP := pair_keep hcQ B))
      go_wp2
      go_ret
      exact ⟨rfl, B2.tr le_rfl' B⟩
end Go.Proofs.YtjgomkkmmhkpdaaDoor
