/-
  How a world grows: what was there stands, nothing is frozen or thawed; Fits and live told so.
-/
import Derived.Test.YtflhdohbkhmoaaaNmE
import Derived.Deep.RegionHeld3
namespace Go.Proofs.Ytflhdohbkhmoaaa
open Go.ChangeShapes Go.WideShapes Go.ChangeAt Go.RowKit
def GX (A B : World) : Prop := Below A.heap.size A B ∧ ∀ a, B.frozen? a = A.frozen? a
theorem GX.refl (A : World) : GX A A := ⟨Below.refl _ _, fun _ => rfl⟩
theorem GX.tr {A B C : World} (h : GX A B) (k : GX B C) : GX A C := ⟨h.1.trans (k.1.mono h.1.size), fun a => (k.2 a).trans (h.2 a)⟩
theorem GX.al {A B : World} (h : GX A B) (c : Array Value) (t : TypeId) : GX A (B.alloc (.cells c t)) := ⟨h.1.alloc h.1.size _, fun a => (frozen?_alloc_cells _ _ _ _).trans (h.2 a)⟩
theorem GX.dr {A B : World} (h : GX A B) (n : Nat) : GX A (B.drewN n) := ⟨h.1.trans ⟨rfl, rfl, rfl, Nat.le_refl _, fun _ _ => rfl⟩, h.2⟩
theorem GX.drew {A B : World} (h : GX A B) : GX A B.drew := ⟨h.1.drew, h.2⟩
theorem live_gx (w : World) : Calls Try.prog 15 #[] w fun r w' => r = .returned (.bool true) ∧ GX w w' := by
  refine (live_at w).mono ?_
  rintro e w' ⟨rfl, c1, n, c2, rfl⟩
  exact ⟨rfl, (((GX.refl _).al _ _).dr _).al _ _⟩
theorem fits_gx (nm : ByteArray) (t lo hi i at_ n : Int) (w : World) : Calls Try.prog 18 #[.agg #[.string nm, .int .i64 t, .int .i64 lo, .int .i64 hi, .int .i64 i, .int .i64 at_], .int .i64 n] w fun r w' => r = .returned (.bool (fitF t lo hi n)) ∧ GX w w' := by
  refine (fits_any nm t lo hi i at_ n w).mono ?_
  rintro e w' ⟨rfl, c1, rfl⟩
  exact ⟨rfl, (GX.refl _).al _ _⟩
theorem fitsR_gx (nm : ByteArray) (t lo hi i at_ n : Int) (w : World) : Calls Try.prog 19 #[.agg #[.string nm, .int .i64 t, .int .i64 lo, .int .i64 hi, .int .i64 i, .int .i64 at_], .int .i64 n] w fun r w' => r = .returned (.bool (fitF t lo hi n)) ∧ GX w w' := by
  refine (fitsR_any nm t lo hi i at_ n w).mono ?_
  rintro e w' ⟨rfl, c1, rfl⟩
  exact ⟨rfl, (GX.refl _).al _ _⟩
theorem six_new {W : World} {c0 c1 c2 c3 c4 c5 : Value} {t : TypeId} : (W.alloc (.cells #[c0, c1, c2, c3, c4, c5] t)).cell? ⟨W.heap.size, 0, none⟩ = some c0 ∧ (W.alloc (.cells #[c0, c1, c2, c3, c4, c5] t)).cell? ⟨W.heap.size, 1, none⟩ = some c1 ∧ (W.alloc (.cells #[c0, c1, c2, c3, c4, c5] t)).cell? ⟨W.heap.size, 2, none⟩ = some c2 ∧ (W.alloc (.cells #[c0, c1, c2, c3, c4, c5] t)).cell? ⟨W.heap.size, 3, none⟩ = some c3 ∧ (W.alloc (.cells #[c0, c1, c2, c3, c4, c5] t)).cell? ⟨W.heap.size, 4, none⟩ = some c4 ∧ (W.alloc (.cells #[c0, c1, c2, c3, c4, c5] t)).cell? ⟨W.heap.size, 5, none⟩ = some c5 := by
  have h : (W.alloc (.cells #[c0, c1, c2, c3, c4, c5] t)).heap[W.heap.size]? = some (.cells #[c0, c1, c2, c3, c4, c5] t) := (MapKept.heap_alloc W _).1
  refine ⟨?_, ?_, ?_, ?_, ?_, ?_⟩
  all_goals (simp only [World.cell?]; rw [h]; rfl)
theorem six_keep {W W' : World} {p : Nat} {c0 c1 c2 c3 c4 c5 : Value} (hp : p < W.heap.size) (h : W.cell? ⟨p, 0, none⟩ = some c0 ∧ W.cell? ⟨p, 1, none⟩ = some c1 ∧ W.cell? ⟨p, 2, none⟩ = some c2 ∧ W.cell? ⟨p, 3, none⟩ = some c3 ∧ W.cell? ⟨p, 4, none⟩ = some c4 ∧ W.cell? ⟨p, 5, none⟩ = some c5) (hb : GX W W') :
    W'.cell? ⟨p, 0, none⟩ = some c0 ∧ W'.cell? ⟨p, 1, none⟩ = some c1 ∧ W'.cell? ⟨p, 2, none⟩ = some c2 ∧ W'.cell? ⟨p, 3, none⟩ = some c3 ∧ W'.cell? ⟨p, 4, none⟩ = some c4 ∧ W'.cell? ⟨p, 5, none⟩ = some c5 := by
  obtain ⟨h0, h1, h2, h3, h4, h5⟩ := h
  exact ⟨(hb.1.cell (p := ⟨p, 0, none⟩) hp).trans h0, (hb.1.cell (p := ⟨p, 1, none⟩) hp).trans h1, (hb.1.cell (p := ⟨p, 2, none⟩) hp).trans h2, (hb.1.cell (p := ⟨p, 3, none⟩) hp).trans h3, (hb.1.cell (p := ⟨p, 4, none⟩) hp).trans h4, (hb.1.cell (p := ⟨p, 5, none⟩) hp).trans h5⟩
set_option maxRecDepth 100000 in
set_option maxHeartbeats 4000000 in
theorem walkF (nm : ByteArray) (t lo hi i at_ n : Int) (w : World) : Calls Try.prog 5 #[.agg #[.string nm, .int .i64 t, .int .i64 lo, .int .i64 hi, .int .i64 i, .int .i64 at_], .int .i64 n] w fun r w' => r = .returned (.bool true) ∧ GX w w' := by
  have h18 := fun W => fits_gx nm t lo hi i at_ n W
  have h19 := fun W => fitsR_gx nm t lo hi i at_ n W
  generalize fitF t lo hi n = f at *
  obtain ⟨W0, hW0⟩ : ∃ W0, w.alloc (.cells #[.string nm, .int .i64 t, .int .i64 lo, .int .i64 hi, .int .i64 i, .int .i64 at_] 28) = W0 := ⟨_, rfl⟩
  have B1 : GX w W0 := by rw [← hW0]; exact (GX.refl _).al _ _
  have hs : w.heap.size < W0.heap.size := by rw [← hW0]; show w.heap.size < (w.heap.push _).size; simp
  have hc : W0.cell? ⟨w.heap.size, 0, none⟩ = some (.string nm) ∧ W0.cell? ⟨w.heap.size, 1, none⟩ = some (.int .i64 t) ∧ W0.cell? ⟨w.heap.size, 2, none⟩ = some (.int .i64 lo) ∧ W0.cell? ⟨w.heap.size, 3, none⟩ = some (.int .i64 hi) ∧ W0.cell? ⟨w.heap.size, 4, none⟩ = some (.int .i64 i) ∧ W0.cell? ⟨w.heap.size, 5, none⟩ = some (.int .i64 at_) := by rw [← hW0]; exact six_new
  have B := (GX.refl W0).drew
  have SP := six_keep hs hc B
  go_enter Try.func5, Try.ntmps5
  go_wp2_with fail
  cases f
  all_goals
    go_region_held3 (fun W => W.cell? ⟨w.heap.size, 0, none⟩ = some (.string nm) ∧ W.cell? ⟨w.heap.size, 1, none⟩ = some (.int .i64 t) ∧ W.cell? ⟨w.heap.size, 2, none⟩ = some (.int .i64 lo) ∧ W.cell? ⟨w.heap.size, 3, none⟩ = some (.int .i64 hi) ∧ W.cell? ⟨w.heap.size, 4, none⟩ = some (.int .i64 i) ∧ W.cell? ⟨w.heap.size, 5, none⟩ = some (.int .i64 at_))
      (exact SP)
      (first
        | (go_at_call 18; refine (h18 _).mono ?_; rintro r u1 ⟨rfl, bb⟩; have B := B.tr bb; have SP := six_keep hs hc B)
        | (go_at_call 19; refine (h19 _).mono ?_; rintro r u2 ⟨rfl, bb⟩; have B := B.tr bb; have SP := six_keep hs hc B)
        | (go_at_call 15; refine (live_gx _).mono ?_; rintro r u3 ⟨rfl, bb⟩; have B := B.tr bb; have SP := six_keep hs hc B))
    go_wp2
    go_ret
    exact ⟨rfl, B1.tr B⟩
end Go.Proofs.Ytflhdohbkhmoaaa
