/-
  isSound of package held: whether a flow's edges speak of its places and of so many monitors alone.
-/
import Derived.Test.YthdkgfmlihgceaaHdC
namespace Go.Proofs.Ythdkgfmlihgceaa
open Go.RowKit
def edgeOk (locs mons : Int) (x : Eg) : Bool := isPl x.src locs && isPl x.dst locs && (!hasM x.kind || isPl x.mon mons)
def sizesOk (locs mons : Int) : Bool := decide (1 ≤ locs) && decide (locs ≤ 600) && decide (0 ≤ mons) && decide (mons ≤ 8)
def soundF (f : Fl) (mons : Int) : Bool := sizesOk f.locs mons && f.es.all (edgeOk f.locs mons)
def Eg.val (x : Eg) : Value := .agg x.cells.toArray
set_option maxHeartbeats 4000000 in
theorem sound1_any (x : Eg) (locs mons : Int) (bF bM : Nat) (w : World) (hF : w.cell? ⟨bF, 2, none⟩ = some (.int .i64 locs)) (hM : w.cell? ⟨bM, 0, none⟩ = some (.int .i64 mons)) (lF : bF < w.heap.size) (lM : bM < w.heap.size) :
    Calls Try.prog 27 #[x.val, .pointer (some ⟨bF, 0, none⟩), .pointer (some ⟨bM, 0, none⟩)] w fun r w' => r = .returned (.bool (!edgeOk locs mons x)) ∧ Below w.heap.size w w' := by
  rcases x with ⟨src, dst, kind, mon, var, op, s1, s2, k, kad, kl, kc, epos, n, site, out, pos⟩
  simp only [Eg.val, Eg.cells]
  have HE := hid (show edgeOk locs mons ⟨src, dst, kind, mon, var, op, s1, s2, k, kad, kl, kc, epos, n, site, out, pos⟩ = (isPl src locs && isPl dst locs && (!hasM kind || isPl mon mons)) from rfl)
  have q1 := fun W => isPlace_any src locs W
  have q2 := fun W => isPlace_any dst locs W
  have q3 := fun W => hasMonitor_any kind W
  have q4 := fun W => isPlace_any mon mons W
  have hB := (Below.refl w.heap.size w).al le_rfl' (.cells #[.int .i64 src, .int .i64 dst, .int .i64 kind, .int .i64 mon, .int .i64 var, .int .i64 op, .string s1, .string s2, .int .i64 k, .slice kad kl kc, .int .i64 epos, .int .i64 n, .int .i64 site, .int .i64 out, .int .i64 pos] 57)
  generalize isPl src locs = b1 at q1 HE
  generalize isPl dst locs = b2 at q2 HE
  generalize hasM kind = b3 at q3 HE
  generalize isPl mon mons = b4 at q4 HE
  cases b1 <;> cases b2 <;> cases b3 <;> cases b4
  all_goals
    go_enter Try.func27, Try.ntmps27
    go_wp2_with (first
      | (go_at_call 24; (with_reducible refine (q1 _).mono ?_); rintro r w' ⟨rfl, hw'⟩; have hw2 := hw'.symm; subst hw2)
      | (go_at_call 24; (with_reducible refine (q2 _).mono ?_); rintro r w' ⟨rfl, hw'⟩; have hw2 := hw'.symm; subst hw2)
      | (go_at_call 24; (with_reducible refine (q4 _).mono ?_); rintro r w' ⟨rfl, hw'⟩; have hw2 := hw'.symm; subst hw2)
      | (go_at_call 28; (with_reducible refine (q3 _).mono ?_); rintro r w' ⟨rfl, hw'⟩; have hw2 := hw'.symm; subst hw2))
    go_ret
    exact ⟨ret_b (by rw [HE.out]; rfl), hB⟩
end Go.Proofs.Ythdkgfmlihgceaa
