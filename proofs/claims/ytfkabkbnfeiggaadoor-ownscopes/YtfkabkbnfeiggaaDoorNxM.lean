/-
  Slots of package names and of the document: all variables, monitor by monitor.
-/
import Derived.Test.YtfkabkbnfeiggaaDoorNxL
namespace Go.Proofs.YtfkabkbnfeiggaaDoor
open Go.RowKit
/-- All variables. -/
def allV (l : List Mo) : List Va := l.flatMap Mo.vars
theorem allV_len (l : List Mo) : (allV l).length = vsum l := by
  induction l with
  | nil => rfl
  | cons m l ih => rw [allV, List.flatMap_cons, List.length_append, vsum, List.map_cons, List.sum_cons]; exact congrArg (m.vars.length + ·) ih
theorem allV_snoc (l : List Mo) (k : Nat) (h : k < l.length) : allV (l.take (k + 1)) = allV (l.take k) ++ l[k].vars := flatMap_snoc Mo.vars l k h
def SlotsBack (l : List Mo) (w w' : World) (r : Ending) : Prop := ∃ v, r = .returned v ∧ w'.ownsRow w.heap.size 64 6 v (allV l).length ((allV l).flatMap Va.cells) ∧ Below w.heap.size w w'
theorem owns_grown_below {n : Nat} {w u u' : World} {e size : Nat} {v : Value} {m : Nat} {xs : List Value} (h : Below n w u) (ho : u.ownsRow n e size v m xs) (hg : u.grownBy u' v.ownBlock) (hn : n ≤ u.heap.size) : Below n w u' :=
  h.grown hg hn (fun k hk => (ho.lt k hk).1)
end Go.Proofs.YtfkabkbnfeiggaaDoor
