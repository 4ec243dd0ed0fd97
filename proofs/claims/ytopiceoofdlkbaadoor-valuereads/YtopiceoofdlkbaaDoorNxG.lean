/-
  checkRoles and declare of package names: the first role, monitor, variable or method whose name is there already; the scope that is left.
-/
import Derived.Test.YtopiceoofdlkbaaDoorNxF
namespace Go.Proofs.YtopiceoofdlkbaaDoor
open Go.RowKit
theorem roleE_nil (seen : List ByteArray) : roleE seen [] = none := rfl
theorem fst_const {α : Type} (f : α → ByteArray) (c : Int) (l : List α) : (l.map fun a => (f a, c)).map Prod.fst = l.map f := by simp
theorem below_drewN {B : Nat} {w w' : World} (h : Below B w w') (n : Nat) : Below B w (w'.drewN n) := ⟨h.os, h.tape, h.output, h.size, h.block⟩
theorem ints_snoc (l : List (ByteArray × Int)) (n : ByteArray) (k : Int) : ints l ++ [(n, .int .i64 k)] = ints (l ++ [(n, k)]) := by simp [ints]
/-- What checkRoles tells. -/
def RoleBack (o : Option (Int × Int)) (w w' : World) (r : Ending) : Prop := ((o = none ∧ r = .returned (.tuple #[.int .i64 0, .int .i64 0])) ∨ (∃ c a, c ≠ 0 ∧ o = some (c, a) ∧ r = .returned (.tuple #[.int .i64 c, .int .i64 a]))) ∧ Below w.heap.size w w'
end Go.Proofs.YtopiceoofdlkbaaDoor
