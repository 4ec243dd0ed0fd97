/-
  isVar, isRole, isMonitor, declares of package tree: whether a program is right in all but its statements.
-/
import Derived.Test.YtopiceoofdlkbaaDoorCkA
import Derived.Test.YtopiceoofdlkbaaDoorEqC
namespace Go.Proofs.YtopiceoofdlkbaaDoor
open Go.RowKit
/-- A variable is one. -/
def Va.ok (v : Va) : Bool := Lx.name v.name && !(decide (v.lo = -9223372036854775808 ∨ v.hi = -9223372036854775808 ∨ v.init = -9223372036854775808)) &&
  decide ((v.type = 1 ∧ v.lo = 0 ∧ v.hi = 0 ∧ (v.init = 0 ∨ v.init = 1)) ∨ (v.type = 2 ∧ v.lo = 0 ∧ v.hi = 0) ∨ (v.type = 3 ∧ v.lo ≤ v.hi))
end Go.Proofs.YtopiceoofdlkbaaDoor
