/-
  declares, fitsExpr, isStmt of package tree: the shapes of declarations and of statements.
-/
import Derived.Test.YtopiceoofdlkbaaDoorCkC
namespace Go.Proofs.YtopiceoofdlkbaaDoor
open Go.RowKit
/-- An expression is none. -/
def Ex.none (e : Ex) : Bool := e.same (.mk 0 ⟨#[]⟩ ⟨#[]⟩ 0 Option.none 0 [] 0)
def fitsEx (e : Ex) (b : Bool) : Bool := if b then e.ok else e.none
/-- A statement has the shape of its kind, whatever is in its blocks. -/
def St.ok1 : St → Bool
  | .mk kind mon name n e _ _ blocks _ => decide (1 ≤ kind) && decide (kind ≤ 11) && (fitsName mon (stMon kind.toNat) && fitsName name (stName kind.toNat) && fitsNum n (stNumber kind.toNat) && fitsEx e (stExpr kind.toNat) && decide (stLeast kind.toNat ≤ blocks.length) && decide (blocks.length ≤ stMost kind.toNat))
end Go.Proofs.YtopiceoofdlkbaaDoor
