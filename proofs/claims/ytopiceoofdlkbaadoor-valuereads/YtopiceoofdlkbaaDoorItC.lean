/-
  passBlock, statements of package tree: the iterator over all statements of a program, at any depth.
-/
import Derived.Test.YtopiceoofdlkbaaDoorItB
import Derived.Test.YtopiceoofdlkbaaDoorEqB
namespace Go.Proofs.YtopiceoofdlkbaaDoor
open Go.RowKit Go.Shelf
attribute [local go_sem] Oper.semAt_some
/-- A statement that lay below n₀ in the world w. -/
abbrev StA (n₀ : Nat) (w : World) := { x : St // x.Is n₀ w }
def St.blocks : St → List Bl
  | .mk _ _ _ _ _ _ _ blocks _ => blocks
theorem flatMap_prefix {α β : Type} (f : α → List β) (l : List α) (k : Nat) : (l.take k).flatMap f <+: l.flatMap f := by
  refine ⟨(l.drop k).flatMap f, ?_⟩
  rw [← List.flatMap_append, List.take_append_drop]
theorem flatMap_len {α β : Type} (f : α → List β) (l : List α) (k : Nat) : ((l.take k).flatMap f).length ≤ (l.flatMap f).length := (flatMap_prefix f l k).length_le
end Go.Proofs.YtopiceoofdlkbaaDoor
