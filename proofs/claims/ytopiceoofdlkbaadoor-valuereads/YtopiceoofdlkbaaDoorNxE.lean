/-
  block, stmt and program of package names' reader: the first name in statements that nobody has declared.
-/
import Derived.Test.YtopiceoofdlkbaaDoorNxD
namespace Go.Proofs.YtopiceoofdlkbaaDoor
open Go.RowKit
theorem one_box (w : World) (a : Array Value) (s : TypeId) : (w.alloc (.cells a s)).heap[w.heap.size]? = some (.cells a s (0, 0)) ∧ Below w.heap.size w (w.alloc (.cells a s)) ∧ (w.alloc (.cells a s)).heap.size = w.heap.size + 1 :=
  ⟨heapNew w _, (Below.refl _ w).al le_rfl' _, by simp⟩
end Go.Proofs.YtopiceoofdlkbaaDoor
