/-
  knows and expr of package names' reader: whether a statement's own names are declared; the first variable of an expression that is not.
-/
import Derived.Test.YtopiceoofdlkbaaDoorNxC
namespace Go.Proofs.YtopiceoofdlkbaaDoor
open Go.RowKit
theorem two_box (w : World) (a x : Array Value) (s t : TypeId) : ((w.alloc (.cells a s)).alloc (.cells x t)).heap[w.heap.size]? = some (.cells a s (0, 0)) ∧ ((w.alloc (.cells a s)).alloc (.cells x t)).heap[w.heap.size + 1]? = some (.cells x t (0, 0)) ∧ Below w.heap.size w ((w.alloc (.cells a s)).alloc (.cells x t)) ∧ ((w.alloc (.cells a s)).alloc (.cells x t)).heap.size = w.heap.size + 2 := by
  refine ⟨(Below.heap_alloc _ _ _ (by simp)).trans (heapNew w _), ?_, ((Below.refl _ w).al le_rfl' _).al le_rfl' _, by simp⟩
  have := heapNew (w.alloc (.cells a s)) (.cells x t)
  rwa [World.size_alloc] at this
/-- What is told of the first error of a kind: its place, or that there is none. -/
def ErrBack (c : Int) (o : Option Int) (w w' : World) (r : Ending) : Prop := ((o = none ∧ r = .returned (.tuple #[.int .i64 0, .int .i64 0])) ∨ (∃ a, o = some a ∧ r = .returned (.tuple #[.int .i64 c, .int .i64 a]))) ∧ Below w.heap.size w w'
theorem ErrBack.no {f : FuncId} {args : Array Value} {c : Int} {o : Option Int} {w : World} (h : Calls Tryd.prog f args w fun r w' => ErrBack c o w w' r) (ho : o = none) : Calls Tryd.prog f args w fun r w' => r = .returned (.tuple #[.int .i64 0, .int .i64 0]) ∧ Below w.heap.size w w' :=
  h.mono fun r w' hh => by
    rcases hh.1 with ⟨_, h2⟩ | ⟨a, h1, _⟩
    · exact ⟨h2, hh.2⟩
    · rw [ho] at h1; cases h1
theorem ErrBack.yes {f : FuncId} {args : Array Value} {c : Int} {o : Option Int} {w : World} (h : Calls Tryd.prog f args w fun r w' => ErrBack c o w w' r) {a : Int} (ho : o = some a) : Calls Tryd.prog f args w fun r w' => r = .returned (.tuple #[.int .i64 c, .int .i64 a]) ∧ Below w.heap.size w w' :=
  h.mono fun r w' hh => by
    rcases hh.1 with ⟨h1, _⟩ | ⟨a', h1, h2⟩
    · rw [ho] at h1; cases h1
    · rw [ho] at h1; cases h1; exact ⟨h2, hh.2⟩
theorem errBack_no {c : Int} {o : Option Int} {w w' : World} (ho : o = none) (hb : Below w.heap.size w w') : ErrBack c o w w' (.returned (.tuple #[.int .i64 0, .int .i64 0])) := ⟨.inl ⟨ho, rfl⟩, hb⟩
theorem errBack_yes {c : Int} {o : Option Int} {w w' : World} {a : Int} (ho : o = some a) (hb : Below w.heap.size w w') : ErrBack c o w w' (.returned (.tuple #[.int .i64 c, .int .i64 a])) := ⟨.inr ⟨a, ho, rfl⟩, hb⟩
end Go.Proofs.YtopiceoofdlkbaaDoor
