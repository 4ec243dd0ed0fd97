/-
  Check of package tree: whether a program has the shape that programs have.
-/
import Derived.Test.YtopiceoofdlkbaaDoorCkD
import Derived.Test.YtopiceoofdlkbaaDoorItD
namespace Go.Proofs.YtopiceoofdlkbaaDoor
open Go.RowKit Go.Shelf
attribute [local go_sem] Oper.semAt_some
/-- A program has its shape. -/
def Pr.ok (p : Pr) : Bool := p.decl && p.stmts.all St.ok1
/-- The twelve cells of a statement. -/
def StBox (W : World) (b : Nat) (s : St) : Prop := W.heap[b]? = some (.cells s.cells.toArray 88 (0, 0))
theorem StBox.lt {W : World} {b : Nat} {s : St} (h : StBox W b s) : b < W.heap.size := (Array.getElem?_eq_some_iff.1 h).1
theorem StBox.new (W : World) (s : St) : StBox (W.alloc (.cells s.cells.toArray 88)) W.heap.size s := World.alloc_heap_new W _
theorem stBox_kept {W W' : World} {row : Option Nat} {b : Nat} {s : St} (h : StBox W b s) (hg : W.grownBy W' row) (hr : ∀ r, row = some r → ∃ o : Obj, W.heap[r]? = some o ∧ o.isCells = false) : StBox W' b s :=
  (hg.block b h.lt (fun e' => by obtain ⟨o, ho, hc⟩ := hr b e'.symm; rw [show W.heap[b]? = _ from h] at ho; cases ho; cases hc)).trans h
theorem StBox.cells {W : World} {b : Nat} {kind : Int} {mon name : ByteArray} {n : Int} {eop : Int} {emon ename : ByteArray} {en : Int} {ead : Option Addr} {ecap : Nat} {ekids : List Ex} {epos : Int} {ad : Option Addr} {cap : Nat} {blocks : List Bl} {pos : Int}
    (h : StBox W b (.mk kind mon name n ⟨eop, emon, ename, en, ead, ecap, ekids, epos⟩ ad cap blocks pos)) :
    (W.cell? ⟨b, 0, none⟩ = some (.int .i64 kind) ∧ W.cell? ⟨b, 1, none⟩ = some (.string mon) ∧ W.cell? ⟨b, 2, none⟩ = some (.string name) ∧ W.cell? ⟨b, 3, none⟩ = some (.int .i64 n)) ∧
    (W.cell? ⟨b, 4, none⟩ = some (.int .i64 eop) ∧ W.cell? ⟨b, 5, none⟩ = some (.string emon) ∧ W.cell? ⟨b, 6, none⟩ = some (.string ename) ∧ W.cell? ⟨b, 7, none⟩ = some (.int .i64 en) ∧ W.cell? ⟨b, 8, none⟩ = some (.slice ead ekids.length ecap) ∧ W.cell? ⟨b, 9, none⟩ = some (.int .i64 epos)) ∧
    W.cell? ⟨b, 10, none⟩ = some (.slice ad blocks.length cap) ∧ W.cell? ⟨b, 11, none⟩ = some (.int .i64 pos) := by
  have h' : W.heap[b]? = some (.cells #[.int .i64 kind, .string mon, .string name, .int .i64 n, .int .i64 eop, .string emon, .string ename, .int .i64 en, .slice ead ekids.length ecap, .int .i64 epos, .slice ad blocks.length cap, .int .i64 pos] 88 (0, 0)) := h
  exact ⟨⟨cell_of h' 0, cell_of h' 1, cell_of h' 2, cell_of h' 3⟩, ⟨cell_of h' 4, cell_of h' 5, cell_of h' 6, cell_of h' 7, cell_of h' 8, cell_of h' 9⟩, cell_of h' 10, cell_of h' 11⟩
end Go.Proofs.YtopiceoofdlkbaaDoor
