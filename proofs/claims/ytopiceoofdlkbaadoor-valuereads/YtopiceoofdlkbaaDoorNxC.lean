/-
  The reader of package names: those who look names up (closures), newReader, knows.
-/
import Derived.Test.YtopiceoofdlkbaaDoorNxB
import Derived.Test.YtopiceoofdlkbaaDoorCkE
import Derived.Deep.QuietTactic
import Derived.BigQuiet
import Derived.Deep.Cut
import Derived.Laws.EntriesVeiled
namespace Go.Proofs.YtopiceoofdlkbaaDoor
open Go.RowKit
/-- What the reader's closures lead to. -/
structure Rdr (W : World) (sb k1 k2 b : Nat) (S : List (ByteArray × List (ByteArray × Int))) (B : List Nat) : Prop where
  c0 : W.cell? ⟨sb, 0, none⟩ = some (.map (some b))
  c1 : W.cell? ⟨k1, 0, none⟩ = some (.int .i64 1)
  c2 : W.cell? ⟨k2, 0, none⟩ = some (.int .i64 2)
  s : Scope W b S B
theorem lt_cell {w : World} {b o : Nat} {v : Value} (h : w.cell? ⟨b, o, none⟩ = some v) : b < w.heap.size := by
  rcases Nat.lt_or_ge b w.heap.size with h1 | h1
  · exact h1
  · exfalso
    have h2 : w.heap[b]? = none := by rw [Array.getElem?_eq_none_iff]; exact h1
    simp [World.cell?, h2] at h
theorem Rdr.below {W W' : World} {sb k1 k2 b n : Nat} {S : List (ByteArray × List (ByteArray × Int))} {B : List Nat} (h : Rdr W sb k1 k2 b S B) (hb : Below n W W') (hn : W.heap.size ≤ n) : Rdr W' sb k1 k2 b S B :=
  ⟨(hb.cell (p := ⟨sb, 0, none⟩) (Nat.lt_of_lt_of_le (lt_cell h.c0) hn)).trans h.c0, (hb.cell (p := ⟨k1, 0, none⟩) (Nat.lt_of_lt_of_le (lt_cell h.c1) hn)).trans h.c1, (hb.cell (p := ⟨k2, 0, none⟩) (Nat.lt_of_lt_of_le (lt_cell h.c2) hn)).trans h.c2, h.s.below hb hn⟩
theorem frozen_of {W : World} {B : Nat} {c : Array Value} {t : TypeId} (h : W.heap[B]? = some (.cells c t (0, 0))) (i : Nat) : W.frozen? ⟨B, i, none⟩ = false := by
  simp [World.frozen?, h]
theorem cellOf {W : World} {B : Nat} {c : Array Value} {t : TypeId} {z : Nat × Nat} (h : W.heap[B]? = some (.cells c t z)) (i : Nat) : W.cell? ⟨B, i, none⟩ = c[i]? := by
  simp [World.cell?, h]
theorem heapNew (W : World) (o : Obj) : (W.alloc o).heap[W.heap.size]? = some o := (MapKept.heap_alloc W _).1
end Go.Proofs.YtopiceoofdlkbaaDoor
