/-
  Trees that are made beside the reader: the memory without the reader's block; trees without their addresses.
-/
import Derived.Test.YtaekbgljbgmchaaGreatDoorPzE
namespace Go.Proofs.YtaekbgljbgmchaaGreatDoor
open Go.RowKit
open Lx (Out)
open Pz
/-- The memory, but for the blocks of which Q tells emptied. -/
def only (Q : Nat → Bool) (w : World) : World := { w with heap := w.heap.mapIdx fun i o => if Q i then o else .cells #[] 0 }
theorem only_cell (Q : Nat → Bool) (w : World) (k o : Nat) (v : Value) (h : (only Q w).cell? ⟨k, o, none⟩ = some v) : Q k = true ∧ k < w.heap.size ∧ w.cell? ⟨k, o, none⟩ = some v := by
  by_cases hl : k < w.heap.size
  · cases hq : Q k
    · have h2 : (only Q w).heap[k]? = some (.cells #[] 0 (0, 0)) := by simp [only, hl, hq]
      rw [cellB h2] at h; cases h
    · have h2 : (only Q w).heap[k]? = w.heap[k]? := by simp [only, hl, hq]
      rw [World.cell?_of_block (a := ⟨k, o, none⟩) h2] at h
      exact ⟨rfl, hl, h⟩
  · have h2 : (only Q w).heap[k]? = none := by simp [only]; omega
    simp [World.cell?, h2] at h
theorem only_in (Q : Nat → Bool) (w : World) (k o : Nat) (hq : Q k = true) : (only Q w).cell? ⟨k, o, none⟩ = w.cell? ⟨k, o, none⟩ := by
  have h2 : (only Q w).heap[k]? = w.heap[k]? := by
    by_cases hl : k < w.heap.size
    · simp [only, hl, hq]
    · simp [only, hl]
  exact World.cell?_of_block (a := ⟨k, o, none⟩) h2
theorem only_step {Q : Nat → Bool} {w w' : World} (h : ∀ k, Q k = true → k < w.heap.size → w'.heap[k]? = w.heap[k]?) (k o : Nat) (v : Value) (hv : (only Q w).cell? ⟨k, o, none⟩ = some v) : (only Q w').cell? ⟨k, o, none⟩ = some v := by
  obtain ⟨hq, hl, hc⟩ := only_cell Q w k o v hv
  rw [only_in Q w' k o hq, World.cell?_of_block (a := ⟨k, o, none⟩) (h k hq hl)]; exact hc
theorem only_weak {Q Q' : Nat → Bool} {w : World} (h : ∀ k, Q k = true → k < w.heap.size → Q' k = true) (k o : Nat) (v : Value) (hv : (only Q w).cell? ⟨k, o, none⟩ = some v) : (only Q' w).cell? ⟨k, o, none⟩ = some v := by
  obtain ⟨hq, hl, hc⟩ := only_cell Q w k o v hv
  rw [only_in Q' w k o (h k hq hl)]; exact hc
theorem SlAt.carry {α : Type} {size : Nat} {cells : α → List Value} {n₀ : Nat} {W W' : World} {ad : Option Addr} {cap : Nat} {l : List α} (hl : ∀ x, (cells x).length = size) (hc : ∀ k o v, W.cell? ⟨k, o, none⟩ = some v → W'.cell? ⟨k, o, none⟩ = some v) (h : SlAt size cells n₀ W ad cap l) : SlAt size cells n₀ W' ad cap l := by
  obtain ⟨h1, h2, h3⟩ := h
  refine ⟨h1, h2, ?_⟩
  rcases h3 with h3 | ⟨b, off, h4, h5, h6⟩
  · exact .inl h3
  · refine .inr ⟨b, off, h4, h5, fun j hj i hi => ?_⟩
    have h7 := h6 j hj i hi
    have h8 : i < (cells l[j]).length := by rw [hl]; exact hi
    rw [List.getElem?_eq_getElem h8] at h7 ⊢
    exact hc _ _ _ h7
theorem Ex.cells_len (e : Ex) : e.cells.length = 6 := by rcases e with ⟨⟩; rfl
theorem Ex.Is.carry {n₀ : Nat} {W W' : World} (hc : ∀ k o v, W.cell? ⟨k, o, none⟩ = some v → W'.cell? ⟨k, o, none⟩ = some v) : ∀ {e : Ex}, e.Is n₀ W → e.Is n₀ W' := by
  intro e
  induction e using Ex.ind with
  | h op mon name n ad cap kids pos ih =>
    intro h
    exact Ex.Is.up ⟨h.down.1, h.down.2.1.carry Ex.cells_len hc, fun x hx => ih x hx (h.down.2.2 x hx)⟩
/-- An expression lies in blocks of which Q tells. -/
def Ex.By (Q : Nat → Bool) (w : World) (e : Ex) : Prop := e.Is w.heap.size (only Q w)
theorem Ex.By.step {Q : Nat → Bool} {w w' : World} {e : Ex} (he : e.By Q w) (h : ∀ k, Q k = true → k < w.heap.size → w'.heap[k]? = w.heap[k]?) (hz : w.heap.size ≤ w'.heap.size) : e.By Q w' := (Ex.Is.carry (only_step h) he).mono hz
theorem Ex.By.weak {Q Q' : Nat → Bool} {w : World} {e : Ex} (he : e.By Q w) (h : ∀ k, Q k = true → k < w.heap.size → Q' k = true) : e.By Q' w := Ex.Is.carry (only_weak h) he
theorem Ex.By.is {Q : Nat → Bool} {w : World} {e : Ex} (h : e.By Q w) : e.Is w.heap.size w := Ex.Is.carry (fun k o v hv => (only_cell Q w k o v hv).2.2) h
/-- Blocks from n on. -/
def from_ (n : Nat) (k : Nat) : Bool := decide (n ≤ k)
theorem from_iff {n k : Nat} : from_ n k = true ↔ n ≤ k := by simp [from_]
mutual
/-- An expression without its addresses. -/
def Ex.clr : Ex → Ex
  | .mk op mon name n _ _ kids pos => .mk op mon name n none 0 (Ex.clrL kids) pos
def Ex.clrL : List Ex → List Ex
  | [] => []
  | e :: es => e.clr :: Ex.clrL es
end
theorem Ex.clrL_eq (l : List Ex) : Ex.clrL l = l.map Ex.clr := by
  induction l with
  | nil => simp [Ex.clrL]
  | cons a l ih => simp [Ex.clrL, ih]
/-- What a function that reads an expression comes to. -/
def ExBack (b g cap : Nat) (toks : List Out) (x : Ex × S) (w : World) (r : Ending) (w' : World) : Prop :=
  ∃ op mon name n ad cp kids pos, r = .returned (.agg #[.int .i64 op, .string mon, .string name, .int .i64 n, .slice ad (kids : List Ex).length cp, .int .i64 pos]) ∧ (Ex.mk op mon name n ad cp kids pos).clr = x.1 ∧ (Ex.mk op mon name n ad cp kids pos).By (from_ w.heap.size) w' ∧ At b g cap toks x.2 w' ∧ Kp b w w'
/-- Expressions by their cells, laid in a new block. -/
theorem row_new {w : World} {k : Nat} {c : Array Value} {T : TypeId} {z : Nat × Nat} (l : List Ex) (hc : c.toList = l.flatMap Ex.cells) (h : w.heap[k]? = some (.cells c T z)) : RowAt 6 Ex.cells w k 0 l := by
  intro j hj i hi
  rw [cellB h, Nat.zero_add]
  have : ∀ (l : List Ex) (j : Nat) (hj : j < l.length), (l.flatMap Ex.cells)[j * 6 + i]? = (l[j].cells)[i]? := by
    intro l
    induction l with
    | nil => intro j hj; simp at hj
    | cons a l ih =>
      intro j hj
      rw [List.flatMap_cons]
      cases j with
      | zero => rw [List.getElem?_append_left (by rw [Ex.cells_len]; omega)]; simp
      | succ j => rw [List.getElem?_append_right (by rw [Ex.cells_len]; omega), Ex.cells_len, show (j + 1) * 6 + i - 6 = j * 6 + i by omega, ih j (by simpa using hj)]; simp
  rw [← Array.getElem?_toList, hc]
  exact this l j hj
/-- A new expression with its kids in a new block. -/
theorem By.up {Q : Nat → Bool} {w : World} {op : Int} {mon name : ByteArray} {n : Int} {kids : List Ex} {pos : Int} {k : Nat} {c : Array Value} {T : TypeId} (hkq : Q k = true) (hnum : I64 op ∧ I64 n ∧ I64 pos ∧ Len mon ∧ Len name)
    (hlen : kids.length ≤ 1000) (hc : c.toList = kids.flatMap Ex.cells) (h : w.heap[k]? = some (.cells c T (0, 0))) (hx : ∀ x ∈ kids, x.By Q w) : (Ex.mk op mon name n (some ⟨k, 0, none⟩) kids.length kids pos).By Q w := by
  refine Ex.Is.up ⟨hnum, ⟨Nat.le_refl _, by unfold maxLen; omega, .inr ⟨k, 0, rfl, ltB h, fun j hj i hi => ?_⟩⟩, hx⟩
  rw [only_in Q w k _ hkq]
  exact row_new kids hc h j hj i hi
theorem By.leaf {Q : Nat → Bool} {w : World} {op : Int} {mon name : ByteArray} {n : Int} {pos : Int} (hnum : I64 op ∧ I64 n ∧ I64 pos ∧ Len mon ∧ Len name) : (Ex.mk op mon name n none 0 [] pos).By Q w :=
  Ex.Is.up ⟨hnum, ⟨Nat.le_refl _, by unfold maxLen; omega, .inl rfl⟩, by simp⟩
end Go.Proofs.YtaekbgljbgmchaaGreatDoor
