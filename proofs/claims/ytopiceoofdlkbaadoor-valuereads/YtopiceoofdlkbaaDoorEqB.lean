/-
  slices.EqualFunc at each type of package tree's lists, and sameStmt, SameStmts, sameMethod, sameVar, sameMonitor, sameRole, Same: whether two are the same but for places.
-/
import Derived.Test.YtopiceoofdlkbaaDoorEqA
import Derived.Test.YtopiceoofdlkbaaDoorTrB
namespace Go.Proofs.YtopiceoofdlkbaaDoor
open Go.RowKit
theorem row1 {α : Type} {cells : α → List Value} {W : World} {b off : Nat} {l : List α} (h : RowAt 1 cells W b off l) (k : Nat) (hk : k < l.length) {c0 : Value} (hc : cells l[k] = [c0]) :
    W.cell? ⟨b, off + k, none⟩ = some c0 := by
  have h' := h k hk
  rw [hc] at h'
  have h1 := h' 0 (by omega)
  rw [Nat.mul_one] at h1
  exact h1
theorem row3 {α : Type} {cells : α → List Value} {W : World} {b off : Nat} {l : List α} (h : RowAt 3 cells W b off l) (k : Nat) (hk : k < l.length) {c0 c1 c2 : Value} (hc : cells l[k] = [c0, c1, c2]) :
    W.cell? ⟨b, off + k * 3, none⟩ = some c0 ∧ W.cell? ⟨b, off + k * 3 + 1, none⟩ = some c1 ∧ W.cell? ⟨b, off + k * 3 + 2, none⟩ = some c2 := by
  have h' := h k hk
  rw [hc] at h'
  exact ⟨h' 0 (by omega), h' 1 (by omega), h' 2 (by omega)⟩
theorem row4 {α : Type} {cells : α → List Value} {W : World} {b off : Nat} {l : List α} (h : RowAt 4 cells W b off l) (k : Nat) (hk : k < l.length) {c0 c1 c2 c3 : Value} (hc : cells l[k] = [c0, c1, c2, c3]) :
    W.cell? ⟨b, off + k * 4, none⟩ = some c0 ∧ W.cell? ⟨b, off + k * 4 + 1, none⟩ = some c1 ∧ W.cell? ⟨b, off + k * 4 + 2, none⟩ = some c2 ∧ W.cell? ⟨b, off + k * 4 + 3, none⟩ = some c3 := by
  have h' := h k hk
  rw [hc] at h'
  exact ⟨h' 0 (by omega), h' 1 (by omega), h' 2 (by omega), h' 3 (by omega)⟩
theorem row5 {α : Type} {cells : α → List Value} {W : World} {b off : Nat} {l : List α} (h : RowAt 5 cells W b off l) (k : Nat) (hk : k < l.length) {c0 c1 c2 c3 c4 : Value} (hc : cells l[k] = [c0, c1, c2, c3, c4]) :
    W.cell? ⟨b, off + k * 5, none⟩ = some c0 ∧ W.cell? ⟨b, off + k * 5 + 1, none⟩ = some c1 ∧ W.cell? ⟨b, off + k * 5 + 2, none⟩ = some c2 ∧ W.cell? ⟨b, off + k * 5 + 3, none⟩ = some c3 ∧ W.cell? ⟨b, off + k * 5 + 4, none⟩ = some c4 := by
  have h' := h k hk
  rw [hc] at h'
  exact ⟨h' 0 (by omega), h' 1 (by omega), h' 2 (by omega), h' 3 (by omega), h' 4 (by omega)⟩
theorem row12 {α : Type} {cells : α → List Value} {W : World} {b off : Nat} {l : List α} (h : RowAt 12 cells W b off l) (k : Nat) (hk : k < l.length) {c0 c1 c2 c3 c4 c5 c6 c7 c8 c9 c10 c11 : Value} (hc : cells l[k] = [c0, c1, c2, c3, c4, c5, c6, c7, c8, c9, c10, c11]) :
    W.cell? ⟨b, off + k * 12, none⟩ = some c0 ∧ W.cell? ⟨b, off + k * 12 + 1, none⟩ = some c1 ∧ W.cell? ⟨b, off + k * 12 + 2, none⟩ = some c2 ∧ W.cell? ⟨b, off + k * 12 + 3, none⟩ = some c3 ∧ W.cell? ⟨b, off + k * 12 + 4, none⟩ = some c4 ∧ W.cell? ⟨b, off + k * 12 + 5, none⟩ = some c5 ∧ W.cell? ⟨b, off + k * 12 + 6, none⟩ = some c6 ∧ W.cell? ⟨b, off + k * 12 + 7, none⟩ = some c7 ∧ W.cell? ⟨b, off + k * 12 + 8, none⟩ = some c8 ∧ W.cell? ⟨b, off + k * 12 + 9, none⟩ = some c9 ∧ W.cell? ⟨b, off + k * 12 + 10, none⟩ = some c10 ∧ W.cell? ⟨b, off + k * 12 + 11, none⟩ = some c11 := by
  have h' := h k hk
  rw [hc] at h'
  exact ⟨h' 0 (by omega), h' 1 (by omega), h' 2 (by omega), h' 3 (by omega), h' 4 (by omega), h' 5 (by omega), h' 6 (by omega), h' 7 (by omega), h' 8 (by omega), h' 9 (by omega), h' 10 (by omega), h' 11 (by omega)⟩
end Go.Proofs.YtopiceoofdlkbaaDoor
