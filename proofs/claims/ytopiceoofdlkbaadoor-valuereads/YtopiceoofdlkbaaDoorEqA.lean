/-
  SameExpr of package tree, by slices.EqualFunc, tells whether two expressions are the same but for places.
-/
import Derived.Test.YtopiceoofdlkbaaDoorTrA
namespace Go.Proofs.YtopiceoofdlkbaaDoor
open Go.RowKit
theorem row6 {α : Type} {cells : α → List Value} {W : World} {b off : Nat} {l : List α} (h : RowAt 6 cells W b off l) (k : Nat) (hk : k < l.length) {c0 c1 c2 c3 c4 c5 : Value} (hc : cells l[k] = [c0, c1, c2, c3, c4, c5]) :
    W.cell? ⟨b, off + k * 6, none⟩ = some c0 ∧ W.cell? ⟨b, off + k * 6 + 1, none⟩ = some c1 ∧ W.cell? ⟨b, off + k * 6 + 2, none⟩ = some c2 ∧ W.cell? ⟨b, off + k * 6 + 3, none⟩ = some c3 ∧ W.cell? ⟨b, off + k * 6 + 4, none⟩ = some c4 ∧ W.cell? ⟨b, off + k * 6 + 5, none⟩ = some c5 := by
  have h' := h k hk
  rw [hc] at h'
  exact ⟨h' 0 (by omega), h' 1 (by omega), h' 2 (by omega), h' 3 (by omega), h' 4 (by omega), h' 5 (by omega)⟩
theorem same_mk (op op' : Int) (mon name mon' name' : ByteArray) (n n' : Int) (ad ad' : Option Addr) (cap cap' : Nat) (kids kids' : List Ex) (pos pos' : Int) :
    (Ex.mk op mon name n ad cap kids pos).same (Ex.mk op' mon' name' n' ad' cap' kids' pos') = ((op == op') && (mon.toList == mon'.toList) && (name.toList == name'.toList) && (n == n') && all2 Ex.same kids kids') := by
  rw [Ex.same, Ex.sameL_eq]
end Go.Proofs.YtopiceoofdlkbaaDoor
