/-
  sameStmt, SameStmts, sameVar, sameMethod, sameMonitor, sameRole, Same and isNone of package tree: whether two are the same but for places.
-/
import Derived.Test.YtopiceoofdlkbaaDoorEqB
namespace Go.Proofs.YtopiceoofdlkbaaDoor
open Go.RowKit
theorem bcell {W w1 : World} (hb : Below W.heap.size W w1) : (∀ b o, b < W.heap.size → w1.cell? ⟨b, o, none⟩ = W.cell? ⟨b, o, none⟩) ∧ (∀ b o, b < W.heap.size → w1.frozen? ⟨b, o, none⟩ = W.frozen? ⟨b, o, none⟩) :=
  ⟨fun b o h => hb.cell (p := ⟨b, o, none⟩) h, fun b o h => hb.frozen (p := ⟨b, o, none⟩) h⟩
theorem stSame_mk (kind kind' : Int) (mon name mon' name' : ByteArray) (n n' : Int) (e e' : Ex) (ad ad' : Option Addr) (cap cap' : Nat) (blocks blocks' : List Bl) (pos pos' : Int) :
    (St.mk kind mon name n e ad cap blocks pos).same (St.mk kind' mon' name' n' e' ad' cap' blocks' pos') = ((kind == kind') && (mon.toList == mon'.toList) && (name.toList == name'.toList) && (n == n') && e.same e' && all2 Bl.same blocks blocks') := by
  rw [St.same, Bl.sameL_eq]
theorem blSame_mk (ad ad' : Option Addr) (cap cap' : Nat) (body body' : List St) : (Bl.mk ad cap body).same (Bl.mk ad' cap' body') = all2 St.same body body' := by rw [Bl.same, St.sameL_eq]
end Go.Proofs.YtopiceoofdlkbaaDoor
