/-
  NARROWER THAN 'FOR EVERY INPUT', by the rows' own cells (each row's printed sentence says how): TreeChecks: loops, laid · TreeExprs: loops, laid · TreeSames: loops, laid · TreePlaces: loops, laid · TreeParts: loops, laid.
  DERIVED. THE GIVEN ROWS OF THIS SEAT. 5 by the template 'for every input the law returns true; each argument reads behind the call as it read before'; 0 by the template 'total and deterministic' (their statements: YtjgomkkmmhkpdaaDoorTotals.lean).
  GIVEN WITH THE SEED: the statements are not yours to turn. If you find one false, say at which input.
  Laid BY PROGRAM, IN A SANDBOX (cutbox-rows.mjs): the forced cells as the released guide's own fill.sh prints them over the translation 61a229af70b820b4… (all of the seat's roots in one cut). By AI agents, Wed Nov 11 2026. No macro, syntax, notation, axiom, sorry.
-/
import Derived.Test.YtjgomkkmmhkpdaaDoorChecked
import GoSem.Claim
import GoSem.ClaimJoined
import GoSem.ClaimMapViews
import Derived.JoinedTies
import Derived.KernelRfl
namespace Go.Proofs.YtjgomkkmmhkpdaaDoor
/- THE CELL 'sum', in the pinned program and in every row, IS THE sha256 OF THE DUMP (.gsa) THAT YtjgomkkmmhkpdaaDoorProg.lean LOADS. Nothing in Lean hashes anything: it is a label: what it is worth is what the hold of that sum in a sandbox is worth. -/
noncomputable def Tryd.pinned : Pinned := { name := "ytjgomkkmmhkpdaadoor", sum := "61a229af70b820b462da287bd42a94001f4065dafe191a515b55b18a44b0c1c3", checked := Tryd.checked }
namespace Rows
def none {H : Type} : Left H := { results := [], args := [] }

/- WHAT THE LISTED PACKAGE-LEVEL VARIABLES READ AS WHEN THE CALL BEGINS. Each datum BY PROGRAM (the guide's laid-datum.mjs) off the statement by which the dump's own 'gosem.cut.vars' lays the variable. In a bare row this is a premise. The card (YtjgomkkmmhkpdaaDoorCards.lean) ties it to the program's text. -/
def laid_vigil_tree_exprShapes {H : Type} : DataW H := .agg [.agg [.lit (.bool false), .lit (.bool false), .lit (.int .i64 0)], .agg [.lit (.bool false), .lit (.bool true), .lit (.int .i64 0)], .agg [.lit (.bool false), .lit (.bool false), .lit (.int .i64 0)], .agg [.lit (.bool false), .lit (.bool false), .lit (.int .i64 0)], .agg [.lit (.bool true), .lit (.bool false), .lit (.int .i64 0)], .agg [.lit (.bool false), .lit (.bool false), .lit (.int .i64 1)], .agg [.lit (.bool false), .lit (.bool false), .lit (.int .i64 1)], .agg [.lit (.bool false), .lit (.bool true), .lit (.int .i64 1)], .agg [.lit (.bool false), .lit (.bool false), .lit (.int .i64 2)], .agg [.lit (.bool false), .lit (.bool false), .lit (.int .i64 2)], .agg [.lit (.bool false), .lit (.bool false), .lit (.int .i64 2)], .agg [.lit (.bool false), .lit (.bool false), .lit (.int .i64 2)], .agg [.lit (.bool false), .lit (.bool false), .lit (.int .i64 2)], .agg [.lit (.bool false), .lit (.bool false), .lit (.int .i64 2)], .agg [.lit (.bool false), .lit (.bool false), .lit (.int .i64 2)], .agg [.lit (.bool false), .lit (.bool false), .lit (.int .i64 2)], .agg [.lit (.bool false), .lit (.bool false), .lit (.int .i64 2)], .agg [.lit (.bool false), .lit (.bool false), .lit (.int .i64 2)]]
def laid_vigil_tree_stmtShapes {H : Type} : DataW H := .agg [.agg [.lit (.bool false), .lit (.bool false), .lit (.bool false), .lit (.bool false), .lit (.int .i64 0), .lit (.int .i64 0)], .agg [.lit (.bool false), .lit (.bool false), .lit (.bool false), .lit (.bool false), .lit (.int .i64 0), .lit (.int .i64 0)], .agg [.lit (.bool true), .lit (.bool true), .lit (.bool false), .lit (.bool true), .lit (.int .i64 0), .lit (.int .i64 0)], .agg [.lit (.bool false), .lit (.bool false), .lit (.bool false), .lit (.bool true), .lit (.int .i64 1), .lit (.int .i64 2)], .agg [.lit (.bool false), .lit (.bool false), .lit (.bool false), .lit (.bool true), .lit (.int .i64 1), .lit (.int .i64 1)], .agg [.lit (.bool false), .lit (.bool false), .lit (.bool false), .lit (.bool false), .lit (.int .i64 1), .lit (.int .i64 1)], .agg [.lit (.bool false), .lit (.bool false), .lit (.bool false), .lit (.bool false), .lit (.int .i64 1), .lit (.int .i64 8)], .agg [.lit (.bool true), .lit (.bool false), .lit (.bool false), .lit (.bool false), .lit (.int .i64 1), .lit (.int .i64 1)], .agg [.lit (.bool true), .lit (.bool true), .lit (.bool false), .lit (.bool false), .lit (.int .i64 0), .lit (.int .i64 0)], .agg [.lit (.bool true), .lit (.bool false), .lit (.bool true), .lit (.bool false), .lit (.int .i64 0), .lit (.int .i64 0)], .agg [.lit (.bool true), .lit (.bool false), .lit (.bool false), .lit (.bool false), .lit (.int .i64 0), .lit (.int .i64 0)], .agg [.lit (.bool true), .lit (.bool false), .lit (.bool false), .lit (.bool false), .lit (.int .i64 0), .lit (.int .i64 0)]]

/-- 'vigillaw02.TreeChecks': WHATEVER THE INPUT: true; the input reads as it did. -/
def treeChecksSpec : ChangeSpec := { name := "treeChecks", fn := fun _ => fun
  | [d] => { results := [.lit (.bool true)], args := [d] }
  | _ => none }
def treeChecksRow : OpenClaim := { program := "ytjgomkkmmhkpdaadoor", sum := "61a229af70b820b462da287bd42a94001f4065dafe191a515b55b18a44b0c1c3", func := "vigil/vigillaw02.TreeChecks", spec := "treeChecks", unfollowed := true, recurses := true, named := ["vigil/tree.stmtShapes", "vigil/tree.exprShapes"], loops := true, plainKeys := false, apart := false, laid := [("vigil/tree.exprShapes", laid_vigil_tree_exprShapes), ("vigil/tree.stmtShapes", laid_vigil_tree_stmtShapes)] }
def TreeChecksSaid : Prop := treeChecksRow.holds Tryd.pinned (OpenSpec.ofChange treeChecksSpec)

/-- ITS FALSE NEIGHBOUR: 'it returns false'. Refute it at one input. -/
def treeChecksWrong : ChangeSpec := { name := "treeChecks", fn := fun _ => fun
  | [d] => { results := [.lit (.bool false)], args := [d] }
  | _ => none }
def TreeChecksWrongFalsely : Prop := treeChecksRow.holds Tryd.pinned (OpenSpec.ofChange treeChecksWrong)

/-- 'vigillaw02.TreeExprs': WHATEVER THE INPUT: true; the input reads as it did. -/
def treeExprsSpec : ChangeSpec := { name := "treeExprs", fn := fun _ => fun
  | [d1, d2] => { results := [.lit (.bool true)], args := [d1, d2] }
  | _ => none }
def treeExprsRow : OpenClaim := { program := "ytjgomkkmmhkpdaadoor", sum := "61a229af70b820b462da287bd42a94001f4065dafe191a515b55b18a44b0c1c3", func := "vigil/vigillaw02.TreeExprs", spec := "treeExprs", unfollowed := true, recurses := true, named := ["vigil/tree.stmtShapes", "vigil/tree.exprShapes"], loops := true, plainKeys := false, apart := false, laid := [("vigil/tree.exprShapes", laid_vigil_tree_exprShapes), ("vigil/tree.stmtShapes", laid_vigil_tree_stmtShapes)] }
def TreeExprsSaid : Prop := treeExprsRow.holds Tryd.pinned (OpenSpec.ofChange treeExprsSpec)

/-- ITS FALSE NEIGHBOUR: 'it returns false'. Refute it at one input. -/
def treeExprsWrong : ChangeSpec := { name := "treeExprs", fn := fun _ => fun
  | [d1, d2] => { results := [.lit (.bool false)], args := [d1, d2] }
  | _ => none }
def TreeExprsWrongFalsely : Prop := treeExprsRow.holds Tryd.pinned (OpenSpec.ofChange treeExprsWrong)

/-- 'vigillaw02.TreeSames': WHATEVER THE INPUT: true; the input reads as it did. -/
def treeSamesSpec : ChangeSpec := { name := "treeSames", fn := fun _ => fun
  | [d1, d2] => { results := [.lit (.bool true)], args := [d1, d2] }
  | _ => none }
def treeSamesRow : OpenClaim := { program := "ytjgomkkmmhkpdaadoor", sum := "61a229af70b820b462da287bd42a94001f4065dafe191a515b55b18a44b0c1c3", func := "vigil/vigillaw02.TreeSames", spec := "treeSames", unfollowed := true, recurses := true, named := ["vigil/tree.stmtShapes", "vigil/tree.exprShapes"], loops := true, plainKeys := false, apart := false, laid := [("vigil/tree.exprShapes", laid_vigil_tree_exprShapes), ("vigil/tree.stmtShapes", laid_vigil_tree_stmtShapes)] }
def TreeSamesSaid : Prop := treeSamesRow.holds Tryd.pinned (OpenSpec.ofChange treeSamesSpec)

/-- ITS FALSE NEIGHBOUR: 'it returns false'. Refute it at one input. -/
def treeSamesWrong : ChangeSpec := { name := "treeSames", fn := fun _ => fun
  | [d1, d2] => { results := [.lit (.bool false)], args := [d1, d2] }
  | _ => none }
def TreeSamesWrongFalsely : Prop := treeSamesRow.holds Tryd.pinned (OpenSpec.ofChange treeSamesWrong)

/-- 'vigillaw02.TreePlaces': WHATEVER THE INPUT: true; the input reads as it did. -/
def treePlacesSpec : ChangeSpec := { name := "treePlaces", fn := fun _ => fun
  | [d1, d2] => { results := [.lit (.bool true)], args := [d1, d2] }
  | _ => none }
def treePlacesRow : OpenClaim := { program := "ytjgomkkmmhkpdaadoor", sum := "61a229af70b820b462da287bd42a94001f4065dafe191a515b55b18a44b0c1c3", func := "vigil/vigillaw02.TreePlaces", spec := "treePlaces", unfollowed := true, recurses := true, named := ["vigil/tree.stmtShapes", "vigil/tree.exprShapes"], loops := true, plainKeys := false, apart := false, laid := [("vigil/tree.exprShapes", laid_vigil_tree_exprShapes), ("vigil/tree.stmtShapes", laid_vigil_tree_stmtShapes)] }
def TreePlacesSaid : Prop := treePlacesRow.holds Tryd.pinned (OpenSpec.ofChange treePlacesSpec)

/-- ITS FALSE NEIGHBOUR: 'it returns false'. Refute it at one input. -/
def treePlacesWrong : ChangeSpec := { name := "treePlaces", fn := fun _ => fun
  | [d1, d2] => { results := [.lit (.bool false)], args := [d1, d2] }
  | _ => none }
def TreePlacesWrongFalsely : Prop := treePlacesRow.holds Tryd.pinned (OpenSpec.ofChange treePlacesWrong)

/-- 'vigillaw02.TreeParts': WHATEVER THE INPUT: true; the input reads as it did. -/
def treePartsSpec : ChangeSpec := { name := "treeParts", fn := fun _ => fun
  | [d1, d2] => { results := [.lit (.bool true)], args := [d1, d2] }
  | _ => none }
def treePartsRow : OpenClaim := { program := "ytjgomkkmmhkpdaadoor", sum := "61a229af70b820b462da287bd42a94001f4065dafe191a515b55b18a44b0c1c3", func := "vigil/vigillaw02.TreeParts", spec := "treeParts", unfollowed := true, recurses := true, named := ["vigil/tree.exprShapes", "vigil/tree.stmtShapes"], loops := true, plainKeys := false, apart := false, laid := [("vigil/tree.exprShapes", laid_vigil_tree_exprShapes), ("vigil/tree.stmtShapes", laid_vigil_tree_stmtShapes)] }
def TreePartsSaid : Prop := treePartsRow.holds Tryd.pinned (OpenSpec.ofChange treePartsSpec)

/-- ITS FALSE NEIGHBOUR: 'it returns false'. Refute it at one input. -/
def treePartsWrong : ChangeSpec := { name := "treeParts", fn := fun _ => fun
  | [d1, d2] => { results := [.lit (.bool false)], args := [d1, d2] }
  | _ => none }
def TreePartsWrongFalsely : Prop := treePartsRow.holds Tryd.pinned (OpenSpec.ofChange treePartsWrong)

/- THE SECOND FORM. 'bulk': how many values and letters a reading holds, each counted each time it is reached (what is shared counts as often as it is met; a slice's spare places count too). A statement '..UptoSaid' is the law's where the arguments, and the package variables that the reading takes, are together of bulk at most 1048576: NARROWER than '..Said'. Prove '..Said' where nothing that the law and all that it calls make is longer than what came in: it says more and counts as full. Else prove '..UptoSaid'. A law counts once. -/
mutual
def uptoBulk {H : Type} : DataW H → Nat
  | .lit (.string bytes) => bytes.length + 1
  | .lit _ => 1
  | .nil => 1
  | .ptr d => uptoBulk d + 1
  | .slice elems spare => uptoBulkAll elems + uptoBulkAll spare + 1
  | .agg parts => uptoBulkAll parts + 1
  | .iface _ d => uptoBulk d + 1
  | .map entries => uptoBulkEntries entries + 1
  | .held _ => 1
def uptoBulkAll {H : Type} : List (DataW H) → Nat
  | [] => 0
  | d :: r => uptoBulk d + uptoBulkAll r
def uptoBulkEntries {H : Type} : List (Lit × DataW H) → Nat
  | [] => 0
  | x :: r => uptoBulkEntry x + uptoBulkEntries r
def uptoBulkEntry {H : Type} : Lit × DataW H → Nat
  | (.string bytes, d) => bytes.length + uptoBulk d + 1
  | (_, d) => uptoBulk d + 1
 end
def uptoSmall : (H : Type) → List (DataW H) → Bool := fun _ ds => decide (uptoBulkAll ds ≤ 1048576)
def OpenSpec.upto (s : _root_.Go.ChangeSpec) : _root_.Go.OpenSpec := { _root_.Go.OpenSpec.ofChange s with cond := some uptoSmall }

/-- 'vigillaw02.TreeChecks', WHERE WHAT IT READS IS OF BULK AT MOST 1048576: true; the input reads as it did. -/
def treeChecksUptoRow : OpenClaim := { program := "ytjgomkkmmhkpdaadoor", sum := "61a229af70b820b462da287bd42a94001f4065dafe191a515b55b18a44b0c1c3", func := "vigil/vigillaw02.TreeChecks", spec := "treeChecks", unfollowed := true, recurses := true, named := ["vigil/tree.stmtShapes", "vigil/tree.exprShapes"], loops := true, plainKeys := false, apart := false, laid := [("vigil/tree.exprShapes", laid_vigil_tree_exprShapes), ("vigil/tree.stmtShapes", laid_vigil_tree_stmtShapes)], narrowed := true }
def TreeChecksUptoSaid : Prop := treeChecksUptoRow.holds Tryd.pinned (OpenSpec.upto treeChecksSpec)

/-- 'vigillaw02.TreeExprs', WHERE WHAT IT READS IS OF BULK AT MOST 1048576: true; the input reads as it did. -/
def treeExprsUptoRow : OpenClaim := { program := "ytjgomkkmmhkpdaadoor", sum := "61a229af70b820b462da287bd42a94001f4065dafe191a515b55b18a44b0c1c3", func := "vigil/vigillaw02.TreeExprs", spec := "treeExprs", unfollowed := true, recurses := true, named := ["vigil/tree.stmtShapes", "vigil/tree.exprShapes"], loops := true, plainKeys := false, apart := false, laid := [("vigil/tree.exprShapes", laid_vigil_tree_exprShapes), ("vigil/tree.stmtShapes", laid_vigil_tree_stmtShapes)], narrowed := true }
def TreeExprsUptoSaid : Prop := treeExprsUptoRow.holds Tryd.pinned (OpenSpec.upto treeExprsSpec)

/-- 'vigillaw02.TreeSames', WHERE WHAT IT READS IS OF BULK AT MOST 1048576: true; the input reads as it did. -/
def treeSamesUptoRow : OpenClaim := { program := "ytjgomkkmmhkpdaadoor", sum := "61a229af70b820b462da287bd42a94001f4065dafe191a515b55b18a44b0c1c3", func := "vigil/vigillaw02.TreeSames", spec := "treeSames", unfollowed := true, recurses := true, named := ["vigil/tree.stmtShapes", "vigil/tree.exprShapes"], loops := true, plainKeys := false, apart := false, laid := [("vigil/tree.exprShapes", laid_vigil_tree_exprShapes), ("vigil/tree.stmtShapes", laid_vigil_tree_stmtShapes)], narrowed := true }
def TreeSamesUptoSaid : Prop := treeSamesUptoRow.holds Tryd.pinned (OpenSpec.upto treeSamesSpec)

/-- 'vigillaw02.TreePlaces', WHERE WHAT IT READS IS OF BULK AT MOST 1048576: true; the input reads as it did. -/
def treePlacesUptoRow : OpenClaim := { program := "ytjgomkkmmhkpdaadoor", sum := "61a229af70b820b462da287bd42a94001f4065dafe191a515b55b18a44b0c1c3", func := "vigil/vigillaw02.TreePlaces", spec := "treePlaces", unfollowed := true, recurses := true, named := ["vigil/tree.stmtShapes", "vigil/tree.exprShapes"], loops := true, plainKeys := false, apart := false, laid := [("vigil/tree.exprShapes", laid_vigil_tree_exprShapes), ("vigil/tree.stmtShapes", laid_vigil_tree_stmtShapes)], narrowed := true }
def TreePlacesUptoSaid : Prop := treePlacesUptoRow.holds Tryd.pinned (OpenSpec.upto treePlacesSpec)

/-- 'vigillaw02.TreeParts', WHERE WHAT IT READS IS OF BULK AT MOST 1048576: true; the input reads as it did. -/
def treePartsUptoRow : OpenClaim := { program := "ytjgomkkmmhkpdaadoor", sum := "61a229af70b820b462da287bd42a94001f4065dafe191a515b55b18a44b0c1c3", func := "vigil/vigillaw02.TreeParts", spec := "treeParts", unfollowed := true, recurses := true, named := ["vigil/tree.exprShapes", "vigil/tree.stmtShapes"], loops := true, plainKeys := false, apart := false, laid := [("vigil/tree.exprShapes", laid_vigil_tree_exprShapes), ("vigil/tree.stmtShapes", laid_vigil_tree_stmtShapes)], narrowed := true }
def TreePartsUptoSaid : Prop := treePartsUptoRow.holds Tryd.pinned (OpenSpec.upto treePartsSpec)

end Rows
end Go.Proofs.YtjgomkkmmhkpdaaDoor
