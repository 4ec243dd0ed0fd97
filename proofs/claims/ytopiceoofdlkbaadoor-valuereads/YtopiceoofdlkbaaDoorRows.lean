/-
  NARROWER THAN 'FOR EVERY INPUT', by the rows' own cells (each row's printed sentence says how): ValueEvals: loops, laid · ValueSets: loops, laid · ValueLogic: loops, laid · ValueReads: loops, laid · ValueFaults: loops, laid.
  DERIVED. THE GIVEN ROWS OF THIS SEAT. 5 by the template 'for every input the law returns true; each argument reads behind the call as it read before'; 0 by the template 'total and deterministic' (their statements: YtopiceoofdlkbaaDoorTotals.lean).
  GIVEN WITH THE SEED: the statements are not yours to turn. If you find one false, say at which input.
  Laid BY PROGRAM, IN A SANDBOX (cutbox-rows.mjs): the forced cells as the released guide's own fill.sh prints them over the translation d9e95b5804a45f79… (all of the seat's roots in one cut). By AI agents, Wed Nov 11 2026. No macro, syntax, notation, axiom, sorry.
-/
import Derived.Test.YtopiceoofdlkbaaDoorChecked
import GoSem.Claim
import GoSem.ClaimJoined
import GoSem.ClaimMapViews
import Derived.JoinedTies
import Derived.KernelRfl
namespace Go.Proofs.YtopiceoofdlkbaaDoor
/- THE CELL 'sum', in the pinned program and in every row, IS THE sha256 OF THE DUMP (.gsa) THAT YtopiceoofdlkbaaDoorProg.lean LOADS. Nothing in Lean hashes anything: it is a label: what it is worth is what the hold of that sum in a sandbox is worth. -/
noncomputable def Tryd.pinned : Pinned := { name := "ytopiceoofdlkbaadoor", sum := "d9e95b5804a45f79104f2d9abb60a1f91c9249c35203197307791ecb27ed83fc", checked := Tryd.checked }
namespace Rows
def none {H : Type} : Left H := { results := [], args := [] }

/- WHAT THE LISTED PACKAGE-LEVEL VARIABLES READ AS WHEN THE CALL BEGINS. Each datum BY PROGRAM (the guide's laid-datum.mjs) off the statement by which the dump's own 'gosem.cut.vars' lays the variable. In a bare row this is a premise. The card (YtopiceoofdlkbaaDoorCards.lean) ties it to the program's text. -/
def laid_vigil_tree_exprShapes {H : Type} : DataW H := .agg [.agg [.lit (.bool false), .lit (.bool false), .lit (.int .i64 0)], .agg [.lit (.bool false), .lit (.bool true), .lit (.int .i64 0)], .agg [.lit (.bool false), .lit (.bool false), .lit (.int .i64 0)], .agg [.lit (.bool false), .lit (.bool false), .lit (.int .i64 0)], .agg [.lit (.bool true), .lit (.bool false), .lit (.int .i64 0)], .agg [.lit (.bool false), .lit (.bool false), .lit (.int .i64 1)], .agg [.lit (.bool false), .lit (.bool false), .lit (.int .i64 1)], .agg [.lit (.bool false), .lit (.bool true), .lit (.int .i64 1)], .agg [.lit (.bool false), .lit (.bool false), .lit (.int .i64 2)], .agg [.lit (.bool false), .lit (.bool false), .lit (.int .i64 2)], .agg [.lit (.bool false), .lit (.bool false), .lit (.int .i64 2)], .agg [.lit (.bool false), .lit (.bool false), .lit (.int .i64 2)], .agg [.lit (.bool false), .lit (.bool false), .lit (.int .i64 2)], .agg [.lit (.bool false), .lit (.bool false), .lit (.int .i64 2)], .agg [.lit (.bool false), .lit (.bool false), .lit (.int .i64 2)], .agg [.lit (.bool false), .lit (.bool false), .lit (.int .i64 2)], .agg [.lit (.bool false), .lit (.bool false), .lit (.int .i64 2)], .agg [.lit (.bool false), .lit (.bool false), .lit (.int .i64 2)]]
def laid_vigil_types_rules {H : Type} : DataW H := .agg [.agg [.lit (.int .i64 0), .lit (.int .i64 0)], .agg [.lit (.int .i64 2), .lit (.int .i64 0)], .agg [.lit (.int .i64 1), .lit (.int .i64 0)], .agg [.lit (.int .i64 1), .lit (.int .i64 0)], .agg [.lit (.int .i64 0), .lit (.int .i64 0)], .agg [.lit (.int .i64 1), .lit (.int .i64 1)], .agg [.lit (.int .i64 2), .lit (.int .i64 2)], .agg [.lit (.int .i64 2), .lit (.int .i64 2)], .agg [.lit (.int .i64 2), .lit (.int .i64 2)], .agg [.lit (.int .i64 2), .lit (.int .i64 2)], .agg [.lit (.int .i64 1), .lit (.int .i64 (-1))], .agg [.lit (.int .i64 1), .lit (.int .i64 (-1))], .agg [.lit (.int .i64 1), .lit (.int .i64 2)], .agg [.lit (.int .i64 1), .lit (.int .i64 2)], .agg [.lit (.int .i64 1), .lit (.int .i64 2)], .agg [.lit (.int .i64 1), .lit (.int .i64 2)], .agg [.lit (.int .i64 1), .lit (.int .i64 1)], .agg [.lit (.int .i64 1), .lit (.int .i64 1)]]

/-- 'vigillaw11.ValueEvals': WHATEVER THE INPUT: true; the input reads as it did. -/
def valueEvalsSpec : ChangeSpec := { name := "valueEvals", fn := fun _ => fun
  | [d1, d2, d3] => { results := [.lit (.bool true)], args := [d1, d2, d3] }
  | _ => none }
def valueEvalsRow : OpenClaim := { program := "ytopiceoofdlkbaadoor", sum := "d9e95b5804a45f79104f2d9abb60a1f91c9249c35203197307791ecb27ed83fc", func := "vigil/vigillaw11.ValueEvals", spec := "valueEvals", unfollowed := true, recurses := true, named := ["vigil/tree.exprShapes", "vigil/types.rules"], loops := true, plainKeys := false, apart := false, laid := [("vigil/tree.exprShapes", laid_vigil_tree_exprShapes), ("vigil/types.rules", laid_vigil_types_rules)] }
def ValueEvalsSaid : Prop := valueEvalsRow.holds Tryd.pinned (OpenSpec.ofChange valueEvalsSpec)

/-- ITS FALSE NEIGHBOUR: 'it returns false'. Refute it at one input. -/
def valueEvalsWrong : ChangeSpec := { name := "valueEvals", fn := fun _ => fun
  | [d1, d2, d3] => { results := [.lit (.bool false)], args := [d1, d2, d3] }
  | _ => none }
def ValueEvalsWrongFalsely : Prop := valueEvalsRow.holds Tryd.pinned (OpenSpec.ofChange valueEvalsWrong)

/-- 'vigillaw11.ValueSets': WHATEVER THE INPUT: true; the input reads as it did. -/
def valueSetsSpec : ChangeSpec := { name := "valueSets", fn := fun _ => fun
  | [d1, d2, d3, d4, d5] => { results := [.lit (.bool true)], args := [d1, d2, d3, d4, d5] }
  | _ => none }
def valueSetsRow : OpenClaim := { program := "ytopiceoofdlkbaadoor", sum := "d9e95b5804a45f79104f2d9abb60a1f91c9249c35203197307791ecb27ed83fc", func := "vigil/vigillaw11.ValueSets", spec := "valueSets", unfollowed := true, recurses := true, named := ["vigil/tree.exprShapes", "vigil/types.rules"], loops := true, plainKeys := false, apart := false, laid := [("vigil/tree.exprShapes", laid_vigil_tree_exprShapes), ("vigil/types.rules", laid_vigil_types_rules)] }
def ValueSetsSaid : Prop := valueSetsRow.holds Tryd.pinned (OpenSpec.ofChange valueSetsSpec)

/-- ITS FALSE NEIGHBOUR: 'it returns false'. Refute it at one input. -/
def valueSetsWrong : ChangeSpec := { name := "valueSets", fn := fun _ => fun
  | [d1, d2, d3, d4, d5] => { results := [.lit (.bool false)], args := [d1, d2, d3, d4, d5] }
  | _ => none }
def ValueSetsWrongFalsely : Prop := valueSetsRow.holds Tryd.pinned (OpenSpec.ofChange valueSetsWrong)

/-- 'vigillaw11.ValueLogic': WHATEVER THE INPUT: true; the input reads as it did. -/
def valueLogicSpec : ChangeSpec := { name := "valueLogic", fn := fun _ => fun
  | [d1, d2, d3, d4] => { results := [.lit (.bool true)], args := [d1, d2, d3, d4] }
  | _ => none }
def valueLogicRow : OpenClaim := { program := "ytopiceoofdlkbaadoor", sum := "d9e95b5804a45f79104f2d9abb60a1f91c9249c35203197307791ecb27ed83fc", func := "vigil/vigillaw11.ValueLogic", spec := "valueLogic", unfollowed := true, recurses := true, named := ["vigil/tree.exprShapes", "vigil/types.rules"], loops := true, plainKeys := false, apart := false, laid := [("vigil/tree.exprShapes", laid_vigil_tree_exprShapes), ("vigil/types.rules", laid_vigil_types_rules)] }
def ValueLogicSaid : Prop := valueLogicRow.holds Tryd.pinned (OpenSpec.ofChange valueLogicSpec)

/-- ITS FALSE NEIGHBOUR: 'it returns false'. Refute it at one input. -/
def valueLogicWrong : ChangeSpec := { name := "valueLogic", fn := fun _ => fun
  | [d1, d2, d3, d4] => { results := [.lit (.bool false)], args := [d1, d2, d3, d4] }
  | _ => none }
def ValueLogicWrongFalsely : Prop := valueLogicRow.holds Tryd.pinned (OpenSpec.ofChange valueLogicWrong)

/-- 'vigillaw11.ValueReads': WHATEVER THE INPUT: true; the input reads as it did. -/
def valueReadsSpec : ChangeSpec := { name := "valueReads", fn := fun _ => fun
  | [d1, d2, d3, d4] => { results := [.lit (.bool true)], args := [d1, d2, d3, d4] }
  | _ => none }
def valueReadsRow : OpenClaim := { program := "ytopiceoofdlkbaadoor", sum := "d9e95b5804a45f79104f2d9abb60a1f91c9249c35203197307791ecb27ed83fc", func := "vigil/vigillaw11.ValueReads", spec := "valueReads", unfollowed := true, recurses := true, named := ["vigil/tree.exprShapes", "vigil/types.rules"], loops := true, plainKeys := false, apart := false, laid := [("vigil/tree.exprShapes", laid_vigil_tree_exprShapes), ("vigil/types.rules", laid_vigil_types_rules)] }
def ValueReadsSaid : Prop := valueReadsRow.holds Tryd.pinned (OpenSpec.ofChange valueReadsSpec)

/-- ITS FALSE NEIGHBOUR: 'it returns false'. Refute it at one input. -/
def valueReadsWrong : ChangeSpec := { name := "valueReads", fn := fun _ => fun
  | [d1, d2, d3, d4] => { results := [.lit (.bool false)], args := [d1, d2, d3, d4] }
  | _ => none }
def ValueReadsWrongFalsely : Prop := valueReadsRow.holds Tryd.pinned (OpenSpec.ofChange valueReadsWrong)

/-- 'vigillaw11.ValueFaults': WHATEVER THE INPUT: true; the input reads as it did. -/
def valueFaultsSpec : ChangeSpec := { name := "valueFaults", fn := fun _ => fun
  | [d1, d2, d3] => { results := [.lit (.bool true)], args := [d1, d2, d3] }
  | _ => none }
def valueFaultsRow : OpenClaim := { program := "ytopiceoofdlkbaadoor", sum := "d9e95b5804a45f79104f2d9abb60a1f91c9249c35203197307791ecb27ed83fc", func := "vigil/vigillaw11.ValueFaults", spec := "valueFaults", unfollowed := true, recurses := true, named := ["vigil/tree.exprShapes", "vigil/types.rules"], loops := true, plainKeys := false, apart := false, laid := [("vigil/tree.exprShapes", laid_vigil_tree_exprShapes), ("vigil/types.rules", laid_vigil_types_rules)] }
def ValueFaultsSaid : Prop := valueFaultsRow.holds Tryd.pinned (OpenSpec.ofChange valueFaultsSpec)

/-- ITS FALSE NEIGHBOUR: 'it returns false'. Refute it at one input. -/
def valueFaultsWrong : ChangeSpec := { name := "valueFaults", fn := fun _ => fun
  | [d1, d2, d3] => { results := [.lit (.bool false)], args := [d1, d2, d3] }
  | _ => none }
def ValueFaultsWrongFalsely : Prop := valueFaultsRow.holds Tryd.pinned (OpenSpec.ofChange valueFaultsWrong)

/- THE SECOND FORM. 'bulk': how many values and letters a reading holds, each counted each time it is reached (what is shared counts as often as it is met; a slice's spare places count too). A statement '..UptoSaid' is the law's where the arguments, and the package variables that the reading takes, are together of bulk at most 1048576: NARROWER than '..Said'. Prove '..Said' where nothing that the law and all that it calls make is longer than what came in: it says more and counts as full. Else prove '..UptoSaid'. A law counts once. -/
mutual
def uptoBulk {H : Type} : DataW H → Nat
  | .lit (.string bytes) => bytes.length + 1
  | .lit _ => 1
  | .nil => 1
  | .ptr d => uptoBulk d + 1
  | .slice elems spare => uptoBulkAll elems + uptoBulkAll spare + 1
  | .agg parts => uptoBulkAll parts + 1
  | .iface _ d => uptoBulk d + 1
  | .map entries => uptoBulkEntries entries + 1
  | .held _ => 1
def uptoBulkAll {H : Type} : List (DataW H) → Nat
  | [] => 0
  | d :: r => uptoBulk d + uptoBulkAll r
def uptoBulkEntries {H : Type} : List (Lit × DataW H) → Nat
  | [] => 0
  | x :: r => uptoBulkEntry x + uptoBulkEntries r
def uptoBulkEntry {H : Type} : Lit × DataW H → Nat
  | (.string bytes, d) => bytes.length + uptoBulk d + 1
  | (_, d) => uptoBulk d + 1
 end
def uptoSmall : (H : Type) → List (DataW H) → Bool := fun _ ds => decide (uptoBulkAll ds ≤ 1048576)
def OpenSpec.upto (s : _root_.Go.ChangeSpec) : _root_.Go.OpenSpec := { _root_.Go.OpenSpec.ofChange s with cond := some uptoSmall }

/-- 'vigillaw11.ValueEvals', WHERE WHAT IT READS IS OF BULK AT MOST 1048576: true; the input reads as it did. -/
def valueEvalsUptoRow : OpenClaim := { program := "ytopiceoofdlkbaadoor", sum := "d9e95b5804a45f79104f2d9abb60a1f91c9249c35203197307791ecb27ed83fc", func := "vigil/vigillaw11.ValueEvals", spec := "valueEvals", unfollowed := true, recurses := true, named := ["vigil/tree.exprShapes", "vigil/types.rules"], loops := true, plainKeys := false, apart := false, laid := [("vigil/tree.exprShapes", laid_vigil_tree_exprShapes), ("vigil/types.rules", laid_vigil_types_rules)], narrowed := true }
def ValueEvalsUptoSaid : Prop := valueEvalsUptoRow.holds Tryd.pinned (OpenSpec.upto valueEvalsSpec)

/-- 'vigillaw11.ValueSets', WHERE WHAT IT READS IS OF BULK AT MOST 1048576: true; the input reads as it did. -/
def valueSetsUptoRow : OpenClaim := { program := "ytopiceoofdlkbaadoor", sum := "d9e95b5804a45f79104f2d9abb60a1f91c9249c35203197307791ecb27ed83fc", func := "vigil/vigillaw11.ValueSets", spec := "valueSets", unfollowed := true, recurses := true, named := ["vigil/tree.exprShapes", "vigil/types.rules"], loops := true, plainKeys := false, apart := false, laid := [("vigil/tree.exprShapes", laid_vigil_tree_exprShapes), ("vigil/types.rules", laid_vigil_types_rules)], narrowed := true }
def ValueSetsUptoSaid : Prop := valueSetsUptoRow.holds Tryd.pinned (OpenSpec.upto valueSetsSpec)

/-- 'vigillaw11.ValueLogic', WHERE WHAT IT READS IS OF BULK AT MOST 1048576: true; the input reads as it did. -/
def valueLogicUptoRow : OpenClaim := { program := "ytopiceoofdlkbaadoor", sum := "d9e95b5804a45f79104f2d9abb60a1f91c9249c35203197307791ecb27ed83fc", func := "vigil/vigillaw11.ValueLogic", spec := "valueLogic", unfollowed := true, recurses := true, named := ["vigil/tree.exprShapes", "vigil/types.rules"], loops := true, plainKeys := false, apart := false, laid := [("vigil/tree.exprShapes", laid_vigil_tree_exprShapes), ("vigil/types.rules", laid_vigil_types_rules)], narrowed := true }
def ValueLogicUptoSaid : Prop := valueLogicUptoRow.holds Tryd.pinned (OpenSpec.upto valueLogicSpec)

/-- 'vigillaw11.ValueReads', WHERE WHAT IT READS IS OF BULK AT MOST 1048576: true; the input reads as it did. -/
def valueReadsUptoRow : OpenClaim := { program := "ytopiceoofdlkbaadoor", sum := "d9e95b5804a45f79104f2d9abb60a1f91c9249c35203197307791ecb27ed83fc", func := "vigil/vigillaw11.ValueReads", spec := "valueReads", unfollowed := true, recurses := true, named := ["vigil/tree.exprShapes", "vigil/types.rules"], loops := true, plainKeys := false, apart := false, laid := [("vigil/tree.exprShapes", laid_vigil_tree_exprShapes), ("vigil/types.rules", laid_vigil_types_rules)], narrowed := true }
def ValueReadsUptoSaid : Prop := valueReadsUptoRow.holds Tryd.pinned (OpenSpec.upto valueReadsSpec)

/-- 'vigillaw11.ValueFaults', WHERE WHAT IT READS IS OF BULK AT MOST 1048576: true; the input reads as it did. -/
def valueFaultsUptoRow : OpenClaim := { program := "ytopiceoofdlkbaadoor", sum := "d9e95b5804a45f79104f2d9abb60a1f91c9249c35203197307791ecb27ed83fc", func := "vigil/vigillaw11.ValueFaults", spec := "valueFaults", unfollowed := true, recurses := true, named := ["vigil/tree.exprShapes", "vigil/types.rules"], loops := true, plainKeys := false, apart := false, laid := [("vigil/tree.exprShapes", laid_vigil_tree_exprShapes), ("vigil/types.rules", laid_vigil_types_rules)], narrowed := true }
def ValueFaultsUptoSaid : Prop := valueFaultsUptoRow.holds Tryd.pinned (OpenSpec.upto valueFaultsSpec)

end Rows
end Go.Proofs.YtopiceoofdlkbaaDoor
