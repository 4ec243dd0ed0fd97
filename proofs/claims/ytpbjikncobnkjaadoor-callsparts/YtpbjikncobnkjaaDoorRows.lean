/-
  NARROWER THAN 'FOR EVERY INPUT', by the rows' own cells (each row's printed sentence says how): CallsNone: loops, laid · CallsParts: loops, laid · CallsBig: laid.
  DERIVED. THE GIVEN ROWS OF THIS SEAT. 3 by the template 'for every input the law returns true; each argument reads behind the call as it read before'; 0 by the template 'total and deterministic' (their statements: YtpbjikncobnkjaaDoorTotals.lean).
  GIVEN WITH THE SEED: the statements are not yours to turn. If you find one false, say at which input.
  Laid BY PROGRAM, IN A SANDBOX (cutbox-rows.mjs): the forced cells as the released guide's own fill.sh prints them over the translation 92eeb6c8f221fc33… (all of the seat's roots in one cut). By AI agents, Wed Nov 11 2026. No macro, syntax, notation, axiom, sorry.
-/
import Derived.Test.YtpbjikncobnkjaaDoorChecked
import GoSem.Claim
import GoSem.ClaimJoined
import GoSem.ClaimMapViews
import Derived.JoinedTies
import Derived.KernelRfl
namespace Go.Proofs.YtpbjikncobnkjaaDoor
/- THE CELL 'sum', in the pinned program and in every row, IS THE sha256 OF THE DUMP (.gsa) THAT YtpbjikncobnkjaaDoorProg.lean LOADS. Nothing in Lean hashes anything: it is a label: what it is worth is what the hold of that sum in a sandbox is worth. -/
noncomputable def Tryd.pinned : Pinned := { name := "ytpbjikncobnkjaadoor", sum := "92eeb6c8f221fc332224b19c7ebaf39db2eceb93bf31b09135c5c0352b1a7291", checked := Tryd.checked }
namespace Rows
def none {H : Type} : Left H := { results := [], args := [] }

/- WHAT THE LISTED PACKAGE-LEVEL VARIABLES READ AS WHEN THE CALL BEGINS. Each datum BY PROGRAM (the guide's laid-datum.mjs) off the statement by which the dump's own 'gosem.cut.vars' lays the variable. In a bare row this is a premise. The card (YtpbjikncobnkjaaDoorCards.lean) ties it to the program's text. -/
def laid_vigil_tree_exprShapes {H : Type} : DataW H := .agg [.agg [.lit (.bool false), .lit (.bool false), .lit (.int .i64 0)], .agg [.lit (.bool false), .lit (.bool true), .lit (.int .i64 0)], .agg [.lit (.bool false), .lit (.bool false), .lit (.int .i64 0)], .agg [.lit (.bool false), .lit (.bool false), .lit (.int .i64 0)], .agg [.lit (.bool true), .lit (.bool false), .lit (.int .i64 0)], .agg [.lit (.bool false), .lit (.bool false), .lit (.int .i64 1)], .agg [.lit (.bool false), .lit (.bool false), .lit (.int .i64 1)], .agg [.lit (.bool false), .lit (.bool true), .lit (.int .i64 1)], .agg [.lit (.bool false), .lit (.bool false), .lit (.int .i64 2)], .agg [.lit (.bool false), .lit (.bool false), .lit (.int .i64 2)], .agg [.lit (.bool false), .lit (.bool false), .lit (.int .i64 2)], .agg [.lit (.bool false), .lit (.bool false), .lit (.int .i64 2)], .agg [.lit (.bool false), .lit (.bool false), .lit (.int .i64 2)], .agg [.lit (.bool false), .lit (.bool false), .lit (.int .i64 2)], .agg [.lit (.bool false), .lit (.bool false), .lit (.int .i64 2)], .agg [.lit (.bool false), .lit (.bool false), .lit (.int .i64 2)], .agg [.lit (.bool false), .lit (.bool false), .lit (.int .i64 2)], .agg [.lit (.bool false), .lit (.bool false), .lit (.int .i64 2)]]
def laid_vigil_tree_stmtShapes {H : Type} : DataW H := .agg [.agg [.lit (.bool false), .lit (.bool false), .lit (.bool false), .lit (.bool false), .lit (.int .i64 0), .lit (.int .i64 0)], .agg [.lit (.bool false), .lit (.bool false), .lit (.bool false), .lit (.bool false), .lit (.int .i64 0), .lit (.int .i64 0)], .agg [.lit (.bool true), .lit (.bool true), .lit (.bool false), .lit (.bool true), .lit (.int .i64 0), .lit (.int .i64 0)], .agg [.lit (.bool false), .lit (.bool false), .lit (.bool false), .lit (.bool true), .lit (.int .i64 1), .lit (.int .i64 2)], .agg [.lit (.bool false), .lit (.bool false), .lit (.bool false), .lit (.bool true), .lit (.int .i64 1), .lit (.int .i64 1)], .agg [.lit (.bool false), .lit (.bool false), .lit (.bool false), .lit (.bool false), .lit (.int .i64 1), .lit (.int .i64 1)], .agg [.lit (.bool false), .lit (.bool false), .lit (.bool false), .lit (.bool false), .lit (.int .i64 1), .lit (.int .i64 8)], .agg [.lit (.bool true), .lit (.bool false), .lit (.bool false), .lit (.bool false), .lit (.int .i64 1), .lit (.int .i64 1)], .agg [.lit (.bool true), .lit (.bool true), .lit (.bool false), .lit (.bool false), .lit (.int .i64 0), .lit (.int .i64 0)], .agg [.lit (.bool true), .lit (.bool false), .lit (.bool true), .lit (.bool false), .lit (.int .i64 0), .lit (.int .i64 0)], .agg [.lit (.bool true), .lit (.bool false), .lit (.bool false), .lit (.bool false), .lit (.int .i64 0), .lit (.int .i64 0)], .agg [.lit (.bool true), .lit (.bool false), .lit (.bool false), .lit (.bool false), .lit (.int .i64 0), .lit (.int .i64 0)]]
def laid_vigil_types_rules {H : Type} : DataW H := .agg [.agg [.lit (.int .i64 0), .lit (.int .i64 0)], .agg [.lit (.int .i64 2), .lit (.int .i64 0)], .agg [.lit (.int .i64 1), .lit (.int .i64 0)], .agg [.lit (.int .i64 1), .lit (.int .i64 0)], .agg [.lit (.int .i64 0), .lit (.int .i64 0)], .agg [.lit (.int .i64 1), .lit (.int .i64 1)], .agg [.lit (.int .i64 2), .lit (.int .i64 2)], .agg [.lit (.int .i64 2), .lit (.int .i64 2)], .agg [.lit (.int .i64 2), .lit (.int .i64 2)], .agg [.lit (.int .i64 2), .lit (.int .i64 2)], .agg [.lit (.int .i64 1), .lit (.int .i64 (-1))], .agg [.lit (.int .i64 1), .lit (.int .i64 (-1))], .agg [.lit (.int .i64 1), .lit (.int .i64 2)], .agg [.lit (.int .i64 1), .lit (.int .i64 2)], .agg [.lit (.int .i64 1), .lit (.int .i64 2)], .agg [.lit (.int .i64 1), .lit (.int .i64 2)], .agg [.lit (.int .i64 1), .lit (.int .i64 1)], .agg [.lit (.int .i64 1), .lit (.int .i64 1)]]

/-- 'vigillaw08.CallsNone': WHATEVER THE INPUT: true; the input reads as it did. -/
def callsNoneSpec : ChangeSpec := { name := "callsNone", fn := fun _ => fun
  | [d1, d2] => { results := [.lit (.bool true)], args := [d1, d2] }
  | _ => none }
def callsNoneRow : OpenClaim := { program := "ytpbjikncobnkjaadoor", sum := "92eeb6c8f221fc332224b19c7ebaf39db2eceb93bf31b09135c5c0352b1a7291", func := "vigil/vigillaw08.CallsNone", spec := "callsNone", unfollowed := true, recurses := true, named := ["vigil/tree.stmtShapes", "vigil/tree.exprShapes", "vigil/types.rules"], loops := true, plainKeys := false, apart := false, laid := [("vigil/tree.exprShapes", laid_vigil_tree_exprShapes), ("vigil/tree.stmtShapes", laid_vigil_tree_stmtShapes), ("vigil/types.rules", laid_vigil_types_rules)] }
def CallsNoneSaid : Prop := callsNoneRow.holds Tryd.pinned (OpenSpec.ofChange callsNoneSpec)

/-- ITS FALSE NEIGHBOUR: 'it returns false'. Refute it at one input. -/
def callsNoneWrong : ChangeSpec := { name := "callsNone", fn := fun _ => fun
  | [d1, d2] => { results := [.lit (.bool false)], args := [d1, d2] }
  | _ => none }
def CallsNoneWrongFalsely : Prop := callsNoneRow.holds Tryd.pinned (OpenSpec.ofChange callsNoneWrong)

/-- 'vigillaw08.CallsParts': WHATEVER THE INPUT: true; the input reads as it did. -/
def callsPartsSpec : ChangeSpec := { name := "callsParts", fn := fun _ => fun
  | [d1, d2, d3] => { results := [.lit (.bool true)], args := [d1, d2, d3] }
  | _ => none }
def callsPartsRow : OpenClaim := { program := "ytpbjikncobnkjaadoor", sum := "92eeb6c8f221fc332224b19c7ebaf39db2eceb93bf31b09135c5c0352b1a7291", func := "vigil/vigillaw08.CallsParts", spec := "callsParts", unfollowed := true, recurses := true, named := ["vigil/tree.stmtShapes", "vigil/tree.exprShapes", "vigil/types.rules"], loops := true, plainKeys := false, apart := false, laid := [("vigil/tree.exprShapes", laid_vigil_tree_exprShapes), ("vigil/tree.stmtShapes", laid_vigil_tree_stmtShapes), ("vigil/types.rules", laid_vigil_types_rules)] }
def CallsPartsSaid : Prop := callsPartsRow.holds Tryd.pinned (OpenSpec.ofChange callsPartsSpec)

/-- ITS FALSE NEIGHBOUR: 'it returns false'. Refute it at one input. -/
def callsPartsWrong : ChangeSpec := { name := "callsParts", fn := fun _ => fun
  | [d1, d2, d3] => { results := [.lit (.bool false)], args := [d1, d2, d3] }
  | _ => none }
def CallsPartsWrongFalsely : Prop := callsPartsRow.holds Tryd.pinned (OpenSpec.ofChange callsPartsWrong)

/-- 'vigillaw08.CallsBig': WHATEVER THE INPUT: true; the input reads as it did. -/
def callsBigSpec : ChangeSpec := { name := "callsBig", fn := fun _ => fun
  | [d] => { results := [.lit (.bool true)], args := [d] }
  | _ => none }
def callsBigRow : OpenClaim := { program := "ytpbjikncobnkjaadoor", sum := "92eeb6c8f221fc332224b19c7ebaf39db2eceb93bf31b09135c5c0352b1a7291", func := "vigil/vigillaw08.CallsBig", spec := "callsBig", unfollowed := true, recurses := true, named := ["vigil/tree.stmtShapes", "vigil/tree.exprShapes", "vigil/types.rules"], plainKeys := false, apart := false, laid := [("vigil/tree.exprShapes", laid_vigil_tree_exprShapes), ("vigil/tree.stmtShapes", laid_vigil_tree_stmtShapes), ("vigil/types.rules", laid_vigil_types_rules)] }
def CallsBigSaid : Prop := callsBigRow.holds Tryd.pinned (OpenSpec.ofChange callsBigSpec)

/-- ITS FALSE NEIGHBOUR: 'it returns false'. Refute it at one input. -/
def callsBigWrong : ChangeSpec := { name := "callsBig", fn := fun _ => fun
  | [d] => { results := [.lit (.bool false)], args := [d] }
  | _ => none }
def CallsBigWrongFalsely : Prop := callsBigRow.holds Tryd.pinned (OpenSpec.ofChange callsBigWrong)

/- THE SECOND FORM. 'bulk': how many values and letters a reading holds, each counted each time it is reached (what is shared counts as often as it is met; a slice's spare places count too). A statement '..UptoSaid' is the law's where the arguments, and the package variables that the reading takes, are together of bulk at most 1048576: NARROWER than '..Said'. Prove '..Said' where nothing that the law and all that it calls make is longer than what came in: it says more and counts as full. Else prove '..UptoSaid'. A law counts once. -/
mutual
def uptoBulk {H : Type} : DataW H → Nat
  | .lit (.string bytes) => bytes.length + 1
  | .lit _ => 1
  | .nil => 1
  | .ptr d => uptoBulk d + 1
  | .slice elems spare => uptoBulkAll elems + uptoBulkAll spare + 1
  | .agg parts => uptoBulkAll parts + 1
  | .iface _ d => uptoBulk d + 1
  | .map entries => uptoBulkEntries entries + 1
  | .held _ => 1
def uptoBulkAll {H : Type} : List (DataW H) → Nat
  | [] => 0
  | d :: r => uptoBulk d + uptoBulkAll r
def uptoBulkEntries {H : Type} : List (Lit × DataW H) → Nat
  | [] => 0
  | x :: r => uptoBulkEntry x + uptoBulkEntries r
def uptoBulkEntry {H : Type} : Lit × DataW H → Nat
  | (.string bytes, d) => bytes.length + uptoBulk d + 1
  | (_, d) => uptoBulk d + 1
 end
def uptoSmall : (H : Type) → List (DataW H) → Bool := fun _ ds => decide (uptoBulkAll ds ≤ 1048576)
def OpenSpec.upto (s : _root_.Go.ChangeSpec) : _root_.Go.OpenSpec := { _root_.Go.OpenSpec.ofChange s with cond := some uptoSmall }

/-- 'vigillaw08.CallsNone', WHERE WHAT IT READS IS OF BULK AT MOST 1048576: true; the input reads as it did. -/
def callsNoneUptoRow : OpenClaim := { program := "ytpbjikncobnkjaadoor", sum := "92eeb6c8f221fc332224b19c7ebaf39db2eceb93bf31b09135c5c0352b1a7291", func := "vigil/vigillaw08.CallsNone", spec := "callsNone", unfollowed := true, recurses := true, named := ["vigil/tree.stmtShapes", "vigil/tree.exprShapes", "vigil/types.rules"], loops := true, plainKeys := false, apart := false, laid := [("vigil/tree.exprShapes", laid_vigil_tree_exprShapes), ("vigil/tree.stmtShapes", laid_vigil_tree_stmtShapes), ("vigil/types.rules", laid_vigil_types_rules)], narrowed := true }
def CallsNoneUptoSaid : Prop := callsNoneUptoRow.holds Tryd.pinned (OpenSpec.upto callsNoneSpec)

/-- 'vigillaw08.CallsParts', WHERE WHAT IT READS IS OF BULK AT MOST 1048576: true; the input reads as it did. -/
def callsPartsUptoRow : OpenClaim := { program := "ytpbjikncobnkjaadoor", sum := "92eeb6c8f221fc332224b19c7ebaf39db2eceb93bf31b09135c5c0352b1a7291", func := "vigil/vigillaw08.CallsParts", spec := "callsParts", unfollowed := true, recurses := true, named := ["vigil/tree.stmtShapes", "vigil/tree.exprShapes", "vigil/types.rules"], loops := true, plainKeys := false, apart := false, laid := [("vigil/tree.exprShapes", laid_vigil_tree_exprShapes), ("vigil/tree.stmtShapes", laid_vigil_tree_stmtShapes), ("vigil/types.rules", laid_vigil_types_rules)], narrowed := true }
def CallsPartsUptoSaid : Prop := callsPartsUptoRow.holds Tryd.pinned (OpenSpec.upto callsPartsSpec)

/-- 'vigillaw08.CallsBig', WHERE WHAT IT READS IS OF BULK AT MOST 1048576: true; the input reads as it did. -/
def callsBigUptoRow : OpenClaim := { program := "ytpbjikncobnkjaadoor", sum := "92eeb6c8f221fc332224b19c7ebaf39db2eceb93bf31b09135c5c0352b1a7291", func := "vigil/vigillaw08.CallsBig", spec := "callsBig", unfollowed := true, recurses := true, named := ["vigil/tree.stmtShapes", "vigil/tree.exprShapes", "vigil/types.rules"], plainKeys := false, apart := false, laid := [("vigil/tree.exprShapes", laid_vigil_tree_exprShapes), ("vigil/tree.stmtShapes", laid_vigil_tree_stmtShapes), ("vigil/types.rules", laid_vigil_types_rules)], narrowed := true }
def CallsBigUptoSaid : Prop := callsBigUptoRow.holds Tryd.pinned (OpenSpec.upto callsBigSpec)

end Rows
end Go.Proofs.YtpbjikncobnkjaaDoor
