/-
  NARROWER THAN 'FOR EVERY INPUT', by the rows' own cells (each row's printed sentence says how): CallsChecks: loops, laid · CallsInlines: loops, laid.
  DERIVED. THE GIVEN ROWS OF THIS SEAT. 2 by the template 'for every input the law returns true; each argument reads behind the call as it read before'; 0 by the template 'total and deterministic' (their statements: YtpbjikncobnkjaaGreatDoorTotals.lean).
  GIVEN WITH THE SEED: the statements are not yours to turn. If you find one false, say at which input.
  Laid BY PROGRAM, IN A SANDBOX (cutbox-rows.mjs): the forced cells as the released guide's own fill.sh prints them over the translation ac8d69128a917867… (all of the seat's roots in one cut). By AI agents, Wed Nov 11 2026. No macro, syntax, notation, axiom, sorry.
-/
import Derived.Test.YtpbjikncobnkjaaGreatDoorChecked
import GoSem.Claim
import GoSem.ClaimJoined
import GoSem.ClaimMapViews
import Derived.JoinedTies
import Derived.KernelRfl
namespace Go.Proofs.YtpbjikncobnkjaaGreatDoor
/- THE CELL 'sum', in the pinned program and in every row, IS THE sha256 OF THE DUMP (.gsa) THAT YtpbjikncobnkjaaGreatDoorProg.lean LOADS. Nothing in Lean hashes anything: it is a label: what it is worth is what the hold of that sum in a sandbox is worth. -/
noncomputable def Tryz.pinned : Pinned := { name := "ytpbjikncobnkjaagreatdoor", sum := "ac8d69128a917867ca408b9c53d76e4bf9576c2c11798f22537819417d794b92", checked := Tryz.checked }
namespace Rows
def none {H : Type} : Left H := { results := [], args := [] }

/- WHAT THE LISTED PACKAGE-LEVEL VARIABLES READ AS WHEN THE CALL BEGINS. Each datum BY PROGRAM (the guide's laid-datum.mjs) off the statement by which the dump's own 'gosem.cut.vars' lays the variable. In a bare row this is a premise. The card (YtpbjikncobnkjaaGreatDoorCards.lean) ties it to the program's text. -/
def laid_vigil_tree_exprShapes {H : Type} : DataW H := .agg [.agg [.lit (.bool false), .lit (.bool false), .lit (.int .i64 0)], .agg [.lit (.bool false), .lit (.bool true), .lit (.int .i64 0)], .agg [.lit (.bool false), .lit (.bool false), .lit (.int .i64 0)], .agg [.lit (.bool false), .lit (.bool false), .lit (.int .i64 0)], .agg [.lit (.bool true), .lit (.bool false), .lit (.int .i64 0)], .agg [.lit (.bool false), .lit (.bool false), .lit (.int .i64 1)], .agg [.lit (.bool false), .lit (.bool false), .lit (.int .i64 1)], .agg [.lit (.bool false), .lit (.bool true), .lit (.int .i64 1)], .agg [.lit (.bool false), .lit (.bool false), .lit (.int .i64 2)], .agg [.lit (.bool false), .lit (.bool false), .lit (.int .i64 2)], .agg [.lit (.bool false), .lit (.bool false), .lit (.int .i64 2)], .agg [.lit (.bool false), .lit (.bool false), .lit (.int .i64 2)], .agg [.lit (.bool false), .lit (.bool false), .lit (.int .i64 2)], .agg [.lit (.bool false), .lit (.bool false), .lit (.int .i64 2)], .agg [.lit (.bool false), .lit (.bool false), .lit (.int .i64 2)], .agg [.lit (.bool false), .lit (.bool false), .lit (.int .i64 2)], .agg [.lit (.bool false), .lit (.bool false), .lit (.int .i64 2)], .agg [.lit (.bool false), .lit (.bool false), .lit (.int .i64 2)]]
def laid_vigil_tree_stmtShapes {H : Type} : DataW H := .agg [.agg [.lit (.bool false), .lit (.bool false), .lit (.bool false), .lit (.bool false), .lit (.int .i64 0), .lit (.int .i64 0)], .agg [.lit (.bool false), .lit (.bool false), .lit (.bool false), .lit (.bool false), .lit (.int .i64 0), .lit (.int .i64 0)], .agg [.lit (.bool true), .lit (.bool true), .lit (.bool false), .lit (.bool true), .lit (.int .i64 0), .lit (.int .i64 0)], .agg [.lit (.bool false), .lit (.bool false), .lit (.bool false), .lit (.bool true), .lit (.int .i64 1), .lit (.int .i64 2)], .agg [.lit (.bool false), .lit (.bool false), .lit (.bool false), .lit (.bool true), .lit (.int .i64 1), .lit (.int .i64 1)], .agg [.lit (.bool false), .lit (.bool false), .lit (.bool false), .lit (.bool false), .lit (.int .i64 1), .lit (.int .i64 1)], .agg [.lit (.bool false), .lit (.bool false), .lit (.bool false), .lit (.bool false), .lit (.int .i64 1), .lit (.int .i64 8)], .agg [.lit (.bool true), .lit (.bool false), .lit (.bool false), .lit (.bool false), .lit (.int .i64 1), .lit (.int .i64 1)], .agg [.lit (.bool true), .lit (.bool true), .lit (.bool false), .lit (.bool false), .lit (.int .i64 0), .lit (.int .i64 0)], .agg [.lit (.bool true), .lit (.bool false), .lit (.bool true), .lit (.bool false), .lit (.int .i64 0), .lit (.int .i64 0)], .agg [.lit (.bool true), .lit (.bool false), .lit (.bool false), .lit (.bool false), .lit (.int .i64 0), .lit (.int .i64 0)], .agg [.lit (.bool true), .lit (.bool false), .lit (.bool false), .lit (.bool false), .lit (.int .i64 0), .lit (.int .i64 0)]]
def laid_vigil_types_rules {H : Type} : DataW H := .agg [.agg [.lit (.int .i64 0), .lit (.int .i64 0)], .agg [.lit (.int .i64 2), .lit (.int .i64 0)], .agg [.lit (.int .i64 1), .lit (.int .i64 0)], .agg [.lit (.int .i64 1), .lit (.int .i64 0)], .agg [.lit (.int .i64 0), .lit (.int .i64 0)], .agg [.lit (.int .i64 1), .lit (.int .i64 1)], .agg [.lit (.int .i64 2), .lit (.int .i64 2)], .agg [.lit (.int .i64 2), .lit (.int .i64 2)], .agg [.lit (.int .i64 2), .lit (.int .i64 2)], .agg [.lit (.int .i64 2), .lit (.int .i64 2)], .agg [.lit (.int .i64 1), .lit (.int .i64 (-1))], .agg [.lit (.int .i64 1), .lit (.int .i64 (-1))], .agg [.lit (.int .i64 1), .lit (.int .i64 2)], .agg [.lit (.int .i64 1), .lit (.int .i64 2)], .agg [.lit (.int .i64 1), .lit (.int .i64 2)], .agg [.lit (.int .i64 1), .lit (.int .i64 2)], .agg [.lit (.int .i64 1), .lit (.int .i64 1)], .agg [.lit (.int .i64 1), .lit (.int .i64 1)]]

/-- 'vigillaw08.CallsChecks': WHATEVER THE INPUT: true; the input reads as it did. -/
def callsChecksSpec : ChangeSpec := { name := "callsChecks", fn := fun _ => fun
  | [d] => { results := [.lit (.bool true)], args := [d] }
  | _ => none }
def callsChecksRow : OpenClaim := { program := "ytpbjikncobnkjaagreatdoor", sum := "ac8d69128a917867ca408b9c53d76e4bf9576c2c11798f22537819417d794b92", func := "vigil/vigillaw08.CallsChecks", spec := "callsChecks", unfollowed := true, recurses := true, named := ["vigil/tree.stmtShapes", "vigil/tree.exprShapes", "vigil/types.rules"], loops := true, plainKeys := false, apart := false, laid := [("vigil/tree.exprShapes", laid_vigil_tree_exprShapes), ("vigil/tree.stmtShapes", laid_vigil_tree_stmtShapes), ("vigil/types.rules", laid_vigil_types_rules)] }
def CallsChecksSaid : Prop := callsChecksRow.holds Tryz.pinned (OpenSpec.ofChange callsChecksSpec)

/-- ITS FALSE NEIGHBOUR: 'it returns false'. Refute it at one input. -/
def callsChecksWrong : ChangeSpec := { name := "callsChecks", fn := fun _ => fun
  | [d] => { results := [.lit (.bool false)], args := [d] }
  | _ => none }
def CallsChecksWrongFalsely : Prop := callsChecksRow.holds Tryz.pinned (OpenSpec.ofChange callsChecksWrong)

/-- 'vigillaw08.CallsInlines': WHATEVER THE INPUT: true; the input reads as it did. -/
def callsInlinesSpec : ChangeSpec := { name := "callsInlines", fn := fun _ => fun
  | [d1, d2] => { results := [.lit (.bool true)], args := [d1, d2] }
  | _ => none }
def callsInlinesRow : OpenClaim := { program := "ytpbjikncobnkjaagreatdoor", sum := "ac8d69128a917867ca408b9c53d76e4bf9576c2c11798f22537819417d794b92", func := "vigil/vigillaw08.CallsInlines", spec := "callsInlines", unfollowed := true, recurses := true, named := ["vigil/tree.stmtShapes", "vigil/tree.exprShapes", "vigil/types.rules"], loops := true, plainKeys := false, apart := false, laid := [("vigil/tree.exprShapes", laid_vigil_tree_exprShapes), ("vigil/tree.stmtShapes", laid_vigil_tree_stmtShapes), ("vigil/types.rules", laid_vigil_types_rules)] }
def CallsInlinesSaid : Prop := callsInlinesRow.holds Tryz.pinned (OpenSpec.ofChange callsInlinesSpec)

/-- ITS FALSE NEIGHBOUR: 'it returns false'. Refute it at one input. -/
def callsInlinesWrong : ChangeSpec := { name := "callsInlines", fn := fun _ => fun
  | [d1, d2] => { results := [.lit (.bool false)], args := [d1, d2] }
  | _ => none }
def CallsInlinesWrongFalsely : Prop := callsInlinesRow.holds Tryz.pinned (OpenSpec.ofChange callsInlinesWrong)

/- THE SECOND FORM. 'bulk': how many values and letters a reading holds, each counted each time it is reached (what is shared counts as often as it is met; a slice's spare places count too). A statement '..UptoSaid' is the law's where the arguments, and the package variables that the reading takes, are together of bulk at most 1048576: NARROWER than '..Said'. Prove '..Said' where nothing that the law and all that it calls make is longer than what came in: it says more and counts as full. Else prove '..UptoSaid'. A law counts once. -/
mutual
def uptoBulk {H : Type} : DataW H → Nat
  | .lit (.string bytes) => bytes.length + 1
  | .lit _ => 1
  | .nil => 1
  | .ptr d => uptoBulk d + 1
  | .slice elems spare => uptoBulkAll elems + uptoBulkAll spare + 1
  | .agg parts => uptoBulkAll parts + 1
  | .iface _ d => uptoBulk d + 1
  | .map entries => uptoBulkEntries entries + 1
  | .held _ => 1
def uptoBulkAll {H : Type} : List (DataW H) → Nat
  | [] => 0
  | d :: r => uptoBulk d + uptoBulkAll r
def uptoBulkEntries {H : Type} : List (Lit × DataW H) → Nat
  | [] => 0
  | x :: r => uptoBulkEntry x + uptoBulkEntries r
def uptoBulkEntry {H : Type} : Lit × DataW H → Nat
  | (.string bytes, d) => bytes.length + uptoBulk d + 1
  | (_, d) => uptoBulk d + 1
 end
def uptoSmall : (H : Type) → List (DataW H) → Bool := fun _ ds => decide (uptoBulkAll ds ≤ 1048576)
def OpenSpec.upto (s : _root_.Go.ChangeSpec) : _root_.Go.OpenSpec := { _root_.Go.OpenSpec.ofChange s with cond := some uptoSmall }

/-- 'vigillaw08.CallsChecks', WHERE WHAT IT READS IS OF BULK AT MOST 1048576: true; the input reads as it did. -/
def callsChecksUptoRow : OpenClaim := { program := "ytpbjikncobnkjaagreatdoor", sum := "ac8d69128a917867ca408b9c53d76e4bf9576c2c11798f22537819417d794b92", func := "vigil/vigillaw08.CallsChecks", spec := "callsChecks", unfollowed := true, recurses := true, named := ["vigil/tree.stmtShapes", "vigil/tree.exprShapes", "vigil/types.rules"], loops := true, plainKeys := false, apart := false, laid := [("vigil/tree.exprShapes", laid_vigil_tree_exprShapes), ("vigil/tree.stmtShapes", laid_vigil_tree_stmtShapes), ("vigil/types.rules", laid_vigil_types_rules)], narrowed := true }
def CallsChecksUptoSaid : Prop := callsChecksUptoRow.holds Tryz.pinned (OpenSpec.upto callsChecksSpec)

/-- 'vigillaw08.CallsInlines', WHERE WHAT IT READS IS OF BULK AT MOST 1048576: true; the input reads as it did. -/
def callsInlinesUptoRow : OpenClaim := { program := "ytpbjikncobnkjaagreatdoor", sum := "ac8d69128a917867ca408b9c53d76e4bf9576c2c11798f22537819417d794b92", func := "vigil/vigillaw08.CallsInlines", spec := "callsInlines", unfollowed := true, recurses := true, named := ["vigil/tree.stmtShapes", "vigil/tree.exprShapes", "vigil/types.rules"], loops := true, plainKeys := false, apart := false, laid := [("vigil/tree.exprShapes", laid_vigil_tree_exprShapes), ("vigil/tree.stmtShapes", laid_vigil_tree_stmtShapes), ("vigil/types.rules", laid_vigil_types_rules)], narrowed := true }
def CallsInlinesUptoSaid : Prop := callsInlinesUptoRow.holds Tryz.pinned (OpenSpec.upto callsInlinesSpec)

end Rows
end Go.Proofs.YtpbjikncobnkjaaGreatDoor
