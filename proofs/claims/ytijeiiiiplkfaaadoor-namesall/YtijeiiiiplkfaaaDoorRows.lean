/-
  NARROWER THAN 'FOR EVERY INPUT', by the rows' own cells (each row's printed sentence says how): NamesChecks: loops, laid · NamesFinds: loops, laid · NamesAll: loops, laid · NamesOrder: loops, laid.
  DERIVED. THE GIVEN ROWS OF THIS SEAT. 4 by the template 'for every input the law returns true; each argument reads behind the call as it read before'; 0 by the template 'total and deterministic' (their statements: YtijeiiiiplkfaaaDoorTotals.lean).
  GIVEN WITH THE SEED: the statements are not yours to turn. If you find one false, say at which input.
  Laid BY PROGRAM, IN A SANDBOX (cutbox-rows.mjs): the forced cells as the released guide's own fill.sh prints them over the translation 38dc7b398c1946c7… (all of the seat's roots in one cut). By AI agents, Wed Nov 11 2026. No macro, syntax, notation, axiom, sorry.
-/
import Derived.Test.YtijeiiiiplkfaaaDoorChecked
import GoSem.Claim
import GoSem.ClaimJoined
import GoSem.ClaimMapViews
import Derived.JoinedTies
import Derived.KernelRfl
namespace Go.Proofs.YtijeiiiiplkfaaaDoor
/- THE CELL 'sum', in the pinned program and in every row, IS THE sha256 OF THE DUMP (.gsa) THAT YtijeiiiiplkfaaaDoorProg.lean LOADS. Nothing in Lean hashes anything: it is a label: what it is worth is what the hold of that sum in a sandbox is worth. -/
noncomputable def Tryd.pinned : Pinned := { name := "ytijeiiiiplkfaaadoor", sum := "38dc7b398c1946c7d2729177466a13fb9d50e72bd3ba33b9235295dc09503876", checked := Tryd.checked }
namespace Rows
def none {H : Type} : Left H := { results := [], args := [] }

/- WHAT THE LISTED PACKAGE-LEVEL VARIABLES READ AS WHEN THE CALL BEGINS. Each datum BY PROGRAM (the guide's laid-datum.mjs) off the statement by which the dump's own 'gosem.cut.vars' lays the variable. In a bare row this is a premise. The card (YtijeiiiiplkfaaaDoorCards.lean) ties it to the program's text. -/
def laid_vigil_tree_exprShapes {H : Type} : DataW H := .agg [.agg [.lit (.bool false), .lit (.bool false), .lit (.int .i64 0)], .agg [.lit (.bool false), .lit (.bool true), .lit (.int .i64 0)], .agg [.lit (.bool false), .lit (.bool false), .lit (.int .i64 0)], .agg [.lit (.bool false), .lit (.bool false), .lit (.int .i64 0)], .agg [.lit (.bool true), .lit (.bool false), .lit (.int .i64 0)], .agg [.lit (.bool false), .lit (.bool false), .lit (.int .i64 1)], .agg [.lit (.bool false), .lit (.bool false), .lit (.int .i64 1)], .agg [.lit (.bool false), .lit (.bool true), .lit (.int .i64 1)], .agg [.lit (.bool false), .lit (.bool false), .lit (.int .i64 2)], .agg [.lit (.bool false), .lit (.bool false), .lit (.int .i64 2)], .agg [.lit (.bool false), .lit (.bool false), .lit (.int .i64 2)], .agg [.lit (.bool false), .lit (.bool false), .lit (.int .i64 2)], .agg [.lit (.bool false), .lit (.bool false), .lit (.int .i64 2)], .agg [.lit (.bool false), .lit (.bool false), .lit (.int .i64 2)], .agg [.lit (.bool false), .lit (.bool false), .lit (.int .i64 2)], .agg [.lit (.bool false), .lit (.bool false), .lit (.int .i64 2)], .agg [.lit (.bool false), .lit (.bool false), .lit (.int .i64 2)], .agg [.lit (.bool false), .lit (.bool false), .lit (.int .i64 2)]]
def laid_vigil_tree_stmtShapes {H : Type} : DataW H := .agg [.agg [.lit (.bool false), .lit (.bool false), .lit (.bool false), .lit (.bool false), .lit (.int .i64 0), .lit (.int .i64 0)], .agg [.lit (.bool false), .lit (.bool false), .lit (.bool false), .lit (.bool false), .lit (.int .i64 0), .lit (.int .i64 0)], .agg [.lit (.bool true), .lit (.bool true), .lit (.bool false), .lit (.bool true), .lit (.int .i64 0), .lit (.int .i64 0)], .agg [.lit (.bool false), .lit (.bool false), .lit (.bool false), .lit (.bool true), .lit (.int .i64 1), .lit (.int .i64 2)], .agg [.lit (.bool false), .lit (.bool false), .lit (.bool false), .lit (.bool true), .lit (.int .i64 1), .lit (.int .i64 1)], .agg [.lit (.bool false), .lit (.bool false), .lit (.bool false), .lit (.bool false), .lit (.int .i64 1), .lit (.int .i64 1)], .agg [.lit (.bool false), .lit (.bool false), .lit (.bool false), .lit (.bool false), .lit (.int .i64 1), .lit (.int .i64 8)], .agg [.lit (.bool true), .lit (.bool false), .lit (.bool false), .lit (.bool false), .lit (.int .i64 1), .lit (.int .i64 1)], .agg [.lit (.bool true), .lit (.bool true), .lit (.bool false), .lit (.bool false), .lit (.int .i64 0), .lit (.int .i64 0)], .agg [.lit (.bool true), .lit (.bool false), .lit (.bool true), .lit (.bool false), .lit (.int .i64 0), .lit (.int .i64 0)], .agg [.lit (.bool true), .lit (.bool false), .lit (.bool false), .lit (.bool false), .lit (.int .i64 0), .lit (.int .i64 0)], .agg [.lit (.bool true), .lit (.bool false), .lit (.bool false), .lit (.bool false), .lit (.int .i64 0), .lit (.int .i64 0)]]

/-- 'vigillaw06.NamesChecks': WHATEVER THE INPUT: true; the input reads as it did. -/
def namesChecksSpec : ChangeSpec := { name := "namesChecks", fn := fun _ => fun
  | [d] => { results := [.lit (.bool true)], args := [d] }
  | _ => none }
def namesChecksRow : OpenClaim := { program := "ytijeiiiiplkfaaadoor", sum := "38dc7b398c1946c7d2729177466a13fb9d50e72bd3ba33b9235295dc09503876", func := "vigil/vigillaw06.NamesChecks", spec := "namesChecks", unfollowed := true, recurses := true, named := ["vigil/tree.stmtShapes", "vigil/tree.exprShapes"], loops := true, plainKeys := false, apart := false, laid := [("vigil/tree.exprShapes", laid_vigil_tree_exprShapes), ("vigil/tree.stmtShapes", laid_vigil_tree_stmtShapes)] }
def NamesChecksSaid : Prop := namesChecksRow.holds Tryd.pinned (OpenSpec.ofChange namesChecksSpec)

/-- ITS FALSE NEIGHBOUR: 'it returns false'. Refute it at one input. -/
def namesChecksWrong : ChangeSpec := { name := "namesChecks", fn := fun _ => fun
  | [d] => { results := [.lit (.bool false)], args := [d] }
  | _ => none }
def NamesChecksWrongFalsely : Prop := namesChecksRow.holds Tryd.pinned (OpenSpec.ofChange namesChecksWrong)

/-- 'vigillaw06.NamesFinds': WHATEVER THE INPUT: true; the input reads as it did. -/
def namesFindsSpec : ChangeSpec := { name := "namesFinds", fn := fun _ => fun
  | [d1, d2, d3] => { results := [.lit (.bool true)], args := [d1, d2, d3] }
  | _ => none }
def namesFindsRow : OpenClaim := { program := "ytijeiiiiplkfaaadoor", sum := "38dc7b398c1946c7d2729177466a13fb9d50e72bd3ba33b9235295dc09503876", func := "vigil/vigillaw06.NamesFinds", spec := "namesFinds", unfollowed := true, recurses := true, named := ["vigil/tree.stmtShapes", "vigil/tree.exprShapes"], loops := true, plainKeys := false, apart := false, laid := [("vigil/tree.exprShapes", laid_vigil_tree_exprShapes), ("vigil/tree.stmtShapes", laid_vigil_tree_stmtShapes)] }
def NamesFindsSaid : Prop := namesFindsRow.holds Tryd.pinned (OpenSpec.ofChange namesFindsSpec)

/-- ITS FALSE NEIGHBOUR: 'it returns false'. Refute it at one input. -/
def namesFindsWrong : ChangeSpec := { name := "namesFinds", fn := fun _ => fun
  | [d1, d2, d3] => { results := [.lit (.bool false)], args := [d1, d2, d3] }
  | _ => none }
def NamesFindsWrongFalsely : Prop := namesFindsRow.holds Tryd.pinned (OpenSpec.ofChange namesFindsWrong)

/-- 'vigillaw06.NamesAll': WHATEVER THE INPUT: true; the input reads as it did. -/
def namesAllSpec : ChangeSpec := { name := "namesAll", fn := fun _ => fun
  | [d1, d2] => { results := [.lit (.bool true)], args := [d1, d2] }
  | _ => none }
def namesAllRow : OpenClaim := { program := "ytijeiiiiplkfaaadoor", sum := "38dc7b398c1946c7d2729177466a13fb9d50e72bd3ba33b9235295dc09503876", func := "vigil/vigillaw06.NamesAll", spec := "namesAll", unfollowed := true, recurses := true, named := ["vigil/tree.exprShapes", "vigil/tree.stmtShapes"], loops := true, plainKeys := false, apart := false, laid := [("vigil/tree.exprShapes", laid_vigil_tree_exprShapes), ("vigil/tree.stmtShapes", laid_vigil_tree_stmtShapes)] }
def NamesAllSaid : Prop := namesAllRow.holds Tryd.pinned (OpenSpec.ofChange namesAllSpec)

/-- ITS FALSE NEIGHBOUR: 'it returns false'. Refute it at one input. -/
def namesAllWrong : ChangeSpec := { name := "namesAll", fn := fun _ => fun
  | [d1, d2] => { results := [.lit (.bool false)], args := [d1, d2] }
  | _ => none }
def NamesAllWrongFalsely : Prop := namesAllRow.holds Tryd.pinned (OpenSpec.ofChange namesAllWrong)

/-- 'vigillaw06.NamesOrder': WHATEVER THE INPUT: true; the input reads as it did. -/
def namesOrderSpec : ChangeSpec := { name := "namesOrder", fn := fun _ => fun
  | [d1, d2, d3] => { results := [.lit (.bool true)], args := [d1, d2, d3] }
  | _ => none }
def namesOrderRow : OpenClaim := { program := "ytijeiiiiplkfaaadoor", sum := "38dc7b398c1946c7d2729177466a13fb9d50e72bd3ba33b9235295dc09503876", func := "vigil/vigillaw06.NamesOrder", spec := "namesOrder", unfollowed := true, recurses := true, named := ["vigil/tree.stmtShapes", "vigil/tree.exprShapes"], loops := true, plainKeys := false, apart := false, laid := [("vigil/tree.exprShapes", laid_vigil_tree_exprShapes), ("vigil/tree.stmtShapes", laid_vigil_tree_stmtShapes)] }
def NamesOrderSaid : Prop := namesOrderRow.holds Tryd.pinned (OpenSpec.ofChange namesOrderSpec)

/-- ITS FALSE NEIGHBOUR: 'it returns false'. Refute it at one input. -/
def namesOrderWrong : ChangeSpec := { name := "namesOrder", fn := fun _ => fun
  | [d1, d2, d3] => { results := [.lit (.bool false)], args := [d1, d2, d3] }
  | _ => none }
def NamesOrderWrongFalsely : Prop := namesOrderRow.holds Tryd.pinned (OpenSpec.ofChange namesOrderWrong)

/- THE SECOND FORM. 'bulk': how many values and letters a reading holds, each counted each time it is reached (what is shared counts as often as it is met; a slice's spare places count too). A statement '..UptoSaid' is the law's where the arguments, and the package variables that the reading takes, are together of bulk at most 1048576: NARROWER than '..Said'. Prove '..Said' where nothing that the law and all that it calls make is longer than what came in: it says more and counts as full. Else prove '..UptoSaid'. A law counts once. -/
mutual
def uptoBulk {H : Type} : DataW H → Nat
  | .lit (.string bytes) => bytes.length + 1
  | .lit _ => 1
  | .nil => 1
  | .ptr d => uptoBulk d + 1
  | .slice elems spare => uptoBulkAll elems + uptoBulkAll spare + 1
  | .agg parts => uptoBulkAll parts + 1
  | .iface _ d => uptoBulk d + 1
  | .map entries => uptoBulkEntries entries + 1
  | .held _ => 1
def uptoBulkAll {H : Type} : List (DataW H) → Nat
  | [] => 0
  | d :: r => uptoBulk d + uptoBulkAll r
def uptoBulkEntries {H : Type} : List (Lit × DataW H) → Nat
  | [] => 0
  | x :: r => uptoBulkEntry x + uptoBulkEntries r
def uptoBulkEntry {H : Type} : Lit × DataW H → Nat
  | (.string bytes, d) => bytes.length + uptoBulk d + 1
  | (_, d) => uptoBulk d + 1
 end
def uptoSmall : (H : Type) → List (DataW H) → Bool := fun _ ds => decide (uptoBulkAll ds ≤ 1048576)
def OpenSpec.upto (s : _root_.Go.ChangeSpec) : _root_.Go.OpenSpec := { _root_.Go.OpenSpec.ofChange s with cond := some uptoSmall }

/-- 'vigillaw06.NamesChecks', WHERE WHAT IT READS IS OF BULK AT MOST 1048576: true; the input reads as it did. -/
def namesChecksUptoRow : OpenClaim := { program := "ytijeiiiiplkfaaadoor", sum := "38dc7b398c1946c7d2729177466a13fb9d50e72bd3ba33b9235295dc09503876", func := "vigil/vigillaw06.NamesChecks", spec := "namesChecks", unfollowed := true, recurses := true, named := ["vigil/tree.stmtShapes", "vigil/tree.exprShapes"], loops := true, plainKeys := false, apart := false, laid := [("vigil/tree.exprShapes", laid_vigil_tree_exprShapes), ("vigil/tree.stmtShapes", laid_vigil_tree_stmtShapes)], narrowed := true }
def NamesChecksUptoSaid : Prop := namesChecksUptoRow.holds Tryd.pinned (OpenSpec.upto namesChecksSpec)

/-- 'vigillaw06.NamesFinds', WHERE WHAT IT READS IS OF BULK AT MOST 1048576: true; the input reads as it did. -/
def namesFindsUptoRow : OpenClaim := { program := "ytijeiiiiplkfaaadoor", sum := "38dc7b398c1946c7d2729177466a13fb9d50e72bd3ba33b9235295dc09503876", func := "vigil/vigillaw06.NamesFinds", spec := "namesFinds", unfollowed := true, recurses := true, named := ["vigil/tree.stmtShapes", "vigil/tree.exprShapes"], loops := true, plainKeys := false, apart := false, laid := [("vigil/tree.exprShapes", laid_vigil_tree_exprShapes), ("vigil/tree.stmtShapes", laid_vigil_tree_stmtShapes)], narrowed := true }
def NamesFindsUptoSaid : Prop := namesFindsUptoRow.holds Tryd.pinned (OpenSpec.upto namesFindsSpec)

/-- 'vigillaw06.NamesAll', WHERE WHAT IT READS IS OF BULK AT MOST 1048576: true; the input reads as it did. -/
def namesAllUptoRow : OpenClaim := { program := "ytijeiiiiplkfaaadoor", sum := "38dc7b398c1946c7d2729177466a13fb9d50e72bd3ba33b9235295dc09503876", func := "vigil/vigillaw06.NamesAll", spec := "namesAll", unfollowed := true, recurses := true, named := ["vigil/tree.exprShapes", "vigil/tree.stmtShapes"], loops := true, plainKeys := false, apart := false, laid := [("vigil/tree.exprShapes", laid_vigil_tree_exprShapes), ("vigil/tree.stmtShapes", laid_vigil_tree_stmtShapes)], narrowed := true }
def NamesAllUptoSaid : Prop := namesAllUptoRow.holds Tryd.pinned (OpenSpec.upto namesAllSpec)

/-- 'vigillaw06.NamesOrder', WHERE WHAT IT READS IS OF BULK AT MOST 1048576: true; the input reads as it did. -/
def namesOrderUptoRow : OpenClaim := { program := "ytijeiiiiplkfaaadoor", sum := "38dc7b398c1946c7d2729177466a13fb9d50e72bd3ba33b9235295dc09503876", func := "vigil/vigillaw06.NamesOrder", spec := "namesOrder", unfollowed := true, recurses := true, named := ["vigil/tree.stmtShapes", "vigil/tree.exprShapes"], loops := true, plainKeys := false, apart := false, laid := [("vigil/tree.exprShapes", laid_vigil_tree_exprShapes), ("vigil/tree.stmtShapes", laid_vigil_tree_stmtShapes)], narrowed := true }
def NamesOrderUptoSaid : Prop := namesOrderUptoRow.holds Tryd.pinned (OpenSpec.upto namesOrderSpec)

end Rows
end Go.Proofs.YtijeiiiiplkfaaaDoor
