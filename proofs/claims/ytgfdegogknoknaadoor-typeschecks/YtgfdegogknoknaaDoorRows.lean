/-
  NARROWER THAN 'FOR EVERY INPUT', by the rows' own cells (each row's printed sentence says how): TypesExprs: loops, laid · TypesChecks: loops, laid · TypesParts: loops, laid · TypesMore: loops, laid · TypesClosed: loops, laid.
  DERIVED. THE GIVEN ROWS OF THIS SEAT. 5 by the template 'for every input the law returns true; each argument reads behind the call as it read before'; 0 by the template 'total and deterministic' (their statements: YtgfdegogknoknaaDoorTotals.lean).
  GIVEN WITH THE SEED: the statements are not yours to turn. If you find one false, say at which input.
  Laid BY PROGRAM, IN A SANDBOX (cutbox-rows.mjs): the forced cells as the released guide's own fill.sh prints them over the translation ef27a38765b0dc9a… (all of the seat's roots in one cut). By AI agents, Wed Nov 11 2026. No macro, syntax, notation, axiom, sorry.
-/
import Derived.Test.YtgfdegogknoknaaDoorChecked
import GoSem.Claim
import GoSem.ClaimJoined
import GoSem.ClaimMapViews
import Derived.JoinedTies
import Derived.KernelRfl
namespace Go.Proofs.YtgfdegogknoknaaDoor
/- THE CELL 'sum', in the pinned program and in every row, IS THE sha256 OF THE DUMP (.gsa) THAT YtgfdegogknoknaaDoorProg.lean LOADS. Nothing in Lean hashes anything: it is a label: what it is worth is what the hold of that sum in a sandbox is worth. -/
noncomputable def Tryd.pinned : Pinned := { name := "ytgfdegogknoknaadoor", sum := "ef27a38765b0dc9ada3e77c92424640ef6b4a3e3aad970fb0269b6607ab901c0", checked := Tryd.checked }
namespace Rows
def none {H : Type} : Left H := { results := [], args := [] }

/- WHAT THE LISTED PACKAGE-LEVEL VARIABLES READ AS WHEN THE CALL BEGINS. Each datum BY PROGRAM (the guide's laid-datum.mjs) off the statement by which the dump's own 'gosem.cut.vars' lays the variable. In a bare row this is a premise. The card (YtgfdegogknoknaaDoorCards.lean) ties it to the program's text. -/
def laid_vigil_tree_exprShapes {H : Type} : DataW H := .agg [.agg [.lit (.bool false), .lit (.bool false), .lit (.int .i64 0)], .agg [.lit (.bool false), .lit (.bool true), .lit (.int .i64 0)], .agg [.lit (.bool false), .lit (.bool false), .lit (.int .i64 0)], .agg [.lit (.bool false), .lit (.bool false), .lit (.int .i64 0)], .agg [.lit (.bool true), .lit (.bool false), .lit (.int .i64 0)], .agg [.lit (.bool false), .lit (.bool false), .lit (.int .i64 1)], .agg [.lit (.bool false), .lit (.bool false), .lit (.int .i64 1)], .agg [.lit (.bool false), .lit (.bool true), .lit (.int .i64 1)], .agg [.lit (.bool false), .lit (.bool false), .lit (.int .i64 2)], .agg [.lit (.bool false), .lit (.bool false), .lit (.int .i64 2)], .agg [.lit (.bool false), .lit (.bool false), .lit (.int .i64 2)], .agg [.lit (.bool false), .lit (.bool false), .lit (.int .i64 2)], .agg [.lit (.bool false), .lit (.bool false), .lit (.int .i64 2)], .agg [.lit (.bool false), .lit (.bool false), .lit (.int .i64 2)], .agg [.lit (.bool false), .lit (.bool false), .lit (.int .i64 2)], .agg [.lit (.bool false), .lit (.bool false), .lit (.int .i64 2)], .agg [.lit (.bool false), .lit (.bool false), .lit (.int .i64 2)], .agg [.lit (.bool false), .lit (.bool false), .lit (.int .i64 2)]]
def laid_vigil_tree_stmtShapes {H : Type} : DataW H := .agg [.agg [.lit (.bool false), .lit (.bool false), .lit (.bool false), .lit (.bool false), .lit (.int .i64 0), .lit (.int .i64 0)], .agg [.lit (.bool false), .lit (.bool false), .lit (.bool false), .lit (.bool false), .lit (.int .i64 0), .lit (.int .i64 0)], .agg [.lit (.bool true), .lit (.bool true), .lit (.bool false), .lit (.bool true), .lit (.int .i64 0), .lit (.int .i64 0)], .agg [.lit (.bool false), .lit (.bool false), .lit (.bool false), .lit (.bool true), .lit (.int .i64 1), .lit (.int .i64 2)], .agg [.lit (.bool false), .lit (.bool false), .lit (.bool false), .lit (.bool true), .lit (.int .i64 1), .lit (.int .i64 1)], .agg [.lit (.bool false), .lit (.bool false), .lit (.bool false), .lit (.bool false), .lit (.int .i64 1), .lit (.int .i64 1)], .agg [.lit (.bool false), .lit (.bool false), .lit (.bool false), .lit (.bool false), .lit (.int .i64 1), .lit (.int .i64 8)], .agg [.lit (.bool true), .lit (.bool false), .lit (.bool false), .lit (.bool false), .lit (.int .i64 1), .lit (.int .i64 1)], .agg [.lit (.bool true), .lit (.bool true), .lit (.bool false), .lit (.bool false), .lit (.int .i64 0), .lit (.int .i64 0)], .agg [.lit (.bool true), .lit (.bool false), .lit (.bool true), .lit (.bool false), .lit (.int .i64 0), .lit (.int .i64 0)], .agg [.lit (.bool true), .lit (.bool false), .lit (.bool false), .lit (.bool false), .lit (.int .i64 0), .lit (.int .i64 0)], .agg [.lit (.bool true), .lit (.bool false), .lit (.bool false), .lit (.bool false), .lit (.int .i64 0), .lit (.int .i64 0)]]
def laid_vigil_types_rules {H : Type} : DataW H := .agg [.agg [.lit (.int .i64 0), .lit (.int .i64 0)], .agg [.lit (.int .i64 2), .lit (.int .i64 0)], .agg [.lit (.int .i64 1), .lit (.int .i64 0)], .agg [.lit (.int .i64 1), .lit (.int .i64 0)], .agg [.lit (.int .i64 0), .lit (.int .i64 0)], .agg [.lit (.int .i64 1), .lit (.int .i64 1)], .agg [.lit (.int .i64 2), .lit (.int .i64 2)], .agg [.lit (.int .i64 2), .lit (.int .i64 2)], .agg [.lit (.int .i64 2), .lit (.int .i64 2)], .agg [.lit (.int .i64 2), .lit (.int .i64 2)], .agg [.lit (.int .i64 1), .lit (.int .i64 (-1))], .agg [.lit (.int .i64 1), .lit (.int .i64 (-1))], .agg [.lit (.int .i64 1), .lit (.int .i64 2)], .agg [.lit (.int .i64 1), .lit (.int .i64 2)], .agg [.lit (.int .i64 1), .lit (.int .i64 2)], .agg [.lit (.int .i64 1), .lit (.int .i64 2)], .agg [.lit (.int .i64 1), .lit (.int .i64 1)], .agg [.lit (.int .i64 1), .lit (.int .i64 1)]]

/-- 'vigillaw07.TypesExprs': WHATEVER THE INPUT: true; the input reads as it did. -/
def typesExprsSpec : ChangeSpec := { name := "typesExprs", fn := fun _ => fun
  | [d1, d2] => { results := [.lit (.bool true)], args := [d1, d2] }
  | _ => none }
def typesExprsRow : OpenClaim := { program := "ytgfdegogknoknaadoor", sum := "ef27a38765b0dc9ada3e77c92424640ef6b4a3e3aad970fb0269b6607ab901c0", func := "vigil/vigillaw07.TypesExprs", spec := "typesExprs", unfollowed := true, recurses := true, named := ["vigil/tree.exprShapes", "vigil/types.rules", "vigil/tree.stmtShapes"], loops := true, apart := false, laid := [("vigil/tree.exprShapes", laid_vigil_tree_exprShapes), ("vigil/tree.stmtShapes", laid_vigil_tree_stmtShapes), ("vigil/types.rules", laid_vigil_types_rules)] }
def TypesExprsSaid : Prop := typesExprsRow.holds Tryd.pinned (OpenSpec.ofChange typesExprsSpec)

/-- ITS FALSE NEIGHBOUR: 'it returns false'. Refute it at one input. -/
def typesExprsWrong : ChangeSpec := { name := "typesExprs", fn := fun _ => fun
  | [d1, d2] => { results := [.lit (.bool false)], args := [d1, d2] }
  | _ => none }
def TypesExprsWrongFalsely : Prop := typesExprsRow.holds Tryd.pinned (OpenSpec.ofChange typesExprsWrong)

/-- 'vigillaw07.TypesChecks': WHATEVER THE INPUT: true; the input reads as it did. -/
def typesChecksSpec : ChangeSpec := { name := "typesChecks", fn := fun _ => fun
  | [d] => { results := [.lit (.bool true)], args := [d] }
  | _ => none }
def typesChecksRow : OpenClaim := { program := "ytgfdegogknoknaadoor", sum := "ef27a38765b0dc9ada3e77c92424640ef6b4a3e3aad970fb0269b6607ab901c0", func := "vigil/vigillaw07.TypesChecks", spec := "typesChecks", unfollowed := true, recurses := true, named := ["vigil/tree.exprShapes", "vigil/types.rules", "vigil/tree.stmtShapes"], loops := true, apart := false, laid := [("vigil/tree.exprShapes", laid_vigil_tree_exprShapes), ("vigil/tree.stmtShapes", laid_vigil_tree_stmtShapes), ("vigil/types.rules", laid_vigil_types_rules)] }
def TypesChecksSaid : Prop := typesChecksRow.holds Tryd.pinned (OpenSpec.ofChange typesChecksSpec)

/-- ITS FALSE NEIGHBOUR: 'it returns false'. Refute it at one input. -/
def typesChecksWrong : ChangeSpec := { name := "typesChecks", fn := fun _ => fun
  | [d] => { results := [.lit (.bool false)], args := [d] }
  | _ => none }
def TypesChecksWrongFalsely : Prop := typesChecksRow.holds Tryd.pinned (OpenSpec.ofChange typesChecksWrong)

/-- 'vigillaw07.TypesParts': WHATEVER THE INPUT: true; the input reads as it did. -/
def typesPartsSpec : ChangeSpec := { name := "typesParts", fn := fun _ => fun
  | [d1, d2, d3] => { results := [.lit (.bool true)], args := [d1, d2, d3] }
  | _ => none }
def typesPartsRow : OpenClaim := { program := "ytgfdegogknoknaadoor", sum := "ef27a38765b0dc9ada3e77c92424640ef6b4a3e3aad970fb0269b6607ab901c0", func := "vigil/vigillaw07.TypesParts", spec := "typesParts", unfollowed := true, recurses := true, named := ["vigil/tree.exprShapes", "vigil/types.rules", "vigil/tree.stmtShapes"], loops := true, apart := false, laid := [("vigil/tree.exprShapes", laid_vigil_tree_exprShapes), ("vigil/tree.stmtShapes", laid_vigil_tree_stmtShapes), ("vigil/types.rules", laid_vigil_types_rules)] }
def TypesPartsSaid : Prop := typesPartsRow.holds Tryd.pinned (OpenSpec.ofChange typesPartsSpec)

/-- ITS FALSE NEIGHBOUR: 'it returns false'. Refute it at one input. -/
def typesPartsWrong : ChangeSpec := { name := "typesParts", fn := fun _ => fun
  | [d1, d2, d3] => { results := [.lit (.bool false)], args := [d1, d2, d3] }
  | _ => none }
def TypesPartsWrongFalsely : Prop := typesPartsRow.holds Tryd.pinned (OpenSpec.ofChange typesPartsWrong)

/-- 'vigillaw07.TypesMore': WHATEVER THE INPUT: true; the input reads as it did. -/
def typesMoreSpec : ChangeSpec := { name := "typesMore", fn := fun _ => fun
  | [d1, d2, d3] => { results := [.lit (.bool true)], args := [d1, d2, d3] }
  | _ => none }
def typesMoreRow : OpenClaim := { program := "ytgfdegogknoknaadoor", sum := "ef27a38765b0dc9ada3e77c92424640ef6b4a3e3aad970fb0269b6607ab901c0", func := "vigil/vigillaw07.TypesMore", spec := "typesMore", unfollowed := true, recurses := true, named := ["vigil/tree.exprShapes", "vigil/types.rules", "vigil/tree.stmtShapes"], loops := true, apart := false, laid := [("vigil/tree.exprShapes", laid_vigil_tree_exprShapes), ("vigil/tree.stmtShapes", laid_vigil_tree_stmtShapes), ("vigil/types.rules", laid_vigil_types_rules)] }
def TypesMoreSaid : Prop := typesMoreRow.holds Tryd.pinned (OpenSpec.ofChange typesMoreSpec)

/-- ITS FALSE NEIGHBOUR: 'it returns false'. Refute it at one input. -/
def typesMoreWrong : ChangeSpec := { name := "typesMore", fn := fun _ => fun
  | [d1, d2, d3] => { results := [.lit (.bool false)], args := [d1, d2, d3] }
  | _ => none }
def TypesMoreWrongFalsely : Prop := typesMoreRow.holds Tryd.pinned (OpenSpec.ofChange typesMoreWrong)

/-- 'vigillaw07.TypesClosed': WHATEVER THE INPUT: true; the input reads as it did. -/
def typesClosedSpec : ChangeSpec := { name := "typesClosed", fn := fun _ => fun
  | [d] => { results := [.lit (.bool true)], args := [d] }
  | _ => none }
def typesClosedRow : OpenClaim := { program := "ytgfdegogknoknaadoor", sum := "ef27a38765b0dc9ada3e77c92424640ef6b4a3e3aad970fb0269b6607ab901c0", func := "vigil/vigillaw07.TypesClosed", spec := "typesClosed", unfollowed := true, recurses := true, named := ["vigil/tree.exprShapes", "vigil/types.rules", "vigil/tree.stmtShapes"], loops := true, apart := false, laid := [("vigil/tree.exprShapes", laid_vigil_tree_exprShapes), ("vigil/tree.stmtShapes", laid_vigil_tree_stmtShapes), ("vigil/types.rules", laid_vigil_types_rules)] }
def TypesClosedSaid : Prop := typesClosedRow.holds Tryd.pinned (OpenSpec.ofChange typesClosedSpec)

/-- ITS FALSE NEIGHBOUR: 'it returns false'. Refute it at one input. -/
def typesClosedWrong : ChangeSpec := { name := "typesClosed", fn := fun _ => fun
  | [d] => { results := [.lit (.bool false)], args := [d] }
  | _ => none }
def TypesClosedWrongFalsely : Prop := typesClosedRow.holds Tryd.pinned (OpenSpec.ofChange typesClosedWrong)

/- THE SECOND FORM. 'bulk': how many values and letters a reading holds, each counted each time it is reached (what is shared counts as often as it is met; a slice's spare places count too). A statement '..UptoSaid' is the law's where the arguments, and the package variables that the reading takes, are together of bulk at most 1048576: NARROWER than '..Said'. Prove '..Said' where nothing that the law and all that it calls make is longer than what came in: it says more and counts as full. Else prove '..UptoSaid'. A law counts once. -/
mutual
def uptoBulk {H : Type} : DataW H → Nat
  | .lit (.string bytes) => bytes.length + 1
  | .lit _ => 1
  | .nil => 1
  | .ptr d => uptoBulk d + 1
  | .slice elems spare => uptoBulkAll elems + uptoBulkAll spare + 1
  | .agg parts => uptoBulkAll parts + 1
  | .iface _ d => uptoBulk d + 1
  | .map entries => uptoBulkEntries entries + 1
  | .held _ => 1
def uptoBulkAll {H : Type} : List (DataW H) → Nat
  | [] => 0
  | d :: r => uptoBulk d + uptoBulkAll r
def uptoBulkEntries {H : Type} : List (Lit × DataW H) → Nat
  | [] => 0
  | x :: r => uptoBulkEntry x + uptoBulkEntries r
def uptoBulkEntry {H : Type} : Lit × DataW H → Nat
  | (.string bytes, d) => bytes.length + uptoBulk d + 1
  | (_, d) => uptoBulk d + 1
 end
def uptoSmall : (H : Type) → List (DataW H) → Bool := fun _ ds => decide (uptoBulkAll ds ≤ 1048576)
def OpenSpec.upto (s : _root_.Go.ChangeSpec) : _root_.Go.OpenSpec := { _root_.Go.OpenSpec.ofChange s with cond := some uptoSmall }

/-- 'vigillaw07.TypesExprs', WHERE WHAT IT READS IS OF BULK AT MOST 1048576: true; the input reads as it did. -/
def typesExprsUptoRow : OpenClaim := { program := "ytgfdegogknoknaadoor", sum := "ef27a38765b0dc9ada3e77c92424640ef6b4a3e3aad970fb0269b6607ab901c0", func := "vigil/vigillaw07.TypesExprs", spec := "typesExprs", unfollowed := true, recurses := true, named := ["vigil/tree.exprShapes", "vigil/types.rules", "vigil/tree.stmtShapes"], loops := true, apart := false, laid := [("vigil/tree.exprShapes", laid_vigil_tree_exprShapes), ("vigil/tree.stmtShapes", laid_vigil_tree_stmtShapes), ("vigil/types.rules", laid_vigil_types_rules)], narrowed := true }
def TypesExprsUptoSaid : Prop := typesExprsUptoRow.holds Tryd.pinned (OpenSpec.upto typesExprsSpec)

/-- 'vigillaw07.TypesChecks', WHERE WHAT IT READS IS OF BULK AT MOST 1048576: true; the input reads as it did. -/
def typesChecksUptoRow : OpenClaim := { program := "ytgfdegogknoknaadoor", sum := "ef27a38765b0dc9ada3e77c92424640ef6b4a3e3aad970fb0269b6607ab901c0", func := "vigil/vigillaw07.TypesChecks", spec := "typesChecks", unfollowed := true, recurses := true, named := ["vigil/tree.exprShapes", "vigil/types.rules", "vigil/tree.stmtShapes"], loops := true, apart := false, laid := [("vigil/tree.exprShapes", laid_vigil_tree_exprShapes), ("vigil/tree.stmtShapes", laid_vigil_tree_stmtShapes), ("vigil/types.rules", laid_vigil_types_rules)], narrowed := true }
def TypesChecksUptoSaid : Prop := typesChecksUptoRow.holds Tryd.pinned (OpenSpec.upto typesChecksSpec)

/-- 'vigillaw07.TypesParts', WHERE WHAT IT READS IS OF BULK AT MOST 1048576: true; the input reads as it did. -/
def typesPartsUptoRow : OpenClaim := { program := "ytgfdegogknoknaadoor", sum := "ef27a38765b0dc9ada3e77c92424640ef6b4a3e3aad970fb0269b6607ab901c0", func := "vigil/vigillaw07.TypesParts", spec := "typesParts", unfollowed := true, recurses := true, named := ["vigil/tree.exprShapes", "vigil/types.rules", "vigil/tree.stmtShapes"], loops := true, apart := false, laid := [("vigil/tree.exprShapes", laid_vigil_tree_exprShapes), ("vigil/tree.stmtShapes", laid_vigil_tree_stmtShapes), ("vigil/types.rules", laid_vigil_types_rules)], narrowed := true }
def TypesPartsUptoSaid : Prop := typesPartsUptoRow.holds Tryd.pinned (OpenSpec.upto typesPartsSpec)

/-- 'vigillaw07.TypesMore', WHERE WHAT IT READS IS OF BULK AT MOST 1048576: true; the input reads as it did. -/
def typesMoreUptoRow : OpenClaim := { program := "ytgfdegogknoknaadoor", sum := "ef27a38765b0dc9ada3e77c92424640ef6b4a3e3aad970fb0269b6607ab901c0", func := "vigil/vigillaw07.TypesMore", spec := "typesMore", unfollowed := true, recurses := true, named := ["vigil/tree.exprShapes", "vigil/types.rules", "vigil/tree.stmtShapes"], loops := true, apart := false, laid := [("vigil/tree.exprShapes", laid_vigil_tree_exprShapes), ("vigil/tree.stmtShapes", laid_vigil_tree_stmtShapes), ("vigil/types.rules", laid_vigil_types_rules)], narrowed := true }
def TypesMoreUptoSaid : Prop := typesMoreUptoRow.holds Tryd.pinned (OpenSpec.upto typesMoreSpec)

/-- 'vigillaw07.TypesClosed', WHERE WHAT IT READS IS OF BULK AT MOST 1048576: true; the input reads as it did. -/
def typesClosedUptoRow : OpenClaim := { program := "ytgfdegogknoknaadoor", sum := "ef27a38765b0dc9ada3e77c92424640ef6b4a3e3aad970fb0269b6607ab901c0", func := "vigil/vigillaw07.TypesClosed", spec := "typesClosed", unfollowed := true, recurses := true, named := ["vigil/tree.exprShapes", "vigil/types.rules", "vigil/tree.stmtShapes"], loops := true, apart := false, laid := [("vigil/tree.exprShapes", laid_vigil_tree_exprShapes), ("vigil/tree.stmtShapes", laid_vigil_tree_stmtShapes), ("vigil/types.rules", laid_vigil_types_rules)], narrowed := true }
def TypesClosedUptoSaid : Prop := typesClosedUptoRow.holds Tryd.pinned (OpenSpec.upto typesClosedSpec)

end Rows
end Go.Proofs.YtgfdegogknoknaaDoor
