/-
  DERIVED. GIVEN WITH THE SEED: THE PROGRAM's TIES (one call each: nine closed facts by the kernel) AND EACH ROW's TIE, after the 31st guide's Derived/Test/Toyas{Tie, Card}.lean. No idea stands in it: it is a product of the set-up. Laid BY PROGRAM, IN A SANDBOX (cutbox-door.mjs). By AI agents, Wed Nov 11 2026. No macro, syntax, notation, axiom, sorry.
-/
import Derived.Test.YtpbjikncobnkjaaGreatDoorRows
import Derived.LaidByTextLater
import Derived.SevenTiedAt
import Derived.LaidSub
import Derived.LaidOnce
namespace Go.Proofs.YtpbjikncobnkjaaGreatDoor
open Go
set_option maxRecDepth 100000
theorem seatTie1 : Tryz.prog.laidByTextLater [("vigil/tree.exprShapes", Rows.laid_vigil_tree_exprShapes), ("vigil/tree.stmtShapes", Rows.laid_vigil_tree_stmtShapes), ("vigil/types.rules", Rows.laid_vigil_types_rules)] [.data, .data, .data] true :=
  Program.laidByTextLater_by_one 69 8 73 (by kernel_rfl) (by kernel_rfl) (by kernel_rfl) (by kernel_rfl) (by kernel_rfl) (by kernel_rfl) (fun _ _ => by kernel_rfl)
theorem noOwnUnsafe : Tryz.pinned.checked.prog.headLifts.contains "ownunsafe" = false := by kernel_rfl
theorem tie : Tryz.prog.laidByTextLater [("vigil/tree.exprShapes", Rows.laid_vigil_tree_exprShapes), ("vigil/tree.stmtShapes", Rows.laid_vigil_tree_stmtShapes), ("vigil/types.rules", Rows.laid_vigil_types_rules)] [.data, .data, .data] true :=
  Program.laidByTextLater.sub seatTie1 ["vigil/tree.exprShapes", "vigil/tree.stmtShapes", "vigil/types.rules"] (by kernel_rfl) (by kernel_rfl)
theorem callsChecks_row_tie : Rows.callsChecksRow.laidByTextAt .later Tryz.pinned [.data, .data, .data] true :=
  OpenClaim.laidByTextAt_later rfl rfl tie noOwnUnsafe
theorem callsInlines_row_tie : Rows.callsInlinesRow.laidByTextAt .later Tryz.pinned [.data, .data, .data] true :=
  OpenClaim.laidByTextAt_later rfl rfl tie noOwnUnsafe
theorem callsChecksUpto_row_tie : Rows.callsChecksUptoRow.laidByTextAt .later Tryz.pinned [.data, .data, .data] true :=
  OpenClaim.laidByTextAt_later rfl rfl tie noOwnUnsafe
theorem callsInlinesUpto_row_tie : Rows.callsInlinesUptoRow.laidByTextAt .later Tryz.pinned [.data, .data, .data] true :=
  OpenClaim.laidByTextAt_later rfl rfl tie noOwnUnsafe
end Go.Proofs.YtpbjikncobnkjaaGreatDoor
