/-
  DERIVED. GIVEN WITH THE SEED: THE CARDS: each row of YthdkgfmlihgceaaGreatDoorRows.lean that lists a variable, with what it lists TIED to the program's text (the seventh form; the later family's looks); each row that meets fmt, with fmt's text TOLD by the authors' own Lean function (tested against real Go, not proved from fmt's source: count such statements apart). THE CARD IS WHAT COUNTS. Prove the row's statement (the work); the ties are given (YthdkgfmlihgceaaGreatDoorTie.lean); close each card by the builder's one call (the guide's Derived/Test/ToyasCard.lean, 'card_holds'). Laid BY PROGRAM, IN A SANDBOX (cutbox-door.mjs). By AI agents, Wed Nov 11 2026. No macro, syntax, notation, axiom, sorry.
-/
import Derived.Test.YthdkgfmlihgceaaGreatDoorRows
import GoSem.ClaimSeven
namespace Go.Proofs.YthdkgfmlihgceaaGreatDoor
namespace Rows

/-- THE TIED CARD OF 'vigillaw13.HeldRight'. -/
def heldRightCard : Claim7 := { stood := { row := heldRightRow, standIns := [], harness := (true, "de8674ba0330866d7a5ead17edfc34ebbc96546d012871d02c4b69ebb6fcde19"), looks := false }, kinds := [], alts := [], laidByText := true, laidKinds := [.data, .data, .data, .data, .data, .data], laidTests := true, laidLooks := .later }
def HeldRightCardSaid : Prop := Claim7.holds Tryz.pinned (.plain (OpenSpec.ofChange heldRightSpec)) heldRightCard

/-- THE SECOND FORM's CARD OF 'vigillaw13.HeldRight'. -/
def heldRightUptoCard : Claim7 := { stood := { row := heldRightUptoRow, standIns := [], harness := (true, "de8674ba0330866d7a5ead17edfc34ebbc96546d012871d02c4b69ebb6fcde19"), looks := false }, kinds := [], alts := [], laidByText := true, laidKinds := [.data, .data, .data, .data, .data, .data], laidTests := true, laidLooks := .later }
def HeldRightUptoCardSaid : Prop := Claim7.holds Tryz.pinned (.plain (OpenSpec.upto heldRightSpec)) heldRightUptoCard
end Rows
end Go.Proofs.YthdkgfmlihgceaaGreatDoor
