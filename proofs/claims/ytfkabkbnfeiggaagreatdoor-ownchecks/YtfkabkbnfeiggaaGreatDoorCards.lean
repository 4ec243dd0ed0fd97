/-
  DERIVED. GIVEN WITH THE SEED: THE CARDS: each row of YtfkabkbnfeiggaaGreatDoorRows.lean that lists a variable, with what it lists TIED to the program's text (the seventh form; the later family's looks); each row that meets fmt, with fmt's text TOLD by the authors' own Lean function (tested against real Go, not proved from fmt's source: count such statements apart). THE CARD IS WHAT COUNTS. Prove the row's statement (the work); the ties are given (YtfkabkbnfeiggaaGreatDoorTie.lean); close each card by the builder's one call (the guide's Derived/Test/ToyasCard.lean, 'card_holds'). Laid BY PROGRAM, IN A SANDBOX (cutbox-door.mjs). By AI agents, Wed Nov 11 2026. No macro, syntax, notation, axiom, sorry.
-/
import Derived.Test.YtfkabkbnfeiggaaGreatDoorRows
import GoSem.ClaimSeven
namespace Go.Proofs.YtfkabkbnfeiggaaGreatDoor
namespace Rows

/-- THE TIED CARD OF 'vigillaw09.OwnChecks'. -/
def ownChecksCard : Claim7 := { stood := { row := ownChecksRow, standIns := [], harness := (true, "bdecb0ebf41bfb2bd36b25e9a92beaee873b3fe851efd8ad7dc05f0befe060c3"), looks := false }, kinds := [], alts := [], laidByText := true, laidKinds := [.data, .data, .data], laidTests := true, laidLooks := .later }
def OwnChecksCardSaid : Prop := Claim7.holds Tryz.pinned (.plain (OpenSpec.ofChange ownChecksSpec)) ownChecksCard

/-- THE SECOND FORM's CARD OF 'vigillaw09.OwnChecks'. -/
def ownChecksUptoCard : Claim7 := { stood := { row := ownChecksUptoRow, standIns := [], harness := (true, "bdecb0ebf41bfb2bd36b25e9a92beaee873b3fe851efd8ad7dc05f0befe060c3"), looks := false }, kinds := [], alts := [], laidByText := true, laidKinds := [.data, .data, .data], laidTests := true, laidLooks := .later }
def OwnChecksUptoCardSaid : Prop := Claim7.holds Tryz.pinned (.plain (OpenSpec.upto ownChecksSpec)) ownChecksUptoCard
end Rows
end Go.Proofs.YtfkabkbnfeiggaaGreatDoor
