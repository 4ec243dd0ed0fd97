/-
  DERIVED. GIVEN WITH THE SEED: THE CARDS: each row of YtpbjikncobnkjaaGreatDoorRows.lean that lists a variable, with what it lists TIED to the program's text (the seventh form; the later family's looks); each row that meets fmt, with fmt's text TOLD by the authors' own Lean function (tested against real Go, not proved from fmt's source: count such statements apart). THE CARD IS WHAT COUNTS. Prove the row's statement (the work); the ties are given (YtpbjikncobnkjaaGreatDoorTie.lean); close each card by the builder's one call (the guide's Derived/Test/ToyasCard.lean, 'card_holds'). Laid BY PROGRAM, IN A SANDBOX (cutbox-door.mjs). By AI agents, Wed Nov 11 2026. No macro, syntax, notation, axiom, sorry.
-/
import Derived.Test.YtpbjikncobnkjaaGreatDoorRows
import GoSem.ClaimSeven
namespace Go.Proofs.YtpbjikncobnkjaaGreatDoor
namespace Rows

/-- THE TIED CARD OF 'vigillaw08.CallsChecks'. -/
def callsChecksCard : Claim7 := { stood := { row := callsChecksRow, standIns := [], harness := (true, "c1f6ab27cd36a273c7de9220b3e1316f7c3ec2e714bfc294f96247896f1aa442"), looks := false }, kinds := [], alts := [], laidByText := true, laidKinds := [.data, .data, .data], laidTests := true, laidLooks := .later }
def CallsChecksCardSaid : Prop := Claim7.holds Tryz.pinned (.plain (OpenSpec.ofChange callsChecksSpec)) callsChecksCard

/-- THE TIED CARD OF 'vigillaw08.CallsInlines'. -/
def callsInlinesCard : Claim7 := { stood := { row := callsInlinesRow, standIns := [], harness := (true, "c1f6ab27cd36a273c7de9220b3e1316f7c3ec2e714bfc294f96247896f1aa442"), looks := false }, kinds := [], alts := [], laidByText := true, laidKinds := [.data, .data, .data], laidTests := true, laidLooks := .later }
def CallsInlinesCardSaid : Prop := Claim7.holds Tryz.pinned (.plain (OpenSpec.ofChange callsInlinesSpec)) callsInlinesCard

/-- THE SECOND FORM's CARD OF 'vigillaw08.CallsChecks'. -/
def callsChecksUptoCard : Claim7 := { stood := { row := callsChecksUptoRow, standIns := [], harness := (true, "c1f6ab27cd36a273c7de9220b3e1316f7c3ec2e714bfc294f96247896f1aa442"), looks := false }, kinds := [], alts := [], laidByText := true, laidKinds := [.data, .data, .data], laidTests := true, laidLooks := .later }
def CallsChecksUptoCardSaid : Prop := Claim7.holds Tryz.pinned (.plain (OpenSpec.upto callsChecksSpec)) callsChecksUptoCard

/-- THE SECOND FORM's CARD OF 'vigillaw08.CallsInlines'. -/
def callsInlinesUptoCard : Claim7 := { stood := { row := callsInlinesUptoRow, standIns := [], harness := (true, "c1f6ab27cd36a273c7de9220b3e1316f7c3ec2e714bfc294f96247896f1aa442"), looks := false }, kinds := [], alts := [], laidByText := true, laidKinds := [.data, .data, .data], laidTests := true, laidLooks := .later }
def CallsInlinesUptoCardSaid : Prop := Claim7.holds Tryz.pinned (.plain (OpenSpec.upto callsInlinesSpec)) callsInlinesUptoCard
end Rows
end Go.Proofs.YtpbjikncobnkjaaGreatDoor
