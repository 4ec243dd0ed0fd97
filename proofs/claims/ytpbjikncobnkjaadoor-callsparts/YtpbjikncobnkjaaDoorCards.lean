/-
  DERIVED. GIVEN WITH THE SEED: THE CARDS: each row of YtpbjikncobnkjaaDoorRows.lean that lists a variable, with what it lists TIED to the program's text (the seventh form; the later family's looks); each row that meets fmt, with fmt's text TOLD by the authors' own Lean function (tested against real Go, not proved from fmt's source: count such statements apart). THE CARD IS WHAT COUNTS. Prove the row's statement (the work); the ties are given (YtpbjikncobnkjaaDoorTie.lean); close each card by the builder's one call (the guide's Derived/Test/ToyasCard.lean, 'card_holds'). Laid BY PROGRAM, IN A SANDBOX (cutbox-door.mjs). By AI agents, Wed Nov 11 2026. No macro, syntax, notation, axiom, sorry.
-/
import Derived.Test.YtpbjikncobnkjaaDoorRows
import GoSem.ClaimSeven
namespace Go.Proofs.YtpbjikncobnkjaaDoor
namespace Rows

/-- THE TIED CARD OF 'vigillaw08.CallsNone'. -/
def callsNoneCard : Claim7 := { stood := { row := callsNoneRow, standIns := [], harness := (true, "cdd4d6eb863836c627c386c23b4830ca0a61a14d9c168692a25c968446f6edfb"), looks := false }, kinds := [], alts := [], laidByText := true, laidKinds := [.data, .data, .data], laidTests := true, laidLooks := .later }
def CallsNoneCardSaid : Prop := Claim7.holds Tryd.pinned (.plain (OpenSpec.ofChange callsNoneSpec)) callsNoneCard

/-- THE TIED CARD OF 'vigillaw08.CallsParts'. -/
def callsPartsCard : Claim7 := { stood := { row := callsPartsRow, standIns := [], harness := (true, "cdd4d6eb863836c627c386c23b4830ca0a61a14d9c168692a25c968446f6edfb"), looks := false }, kinds := [], alts := [], laidByText := true, laidKinds := [.data, .data, .data], laidTests := true, laidLooks := .later }
def CallsPartsCardSaid : Prop := Claim7.holds Tryd.pinned (.plain (OpenSpec.ofChange callsPartsSpec)) callsPartsCard

/-- THE TIED CARD OF 'vigillaw08.CallsBig'. -/
def callsBigCard : Claim7 := { stood := { row := callsBigRow, standIns := [], harness := (true, "cdd4d6eb863836c627c386c23b4830ca0a61a14d9c168692a25c968446f6edfb"), looks := false }, kinds := [], alts := [], laidByText := true, laidKinds := [.data, .data, .data], laidTests := true, laidLooks := .later }
def CallsBigCardSaid : Prop := Claim7.holds Tryd.pinned (.plain (OpenSpec.ofChange callsBigSpec)) callsBigCard

/-- THE SECOND FORM's CARD OF 'vigillaw08.CallsNone'. -/
def callsNoneUptoCard : Claim7 := { stood := { row := callsNoneUptoRow, standIns := [], harness := (true, "cdd4d6eb863836c627c386c23b4830ca0a61a14d9c168692a25c968446f6edfb"), looks := false }, kinds := [], alts := [], laidByText := true, laidKinds := [.data, .data, .data], laidTests := true, laidLooks := .later }
def CallsNoneUptoCardSaid : Prop := Claim7.holds Tryd.pinned (.plain (OpenSpec.upto callsNoneSpec)) callsNoneUptoCard

/-- THE SECOND FORM's CARD OF 'vigillaw08.CallsParts'. -/
def callsPartsUptoCard : Claim7 := { stood := { row := callsPartsUptoRow, standIns := [], harness := (true, "cdd4d6eb863836c627c386c23b4830ca0a61a14d9c168692a25c968446f6edfb"), looks := false }, kinds := [], alts := [], laidByText := true, laidKinds := [.data, .data, .data], laidTests := true, laidLooks := .later }
def CallsPartsUptoCardSaid : Prop := Claim7.holds Tryd.pinned (.plain (OpenSpec.upto callsPartsSpec)) callsPartsUptoCard

/-- THE SECOND FORM's CARD OF 'vigillaw08.CallsBig'. -/
def callsBigUptoCard : Claim7 := { stood := { row := callsBigUptoRow, standIns := [], harness := (true, "cdd4d6eb863836c627c386c23b4830ca0a61a14d9c168692a25c968446f6edfb"), looks := false }, kinds := [], alts := [], laidByText := true, laidKinds := [.data, .data, .data], laidTests := true, laidLooks := .later }
def CallsBigUptoCardSaid : Prop := Claim7.holds Tryd.pinned (.plain (OpenSpec.upto callsBigSpec)) callsBigUptoCard
end Rows
end Go.Proofs.YtpbjikncobnkjaaDoor
