/-
  DERIVED. GIVEN WITH THE SEED: THE CARDS: each row of YtfkabkbnfeiggaaDoorRows.lean that lists a variable, with what it lists TIED to the program's text (the seventh form; the later family's looks); each row that meets fmt, with fmt's text TOLD by the authors' own Lean function (tested against real Go, not proved from fmt's source: count such statements apart). THE CARD IS WHAT COUNTS. Prove the row's statement (the work); the ties are given (YtfkabkbnfeiggaaDoorTie.lean); close each card by the builder's one call (the guide's Derived/Test/ToyasCard.lean, 'card_holds'). Laid BY PROGRAM, IN A SANDBOX (cutbox-door.mjs). By AI agents, Wed Nov 11 2026. No macro, syntax, notation, axiom, sorry.
-/
import Derived.Test.YtfkabkbnfeiggaaDoorRows
import GoSem.ClaimSeven
namespace Go.Proofs.YtfkabkbnfeiggaaDoor
namespace Rows

/-- THE TIED CARD OF 'vigillaw09.OwnScopes'. -/
def ownScopesCard : Claim7 := { stood := { row := ownScopesRow, standIns := [], harness := (true, "cc1931a075c59f86958bf8011bc5f14a6b81a96e47b341e47d5c96c31ab0bf27"), looks := false }, kinds := [], alts := [], laidByText := true, laidKinds := [.data, .data, .data], laidTests := true, laidLooks := .later }
def OwnScopesCardSaid : Prop := Claim7.holds Tryd.pinned (.plain (OpenSpec.ofChange ownScopesSpec)) ownScopesCard

/-- THE TIED CARD OF 'vigillaw09.OwnMore'. -/
def ownMoreCard : Claim7 := { stood := { row := ownMoreRow, standIns := [], harness := (true, "cc1931a075c59f86958bf8011bc5f14a6b81a96e47b341e47d5c96c31ab0bf27"), looks := false }, kinds := [], alts := [], laidByText := true, laidKinds := [.data, .data, .data], laidTests := true, laidLooks := .later }
def OwnMoreCardSaid : Prop := Claim7.holds Tryd.pinned (.plain (OpenSpec.ofChange ownMoreSpec)) ownMoreCard

/-- THE TIED CARD OF 'vigillaw09.OwnFirst'. -/
def ownFirstCard : Claim7 := { stood := { row := ownFirstRow, standIns := [], harness := (true, "cc1931a075c59f86958bf8011bc5f14a6b81a96e47b341e47d5c96c31ab0bf27"), looks := false }, kinds := [], alts := [], laidByText := true, laidKinds := [.data, .data, .data], laidTests := true, laidLooks := .later }
def OwnFirstCardSaid : Prop := Claim7.holds Tryd.pinned (.plain (OpenSpec.ofChange ownFirstSpec)) ownFirstCard

/-- THE TIED CARD OF 'vigillaw09.OwnInlined'. -/
def ownInlinedCard : Claim7 := { stood := { row := ownInlinedRow, standIns := [], harness := (true, "cc1931a075c59f86958bf8011bc5f14a6b81a96e47b341e47d5c96c31ab0bf27"), looks := false }, kinds := [], alts := [], laidByText := true, laidKinds := [.data, .data, .data], laidTests := true, laidLooks := .later }
def OwnInlinedCardSaid : Prop := Claim7.holds Tryd.pinned (.plain (OpenSpec.ofChange ownInlinedSpec)) ownInlinedCard

/-- THE SECOND FORM's CARD OF 'vigillaw09.OwnScopes'. -/
def ownScopesUptoCard : Claim7 := { stood := { row := ownScopesUptoRow, standIns := [], harness := (true, "cc1931a075c59f86958bf8011bc5f14a6b81a96e47b341e47d5c96c31ab0bf27"), looks := false }, kinds := [], alts := [], laidByText := true, laidKinds := [.data, .data, .data], laidTests := true, laidLooks := .later }
def OwnScopesUptoCardSaid : Prop := Claim7.holds Tryd.pinned (.plain (OpenSpec.upto ownScopesSpec)) ownScopesUptoCard

/-- THE SECOND FORM's CARD OF 'vigillaw09.OwnMore'. -/
def ownMoreUptoCard : Claim7 := { stood := { row := ownMoreUptoRow, standIns := [], harness := (true, "cc1931a075c59f86958bf8011bc5f14a6b81a96e47b341e47d5c96c31ab0bf27"), looks := false }, kinds := [], alts := [], laidByText := true, laidKinds := [.data, .data, .data], laidTests := true, laidLooks := .later }
def OwnMoreUptoCardSaid : Prop := Claim7.holds Tryd.pinned (.plain (OpenSpec.upto ownMoreSpec)) ownMoreUptoCard

/-- THE SECOND FORM's CARD OF 'vigillaw09.OwnFirst'. -/
def ownFirstUptoCard : Claim7 := { stood := { row := ownFirstUptoRow, standIns := [], harness := (true, "cc1931a075c59f86958bf8011bc5f14a6b81a96e47b341e47d5c96c31ab0bf27"), looks := false }, kinds := [], alts := [], laidByText := true, laidKinds := [.data, .data, .data], laidTests := true, laidLooks := .later }
def OwnFirstUptoCardSaid : Prop := Claim7.holds Tryd.pinned (.plain (OpenSpec.upto ownFirstSpec)) ownFirstUptoCard

/-- THE SECOND FORM's CARD OF 'vigillaw09.OwnInlined'. -/
def ownInlinedUptoCard : Claim7 := { stood := { row := ownInlinedUptoRow, standIns := [], harness := (true, "cc1931a075c59f86958bf8011bc5f14a6b81a96e47b341e47d5c96c31ab0bf27"), looks := false }, kinds := [], alts := [], laidByText := true, laidKinds := [.data, .data, .data], laidTests := true, laidLooks := .later }
def OwnInlinedUptoCardSaid : Prop := Claim7.holds Tryd.pinned (.plain (OpenSpec.upto ownInlinedSpec)) ownInlinedUptoCard
end Rows
end Go.Proofs.YtfkabkbnfeiggaaDoor
