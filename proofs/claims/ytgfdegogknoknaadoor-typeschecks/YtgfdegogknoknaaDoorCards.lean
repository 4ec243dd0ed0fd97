/-
  DERIVED. GIVEN WITH THE SEED: THE CARDS: each row of YtgfdegogknoknaaDoorRows.lean that lists a variable, with what it lists TIED to the program's text (the seventh form; the later family's looks); each row that meets fmt, with fmt's text TOLD by the authors' own Lean function (tested against real Go, not proved from fmt's source: count such statements apart). THE CARD IS WHAT COUNTS. Prove the row's statement (the work); the ties are given (YtgfdegogknoknaaDoorTie.lean); close each card by the builder's one call (the guide's Derived/Test/ToyasCard.lean, 'card_holds'). Laid BY PROGRAM, IN A SANDBOX (cutbox-door.mjs). By AI agents, Wed Nov 11 2026. No macro, syntax, notation, axiom, sorry.
-/
import Derived.Test.YtgfdegogknoknaaDoorRows
import GoSem.ClaimSeven
namespace Go.Proofs.YtgfdegogknoknaaDoor
namespace Rows

/-- THE TIED CARD OF 'vigillaw07.TypesExprs'. -/
def typesExprsCard : Claim7 := { stood := { row := typesExprsRow, standIns := [], harness := (true, "dd38eff58d2d000d0af944e38ce85d7a3c86df014f3d5de55c77ad3015c4b909"), looks := false }, kinds := [], alts := [], laidByText := true, laidKinds := [.data, .data, .data], laidTests := true, laidLooks := .later }
def TypesExprsCardSaid : Prop := Claim7.holds Tryd.pinned (.plain (OpenSpec.ofChange typesExprsSpec)) typesExprsCard

/-- THE TIED CARD OF 'vigillaw07.TypesChecks'. -/
def typesChecksCard : Claim7 := { stood := { row := typesChecksRow, standIns := [], harness := (true, "dd38eff58d2d000d0af944e38ce85d7a3c86df014f3d5de55c77ad3015c4b909"), looks := false }, kinds := [], alts := [], laidByText := true, laidKinds := [.data, .data, .data], laidTests := true, laidLooks := .later }
def TypesChecksCardSaid : Prop := Claim7.holds Tryd.pinned (.plain (OpenSpec.ofChange typesChecksSpec)) typesChecksCard

/-- THE TIED CARD OF 'vigillaw07.TypesParts'. -/
def typesPartsCard : Claim7 := { stood := { row := typesPartsRow, standIns := [], harness := (true, "dd38eff58d2d000d0af944e38ce85d7a3c86df014f3d5de55c77ad3015c4b909"), looks := false }, kinds := [], alts := [], laidByText := true, laidKinds := [.data, .data, .data], laidTests := true, laidLooks := .later }
def TypesPartsCardSaid : Prop := Claim7.holds Tryd.pinned (.plain (OpenSpec.ofChange typesPartsSpec)) typesPartsCard

/-- THE TIED CARD OF 'vigillaw07.TypesMore'. -/
def typesMoreCard : Claim7 := { stood := { row := typesMoreRow, standIns := [], harness := (true, "dd38eff58d2d000d0af944e38ce85d7a3c86df014f3d5de55c77ad3015c4b909"), looks := false }, kinds := [], alts := [], laidByText := true, laidKinds := [.data, .data, .data], laidTests := true, laidLooks := .later }
def TypesMoreCardSaid : Prop := Claim7.holds Tryd.pinned (.plain (OpenSpec.ofChange typesMoreSpec)) typesMoreCard

/-- THE TIED CARD OF 'vigillaw07.TypesClosed'. -/
def typesClosedCard : Claim7 := { stood := { row := typesClosedRow, standIns := [], harness := (true, "dd38eff58d2d000d0af944e38ce85d7a3c86df014f3d5de55c77ad3015c4b909"), looks := false }, kinds := [], alts := [], laidByText := true, laidKinds := [.data, .data, .data], laidTests := true, laidLooks := .later }
def TypesClosedCardSaid : Prop := Claim7.holds Tryd.pinned (.plain (OpenSpec.ofChange typesClosedSpec)) typesClosedCard

/-- THE SECOND FORM's CARD OF 'vigillaw07.TypesExprs'. -/
def typesExprsUptoCard : Claim7 := { stood := { row := typesExprsUptoRow, standIns := [], harness := (true, "dd38eff58d2d000d0af944e38ce85d7a3c86df014f3d5de55c77ad3015c4b909"), looks := false }, kinds := [], alts := [], laidByText := true, laidKinds := [.data, .data, .data], laidTests := true, laidLooks := .later }
def TypesExprsUptoCardSaid : Prop := Claim7.holds Tryd.pinned (.plain (OpenSpec.upto typesExprsSpec)) typesExprsUptoCard

/-- THE SECOND FORM's CARD OF 'vigillaw07.TypesChecks'. -/
def typesChecksUptoCard : Claim7 := { stood := { row := typesChecksUptoRow, standIns := [], harness := (true, "dd38eff58d2d000d0af944e38ce85d7a3c86df014f3d5de55c77ad3015c4b909"), looks := false }, kinds := [], alts := [], laidByText := true, laidKinds := [.data, .data, .data], laidTests := true, laidLooks := .later }
def TypesChecksUptoCardSaid : Prop := Claim7.holds Tryd.pinned (.plain (OpenSpec.upto typesChecksSpec)) typesChecksUptoCard

/-- THE SECOND FORM's CARD OF 'vigillaw07.TypesParts'. -/
def typesPartsUptoCard : Claim7 := { stood := { row := typesPartsUptoRow, standIns := [], harness := (true, "dd38eff58d2d000d0af944e38ce85d7a3c86df014f3d5de55c77ad3015c4b909"), looks := false }, kinds := [], alts := [], laidByText := true, laidKinds := [.data, .data, .data], laidTests := true, laidLooks := .later }
def TypesPartsUptoCardSaid : Prop := Claim7.holds Tryd.pinned (.plain (OpenSpec.upto typesPartsSpec)) typesPartsUptoCard

/-- THE SECOND FORM's CARD OF 'vigillaw07.TypesMore'. -/
def typesMoreUptoCard : Claim7 := { stood := { row := typesMoreUptoRow, standIns := [], harness := (true, "dd38eff58d2d000d0af944e38ce85d7a3c86df014f3d5de55c77ad3015c4b909"), looks := false }, kinds := [], alts := [], laidByText := true, laidKinds := [.data, .data, .data], laidTests := true, laidLooks := .later }
def TypesMoreUptoCardSaid : Prop := Claim7.holds Tryd.pinned (.plain (OpenSpec.upto typesMoreSpec)) typesMoreUptoCard

/-- THE SECOND FORM's CARD OF 'vigillaw07.TypesClosed'. -/
def typesClosedUptoCard : Claim7 := { stood := { row := typesClosedUptoRow, standIns := [], harness := (true, "dd38eff58d2d000d0af944e38ce85d7a3c86df014f3d5de55c77ad3015c4b909"), looks := false }, kinds := [], alts := [], laidByText := true, laidKinds := [.data, .data, .data], laidTests := true, laidLooks := .later }
def TypesClosedUptoCardSaid : Prop := Claim7.holds Tryd.pinned (.plain (OpenSpec.upto typesClosedSpec)) typesClosedUptoCard
end Rows
end Go.Proofs.YtgfdegogknoknaaDoor
