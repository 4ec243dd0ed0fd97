/-
  DERIVED. GIVEN WITH THE SEED: THE CARDS: each row of YtbmbchdjjfmafaaGreatDoorRows.lean that lists a variable, with what it lists TIED to the program's text (the seventh form; the later family's looks); each row that meets fmt, with fmt's text TOLD by the authors' own Lean function (tested against real Go, not proved from fmt's source: count such statements apart). THE CARD IS WHAT COUNTS. Prove the row's statement (the work); the ties are given (YtbmbchdjjfmafaaGreatDoorTie.lean); close each card by the builder's one call (the guide's Derived/Test/ToyasCard.lean, 'card_holds'). Laid BY PROGRAM, IN A SANDBOX (cutbox-door.mjs). By AI agents, Wed Nov 11 2026. No macro, syntax, notation, axiom, sorry.
-/
import Derived.Test.YtbmbchdjjfmafaaGreatDoorRows
import GoSem.ClaimSeven
namespace Go.Proofs.YtbmbchdjjfmafaaGreatDoor
namespace Rows

/-- THE TIED CARD OF 'vigillaw12.FlowLowers'. -/
def flowLowersCard : Claim7 := { stood := { row := flowLowersRow, standIns := [], harness := (true, "4c784011b817e00527bc84fee52683a67bb248427a2b8a5d99dc0db7871932d2"), looks := false }, kinds := [], alts := [], laidByText := true, laidKinds := [.data, .data, .data, .data, .data, .data], laidTests := true, laidLooks := .later }
def FlowLowersCardSaid : Prop := Claim7.holds Tryz.pinned (.plain (OpenSpec.ofChange flowLowersSpec)) flowLowersCard

/-- THE TIED CARD OF 'vigillaw12.FlowAll'. -/
def flowAllCard : Claim7 := { stood := { row := flowAllRow, standIns := [], harness := (true, "4c784011b817e00527bc84fee52683a67bb248427a2b8a5d99dc0db7871932d2"), looks := false }, kinds := [], alts := [], laidByText := true, laidKinds := [.data, .data, .data, .data, .data, .data], laidTests := true, laidLooks := .later }
def FlowAllCardSaid : Prop := Claim7.holds Tryz.pinned (.plain (OpenSpec.ofChange flowAllSpec)) flowAllCard

/-- THE TIED CARD OF 'vigillaw12.FlowParts'. -/
def flowPartsCard : Claim7 := { stood := { row := flowPartsRow, standIns := [], harness := (true, "4c784011b817e00527bc84fee52683a67bb248427a2b8a5d99dc0db7871932d2"), looks := false }, kinds := [], alts := [], laidByText := true, laidKinds := [.data, .data, .data, .data, .data, .data], laidTests := true, laidLooks := .later }
def FlowPartsCardSaid : Prop := Claim7.holds Tryz.pinned (.plain (OpenSpec.ofChange flowPartsSpec)) flowPartsCard

/-- THE TIED CARD OF 'vigillaw12.FlowGuards'. -/
def flowGuardsCard : Claim7 := { stood := { row := flowGuardsRow, standIns := [], harness := (true, "4c784011b817e00527bc84fee52683a67bb248427a2b8a5d99dc0db7871932d2"), looks := false }, kinds := [], alts := [], laidByText := true, laidKinds := [.data, .data, .data, .data, .data, .data], laidTests := true, laidLooks := .later }
def FlowGuardsCardSaid : Prop := Claim7.holds Tryz.pinned (.plain (OpenSpec.ofChange flowGuardsSpec)) flowGuardsCard

/-- THE SECOND FORM's CARD OF 'vigillaw12.FlowLowers'. -/
def flowLowersUptoCard : Claim7 := { stood := { row := flowLowersUptoRow, standIns := [], harness := (true, "4c784011b817e00527bc84fee52683a67bb248427a2b8a5d99dc0db7871932d2"), looks := false }, kinds := [], alts := [], laidByText := true, laidKinds := [.data, .data, .data, .data, .data, .data], laidTests := true, laidLooks := .later }
def FlowLowersUptoCardSaid : Prop := Claim7.holds Tryz.pinned (.plain (OpenSpec.upto flowLowersSpec)) flowLowersUptoCard

/-- THE SECOND FORM's CARD OF 'vigillaw12.FlowAll'. -/
def flowAllUptoCard : Claim7 := { stood := { row := flowAllUptoRow, standIns := [], harness := (true, "4c784011b817e00527bc84fee52683a67bb248427a2b8a5d99dc0db7871932d2"), looks := false }, kinds := [], alts := [], laidByText := true, laidKinds := [.data, .data, .data, .data, .data, .data], laidTests := true, laidLooks := .later }
def FlowAllUptoCardSaid : Prop := Claim7.holds Tryz.pinned (.plain (OpenSpec.upto flowAllSpec)) flowAllUptoCard

/-- THE SECOND FORM's CARD OF 'vigillaw12.FlowParts'. -/
def flowPartsUptoCard : Claim7 := { stood := { row := flowPartsUptoRow, standIns := [], harness := (true, "4c784011b817e00527bc84fee52683a67bb248427a2b8a5d99dc0db7871932d2"), looks := false }, kinds := [], alts := [], laidByText := true, laidKinds := [.data, .data, .data, .data, .data, .data], laidTests := true, laidLooks := .later }
def FlowPartsUptoCardSaid : Prop := Claim7.holds Tryz.pinned (.plain (OpenSpec.upto flowPartsSpec)) flowPartsUptoCard

/-- THE SECOND FORM's CARD OF 'vigillaw12.FlowGuards'. -/
def flowGuardsUptoCard : Claim7 := { stood := { row := flowGuardsUptoRow, standIns := [], harness := (true, "4c784011b817e00527bc84fee52683a67bb248427a2b8a5d99dc0db7871932d2"), looks := false }, kinds := [], alts := [], laidByText := true, laidKinds := [.data, .data, .data, .data, .data, .data], laidTests := true, laidLooks := .later }
def FlowGuardsUptoCardSaid : Prop := Claim7.holds Tryz.pinned (.plain (OpenSpec.upto flowGuardsSpec)) flowGuardsUptoCard
end Rows
end Go.Proofs.YtbmbchdjjfmafaaGreatDoor
