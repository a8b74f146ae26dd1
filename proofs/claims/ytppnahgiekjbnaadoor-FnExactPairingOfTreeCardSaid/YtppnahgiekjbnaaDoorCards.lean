/-
  DERIVED. GIVEN WITH THE SEED: THE CARDS: each row of YtppnahgiekjbnaaDoorRows.lean that lists a variable, with what it lists TIED to the program's text (the seventh form; the later family's looks); each row that meets fmt, with fmt's text TOLD by the authors' own Lean function (tested against real Go, not proved from fmt's source: count such statements apart). THE CARD IS WHAT COUNTS. Prove the row's statement (the work); the ties are given (YtppnahgiekjbnaaDoorTie.lean); close each card by the builder's one call (the guide's Derived/Test/ToyasCard.lean, 'card_holds'). Laid BY PROGRAM, IN A SANDBOX (cutbox-door.mjs). By AI agents, Wed Nov 11 2026. No macro, syntax, notation, axiom, sorry.
-/
import Derived.Test.YtppnahgiekjbnaaDoorRows
import GoSem.ClaimSeven
namespace Go.Proofs.YtppnahgiekjbnaaDoor
namespace Rows

/-- THE TIED CARD OF 'laws.FnExactQuestionsFor'. -/
def fnExactQuestionsForCard : Claim7 := { stood := { row := fnExactQuestionsForRow, standIns := [], harness := (true, "295f0bc01fde59a9d00c65c32f7743a546efb001efdb4a6a126e5c8ee420997c"), looks := true }, kinds := [], alts := [], laidByText := true, laidKinds := [.sentinel, .data], laidTests := true, laidLooks := .later }
def FnExactQuestionsForCardSaid : Prop := Claim7.holds Tryd.pinned (.plain (OpenSpec.ofChange fnExactQuestionsForSpec)) fnExactQuestionsForCard

/-- THE TIED CARD OF 'laws.FnExactEvadersOf'. -/
def fnExactEvadersOfCard : Claim7 := { stood := { row := fnExactEvadersOfRow, standIns := [], harness := (true, "295f0bc01fde59a9d00c65c32f7743a546efb001efdb4a6a126e5c8ee420997c"), looks := true }, kinds := [], alts := [], laidByText := true, laidKinds := [.sentinel, .data], laidTests := true, laidLooks := .later }
def FnExactEvadersOfCardSaid : Prop := Claim7.holds Tryd.pinned (.plain (OpenSpec.ofChange fnExactEvadersOfSpec)) fnExactEvadersOfCard

/-- THE TIED CARD OF 'laws.FnExactPairingOfTree'. -/
def fnExactPairingOfTreeCard : Claim7 := { stood := { row := fnExactPairingOfTreeRow, standIns := [], harness := (true, "295f0bc01fde59a9d00c65c32f7743a546efb001efdb4a6a126e5c8ee420997c"), looks := true }, kinds := [], alts := [], laidByText := true, laidKinds := [.sentinel], laidTests := true, laidLooks := .later }
def FnExactPairingOfTreeCardSaid : Prop := Claim7.holds Tryd.pinned (.plain (OpenSpec.ofChange fnExactPairingOfTreeSpec)) fnExactPairingOfTreeCard

/-- THE TIED CARD OF 'laws.FnExactBounds'. -/
def fnExactBoundsCard : Claim7 := { stood := { row := fnExactBoundsRow, standIns := [], harness := (true, "295f0bc01fde59a9d00c65c32f7743a546efb001efdb4a6a126e5c8ee420997c"), looks := true }, kinds := [], alts := [], laidByText := true, laidKinds := [.sentinel], laidTests := true, laidLooks := .later }
def FnExactBoundsCardSaid : Prop := Claim7.holds Tryd.pinned (.plain (OpenSpec.ofChange fnExactBoundsSpec)) fnExactBoundsCard

/-- THE TIED CARD OF 'laws.FnExactAreHomologous'. -/
def fnExactAreHomologousCard : Claim7 := { stood := { row := fnExactAreHomologousRow, standIns := [], harness := (true, "295f0bc01fde59a9d00c65c32f7743a546efb001efdb4a6a126e5c8ee420997c"), looks := true }, kinds := [], alts := [], laidByText := true, laidKinds := [.sentinel], laidTests := true, laidLooks := .later }
def FnExactAreHomologousCardSaid : Prop := Claim7.holds Tryd.pinned (.plain (OpenSpec.ofChange fnExactAreHomologousSpec)) fnExactAreHomologousCard

/-- THE SECOND FORM's CARD OF 'laws.FnExactQuestionsFor'. -/
def fnExactQuestionsForUptoCard : Claim7 := { stood := { row := fnExactQuestionsForUptoRow, standIns := [], harness := (true, "295f0bc01fde59a9d00c65c32f7743a546efb001efdb4a6a126e5c8ee420997c"), looks := true }, kinds := [], alts := [], laidByText := true, laidKinds := [.sentinel, .data], laidTests := true, laidLooks := .later }
def FnExactQuestionsForUptoCardSaid : Prop := Claim7.holds Tryd.pinned (.plain (OpenSpec.upto fnExactQuestionsForSpec)) fnExactQuestionsForUptoCard

/-- THE SECOND FORM's CARD OF 'laws.FnExactEvadersOf'. -/
def fnExactEvadersOfUptoCard : Claim7 := { stood := { row := fnExactEvadersOfUptoRow, standIns := [], harness := (true, "295f0bc01fde59a9d00c65c32f7743a546efb001efdb4a6a126e5c8ee420997c"), looks := true }, kinds := [], alts := [], laidByText := true, laidKinds := [.sentinel, .data], laidTests := true, laidLooks := .later }
def FnExactEvadersOfUptoCardSaid : Prop := Claim7.holds Tryd.pinned (.plain (OpenSpec.upto fnExactEvadersOfSpec)) fnExactEvadersOfUptoCard

/-- THE SECOND FORM's CARD OF 'laws.FnExactPairingOfTree'. -/
def fnExactPairingOfTreeUptoCard : Claim7 := { stood := { row := fnExactPairingOfTreeUptoRow, standIns := [], harness := (true, "295f0bc01fde59a9d00c65c32f7743a546efb001efdb4a6a126e5c8ee420997c"), looks := true }, kinds := [], alts := [], laidByText := true, laidKinds := [.sentinel], laidTests := true, laidLooks := .later }
def FnExactPairingOfTreeUptoCardSaid : Prop := Claim7.holds Tryd.pinned (.plain (OpenSpec.upto fnExactPairingOfTreeSpec)) fnExactPairingOfTreeUptoCard

/-- THE SECOND FORM's CARD OF 'laws.FnExactBounds'. -/
def fnExactBoundsUptoCard : Claim7 := { stood := { row := fnExactBoundsUptoRow, standIns := [], harness := (true, "295f0bc01fde59a9d00c65c32f7743a546efb001efdb4a6a126e5c8ee420997c"), looks := true }, kinds := [], alts := [], laidByText := true, laidKinds := [.sentinel], laidTests := true, laidLooks := .later }
def FnExactBoundsUptoCardSaid : Prop := Claim7.holds Tryd.pinned (.plain (OpenSpec.upto fnExactBoundsSpec)) fnExactBoundsUptoCard

/-- THE SECOND FORM's CARD OF 'laws.FnExactAreHomologous'. -/
def fnExactAreHomologousUptoCard : Claim7 := { stood := { row := fnExactAreHomologousUptoRow, standIns := [], harness := (true, "295f0bc01fde59a9d00c65c32f7743a546efb001efdb4a6a126e5c8ee420997c"), looks := true }, kinds := [], alts := [], laidByText := true, laidKinds := [.sentinel], laidTests := true, laidLooks := .later }
def FnExactAreHomologousUptoCardSaid : Prop := Claim7.holds Tryd.pinned (.plain (OpenSpec.upto fnExactAreHomologousSpec)) fnExactAreHomologousUptoCard
end Rows
end Go.Proofs.YtppnahgiekjbnaaDoor
