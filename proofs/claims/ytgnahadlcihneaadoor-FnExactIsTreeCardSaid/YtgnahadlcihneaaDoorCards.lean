/-
  DERIVED. GIVEN WITH THE SEED: THE CARDS: each row of YtgnahadlcihneaaDoorRows.lean that lists a variable, with what it lists TIED to the program's text (the seventh form; the later family's looks); each row that meets fmt, with fmt's text TOLD by the authors' own Lean function (tested against real Go, not proved from fmt's source: count such statements apart). THE CARD IS WHAT COUNTS. Prove the row's statement (the work); the ties are given (YtgnahadlcihneaaDoorTie.lean); close each card by the builder's one call (the guide's Derived/Test/ToyasCard.lean, 'card_holds'). Laid BY PROGRAM, IN A SANDBOX (cutbox-door.mjs). By AI agents, Wed Nov 11 2026. No macro, syntax, notation, axiom, sorry.
-/
import Derived.Test.YtgnahadlcihneaaDoorRows
import GoSem.ClaimSeven
namespace Go.Proofs.YtgnahadlcihneaaDoor
namespace Rows

/-- THE TIED CARD OF 'laws.FnExactQuestionNumber'. -/
def fnExactQuestionNumberCard : Claim7 := { stood := { row := fnExactQuestionNumberRow, standIns := [], harness := (true, "77680c075fd26d3c55d67aa0d9a9b62bb5c48eaa3f7f1fc211b1c70f4a81dcb9"), looks := true }, kinds := [], alts := [], laidByText := true, laidKinds := [.data], laidTests := true, laidLooks := .later }
def FnExactQuestionNumberCardSaid : Prop := Claim7.holds Tryd.pinned (.plain (OpenSpec.ofChange fnExactQuestionNumberSpec)) fnExactQuestionNumberCard

/-- THE TIED CARD OF 'laws.FnExactIsEvasive'. -/
def fnExactIsEvasiveCard : Claim7 := { stood := { row := fnExactIsEvasiveRow, standIns := [], harness := (true, "77680c075fd26d3c55d67aa0d9a9b62bb5c48eaa3f7f1fc211b1c70f4a81dcb9"), looks := true }, kinds := [], alts := [], laidByText := true, laidKinds := [.data], laidTests := true, laidLooks := .later }
def FnExactIsEvasiveCardSaid : Prop := Claim7.holds Tryd.pinned (.plain (OpenSpec.ofChange fnExactIsEvasiveSpec)) fnExactIsEvasiveCard

/-- THE TIED CARD OF 'laws.FnExactIsTree'. -/
def fnExactIsTreeCard : Claim7 := { stood := { row := fnExactIsTreeRow, standIns := [], harness := (true, "77680c075fd26d3c55d67aa0d9a9b62bb5c48eaa3f7f1fc211b1c70f4a81dcb9"), looks := true }, kinds := [], alts := [], laidByText := true, laidKinds := [.sentinel], laidTests := true, laidLooks := .later }
def FnExactIsTreeCardSaid : Prop := Claim7.holds Tryd.pinned (.plain (OpenSpec.ofChange fnExactIsTreeSpec)) fnExactIsTreeCard

/-- THE TIED CARD OF 'laws.FnExactQuestionsFor'. -/
def fnExactQuestionsForCard : Claim7 := { stood := { row := fnExactQuestionsForRow, standIns := [], harness := (true, "77680c075fd26d3c55d67aa0d9a9b62bb5c48eaa3f7f1fc211b1c70f4a81dcb9"), looks := true }, kinds := [], alts := [], laidByText := true, laidKinds := [.sentinel, .data], laidTests := true, laidLooks := .later }
def FnExactQuestionsForCardSaid : Prop := Claim7.holds Tryd.pinned (.plain (OpenSpec.ofChange fnExactQuestionsForSpec)) fnExactQuestionsForCard

/-- THE TIED CARD OF 'laws.FnExactEvadersOf'. -/
def fnExactEvadersOfCard : Claim7 := { stood := { row := fnExactEvadersOfRow, standIns := [], harness := (true, "77680c075fd26d3c55d67aa0d9a9b62bb5c48eaa3f7f1fc211b1c70f4a81dcb9"), looks := true }, kinds := [], alts := [], laidByText := true, laidKinds := [.sentinel, .data], laidTests := true, laidLooks := .later }
def FnExactEvadersOfCardSaid : Prop := Claim7.holds Tryd.pinned (.plain (OpenSpec.ofChange fnExactEvadersOfSpec)) fnExactEvadersOfCard

/-- THE TIED CARD OF 'laws.FnExactPairingOfTree'. -/
def fnExactPairingOfTreeCard : Claim7 := { stood := { row := fnExactPairingOfTreeRow, standIns := [], harness := (true, "77680c075fd26d3c55d67aa0d9a9b62bb5c48eaa3f7f1fc211b1c70f4a81dcb9"), looks := true }, kinds := [], alts := [], laidByText := true, laidKinds := [.sentinel], laidTests := true, laidLooks := .later }
def FnExactPairingOfTreeCardSaid : Prop := Claim7.holds Tryd.pinned (.plain (OpenSpec.ofChange fnExactPairingOfTreeSpec)) fnExactPairingOfTreeCard

/-- THE TIED CARD OF 'laws.FnExactLeastEvaders'. -/
def fnExactLeastEvadersCard : Claim7 := { stood := { row := fnExactLeastEvadersRow, standIns := [], harness := (true, "77680c075fd26d3c55d67aa0d9a9b62bb5c48eaa3f7f1fc211b1c70f4a81dcb9"), looks := true }, kinds := [], alts := [], laidByText := true, laidKinds := [.data], laidTests := true, laidLooks := .later }
def FnExactLeastEvadersCardSaid : Prop := Claim7.holds Tryd.pinned (.plain (OpenSpec.ofChange fnExactLeastEvadersSpec)) fnExactLeastEvadersCard

/-- THE TIED CARD OF 'laws.FnExactBestTree'. -/
def fnExactBestTreeCard : Claim7 := { stood := { row := fnExactBestTreeRow, standIns := [], harness := (true, "77680c075fd26d3c55d67aa0d9a9b62bb5c48eaa3f7f1fc211b1c70f4a81dcb9"), looks := true }, kinds := [], alts := [], laidByText := true, laidKinds := [.data], laidTests := true, laidLooks := .later }
def FnExactBestTreeCardSaid : Prop := Claim7.holds Tryd.pinned (.plain (OpenSpec.ofChange fnExactBestTreeSpec)) fnExactBestTreeCard

/-- THE TIED CARD OF 'laws.FnExactBoundaryOf'. -/
def fnExactBoundaryOfCard : Claim7 := { stood := { row := fnExactBoundaryOfRow, standIns := [], harness := (true, "77680c075fd26d3c55d67aa0d9a9b62bb5c48eaa3f7f1fc211b1c70f4a81dcb9"), looks := true }, kinds := [], alts := [], laidByText := true, laidKinds := [.sentinel], laidTests := true, laidLooks := .later }
def FnExactBoundaryOfCardSaid : Prop := Claim7.holds Tryd.pinned (.plain (OpenSpec.ofChange fnExactBoundaryOfSpec)) fnExactBoundaryOfCard

/-- THE TIED CARD OF 'laws.FnExactIsCycle'. -/
def fnExactIsCycleCard : Claim7 := { stood := { row := fnExactIsCycleRow, standIns := [], harness := (true, "77680c075fd26d3c55d67aa0d9a9b62bb5c48eaa3f7f1fc211b1c70f4a81dcb9"), looks := true }, kinds := [], alts := [], laidByText := true, laidKinds := [.sentinel], laidTests := true, laidLooks := .later }
def FnExactIsCycleCardSaid : Prop := Claim7.holds Tryd.pinned (.plain (OpenSpec.ofChange fnExactIsCycleSpec)) fnExactIsCycleCard

/-- THE TIED CARD OF 'laws.FnExactIsChain'. -/
def fnExactIsChainCard : Claim7 := { stood := { row := fnExactIsChainRow, standIns := [], harness := (true, "77680c075fd26d3c55d67aa0d9a9b62bb5c48eaa3f7f1fc211b1c70f4a81dcb9"), looks := true }, kinds := [], alts := [], laidByText := true, laidKinds := [.sentinel], laidTests := true, laidLooks := .later }
def FnExactIsChainCardSaid : Prop := Claim7.holds Tryd.pinned (.plain (OpenSpec.ofChange fnExactIsChainSpec)) fnExactIsChainCard

/-- THE SECOND FORM's CARD OF 'laws.FnExactQuestionNumber'. -/
def fnExactQuestionNumberUptoCard : Claim7 := { stood := { row := fnExactQuestionNumberUptoRow, standIns := [], harness := (true, "77680c075fd26d3c55d67aa0d9a9b62bb5c48eaa3f7f1fc211b1c70f4a81dcb9"), looks := true }, kinds := [], alts := [], laidByText := true, laidKinds := [.data], laidTests := true, laidLooks := .later }
def FnExactQuestionNumberUptoCardSaid : Prop := Claim7.holds Tryd.pinned (.plain (OpenSpec.upto fnExactQuestionNumberSpec)) fnExactQuestionNumberUptoCard

/-- THE SECOND FORM's CARD OF 'laws.FnExactIsEvasive'. -/
def fnExactIsEvasiveUptoCard : Claim7 := { stood := { row := fnExactIsEvasiveUptoRow, standIns := [], harness := (true, "77680c075fd26d3c55d67aa0d9a9b62bb5c48eaa3f7f1fc211b1c70f4a81dcb9"), looks := true }, kinds := [], alts := [], laidByText := true, laidKinds := [.data], laidTests := true, laidLooks := .later }
def FnExactIsEvasiveUptoCardSaid : Prop := Claim7.holds Tryd.pinned (.plain (OpenSpec.upto fnExactIsEvasiveSpec)) fnExactIsEvasiveUptoCard

/-- THE SECOND FORM's CARD OF 'laws.FnExactIsTree'. -/
def fnExactIsTreeUptoCard : Claim7 := { stood := { row := fnExactIsTreeUptoRow, standIns := [], harness := (true, "77680c075fd26d3c55d67aa0d9a9b62bb5c48eaa3f7f1fc211b1c70f4a81dcb9"), looks := true }, kinds := [], alts := [], laidByText := true, laidKinds := [.sentinel], laidTests := true, laidLooks := .later }
def FnExactIsTreeUptoCardSaid : Prop := Claim7.holds Tryd.pinned (.plain (OpenSpec.upto fnExactIsTreeSpec)) fnExactIsTreeUptoCard

/-- THE SECOND FORM's CARD OF 'laws.FnExactQuestionsFor'. -/
def fnExactQuestionsForUptoCard : Claim7 := { stood := { row := fnExactQuestionsForUptoRow, standIns := [], harness := (true, "77680c075fd26d3c55d67aa0d9a9b62bb5c48eaa3f7f1fc211b1c70f4a81dcb9"), looks := true }, kinds := [], alts := [], laidByText := true, laidKinds := [.sentinel, .data], laidTests := true, laidLooks := .later }
def FnExactQuestionsForUptoCardSaid : Prop := Claim7.holds Tryd.pinned (.plain (OpenSpec.upto fnExactQuestionsForSpec)) fnExactQuestionsForUptoCard

/-- THE SECOND FORM's CARD OF 'laws.FnExactEvadersOf'. -/
def fnExactEvadersOfUptoCard : Claim7 := { stood := { row := fnExactEvadersOfUptoRow, standIns := [], harness := (true, "77680c075fd26d3c55d67aa0d9a9b62bb5c48eaa3f7f1fc211b1c70f4a81dcb9"), looks := true }, kinds := [], alts := [], laidByText := true, laidKinds := [.sentinel, .data], laidTests := true, laidLooks := .later }
def FnExactEvadersOfUptoCardSaid : Prop := Claim7.holds Tryd.pinned (.plain (OpenSpec.upto fnExactEvadersOfSpec)) fnExactEvadersOfUptoCard

/-- THE SECOND FORM's CARD OF 'laws.FnExactPairingOfTree'. -/
def fnExactPairingOfTreeUptoCard : Claim7 := { stood := { row := fnExactPairingOfTreeUptoRow, standIns := [], harness := (true, "77680c075fd26d3c55d67aa0d9a9b62bb5c48eaa3f7f1fc211b1c70f4a81dcb9"), looks := true }, kinds := [], alts := [], laidByText := true, laidKinds := [.sentinel], laidTests := true, laidLooks := .later }
def FnExactPairingOfTreeUptoCardSaid : Prop := Claim7.holds Tryd.pinned (.plain (OpenSpec.upto fnExactPairingOfTreeSpec)) fnExactPairingOfTreeUptoCard

/-- THE SECOND FORM's CARD OF 'laws.FnExactLeastEvaders'. -/
def fnExactLeastEvadersUptoCard : Claim7 := { stood := { row := fnExactLeastEvadersUptoRow, standIns := [], harness := (true, "77680c075fd26d3c55d67aa0d9a9b62bb5c48eaa3f7f1fc211b1c70f4a81dcb9"), looks := true }, kinds := [], alts := [], laidByText := true, laidKinds := [.data], laidTests := true, laidLooks := .later }
def FnExactLeastEvadersUptoCardSaid : Prop := Claim7.holds Tryd.pinned (.plain (OpenSpec.upto fnExactLeastEvadersSpec)) fnExactLeastEvadersUptoCard

/-- THE SECOND FORM's CARD OF 'laws.FnExactBestTree'. -/
def fnExactBestTreeUptoCard : Claim7 := { stood := { row := fnExactBestTreeUptoRow, standIns := [], harness := (true, "77680c075fd26d3c55d67aa0d9a9b62bb5c48eaa3f7f1fc211b1c70f4a81dcb9"), looks := true }, kinds := [], alts := [], laidByText := true, laidKinds := [.data], laidTests := true, laidLooks := .later }
def FnExactBestTreeUptoCardSaid : Prop := Claim7.holds Tryd.pinned (.plain (OpenSpec.upto fnExactBestTreeSpec)) fnExactBestTreeUptoCard

/-- THE SECOND FORM's CARD OF 'laws.FnExactBoundaryOf'. -/
def fnExactBoundaryOfUptoCard : Claim7 := { stood := { row := fnExactBoundaryOfUptoRow, standIns := [], harness := (true, "77680c075fd26d3c55d67aa0d9a9b62bb5c48eaa3f7f1fc211b1c70f4a81dcb9"), looks := true }, kinds := [], alts := [], laidByText := true, laidKinds := [.sentinel], laidTests := true, laidLooks := .later }
def FnExactBoundaryOfUptoCardSaid : Prop := Claim7.holds Tryd.pinned (.plain (OpenSpec.upto fnExactBoundaryOfSpec)) fnExactBoundaryOfUptoCard

/-- THE SECOND FORM's CARD OF 'laws.FnExactIsCycle'. -/
def fnExactIsCycleUptoCard : Claim7 := { stood := { row := fnExactIsCycleUptoRow, standIns := [], harness := (true, "77680c075fd26d3c55d67aa0d9a9b62bb5c48eaa3f7f1fc211b1c70f4a81dcb9"), looks := true }, kinds := [], alts := [], laidByText := true, laidKinds := [.sentinel], laidTests := true, laidLooks := .later }
def FnExactIsCycleUptoCardSaid : Prop := Claim7.holds Tryd.pinned (.plain (OpenSpec.upto fnExactIsCycleSpec)) fnExactIsCycleUptoCard

/-- THE SECOND FORM's CARD OF 'laws.FnExactIsChain'. -/
def fnExactIsChainUptoCard : Claim7 := { stood := { row := fnExactIsChainUptoRow, standIns := [], harness := (true, "77680c075fd26d3c55d67aa0d9a9b62bb5c48eaa3f7f1fc211b1c70f4a81dcb9"), looks := true }, kinds := [], alts := [], laidByText := true, laidKinds := [.sentinel], laidTests := true, laidLooks := .later }
def FnExactIsChainUptoCardSaid : Prop := Claim7.holds Tryd.pinned (.plain (OpenSpec.upto fnExactIsChainSpec)) fnExactIsChainUptoCard
end Rows
end Go.Proofs.YtgnahadlcihneaaDoor
