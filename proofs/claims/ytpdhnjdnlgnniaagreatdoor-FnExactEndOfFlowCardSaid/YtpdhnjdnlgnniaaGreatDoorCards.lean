/-
  DERIVED. GIVEN WITH THE SEED: THE CARDS: each row of YtpdhnjdnlgnniaaGreatDoorRows.lean that lists a variable, with what it lists TIED to the program's text (the seventh form; the later family's looks); each row that meets fmt, with fmt's text TOLD by the authors' own Lean function (tested against real Go, not proved from fmt's source: count such statements apart). THE CARD IS WHAT COUNTS. Prove the row's statement (the work); the ties are given (YtpdhnjdnlgnniaaGreatDoorTie.lean); close each card by the builder's one call (the guide's Derived/Test/ToyasCard.lean, 'card_holds'). Laid BY PROGRAM, IN A SANDBOX (cutbox-door.mjs). By AI agents, Wed Nov 11 2026. No macro, syntax, notation, axiom, sorry.
-/
import Derived.Test.YtpdhnjdnlgnniaaGreatDoorRows
import GoSem.ClaimSeven
namespace Go.Proofs.YtpdhnjdnlgnniaaGreatDoor
namespace Rows

/-- THE TIED CARD OF 'laws.FnExactFlowOf'. -/
def fnExactFlowOfCard : Claim7 := { stood := { row := fnExactFlowOfRow, standIns := [], harness := (true, "c079b17a54b27030d246429a57b98a3c3ea82a4fef50e33c88ddbdffb1eff213"), looks := true }, kinds := [], alts := [], laidByText := true, laidKinds := [.sentinel], laidTests := true, laidLooks := .later }
def FnExactFlowOfCardSaid : Prop := Claim7.holds Tryz.pinned (.plain (OpenSpec.ofChange fnExactFlowOfSpec)) fnExactFlowOfCard

/-- THE TIED CARD OF 'laws.FnExactEndOfFlow'. -/
def fnExactEndOfFlowCard : Claim7 := { stood := { row := fnExactEndOfFlowRow, standIns := [], harness := (true, "c079b17a54b27030d246429a57b98a3c3ea82a4fef50e33c88ddbdffb1eff213"), looks := true }, kinds := [], alts := [], laidByText := true, laidKinds := [.sentinel], laidTests := true, laidLooks := .later }
def FnExactEndOfFlowCardSaid : Prop := Claim7.holds Tryz.pinned (.plain (OpenSpec.ofChange fnExactEndOfFlowSpec)) fnExactEndOfFlowCard

/-- THE SECOND FORM's CARD OF 'laws.FnExactFlowOf'. -/
def fnExactFlowOfUptoCard : Claim7 := { stood := { row := fnExactFlowOfUptoRow, standIns := [], harness := (true, "c079b17a54b27030d246429a57b98a3c3ea82a4fef50e33c88ddbdffb1eff213"), looks := true }, kinds := [], alts := [], laidByText := true, laidKinds := [.sentinel], laidTests := true, laidLooks := .later }
def FnExactFlowOfUptoCardSaid : Prop := Claim7.holds Tryz.pinned (.plain (OpenSpec.upto fnExactFlowOfSpec)) fnExactFlowOfUptoCard

/-- THE SECOND FORM's CARD OF 'laws.FnExactEndOfFlow'. -/
def fnExactEndOfFlowUptoCard : Claim7 := { stood := { row := fnExactEndOfFlowUptoRow, standIns := [], harness := (true, "c079b17a54b27030d246429a57b98a3c3ea82a4fef50e33c88ddbdffb1eff213"), looks := true }, kinds := [], alts := [], laidByText := true, laidKinds := [.sentinel], laidTests := true, laidLooks := .later }
def FnExactEndOfFlowUptoCardSaid : Prop := Claim7.holds Tryz.pinned (.plain (OpenSpec.upto fnExactEndOfFlowSpec)) fnExactEndOfFlowUptoCard
end Rows
end Go.Proofs.YtpdhnjdnlgnniaaGreatDoor
