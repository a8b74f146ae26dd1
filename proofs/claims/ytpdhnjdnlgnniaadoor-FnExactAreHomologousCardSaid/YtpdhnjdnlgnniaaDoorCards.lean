/-
  DERIVED. GIVEN WITH THE SEED: THE CARDS: each row of YtpdhnjdnlgnniaaDoorRows.lean that lists a variable, with what it lists TIED to the program's text (the seventh form; the later family's looks); each row that meets fmt, with fmt's text TOLD by the authors' own Lean function (tested against real Go, not proved from fmt's source: count such statements apart). THE CARD IS WHAT COUNTS. Prove the row's statement (the work); the ties are given (YtpdhnjdnlgnniaaDoorTie.lean); close each card by the builder's one call (the guide's Derived/Test/ToyasCard.lean, 'card_holds'). Laid BY PROGRAM, IN A SANDBOX (cutbox-door.mjs). By AI agents, Wed Nov 11 2026. No macro, syntax, notation, axiom, sorry.
-/
import Derived.Test.YtpdhnjdnlgnniaaDoorRows
import GoSem.ClaimSeven
namespace Go.Proofs.YtpdhnjdnlgnniaaDoor
namespace Rows

/-- THE TIED CARD OF 'laws.FnExactBounds'. -/
def fnExactBoundsCard : Claim7 := { stood := { row := fnExactBoundsRow, standIns := [], harness := (true, "8b2ab9f4b1406b44d0ec09cc9e7a75a83bc32ac0f7f2547b3d66b9a49b497f37"), looks := true }, kinds := [], alts := [], laidByText := true, laidKinds := [.sentinel], laidTests := true, laidLooks := .later }
def FnExactBoundsCardSaid : Prop := Claim7.holds Tryd.pinned (.plain (OpenSpec.ofChange fnExactBoundsSpec)) fnExactBoundsCard

/-- THE TIED CARD OF 'laws.FnExactAreHomologous'. -/
def fnExactAreHomologousCard : Claim7 := { stood := { row := fnExactAreHomologousRow, standIns := [], harness := (true, "8b2ab9f4b1406b44d0ec09cc9e7a75a83bc32ac0f7f2547b3d66b9a49b497f37"), looks := true }, kinds := [], alts := [], laidByText := true, laidKinds := [.sentinel], laidTests := true, laidLooks := .later }
def FnExactAreHomologousCardSaid : Prop := Claim7.holds Tryd.pinned (.plain (OpenSpec.ofChange fnExactAreHomologousSpec)) fnExactAreHomologousCard

/-- THE SECOND FORM's CARD OF 'laws.FnExactBounds'. -/
def fnExactBoundsUptoCard : Claim7 := { stood := { row := fnExactBoundsUptoRow, standIns := [], harness := (true, "8b2ab9f4b1406b44d0ec09cc9e7a75a83bc32ac0f7f2547b3d66b9a49b497f37"), looks := true }, kinds := [], alts := [], laidByText := true, laidKinds := [.sentinel], laidTests := true, laidLooks := .later }
def FnExactBoundsUptoCardSaid : Prop := Claim7.holds Tryd.pinned (.plain (OpenSpec.upto fnExactBoundsSpec)) fnExactBoundsUptoCard

/-- THE SECOND FORM's CARD OF 'laws.FnExactAreHomologous'. -/
def fnExactAreHomologousUptoCard : Claim7 := { stood := { row := fnExactAreHomologousUptoRow, standIns := [], harness := (true, "8b2ab9f4b1406b44d0ec09cc9e7a75a83bc32ac0f7f2547b3d66b9a49b497f37"), looks := true }, kinds := [], alts := [], laidByText := true, laidKinds := [.sentinel], laidTests := true, laidLooks := .later }
def FnExactAreHomologousUptoCardSaid : Prop := Claim7.holds Tryd.pinned (.plain (OpenSpec.upto fnExactAreHomologousSpec)) fnExactAreHomologousUptoCard
end Rows
end Go.Proofs.YtpdhnjdnlgnniaaDoor
