/-
  DERIVED. GIVEN WITH THE SEED: THE CARDS: each row of YtbgkalkipalndaaDoorRows.lean that lists a variable, with what it lists TIED to the program's text (the seventh form; the later family's looks); each row that meets fmt, with fmt's text TOLD by the authors' own Lean function (tested against real Go, not proved from fmt's source: count such statements apart). THE CARD IS WHAT COUNTS. Prove the row's statement (the work); the ties are given (YtbgkalkipalndaaDoorTie.lean); close each card by the builder's one call (the guide's Derived/Test/ToyasCard.lean, 'card_holds'). Laid BY PROGRAM, IN A SANDBOX (cutbox-door.mjs). By AI agents, Wed Nov 11 2026. No macro, syntax, notation, axiom, sorry.
-/
import Derived.Test.YtbgkalkipalndaaDoorRows
import GoSem.ClaimSeven
namespace Go.Proofs.YtbgkalkipalndaaDoor
namespace Rows

/-- THE TIED CARD OF 'laws.FnExactNewDesk'. -/
def fnExactNewDeskCard : Claim7 := { stood := { row := fnExactNewDeskRow, standIns := [], harness := (true, "fefdbcd3054af5cd15138152526233f96f9b4dcff8275c80d5a2ad2db72c75f9"), looks := false }, kinds := [], alts := [], laidByText := true, laidKinds := [.data, .pinned], laidTests := true, laidLooks := .later }
def FnExactNewDeskCardSaid : Prop := Claim7.holds Tryd.pinned (.plain (OpenSpec.ofChange fnExactNewDeskSpec)) fnExactNewDeskCard

/-- THE TIED CARD OF 'laws.FnExactNamedComplex'. -/
def fnExactNamedComplexCard : Claim7 := { stood := { row := fnExactNamedComplexRow, standIns := [], harness := (true, "fefdbcd3054af5cd15138152526233f96f9b4dcff8275c80d5a2ad2db72c75f9"), looks := false }, kinds := [], alts := [], laidByText := true, laidKinds := [.data, .pinned], laidTests := true, laidLooks := .later }
def FnExactNamedComplexCardSaid : Prop := Claim7.holds Tryd.pinned (.plain (OpenSpec.ofChange fnExactNamedComplexSpec)) fnExactNamedComplexCard

/-- THE TIED CARD OF 'laws.FnExactComplexText'. -/
def fnExactComplexTextCard : Claim7 := { stood := { row := fnExactComplexTextRow, standIns := [], harness := (true, "fefdbcd3054af5cd15138152526233f96f9b4dcff8275c80d5a2ad2db72c75f9"), looks := false }, kinds := [], alts := [], laidByText := true, laidKinds := [.data, .data, .data], laidTests := true, laidLooks := .later }
def FnExactComplexTextCardSaid : Prop := Claim7.holds Tryd.pinned (.plain (OpenSpec.ofChange fnExactComplexTextSpec)) fnExactComplexTextCard

/-- THE TIED CARD OF 'laws.FnExactParseComplex'. -/
def fnExactParseComplexCard : Claim7 := { stood := { row := fnExactParseComplexRow, standIns := [], harness := (true, "fefdbcd3054af5cd15138152526233f96f9b4dcff8275c80d5a2ad2db72c75f9"), looks := false }, kinds := [], alts := [], laidByText := true, laidKinds := [.data, .data, .data, .data, .pinned], laidTests := true, laidLooks := .later }
def FnExactParseComplexCardSaid : Prop := Claim7.holds Tryd.pinned (.plain (OpenSpec.ofChange fnExactParseComplexSpec)) fnExactParseComplexCard

/-- THE SECOND FORM's CARD OF 'laws.FnExactNewDesk'. -/
def fnExactNewDeskUptoCard : Claim7 := { stood := { row := fnExactNewDeskUptoRow, standIns := [], harness := (true, "fefdbcd3054af5cd15138152526233f96f9b4dcff8275c80d5a2ad2db72c75f9"), looks := false }, kinds := [], alts := [], laidByText := true, laidKinds := [.data, .pinned], laidTests := true, laidLooks := .later }
def FnExactNewDeskUptoCardSaid : Prop := Claim7.holds Tryd.pinned (.plain (OpenSpec.upto fnExactNewDeskSpec)) fnExactNewDeskUptoCard

/-- THE SECOND FORM's CARD OF 'laws.FnExactNamedComplex'. -/
def fnExactNamedComplexUptoCard : Claim7 := { stood := { row := fnExactNamedComplexUptoRow, standIns := [], harness := (true, "fefdbcd3054af5cd15138152526233f96f9b4dcff8275c80d5a2ad2db72c75f9"), looks := false }, kinds := [], alts := [], laidByText := true, laidKinds := [.data, .pinned], laidTests := true, laidLooks := .later }
def FnExactNamedComplexUptoCardSaid : Prop := Claim7.holds Tryd.pinned (.plain (OpenSpec.upto fnExactNamedComplexSpec)) fnExactNamedComplexUptoCard

/-- THE SECOND FORM's CARD OF 'laws.FnExactComplexText'. -/
def fnExactComplexTextUptoCard : Claim7 := { stood := { row := fnExactComplexTextUptoRow, standIns := [], harness := (true, "fefdbcd3054af5cd15138152526233f96f9b4dcff8275c80d5a2ad2db72c75f9"), looks := false }, kinds := [], alts := [], laidByText := true, laidKinds := [.data, .data, .data], laidTests := true, laidLooks := .later }
def FnExactComplexTextUptoCardSaid : Prop := Claim7.holds Tryd.pinned (.plain (OpenSpec.upto fnExactComplexTextSpec)) fnExactComplexTextUptoCard

/-- THE SECOND FORM's CARD OF 'laws.FnExactParseComplex'. -/
def fnExactParseComplexUptoCard : Claim7 := { stood := { row := fnExactParseComplexUptoRow, standIns := [], harness := (true, "fefdbcd3054af5cd15138152526233f96f9b4dcff8275c80d5a2ad2db72c75f9"), looks := false }, kinds := [], alts := [], laidByText := true, laidKinds := [.data, .data, .data, .data, .pinned], laidTests := true, laidLooks := .later }
def FnExactParseComplexUptoCardSaid : Prop := Claim7.holds Tryd.pinned (.plain (OpenSpec.upto fnExactParseComplexSpec)) fnExactParseComplexUptoCard
end Rows
end Go.Proofs.YtbgkalkipalndaaDoor
