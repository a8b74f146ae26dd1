/-
  No cell of these rows narrows 'for every input' (looked for: loops, veiled, ifaces, maps, wideKeys, modest, calm, conditions, laid).
  DERIVED. THE GIVEN ROWS OF THIS SEAT. 12 by the template 'for every input the law returns true; each argument reads behind the call as it read before'; 0 by the template 'total and deterministic' (their statements: YtgcpakhagbbiiaaTotals.lean).
  GIVEN WITH THE SEED: the statements are not yours to turn. If you find one false, say at which input.
  Laid BY PROGRAM, IN A SANDBOX (cutbox-rows.mjs): the forced cells as the released guide's own fill.sh prints them over the translation 8460171a4443f64b… (all of the seat's roots in one cut). By AI agents, Wed Nov 11 2026. No macro, syntax, notation, axiom, sorry.
-/
import Derived.Test.YtgcpakhagbbiiaaChecked
import GoSem.Claim
import GoSem.ClaimJoined
import GoSem.ClaimMapViews
import Derived.JoinedTies
import Derived.KernelRfl
namespace Go.Proofs.Ytgcpakhagbbiiaa
/- THE CELL 'sum', in the pinned program and in every row, IS THE sha256 OF THE DUMP (.gsa) THAT YtgcpakhagbbiiaaProg.lean LOADS. Nothing in Lean hashes anything: it is a label: what it is worth is what the hold of that sum in a sandbox is worth. -/
noncomputable def Try.pinned : Pinned := { name := "ytgcpakhagbbiiaa", sum := "8460171a4443f64ba8430fdf830a4741635759dda455d385dd84d618ab9959d7", checked := Try.checked }
namespace Rows
def none {H : Type} : Left H := { results := [], args := [] }

/-- 'laws.FnExactOrderOfPairing': WHATEVER THE INPUT: true; the input reads as it did. -/
def fnExactOrderOfPairingSpec : ChangeSpec := { name := "fnExactOrderOfPairing", fn := fun _ => fun
  | [d1, d2] => { results := [.lit (.bool true)], args := [d1, d2] }
  | _ => none }
def fnExactOrderOfPairingRow : OpenClaim := { program := "ytgcpakhagbbiiaa", sum := "8460171a4443f64ba8430fdf830a4741635759dda455d385dd84d618ab9959d7", func := "loop.example/g01348/laws.FnExactOrderOfPairing", spec := "fnExactOrderOfPairing", unfollowed := true, recurses := true, plainKeys := false, apart := false }
def FnExactOrderOfPairingSaid : Prop := fnExactOrderOfPairingRow.holds Try.pinned (OpenSpec.ofChange fnExactOrderOfPairingSpec)

/-- ITS FALSE NEIGHBOUR: 'it returns false'. Refute it at one input. -/
def fnExactOrderOfPairingWrong : ChangeSpec := { name := "fnExactOrderOfPairing", fn := fun _ => fun
  | [d1, d2] => { results := [.lit (.bool false)], args := [d1, d2] }
  | _ => none }
def FnExactOrderOfPairingWrongFalsely : Prop := fnExactOrderOfPairingRow.holds Try.pinned (OpenSpec.ofChange fnExactOrderOfPairingWrong)

/-- 'laws.FnExactFlatFunction': WHATEVER THE INPUT: true; the input reads as it did. -/
def fnExactFlatFunctionSpec : ChangeSpec := { name := "fnExactFlatFunction", fn := fun _ => fun
  | [d1, d2] => { results := [.lit (.bool true)], args := [d1, d2] }
  | _ => none }
def fnExactFlatFunctionRow : OpenClaim := { program := "ytgcpakhagbbiiaa", sum := "8460171a4443f64ba8430fdf830a4741635759dda455d385dd84d618ab9959d7", func := "loop.example/g01348/laws.FnExactFlatFunction", spec := "fnExactFlatFunction", unfollowed := true, recurses := true, plainKeys := false, apart := false }
def FnExactFlatFunctionSaid : Prop := fnExactFlatFunctionRow.holds Try.pinned (OpenSpec.ofChange fnExactFlatFunctionSpec)

/-- ITS FALSE NEIGHBOUR: 'it returns false'. Refute it at one input. -/
def fnExactFlatFunctionWrong : ChangeSpec := { name := "fnExactFlatFunction", fn := fun _ => fun
  | [d1, d2] => { results := [.lit (.bool false)], args := [d1, d2] }
  | _ => none }
def FnExactFlatFunctionWrongFalsely : Prop := fnExactFlatFunctionRow.holds Try.pinned (OpenSpec.ofChange fnExactFlatFunctionWrong)

/-- 'laws.FnExactPairingByVertex': WHATEVER THE INPUT: true; the input reads as it did. -/
def fnExactPairingByVertexSpec : ChangeSpec := { name := "fnExactPairingByVertex", fn := fun _ => fun
  | [d1, d2] => { results := [.lit (.bool true)], args := [d1, d2] }
  | _ => none }
def fnExactPairingByVertexRow : OpenClaim := { program := "ytgcpakhagbbiiaa", sum := "8460171a4443f64ba8430fdf830a4741635759dda455d385dd84d618ab9959d7", func := "loop.example/g01348/laws.FnExactPairingByVertex", spec := "fnExactPairingByVertex", unfollowed := true, recurses := true, plainKeys := false, apart := false }
def FnExactPairingByVertexSaid : Prop := fnExactPairingByVertexRow.holds Try.pinned (OpenSpec.ofChange fnExactPairingByVertexSpec)

/-- ITS FALSE NEIGHBOUR: 'it returns false'. Refute it at one input. -/
def fnExactPairingByVertexWrong : ChangeSpec := { name := "fnExactPairingByVertex", fn := fun _ => fun
  | [d1, d2] => { results := [.lit (.bool false)], args := [d1, d2] }
  | _ => none }
def FnExactPairingByVertexWrongFalsely : Prop := fnExactPairingByVertexRow.holds Try.pinned (OpenSpec.ofChange fnExactPairingByVertexWrong)

/-- 'laws.FnExactIsMap': WHATEVER THE INPUT: true; the input reads as it did. -/
def fnExactIsMapSpec : ChangeSpec := { name := "fnExactIsMap", fn := fun _ => fun
  | [d1, d2, d3] => { results := [.lit (.bool true)], args := [d1, d2, d3] }
  | _ => none }
def fnExactIsMapRow : OpenClaim := { program := "ytgcpakhagbbiiaa", sum := "8460171a4443f64ba8430fdf830a4741635759dda455d385dd84d618ab9959d7", func := "loop.example/g01348/laws.FnExactIsMap", spec := "fnExactIsMap", unfollowed := true, recurses := true, plainKeys := false, apart := false }
def FnExactIsMapSaid : Prop := fnExactIsMapRow.holds Try.pinned (OpenSpec.ofChange fnExactIsMapSpec)

/-- ITS FALSE NEIGHBOUR: 'it returns false'. Refute it at one input. -/
def fnExactIsMapWrong : ChangeSpec := { name := "fnExactIsMap", fn := fun _ => fun
  | [d1, d2, d3] => { results := [.lit (.bool false)], args := [d1, d2, d3] }
  | _ => none }
def FnExactIsMapWrongFalsely : Prop := fnExactIsMapRow.holds Try.pinned (OpenSpec.ofChange fnExactIsMapWrong)

/-- 'laws.FnExactCriticalValues': WHATEVER THE INPUT: true; the input reads as it did. -/
def fnExactCriticalValuesSpec : ChangeSpec := { name := "fnExactCriticalValues", fn := fun _ => fun
  | [d1, d2] => { results := [.lit (.bool true)], args := [d1, d2] }
  | _ => none }
def fnExactCriticalValuesRow : OpenClaim := { program := "ytgcpakhagbbiiaa", sum := "8460171a4443f64ba8430fdf830a4741635759dda455d385dd84d618ab9959d7", func := "loop.example/g01348/laws.FnExactCriticalValues", spec := "fnExactCriticalValues", unfollowed := true, recurses := true, plainKeys := false, apart := false }
def FnExactCriticalValuesSaid : Prop := fnExactCriticalValuesRow.holds Try.pinned (OpenSpec.ofChange fnExactCriticalValuesSpec)

/-- ITS FALSE NEIGHBOUR: 'it returns false'. Refute it at one input. -/
def fnExactCriticalValuesWrong : ChangeSpec := { name := "fnExactCriticalValues", fn := fun _ => fun
  | [d1, d2] => { results := [.lit (.bool false)], args := [d1, d2] }
  | _ => none }
def FnExactCriticalValuesWrongFalsely : Prop := fnExactCriticalValuesRow.holds Try.pinned (OpenSpec.ofChange fnExactCriticalValuesWrong)

/-- 'laws.FnExactMorseBoundary': WHATEVER THE INPUT: true; the input reads as it did. -/
def fnExactMorseBoundarySpec : ChangeSpec := { name := "fnExactMorseBoundary", fn := fun _ => fun
  | [d1, d2, d3] => { results := [.lit (.bool true)], args := [d1, d2, d3] }
  | _ => none }
def fnExactMorseBoundaryRow : OpenClaim := { program := "ytgcpakhagbbiiaa", sum := "8460171a4443f64ba8430fdf830a4741635759dda455d385dd84d618ab9959d7", func := "loop.example/g01348/laws.FnExactMorseBoundary", spec := "fnExactMorseBoundary", unfollowed := true, recurses := true, plainKeys := false, apart := false }
def FnExactMorseBoundarySaid : Prop := fnExactMorseBoundaryRow.holds Try.pinned (OpenSpec.ofChange fnExactMorseBoundarySpec)

/-- ITS FALSE NEIGHBOUR: 'it returns false'. Refute it at one input. -/
def fnExactMorseBoundaryWrong : ChangeSpec := { name := "fnExactMorseBoundary", fn := fun _ => fun
  | [d1, d2, d3] => { results := [.lit (.bool false)], args := [d1, d2, d3] }
  | _ => none }
def FnExactMorseBoundaryWrongFalsely : Prop := fnExactMorseBoundaryRow.holds Try.pinned (OpenSpec.ofChange fnExactMorseBoundaryWrong)

/-- 'laws.FnExactHolesOf': WHATEVER THE INPUT: true; the input reads as it did. -/
def fnExactHolesOfSpec : ChangeSpec := { name := "fnExactHolesOf", fn := fun _ => fun
  | [d1, d2] => { results := [.lit (.bool true)], args := [d1, d2] }
  | _ => none }
def fnExactHolesOfRow : OpenClaim := { program := "ytgcpakhagbbiiaa", sum := "8460171a4443f64ba8430fdf830a4741635759dda455d385dd84d618ab9959d7", func := "loop.example/g01348/laws.FnExactHolesOf", spec := "fnExactHolesOf", unfollowed := true, recurses := true, plainKeys := false, apart := false }
def FnExactHolesOfSaid : Prop := fnExactHolesOfRow.holds Try.pinned (OpenSpec.ofChange fnExactHolesOfSpec)

/-- ITS FALSE NEIGHBOUR: 'it returns false'. Refute it at one input. -/
def fnExactHolesOfWrong : ChangeSpec := { name := "fnExactHolesOf", fn := fun _ => fun
  | [d1, d2] => { results := [.lit (.bool false)], args := [d1, d2] }
  | _ => none }
def FnExactHolesOfWrongFalsely : Prop := fnExactHolesOfRow.holds Try.pinned (OpenSpec.ofChange fnExactHolesOfWrong)

/-- 'laws.FnExactNumbersH': WHATEVER THE INPUT: true; the input reads as it did. -/
def fnExactNumbersHSpec : ChangeSpec := { name := "fnExactNumbersH", fn := fun _ => fun
  | [d] => { results := [.lit (.bool true)], args := [d] }
  | _ => none }
def fnExactNumbersHRow : OpenClaim := { program := "ytgcpakhagbbiiaa", sum := "8460171a4443f64ba8430fdf830a4741635759dda455d385dd84d618ab9959d7", func := "loop.example/g01348/laws.FnExactNumbersH", spec := "fnExactNumbersH", inPlace := ["slices.overlaps[int64]"], unfollowed := true, recurses := true, plainKeys := false, apart := false }
def FnExactNumbersHSaid : Prop := fnExactNumbersHRow.holds Try.pinned (OpenSpec.ofChange fnExactNumbersHSpec)

/-- ITS FALSE NEIGHBOUR: 'it returns false'. Refute it at one input. -/
def fnExactNumbersHWrong : ChangeSpec := { name := "fnExactNumbersH", fn := fun _ => fun
  | [d] => { results := [.lit (.bool false)], args := [d] }
  | _ => none }
def FnExactNumbersHWrongFalsely : Prop := fnExactNumbersHRow.holds Try.pinned (OpenSpec.ofChange fnExactNumbersHWrong)

/-- 'laws.FnExactFlipOf': WHATEVER THE INPUT: true; the input reads as it did. -/
def fnExactFlipOfSpec : ChangeSpec := { name := "fnExactFlipOf", fn := fun _ => fun
  | [d1, d2] => { results := [.lit (.bool true)], args := [d1, d2] }
  | _ => none }
def fnExactFlipOfRow : OpenClaim := { program := "ytgcpakhagbbiiaa", sum := "8460171a4443f64ba8430fdf830a4741635759dda455d385dd84d618ab9959d7", func := "loop.example/g01348/laws.FnExactFlipOf", spec := "fnExactFlipOf", unfollowed := true, recurses := true, plainKeys := false, apart := false }
def FnExactFlipOfSaid : Prop := fnExactFlipOfRow.holds Try.pinned (OpenSpec.ofChange fnExactFlipOfSpec)

/-- ITS FALSE NEIGHBOUR: 'it returns false'. Refute it at one input. -/
def fnExactFlipOfWrong : ChangeSpec := { name := "fnExactFlipOf", fn := fun _ => fun
  | [d1, d2] => { results := [.lit (.bool false)], args := [d1, d2] }
  | _ => none }
def FnExactFlipOfWrongFalsely : Prop := fnExactFlipOfRow.holds Try.pinned (OpenSpec.ofChange fnExactFlipOfWrong)

/-- 'laws.FnExactRenumberComplex': WHATEVER THE INPUT: true; the input reads as it did. -/
def fnExactRenumberComplexSpec : ChangeSpec := { name := "fnExactRenumberComplex", fn := fun _ => fun
  | [d1, d2] => { results := [.lit (.bool true)], args := [d1, d2] }
  | _ => none }
def fnExactRenumberComplexRow : OpenClaim := { program := "ytgcpakhagbbiiaa", sum := "8460171a4443f64ba8430fdf830a4741635759dda455d385dd84d618ab9959d7", func := "loop.example/g01348/laws.FnExactRenumberComplex", spec := "fnExactRenumberComplex", unfollowed := true, recurses := true, plainKeys := false, apart := false }
def FnExactRenumberComplexSaid : Prop := fnExactRenumberComplexRow.holds Try.pinned (OpenSpec.ofChange fnExactRenumberComplexSpec)

/-- ITS FALSE NEIGHBOUR: 'it returns false'. Refute it at one input. -/
def fnExactRenumberComplexWrong : ChangeSpec := { name := "fnExactRenumberComplex", fn := fun _ => fun
  | [d1, d2] => { results := [.lit (.bool false)], args := [d1, d2] }
  | _ => none }
def FnExactRenumberComplexWrongFalsely : Prop := fnExactRenumberComplexRow.holds Try.pinned (OpenSpec.ofChange fnExactRenumberComplexWrong)

/-- 'laws.FnExactLevelAt': WHATEVER THE INPUT: true; the input reads as it did. -/
def fnExactLevelAtSpec : ChangeSpec := { name := "fnExactLevelAt", fn := fun _ => fun
  | [d1, d2, d3] => { results := [.lit (.bool true)], args := [d1, d2, d3] }
  | _ => none }
def fnExactLevelAtRow : OpenClaim := { program := "ytgcpakhagbbiiaa", sum := "8460171a4443f64ba8430fdf830a4741635759dda455d385dd84d618ab9959d7", func := "loop.example/g01348/laws.FnExactLevelAt", spec := "fnExactLevelAt", unfollowed := true, recurses := true, plainKeys := false, apart := false }
def FnExactLevelAtSaid : Prop := fnExactLevelAtRow.holds Try.pinned (OpenSpec.ofChange fnExactLevelAtSpec)

/-- ITS FALSE NEIGHBOUR: 'it returns false'. Refute it at one input. -/
def fnExactLevelAtWrong : ChangeSpec := { name := "fnExactLevelAt", fn := fun _ => fun
  | [d1, d2, d3] => { results := [.lit (.bool false)], args := [d1, d2, d3] }
  | _ => none }
def FnExactLevelAtWrongFalsely : Prop := fnExactLevelAtRow.holds Try.pinned (OpenSpec.ofChange fnExactLevelAtWrong)

/-- 'laws.FnExactCancelFaces': WHATEVER THE INPUT: true; the input reads as it did. -/
def fnExactCancelFacesSpec : ChangeSpec := { name := "fnExactCancelFaces", fn := fun _ => fun
  | [d1, d2, d3, d4] => { results := [.lit (.bool true)], args := [d1, d2, d3, d4] }
  | _ => none }
def fnExactCancelFacesRow : OpenClaim := { program := "ytgcpakhagbbiiaa", sum := "8460171a4443f64ba8430fdf830a4741635759dda455d385dd84d618ab9959d7", func := "loop.example/g01348/laws.FnExactCancelFaces", spec := "fnExactCancelFaces", unfollowed := true, recurses := true, plainKeys := false, apart := false }
def FnExactCancelFacesSaid : Prop := fnExactCancelFacesRow.holds Try.pinned (OpenSpec.ofChange fnExactCancelFacesSpec)

/-- ITS FALSE NEIGHBOUR: 'it returns false'. Refute it at one input. -/
def fnExactCancelFacesWrong : ChangeSpec := { name := "fnExactCancelFaces", fn := fun _ => fun
  | [d1, d2, d3, d4] => { results := [.lit (.bool false)], args := [d1, d2, d3, d4] }
  | _ => none }
def FnExactCancelFacesWrongFalsely : Prop := fnExactCancelFacesRow.holds Try.pinned (OpenSpec.ofChange fnExactCancelFacesWrong)

/- THE SECOND FORM. 'bulk': how many values and letters a reading holds, each counted each time it is reached (what is shared counts as often as it is met; a slice's spare places count too). A statement '..UptoSaid' is the law's where the arguments, and the package variables that the reading takes, are together of bulk at most 1048576: NARROWER than '..Said'. Prove '..Said' where nothing that the law and all that it calls make is longer than what came in: it says more and counts as full. Else prove '..UptoSaid'. A law counts once. -/
mutual
def uptoBulk {H : Type} : DataW H → Nat
  | .lit (.string bytes) => bytes.length + 1
  | .lit _ => 1
  | .nil => 1
  | .ptr d => uptoBulk d + 1
  | .slice elems spare => uptoBulkAll elems + uptoBulkAll spare + 1
  | .agg parts => uptoBulkAll parts + 1
  | .iface _ d => uptoBulk d + 1
  | .map entries => uptoBulkEntries entries + 1
  | .held _ => 1
def uptoBulkAll {H : Type} : List (DataW H) → Nat
  | [] => 0
  | d :: r => uptoBulk d + uptoBulkAll r
def uptoBulkEntries {H : Type} : List (Lit × DataW H) → Nat
  | [] => 0
  | x :: r => uptoBulkEntry x + uptoBulkEntries r
def uptoBulkEntry {H : Type} : Lit × DataW H → Nat
  | (.string bytes, d) => bytes.length + uptoBulk d + 1
  | (_, d) => uptoBulk d + 1
 end
def uptoSmall : (H : Type) → List (DataW H) → Bool := fun _ ds => decide (uptoBulkAll ds ≤ 1048576)
def OpenSpec.upto (s : _root_.Go.ChangeSpec) : _root_.Go.OpenSpec := { _root_.Go.OpenSpec.ofChange s with cond := some uptoSmall }

/-- 'laws.FnExactOrderOfPairing', WHERE WHAT IT READS IS OF BULK AT MOST 1048576: true; the input reads as it did. -/
def fnExactOrderOfPairingUptoRow : OpenClaim := { program := "ytgcpakhagbbiiaa", sum := "8460171a4443f64ba8430fdf830a4741635759dda455d385dd84d618ab9959d7", func := "loop.example/g01348/laws.FnExactOrderOfPairing", spec := "fnExactOrderOfPairing", unfollowed := true, recurses := true, plainKeys := false, apart := false, narrowed := true }
def FnExactOrderOfPairingUptoSaid : Prop := fnExactOrderOfPairingUptoRow.holds Try.pinned (OpenSpec.upto fnExactOrderOfPairingSpec)

/-- 'laws.FnExactFlatFunction', WHERE WHAT IT READS IS OF BULK AT MOST 1048576: true; the input reads as it did. -/
def fnExactFlatFunctionUptoRow : OpenClaim := { program := "ytgcpakhagbbiiaa", sum := "8460171a4443f64ba8430fdf830a4741635759dda455d385dd84d618ab9959d7", func := "loop.example/g01348/laws.FnExactFlatFunction", spec := "fnExactFlatFunction", unfollowed := true, recurses := true, plainKeys := false, apart := false, narrowed := true }
def FnExactFlatFunctionUptoSaid : Prop := fnExactFlatFunctionUptoRow.holds Try.pinned (OpenSpec.upto fnExactFlatFunctionSpec)

/-- 'laws.FnExactPairingByVertex', WHERE WHAT IT READS IS OF BULK AT MOST 1048576: true; the input reads as it did. -/
def fnExactPairingByVertexUptoRow : OpenClaim := { program := "ytgcpakhagbbiiaa", sum := "8460171a4443f64ba8430fdf830a4741635759dda455d385dd84d618ab9959d7", func := "loop.example/g01348/laws.FnExactPairingByVertex", spec := "fnExactPairingByVertex", unfollowed := true, recurses := true, plainKeys := false, apart := false, narrowed := true }
def FnExactPairingByVertexUptoSaid : Prop := fnExactPairingByVertexUptoRow.holds Try.pinned (OpenSpec.upto fnExactPairingByVertexSpec)

/-- 'laws.FnExactIsMap', WHERE WHAT IT READS IS OF BULK AT MOST 1048576: true; the input reads as it did. -/
def fnExactIsMapUptoRow : OpenClaim := { program := "ytgcpakhagbbiiaa", sum := "8460171a4443f64ba8430fdf830a4741635759dda455d385dd84d618ab9959d7", func := "loop.example/g01348/laws.FnExactIsMap", spec := "fnExactIsMap", unfollowed := true, recurses := true, plainKeys := false, apart := false, narrowed := true }
def FnExactIsMapUptoSaid : Prop := fnExactIsMapUptoRow.holds Try.pinned (OpenSpec.upto fnExactIsMapSpec)

/-- 'laws.FnExactCriticalValues', WHERE WHAT IT READS IS OF BULK AT MOST 1048576: true; the input reads as it did. -/
def fnExactCriticalValuesUptoRow : OpenClaim := { program := "ytgcpakhagbbiiaa", sum := "8460171a4443f64ba8430fdf830a4741635759dda455d385dd84d618ab9959d7", func := "loop.example/g01348/laws.FnExactCriticalValues", spec := "fnExactCriticalValues", unfollowed := true, recurses := true, plainKeys := false, apart := false, narrowed := true }
def FnExactCriticalValuesUptoSaid : Prop := fnExactCriticalValuesUptoRow.holds Try.pinned (OpenSpec.upto fnExactCriticalValuesSpec)

/-- 'laws.FnExactMorseBoundary', WHERE WHAT IT READS IS OF BULK AT MOST 1048576: true; the input reads as it did. -/
def fnExactMorseBoundaryUptoRow : OpenClaim := { program := "ytgcpakhagbbiiaa", sum := "8460171a4443f64ba8430fdf830a4741635759dda455d385dd84d618ab9959d7", func := "loop.example/g01348/laws.FnExactMorseBoundary", spec := "fnExactMorseBoundary", unfollowed := true, recurses := true, plainKeys := false, apart := false, narrowed := true }
def FnExactMorseBoundaryUptoSaid : Prop := fnExactMorseBoundaryUptoRow.holds Try.pinned (OpenSpec.upto fnExactMorseBoundarySpec)

/-- 'laws.FnExactHolesOf', WHERE WHAT IT READS IS OF BULK AT MOST 1048576: true; the input reads as it did. -/
def fnExactHolesOfUptoRow : OpenClaim := { program := "ytgcpakhagbbiiaa", sum := "8460171a4443f64ba8430fdf830a4741635759dda455d385dd84d618ab9959d7", func := "loop.example/g01348/laws.FnExactHolesOf", spec := "fnExactHolesOf", unfollowed := true, recurses := true, plainKeys := false, apart := false, narrowed := true }
def FnExactHolesOfUptoSaid : Prop := fnExactHolesOfUptoRow.holds Try.pinned (OpenSpec.upto fnExactHolesOfSpec)

/-- 'laws.FnExactNumbersH', WHERE WHAT IT READS IS OF BULK AT MOST 1048576: true; the input reads as it did. -/
def fnExactNumbersHUptoRow : OpenClaim := { program := "ytgcpakhagbbiiaa", sum := "8460171a4443f64ba8430fdf830a4741635759dda455d385dd84d618ab9959d7", func := "loop.example/g01348/laws.FnExactNumbersH", spec := "fnExactNumbersH", inPlace := ["slices.overlaps[int64]"], unfollowed := true, recurses := true, plainKeys := false, apart := false, narrowed := true }
def FnExactNumbersHUptoSaid : Prop := fnExactNumbersHUptoRow.holds Try.pinned (OpenSpec.upto fnExactNumbersHSpec)

/-- 'laws.FnExactFlipOf', WHERE WHAT IT READS IS OF BULK AT MOST 1048576: true; the input reads as it did. -/
def fnExactFlipOfUptoRow : OpenClaim := { program := "ytgcpakhagbbiiaa", sum := "8460171a4443f64ba8430fdf830a4741635759dda455d385dd84d618ab9959d7", func := "loop.example/g01348/laws.FnExactFlipOf", spec := "fnExactFlipOf", unfollowed := true, recurses := true, plainKeys := false, apart := false, narrowed := true }
def FnExactFlipOfUptoSaid : Prop := fnExactFlipOfUptoRow.holds Try.pinned (OpenSpec.upto fnExactFlipOfSpec)

/-- 'laws.FnExactRenumberComplex', WHERE WHAT IT READS IS OF BULK AT MOST 1048576: true; the input reads as it did. -/
def fnExactRenumberComplexUptoRow : OpenClaim := { program := "ytgcpakhagbbiiaa", sum := "8460171a4443f64ba8430fdf830a4741635759dda455d385dd84d618ab9959d7", func := "loop.example/g01348/laws.FnExactRenumberComplex", spec := "fnExactRenumberComplex", unfollowed := true, recurses := true, plainKeys := false, apart := false, narrowed := true }
def FnExactRenumberComplexUptoSaid : Prop := fnExactRenumberComplexUptoRow.holds Try.pinned (OpenSpec.upto fnExactRenumberComplexSpec)

/-- 'laws.FnExactLevelAt', WHERE WHAT IT READS IS OF BULK AT MOST 1048576: true; the input reads as it did. -/
def fnExactLevelAtUptoRow : OpenClaim := { program := "ytgcpakhagbbiiaa", sum := "8460171a4443f64ba8430fdf830a4741635759dda455d385dd84d618ab9959d7", func := "loop.example/g01348/laws.FnExactLevelAt", spec := "fnExactLevelAt", unfollowed := true, recurses := true, plainKeys := false, apart := false, narrowed := true }
def FnExactLevelAtUptoSaid : Prop := fnExactLevelAtUptoRow.holds Try.pinned (OpenSpec.upto fnExactLevelAtSpec)

/-- 'laws.FnExactCancelFaces', WHERE WHAT IT READS IS OF BULK AT MOST 1048576: true; the input reads as it did. -/
def fnExactCancelFacesUptoRow : OpenClaim := { program := "ytgcpakhagbbiiaa", sum := "8460171a4443f64ba8430fdf830a4741635759dda455d385dd84d618ab9959d7", func := "loop.example/g01348/laws.FnExactCancelFaces", spec := "fnExactCancelFaces", unfollowed := true, recurses := true, plainKeys := false, apart := false, narrowed := true }
def FnExactCancelFacesUptoSaid : Prop := fnExactCancelFacesUptoRow.holds Try.pinned (OpenSpec.upto fnExactCancelFacesSpec)

end Rows
end Go.Proofs.Ytgcpakhagbbiiaa
