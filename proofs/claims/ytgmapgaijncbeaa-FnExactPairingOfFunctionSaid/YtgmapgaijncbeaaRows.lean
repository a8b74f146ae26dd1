/-
  No cell of these rows narrows 'for every input' (looked for: loops, veiled, ifaces, maps, wideKeys, modest, calm, conditions, laid).
  DERIVED. THE GIVEN ROWS OF THIS SEAT. 11 by the template 'for every input the law returns true; each argument reads behind the call as it read before'; 0 by the template 'total and deterministic' (their statements: YtgmapgaijncbeaaTotals.lean).
  GIVEN WITH THE SEED: the statements are not yours to turn. If you find one false, say at which input.
  Laid BY PROGRAM, IN A SANDBOX (cutbox-rows.mjs): the forced cells as the released guide's own fill.sh prints them over the translation 277c6d175afed3f7… (all of the seat's roots in one cut). By AI agents, Wed Nov 11 2026. No macro, syntax, notation, axiom, sorry.
-/
import Derived.Test.YtgmapgaijncbeaaChecked
import GoSem.Claim
import GoSem.ClaimJoined
import GoSem.ClaimMapViews
import Derived.JoinedTies
import Derived.KernelRfl
namespace Go.Proofs.Ytgmapgaijncbeaa
/- THE CELL 'sum', in the pinned program and in every row, IS THE sha256 OF THE DUMP (.gsa) THAT YtgmapgaijncbeaaProg.lean LOADS. Nothing in Lean hashes anything: it is a label: what it is worth is what the hold of that sum in a sandbox is worth. -/
noncomputable def Try.pinned : Pinned := { name := "ytgmapgaijncbeaa", sum := "277c6d175afed3f7759554f0bd195c2c4d1dccaab21875a34cc6d7163777477b", checked := Try.checked }
namespace Rows
def none {H : Type} : Left H := { results := [], args := [] }

/-- 'laws.FnExactIsAcyclicPairing': WHATEVER THE INPUT: true; the input reads as it did. -/
def fnExactIsAcyclicPairingSpec : ChangeSpec := { name := "fnExactIsAcyclicPairing", fn := fun _ => fun
  | [d1, d2] => { results := [.lit (.bool true)], args := [d1, d2] }
  | _ => none }
def fnExactIsAcyclicPairingRow : OpenClaim := { program := "ytgmapgaijncbeaa", sum := "277c6d175afed3f7759554f0bd195c2c4d1dccaab21875a34cc6d7163777477b", func := "loop.example/g01348/laws.FnExactIsAcyclicPairing", spec := "fnExactIsAcyclicPairing", unfollowed := true, recurses := true, plainKeys := false, apart := false }
def FnExactIsAcyclicPairingSaid : Prop := fnExactIsAcyclicPairingRow.holds Try.pinned (OpenSpec.ofChange fnExactIsAcyclicPairingSpec)

/-- ITS FALSE NEIGHBOUR: 'it returns false'. Refute it at one input. -/
def fnExactIsAcyclicPairingWrong : ChangeSpec := { name := "fnExactIsAcyclicPairing", fn := fun _ => fun
  | [d1, d2] => { results := [.lit (.bool false)], args := [d1, d2] }
  | _ => none }
def FnExactIsAcyclicPairingWrongFalsely : Prop := fnExactIsAcyclicPairingRow.holds Try.pinned (OpenSpec.ofChange fnExactIsAcyclicPairingWrong)

/-- 'laws.FnExactFacesOnCycles': WHATEVER THE INPUT: true; the input reads as it did. -/
def fnExactFacesOnCyclesSpec : ChangeSpec := { name := "fnExactFacesOnCycles", fn := fun _ => fun
  | [d1, d2] => { results := [.lit (.bool true)], args := [d1, d2] }
  | _ => none }
def fnExactFacesOnCyclesRow : OpenClaim := { program := "ytgmapgaijncbeaa", sum := "277c6d175afed3f7759554f0bd195c2c4d1dccaab21875a34cc6d7163777477b", func := "loop.example/g01348/laws.FnExactFacesOnCycles", spec := "fnExactFacesOnCycles", unfollowed := true, recurses := true, plainKeys := false, apart := false }
def FnExactFacesOnCyclesSaid : Prop := fnExactFacesOnCyclesRow.holds Try.pinned (OpenSpec.ofChange fnExactFacesOnCyclesSpec)

/-- ITS FALSE NEIGHBOUR: 'it returns false'. Refute it at one input. -/
def fnExactFacesOnCyclesWrong : ChangeSpec := { name := "fnExactFacesOnCycles", fn := fun _ => fun
  | [d1, d2] => { results := [.lit (.bool false)], args := [d1, d2] }
  | _ => none }
def FnExactFacesOnCyclesWrongFalsely : Prop := fnExactFacesOnCyclesRow.holds Try.pinned (OpenSpec.ofChange fnExactFacesOnCyclesWrong)

/-- 'laws.FnExactWaysBetween': WHATEVER THE INPUT: true; the input reads as it did. -/
def fnExactWaysBetweenSpec : ChangeSpec := { name := "fnExactWaysBetween", fn := fun _ => fun
  | [d1, d2, d3, d4] => { results := [.lit (.bool true)], args := [d1, d2, d3, d4] }
  | _ => none }
def fnExactWaysBetweenRow : OpenClaim := { program := "ytgmapgaijncbeaa", sum := "277c6d175afed3f7759554f0bd195c2c4d1dccaab21875a34cc6d7163777477b", func := "loop.example/g01348/laws.FnExactWaysBetween", spec := "fnExactWaysBetween", unfollowed := true, recurses := true, plainKeys := false, apart := false }
def FnExactWaysBetweenSaid : Prop := fnExactWaysBetweenRow.holds Try.pinned (OpenSpec.ofChange fnExactWaysBetweenSpec)

/-- ITS FALSE NEIGHBOUR: 'it returns false'. Refute it at one input. -/
def fnExactWaysBetweenWrong : ChangeSpec := { name := "fnExactWaysBetween", fn := fun _ => fun
  | [d1, d2, d3, d4] => { results := [.lit (.bool false)], args := [d1, d2, d3, d4] }
  | _ => none }
def FnExactWaysBetweenWrongFalsely : Prop := fnExactWaysBetweenRow.holds Try.pinned (OpenSpec.ofChange fnExactWaysBetweenWrong)

/-- 'laws.FnExactMorseBoundary': WHATEVER THE INPUT: true; the input reads as it did. -/
def fnExactMorseBoundarySpec : ChangeSpec := { name := "fnExactMorseBoundary", fn := fun _ => fun
  | [d1, d2, d3] => { results := [.lit (.bool true)], args := [d1, d2, d3] }
  | _ => none }
def fnExactMorseBoundaryRow : OpenClaim := { program := "ytgmapgaijncbeaa", sum := "277c6d175afed3f7759554f0bd195c2c4d1dccaab21875a34cc6d7163777477b", func := "loop.example/g01348/laws.FnExactMorseBoundary", spec := "fnExactMorseBoundary", unfollowed := true, recurses := true, plainKeys := false, apart := false }
def FnExactMorseBoundarySaid : Prop := fnExactMorseBoundaryRow.holds Try.pinned (OpenSpec.ofChange fnExactMorseBoundarySpec)

/-- ITS FALSE NEIGHBOUR: 'it returns false'. Refute it at one input. -/
def fnExactMorseBoundaryWrong : ChangeSpec := { name := "fnExactMorseBoundary", fn := fun _ => fun
  | [d1, d2, d3] => { results := [.lit (.bool false)], args := [d1, d2, d3] }
  | _ => none }
def FnExactMorseBoundaryWrongFalsely : Prop := fnExactMorseBoundaryRow.holds Try.pinned (OpenSpec.ofChange fnExactMorseBoundaryWrong)

/-- 'laws.FnExactHolesOf': WHATEVER THE INPUT: true; the input reads as it did. -/
def fnExactHolesOfSpec : ChangeSpec := { name := "fnExactHolesOf", fn := fun _ => fun
  | [d1, d2] => { results := [.lit (.bool true)], args := [d1, d2] }
  | _ => none }
def fnExactHolesOfRow : OpenClaim := { program := "ytgmapgaijncbeaa", sum := "277c6d175afed3f7759554f0bd195c2c4d1dccaab21875a34cc6d7163777477b", func := "loop.example/g01348/laws.FnExactHolesOf", spec := "fnExactHolesOf", unfollowed := true, recurses := true, plainKeys := false, apart := false }
def FnExactHolesOfSaid : Prop := fnExactHolesOfRow.holds Try.pinned (OpenSpec.ofChange fnExactHolesOfSpec)

/-- ITS FALSE NEIGHBOUR: 'it returns false'. Refute it at one input. -/
def fnExactHolesOfWrong : ChangeSpec := { name := "fnExactHolesOf", fn := fun _ => fun
  | [d1, d2] => { results := [.lit (.bool false)], args := [d1, d2] }
  | _ => none }
def FnExactHolesOfWrongFalsely : Prop := fnExactHolesOfRow.holds Try.pinned (OpenSpec.ofChange fnExactHolesOfWrong)

/-- 'laws.FnExactCancelFaces': WHATEVER THE INPUT: true; the input reads as it did. -/
def fnExactCancelFacesSpec : ChangeSpec := { name := "fnExactCancelFaces", fn := fun _ => fun
  | [d1, d2, d3, d4] => { results := [.lit (.bool true)], args := [d1, d2, d3, d4] }
  | _ => none }
def fnExactCancelFacesRow : OpenClaim := { program := "ytgmapgaijncbeaa", sum := "277c6d175afed3f7759554f0bd195c2c4d1dccaab21875a34cc6d7163777477b", func := "loop.example/g01348/laws.FnExactCancelFaces", spec := "fnExactCancelFaces", unfollowed := true, recurses := true, plainKeys := false, apart := false }
def FnExactCancelFacesSaid : Prop := fnExactCancelFacesRow.holds Try.pinned (OpenSpec.ofChange fnExactCancelFacesSpec)

/-- ITS FALSE NEIGHBOUR: 'it returns false'. Refute it at one input. -/
def fnExactCancelFacesWrong : ChangeSpec := { name := "fnExactCancelFaces", fn := fun _ => fun
  | [d1, d2, d3, d4] => { results := [.lit (.bool false)], args := [d1, d2, d3, d4] }
  | _ => none }
def FnExactCancelFacesWrongFalsely : Prop := fnExactCancelFacesRow.holds Try.pinned (OpenSpec.ofChange fnExactCancelFacesWrong)

/-- 'laws.FnExactAddPair': WHATEVER THE INPUT: true; the input reads as it did. -/
def fnExactAddPairSpec : ChangeSpec := { name := "fnExactAddPair", fn := fun _ => fun
  | [d1, d2, d3] => { results := [.lit (.bool true)], args := [d1, d2, d3] }
  | _ => none }
def fnExactAddPairRow : OpenClaim := { program := "ytgmapgaijncbeaa", sum := "277c6d175afed3f7759554f0bd195c2c4d1dccaab21875a34cc6d7163777477b", func := "loop.example/g01348/laws.FnExactAddPair", spec := "fnExactAddPair", inPlace := ["slices.overlaps[loop.example/g01348/impl.Pair]"], unfollowed := true, recurses := true, plainKeys := false, apart := false }
def FnExactAddPairSaid : Prop := fnExactAddPairRow.holds Try.pinned (OpenSpec.ofChange fnExactAddPairSpec)

/-- ITS FALSE NEIGHBOUR: 'it returns false'. Refute it at one input. -/
def fnExactAddPairWrong : ChangeSpec := { name := "fnExactAddPair", fn := fun _ => fun
  | [d1, d2, d3] => { results := [.lit (.bool false)], args := [d1, d2, d3] }
  | _ => none }
def FnExactAddPairWrongFalsely : Prop := fnExactAddPairRow.holds Try.pinned (OpenSpec.ofChange fnExactAddPairWrong)

/-- 'laws.FnExactOrderOfPairing': WHATEVER THE INPUT: true; the input reads as it did. -/
def fnExactOrderOfPairingSpec : ChangeSpec := { name := "fnExactOrderOfPairing", fn := fun _ => fun
  | [d1, d2] => { results := [.lit (.bool true)], args := [d1, d2] }
  | _ => none }
def fnExactOrderOfPairingRow : OpenClaim := { program := "ytgmapgaijncbeaa", sum := "277c6d175afed3f7759554f0bd195c2c4d1dccaab21875a34cc6d7163777477b", func := "loop.example/g01348/laws.FnExactOrderOfPairing", spec := "fnExactOrderOfPairing", unfollowed := true, recurses := true, plainKeys := false, apart := false }
def FnExactOrderOfPairingSaid : Prop := fnExactOrderOfPairingRow.holds Try.pinned (OpenSpec.ofChange fnExactOrderOfPairingSpec)

/-- ITS FALSE NEIGHBOUR: 'it returns false'. Refute it at one input. -/
def fnExactOrderOfPairingWrong : ChangeSpec := { name := "fnExactOrderOfPairing", fn := fun _ => fun
  | [d1, d2] => { results := [.lit (.bool false)], args := [d1, d2] }
  | _ => none }
def FnExactOrderOfPairingWrongFalsely : Prop := fnExactOrderOfPairingRow.holds Try.pinned (OpenSpec.ofChange fnExactOrderOfPairingWrong)

/-- 'laws.FnExactIsMorseFunction': WHATEVER THE INPUT: true; the input reads as it did. -/
def fnExactIsMorseFunctionSpec : ChangeSpec := { name := "fnExactIsMorseFunction", fn := fun _ => fun
  | [d1, d2] => { results := [.lit (.bool true)], args := [d1, d2] }
  | _ => none }
def fnExactIsMorseFunctionRow : OpenClaim := { program := "ytgmapgaijncbeaa", sum := "277c6d175afed3f7759554f0bd195c2c4d1dccaab21875a34cc6d7163777477b", func := "loop.example/g01348/laws.FnExactIsMorseFunction", spec := "fnExactIsMorseFunction", unfollowed := true, recurses := true, plainKeys := false, apart := false }
def FnExactIsMorseFunctionSaid : Prop := fnExactIsMorseFunctionRow.holds Try.pinned (OpenSpec.ofChange fnExactIsMorseFunctionSpec)

/-- ITS FALSE NEIGHBOUR: 'it returns false'. Refute it at one input. -/
def fnExactIsMorseFunctionWrong : ChangeSpec := { name := "fnExactIsMorseFunction", fn := fun _ => fun
  | [d1, d2] => { results := [.lit (.bool false)], args := [d1, d2] }
  | _ => none }
def FnExactIsMorseFunctionWrongFalsely : Prop := fnExactIsMorseFunctionRow.holds Try.pinned (OpenSpec.ofChange fnExactIsMorseFunctionWrong)

/-- 'laws.FnExactPairingOfFunction': WHATEVER THE INPUT: true; the input reads as it did. -/
def fnExactPairingOfFunctionSpec : ChangeSpec := { name := "fnExactPairingOfFunction", fn := fun _ => fun
  | [d1, d2] => { results := [.lit (.bool true)], args := [d1, d2] }
  | _ => none }
def fnExactPairingOfFunctionRow : OpenClaim := { program := "ytgmapgaijncbeaa", sum := "277c6d175afed3f7759554f0bd195c2c4d1dccaab21875a34cc6d7163777477b", func := "loop.example/g01348/laws.FnExactPairingOfFunction", spec := "fnExactPairingOfFunction", unfollowed := true, recurses := true, plainKeys := false, apart := false }
def FnExactPairingOfFunctionSaid : Prop := fnExactPairingOfFunctionRow.holds Try.pinned (OpenSpec.ofChange fnExactPairingOfFunctionSpec)

/-- ITS FALSE NEIGHBOUR: 'it returns false'. Refute it at one input. -/
def fnExactPairingOfFunctionWrong : ChangeSpec := { name := "fnExactPairingOfFunction", fn := fun _ => fun
  | [d1, d2] => { results := [.lit (.bool false)], args := [d1, d2] }
  | _ => none }
def FnExactPairingOfFunctionWrongFalsely : Prop := fnExactPairingOfFunctionRow.holds Try.pinned (OpenSpec.ofChange fnExactPairingOfFunctionWrong)

/-- 'laws.FnExactCountGradientWays': WHATEVER THE INPUT: true; the input reads as it did. -/
def fnExactCountGradientWaysSpec : ChangeSpec := { name := "fnExactCountGradientWays", fn := fun _ => fun
  | [d1, d2, d3, d4] => { results := [.lit (.bool true)], args := [d1, d2, d3, d4] }
  | _ => none }
def fnExactCountGradientWaysRow : OpenClaim := { program := "ytgmapgaijncbeaa", sum := "277c6d175afed3f7759554f0bd195c2c4d1dccaab21875a34cc6d7163777477b", func := "loop.example/g01348/laws.FnExactCountGradientWays", spec := "fnExactCountGradientWays", unfollowed := true, recurses := true, plainKeys := false, apart := false }
def FnExactCountGradientWaysSaid : Prop := fnExactCountGradientWaysRow.holds Try.pinned (OpenSpec.ofChange fnExactCountGradientWaysSpec)

/-- ITS FALSE NEIGHBOUR: 'it returns false'. Refute it at one input. -/
def fnExactCountGradientWaysWrong : ChangeSpec := { name := "fnExactCountGradientWays", fn := fun _ => fun
  | [d1, d2, d3, d4] => { results := [.lit (.bool false)], args := [d1, d2, d3, d4] }
  | _ => none }
def FnExactCountGradientWaysWrongFalsely : Prop := fnExactCountGradientWaysRow.holds Try.pinned (OpenSpec.ofChange fnExactCountGradientWaysWrong)

/- THE SECOND FORM. 'bulk': how many values and letters a reading holds, each counted each time it is reached (what is shared counts as often as it is met; a slice's spare places count too). A statement '..UptoSaid' is the law's where the arguments, and the package variables that the reading takes, are together of bulk at most 1048576: NARROWER than '..Said'. Prove '..Said' where nothing that the law and all that it calls make is longer than what came in: it says more and counts as full. Else prove '..UptoSaid'. A law counts once. -/
mutual
def uptoBulk {H : Type} : DataW H → Nat
  | .lit (.string bytes) => bytes.length + 1
  | .lit _ => 1
  | .nil => 1
  | .ptr d => uptoBulk d + 1
  | .slice elems spare => uptoBulkAll elems + uptoBulkAll spare + 1
  | .agg parts => uptoBulkAll parts + 1
  | .iface _ d => uptoBulk d + 1
  | .map entries => uptoBulkEntries entries + 1
  | .held _ => 1
def uptoBulkAll {H : Type} : List (DataW H) → Nat
  | [] => 0
  | d :: r => uptoBulk d + uptoBulkAll r
def uptoBulkEntries {H : Type} : List (Lit × DataW H) → Nat
  | [] => 0
  | x :: r => uptoBulkEntry x + uptoBulkEntries r
def uptoBulkEntry {H : Type} : Lit × DataW H → Nat
  | (.string bytes, d) => bytes.length + uptoBulk d + 1
  | (_, d) => uptoBulk d + 1
 end
def uptoSmall : (H : Type) → List (DataW H) → Bool := fun _ ds => decide (uptoBulkAll ds ≤ 1048576)
def OpenSpec.upto (s : _root_.Go.ChangeSpec) : _root_.Go.OpenSpec := { _root_.Go.OpenSpec.ofChange s with cond := some uptoSmall }

/-- 'laws.FnExactIsAcyclicPairing', WHERE WHAT IT READS IS OF BULK AT MOST 1048576: true; the input reads as it did. -/
def fnExactIsAcyclicPairingUptoRow : OpenClaim := { program := "ytgmapgaijncbeaa", sum := "277c6d175afed3f7759554f0bd195c2c4d1dccaab21875a34cc6d7163777477b", func := "loop.example/g01348/laws.FnExactIsAcyclicPairing", spec := "fnExactIsAcyclicPairing", unfollowed := true, recurses := true, plainKeys := false, apart := false, narrowed := true }
def FnExactIsAcyclicPairingUptoSaid : Prop := fnExactIsAcyclicPairingUptoRow.holds Try.pinned (OpenSpec.upto fnExactIsAcyclicPairingSpec)

/-- 'laws.FnExactFacesOnCycles', WHERE WHAT IT READS IS OF BULK AT MOST 1048576: true; the input reads as it did. -/
def fnExactFacesOnCyclesUptoRow : OpenClaim := { program := "ytgmapgaijncbeaa", sum := "277c6d175afed3f7759554f0bd195c2c4d1dccaab21875a34cc6d7163777477b", func := "loop.example/g01348/laws.FnExactFacesOnCycles", spec := "fnExactFacesOnCycles", unfollowed := true, recurses := true, plainKeys := false, apart := false, narrowed := true }
def FnExactFacesOnCyclesUptoSaid : Prop := fnExactFacesOnCyclesUptoRow.holds Try.pinned (OpenSpec.upto fnExactFacesOnCyclesSpec)

/-- 'laws.FnExactWaysBetween', WHERE WHAT IT READS IS OF BULK AT MOST 1048576: true; the input reads as it did. -/
def fnExactWaysBetweenUptoRow : OpenClaim := { program := "ytgmapgaijncbeaa", sum := "277c6d175afed3f7759554f0bd195c2c4d1dccaab21875a34cc6d7163777477b", func := "loop.example/g01348/laws.FnExactWaysBetween", spec := "fnExactWaysBetween", unfollowed := true, recurses := true, plainKeys := false, apart := false, narrowed := true }
def FnExactWaysBetweenUptoSaid : Prop := fnExactWaysBetweenUptoRow.holds Try.pinned (OpenSpec.upto fnExactWaysBetweenSpec)

/-- 'laws.FnExactMorseBoundary', WHERE WHAT IT READS IS OF BULK AT MOST 1048576: true; the input reads as it did. -/
def fnExactMorseBoundaryUptoRow : OpenClaim := { program := "ytgmapgaijncbeaa", sum := "277c6d175afed3f7759554f0bd195c2c4d1dccaab21875a34cc6d7163777477b", func := "loop.example/g01348/laws.FnExactMorseBoundary", spec := "fnExactMorseBoundary", unfollowed := true, recurses := true, plainKeys := false, apart := false, narrowed := true }
def FnExactMorseBoundaryUptoSaid : Prop := fnExactMorseBoundaryUptoRow.holds Try.pinned (OpenSpec.upto fnExactMorseBoundarySpec)

/-- 'laws.FnExactHolesOf', WHERE WHAT IT READS IS OF BULK AT MOST 1048576: true; the input reads as it did. -/
def fnExactHolesOfUptoRow : OpenClaim := { program := "ytgmapgaijncbeaa", sum := "277c6d175afed3f7759554f0bd195c2c4d1dccaab21875a34cc6d7163777477b", func := "loop.example/g01348/laws.FnExactHolesOf", spec := "fnExactHolesOf", unfollowed := true, recurses := true, plainKeys := false, apart := false, narrowed := true }
def FnExactHolesOfUptoSaid : Prop := fnExactHolesOfUptoRow.holds Try.pinned (OpenSpec.upto fnExactHolesOfSpec)

/-- 'laws.FnExactCancelFaces', WHERE WHAT IT READS IS OF BULK AT MOST 1048576: true; the input reads as it did. -/
def fnExactCancelFacesUptoRow : OpenClaim := { program := "ytgmapgaijncbeaa", sum := "277c6d175afed3f7759554f0bd195c2c4d1dccaab21875a34cc6d7163777477b", func := "loop.example/g01348/laws.FnExactCancelFaces", spec := "fnExactCancelFaces", unfollowed := true, recurses := true, plainKeys := false, apart := false, narrowed := true }
def FnExactCancelFacesUptoSaid : Prop := fnExactCancelFacesUptoRow.holds Try.pinned (OpenSpec.upto fnExactCancelFacesSpec)

/-- 'laws.FnExactAddPair', WHERE WHAT IT READS IS OF BULK AT MOST 1048576: true; the input reads as it did. -/
def fnExactAddPairUptoRow : OpenClaim := { program := "ytgmapgaijncbeaa", sum := "277c6d175afed3f7759554f0bd195c2c4d1dccaab21875a34cc6d7163777477b", func := "loop.example/g01348/laws.FnExactAddPair", spec := "fnExactAddPair", inPlace := ["slices.overlaps[loop.example/g01348/impl.Pair]"], unfollowed := true, recurses := true, plainKeys := false, apart := false, narrowed := true }
def FnExactAddPairUptoSaid : Prop := fnExactAddPairUptoRow.holds Try.pinned (OpenSpec.upto fnExactAddPairSpec)

/-- 'laws.FnExactOrderOfPairing', WHERE WHAT IT READS IS OF BULK AT MOST 1048576: true; the input reads as it did. -/
def fnExactOrderOfPairingUptoRow : OpenClaim := { program := "ytgmapgaijncbeaa", sum := "277c6d175afed3f7759554f0bd195c2c4d1dccaab21875a34cc6d7163777477b", func := "loop.example/g01348/laws.FnExactOrderOfPairing", spec := "fnExactOrderOfPairing", unfollowed := true, recurses := true, plainKeys := false, apart := false, narrowed := true }
def FnExactOrderOfPairingUptoSaid : Prop := fnExactOrderOfPairingUptoRow.holds Try.pinned (OpenSpec.upto fnExactOrderOfPairingSpec)

/-- 'laws.FnExactIsMorseFunction', WHERE WHAT IT READS IS OF BULK AT MOST 1048576: true; the input reads as it did. -/
def fnExactIsMorseFunctionUptoRow : OpenClaim := { program := "ytgmapgaijncbeaa", sum := "277c6d175afed3f7759554f0bd195c2c4d1dccaab21875a34cc6d7163777477b", func := "loop.example/g01348/laws.FnExactIsMorseFunction", spec := "fnExactIsMorseFunction", unfollowed := true, recurses := true, plainKeys := false, apart := false, narrowed := true }
def FnExactIsMorseFunctionUptoSaid : Prop := fnExactIsMorseFunctionUptoRow.holds Try.pinned (OpenSpec.upto fnExactIsMorseFunctionSpec)

/-- 'laws.FnExactPairingOfFunction', WHERE WHAT IT READS IS OF BULK AT MOST 1048576: true; the input reads as it did. -/
def fnExactPairingOfFunctionUptoRow : OpenClaim := { program := "ytgmapgaijncbeaa", sum := "277c6d175afed3f7759554f0bd195c2c4d1dccaab21875a34cc6d7163777477b", func := "loop.example/g01348/laws.FnExactPairingOfFunction", spec := "fnExactPairingOfFunction", unfollowed := true, recurses := true, plainKeys := false, apart := false, narrowed := true }
def FnExactPairingOfFunctionUptoSaid : Prop := fnExactPairingOfFunctionUptoRow.holds Try.pinned (OpenSpec.upto fnExactPairingOfFunctionSpec)

/-- 'laws.FnExactCountGradientWays', WHERE WHAT IT READS IS OF BULK AT MOST 1048576: true; the input reads as it did. -/
def fnExactCountGradientWaysUptoRow : OpenClaim := { program := "ytgmapgaijncbeaa", sum := "277c6d175afed3f7759554f0bd195c2c4d1dccaab21875a34cc6d7163777477b", func := "loop.example/g01348/laws.FnExactCountGradientWays", spec := "fnExactCountGradientWays", unfollowed := true, recurses := true, plainKeys := false, apart := false, narrowed := true }
def FnExactCountGradientWaysUptoSaid : Prop := fnExactCountGradientWaysUptoRow.holds Try.pinned (OpenSpec.upto fnExactCountGradientWaysSpec)

end Rows
end Go.Proofs.Ytgmapgaijncbeaa
