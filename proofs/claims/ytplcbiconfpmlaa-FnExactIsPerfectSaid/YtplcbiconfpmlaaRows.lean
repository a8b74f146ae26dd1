/-
  No cell of these rows narrows 'for every input' (looked for: loops, veiled, ifaces, maps, wideKeys, modest, calm, conditions, laid).
  DERIVED. THE GIVEN ROWS OF THIS SEAT. 12 by the template 'for every input the law returns true; each argument reads behind the call as it read before'; 0 by the template 'total and deterministic' (their statements: YtplcbiconfpmlaaTotals.lean).
  GIVEN WITH THE SEED: the statements are not yours to turn. If you find one false, say at which input.
  Laid BY PROGRAM, IN A SANDBOX (cutbox-rows.mjs): the forced cells as the released guide's own fill.sh prints them over the translation 97efe68c136f327e… (all of the seat's roots in one cut). By AI agents, Wed Nov 11 2026. No macro, syntax, notation, axiom, sorry.
-/
import Derived.Test.YtplcbiconfpmlaaChecked
import GoSem.Claim
import GoSem.ClaimJoined
import GoSem.ClaimMapViews
import Derived.JoinedTies
import Derived.KernelRfl
namespace Go.Proofs.Ytplcbiconfpmlaa
/- THE CELL 'sum', in the pinned program and in every row, IS THE sha256 OF THE DUMP (.gsa) THAT YtplcbiconfpmlaaProg.lean LOADS. Nothing in Lean hashes anything: it is a label: what it is worth is what the hold of that sum in a sandbox is worth. -/
noncomputable def Try.pinned : Pinned := { name := "ytplcbiconfpmlaa", sum := "97efe68c136f327eb74a73d9ac907b4412d6afcb3dd94845ba18334412286dc5", checked := Try.checked }
namespace Rows
def none {H : Type} : Left H := { results := [], args := [] }

/-- 'laws.FnExactInequalitiesFor': WHATEVER THE INPUT: true; the input reads as it did. -/
def fnExactInequalitiesForSpec : ChangeSpec := { name := "fnExactInequalitiesFor", fn := fun _ => fun
  | [d1, d2] => { results := [.lit (.bool true)], args := [d1, d2] }
  | _ => none }
def fnExactInequalitiesForRow : OpenClaim := { program := "ytplcbiconfpmlaa", sum := "97efe68c136f327eb74a73d9ac907b4412d6afcb3dd94845ba18334412286dc5", func := "loop.example/g01348/laws.FnExactInequalitiesFor", spec := "fnExactInequalitiesFor", unfollowed := true, recurses := true, plainKeys := false, apart := false }
def FnExactInequalitiesForSaid : Prop := fnExactInequalitiesForRow.holds Try.pinned (OpenSpec.ofChange fnExactInequalitiesForSpec)

/-- ITS FALSE NEIGHBOUR: 'it returns false'. Refute it at one input. -/
def fnExactInequalitiesForWrong : ChangeSpec := { name := "fnExactInequalitiesFor", fn := fun _ => fun
  | [d1, d2] => { results := [.lit (.bool false)], args := [d1, d2] }
  | _ => none }
def FnExactInequalitiesForWrongFalsely : Prop := fnExactInequalitiesForRow.holds Try.pinned (OpenSpec.ofChange fnExactInequalitiesForWrong)

/-- 'laws.FnExactIsPerfect': WHATEVER THE INPUT: true; the input reads as it did. -/
def fnExactIsPerfectSpec : ChangeSpec := { name := "fnExactIsPerfect", fn := fun _ => fun
  | [d1, d2] => { results := [.lit (.bool true)], args := [d1, d2] }
  | _ => none }
def fnExactIsPerfectRow : OpenClaim := { program := "ytplcbiconfpmlaa", sum := "97efe68c136f327eb74a73d9ac907b4412d6afcb3dd94845ba18334412286dc5", func := "loop.example/g01348/laws.FnExactIsPerfect", spec := "fnExactIsPerfect", unfollowed := true, recurses := true, plainKeys := false, apart := false }
def FnExactIsPerfectSaid : Prop := fnExactIsPerfectRow.holds Try.pinned (OpenSpec.ofChange fnExactIsPerfectSpec)

/-- ITS FALSE NEIGHBOUR: 'it returns false'. Refute it at one input. -/
def fnExactIsPerfectWrong : ChangeSpec := { name := "fnExactIsPerfect", fn := fun _ => fun
  | [d1, d2] => { results := [.lit (.bool false)], args := [d1, d2] }
  | _ => none }
def FnExactIsPerfectWrongFalsely : Prop := fnExactIsPerfectRow.holds Try.pinned (OpenSpec.ofChange fnExactIsPerfectWrong)

/-- 'laws.FnExactIsFullPairing': WHATEVER THE INPUT: true; the input reads as it did. -/
def fnExactIsFullPairingSpec : ChangeSpec := { name := "fnExactIsFullPairing", fn := fun _ => fun
  | [d1, d2] => { results := [.lit (.bool true)], args := [d1, d2] }
  | _ => none }
def fnExactIsFullPairingRow : OpenClaim := { program := "ytplcbiconfpmlaa", sum := "97efe68c136f327eb74a73d9ac907b4412d6afcb3dd94845ba18334412286dc5", func := "loop.example/g01348/laws.FnExactIsFullPairing", spec := "fnExactIsFullPairing", inPlace := ["slices.overlaps[loop.example/g01348/impl.Pair]"], unfollowed := true, recurses := true, plainKeys := false, apart := false }
def FnExactIsFullPairingSaid : Prop := fnExactIsFullPairingRow.holds Try.pinned (OpenSpec.ofChange fnExactIsFullPairingSpec)

/-- ITS FALSE NEIGHBOUR: 'it returns false'. Refute it at one input. -/
def fnExactIsFullPairingWrong : ChangeSpec := { name := "fnExactIsFullPairing", fn := fun _ => fun
  | [d1, d2] => { results := [.lit (.bool false)], args := [d1, d2] }
  | _ => none }
def FnExactIsFullPairingWrongFalsely : Prop := fnExactIsFullPairingRow.holds Try.pinned (OpenSpec.ofChange fnExactIsFullPairingWrong)

/-- 'laws.FnExactFillPairing': WHATEVER THE INPUT: true; the input reads as it did. -/
def fnExactFillPairingSpec : ChangeSpec := { name := "fnExactFillPairing", fn := fun _ => fun
  | [d1, d2] => { results := [.lit (.bool true)], args := [d1, d2] }
  | _ => none }
def fnExactFillPairingRow : OpenClaim := { program := "ytplcbiconfpmlaa", sum := "97efe68c136f327eb74a73d9ac907b4412d6afcb3dd94845ba18334412286dc5", func := "loop.example/g01348/laws.FnExactFillPairing", spec := "fnExactFillPairing", inPlace := ["slices.overlaps[loop.example/g01348/impl.Pair]"], unfollowed := true, recurses := true, plainKeys := false, apart := false }
def FnExactFillPairingSaid : Prop := fnExactFillPairingRow.holds Try.pinned (OpenSpec.ofChange fnExactFillPairingSpec)

/-- ITS FALSE NEIGHBOUR: 'it returns false'. Refute it at one input. -/
def fnExactFillPairingWrong : ChangeSpec := { name := "fnExactFillPairing", fn := fun _ => fun
  | [d1, d2] => { results := [.lit (.bool false)], args := [d1, d2] }
  | _ => none }
def FnExactFillPairingWrongFalsely : Prop := fnExactFillPairingRow.holds Try.pinned (OpenSpec.ofChange fnExactFillPairingWrong)

/-- 'laws.FnExactAddPair': WHATEVER THE INPUT: true; the input reads as it did. -/
def fnExactAddPairSpec : ChangeSpec := { name := "fnExactAddPair", fn := fun _ => fun
  | [d1, d2, d3] => { results := [.lit (.bool true)], args := [d1, d2, d3] }
  | _ => none }
def fnExactAddPairRow : OpenClaim := { program := "ytplcbiconfpmlaa", sum := "97efe68c136f327eb74a73d9ac907b4412d6afcb3dd94845ba18334412286dc5", func := "loop.example/g01348/laws.FnExactAddPair", spec := "fnExactAddPair", inPlace := ["slices.overlaps[loop.example/g01348/impl.Pair]"], unfollowed := true, recurses := true, plainKeys := false, apart := false }
def FnExactAddPairSaid : Prop := fnExactAddPairRow.holds Try.pinned (OpenSpec.ofChange fnExactAddPairSpec)

/-- ITS FALSE NEIGHBOUR: 'it returns false'. Refute it at one input. -/
def fnExactAddPairWrong : ChangeSpec := { name := "fnExactAddPair", fn := fun _ => fun
  | [d1, d2, d3] => { results := [.lit (.bool false)], args := [d1, d2, d3] }
  | _ => none }
def FnExactAddPairWrongFalsely : Prop := fnExactAddPairRow.holds Try.pinned (OpenSpec.ofChange fnExactAddPairWrong)

/-- 'laws.FnExactGreedyPairing': WHATEVER THE INPUT: true; the input reads as it did. -/
def fnExactGreedyPairingSpec : ChangeSpec := { name := "fnExactGreedyPairing", fn := fun _ => fun
  | [d] => { results := [.lit (.bool true)], args := [d] }
  | _ => none }
def fnExactGreedyPairingRow : OpenClaim := { program := "ytplcbiconfpmlaa", sum := "97efe68c136f327eb74a73d9ac907b4412d6afcb3dd94845ba18334412286dc5", func := "loop.example/g01348/laws.FnExactGreedyPairing", spec := "fnExactGreedyPairing", inPlace := ["slices.overlaps[loop.example/g01348/impl.Pair]"], unfollowed := true, recurses := true, plainKeys := false, apart := false }
def FnExactGreedyPairingSaid : Prop := fnExactGreedyPairingRow.holds Try.pinned (OpenSpec.ofChange fnExactGreedyPairingSpec)

/-- ITS FALSE NEIGHBOUR: 'it returns false'. Refute it at one input. -/
def fnExactGreedyPairingWrong : ChangeSpec := { name := "fnExactGreedyPairing", fn := fun _ => fun
  | [d] => { results := [.lit (.bool false)], args := [d] }
  | _ => none }
def FnExactGreedyPairingWrongFalsely : Prop := fnExactGreedyPairingRow.holds Try.pinned (OpenSpec.ofChange fnExactGreedyPairingWrong)

/-- 'laws.FnExactCancelFaces': WHATEVER THE INPUT: true; the input reads as it did. -/
def fnExactCancelFacesSpec : ChangeSpec := { name := "fnExactCancelFaces", fn := fun _ => fun
  | [d1, d2, d3, d4] => { results := [.lit (.bool true)], args := [d1, d2, d3, d4] }
  | _ => none }
def fnExactCancelFacesRow : OpenClaim := { program := "ytplcbiconfpmlaa", sum := "97efe68c136f327eb74a73d9ac907b4412d6afcb3dd94845ba18334412286dc5", func := "loop.example/g01348/laws.FnExactCancelFaces", spec := "fnExactCancelFaces", unfollowed := true, recurses := true, plainKeys := false, apart := false }
def FnExactCancelFacesSaid : Prop := fnExactCancelFacesRow.holds Try.pinned (OpenSpec.ofChange fnExactCancelFacesSpec)

/-- ITS FALSE NEIGHBOUR: 'it returns false'. Refute it at one input. -/
def fnExactCancelFacesWrong : ChangeSpec := { name := "fnExactCancelFaces", fn := fun _ => fun
  | [d1, d2, d3, d4] => { results := [.lit (.bool false)], args := [d1, d2, d3, d4] }
  | _ => none }
def FnExactCancelFacesWrongFalsely : Prop := fnExactCancelFacesRow.holds Try.pinned (OpenSpec.ofChange fnExactCancelFacesWrong)

/-- 'laws.FnExactCriticalValues': WHATEVER THE INPUT: true; the input reads as it did. -/
def fnExactCriticalValuesSpec : ChangeSpec := { name := "fnExactCriticalValues", fn := fun _ => fun
  | [d1, d2] => { results := [.lit (.bool true)], args := [d1, d2] }
  | _ => none }
def fnExactCriticalValuesRow : OpenClaim := { program := "ytplcbiconfpmlaa", sum := "97efe68c136f327eb74a73d9ac907b4412d6afcb3dd94845ba18334412286dc5", func := "loop.example/g01348/laws.FnExactCriticalValues", spec := "fnExactCriticalValues", unfollowed := true, recurses := true, plainKeys := false, apart := false }
def FnExactCriticalValuesSaid : Prop := fnExactCriticalValuesRow.holds Try.pinned (OpenSpec.ofChange fnExactCriticalValuesSpec)

/-- ITS FALSE NEIGHBOUR: 'it returns false'. Refute it at one input. -/
def fnExactCriticalValuesWrong : ChangeSpec := { name := "fnExactCriticalValues", fn := fun _ => fun
  | [d1, d2] => { results := [.lit (.bool false)], args := [d1, d2] }
  | _ => none }
def FnExactCriticalValuesWrongFalsely : Prop := fnExactCriticalValuesRow.holds Try.pinned (OpenSpec.ofChange fnExactCriticalValuesWrong)

/-- 'laws.FnExactLevelAt': WHATEVER THE INPUT: true; the input reads as it did. -/
def fnExactLevelAtSpec : ChangeSpec := { name := "fnExactLevelAt", fn := fun _ => fun
  | [d1, d2, d3] => { results := [.lit (.bool true)], args := [d1, d2, d3] }
  | _ => none }
def fnExactLevelAtRow : OpenClaim := { program := "ytplcbiconfpmlaa", sum := "97efe68c136f327eb74a73d9ac907b4412d6afcb3dd94845ba18334412286dc5", func := "loop.example/g01348/laws.FnExactLevelAt", spec := "fnExactLevelAt", unfollowed := true, recurses := true, plainKeys := false, apart := false }
def FnExactLevelAtSaid : Prop := fnExactLevelAtRow.holds Try.pinned (OpenSpec.ofChange fnExactLevelAtSpec)

/-- ITS FALSE NEIGHBOUR: 'it returns false'. Refute it at one input. -/
def fnExactLevelAtWrong : ChangeSpec := { name := "fnExactLevelAt", fn := fun _ => fun
  | [d1, d2, d3] => { results := [.lit (.bool false)], args := [d1, d2, d3] }
  | _ => none }
def FnExactLevelAtWrongFalsely : Prop := fnExactLevelAtRow.holds Try.pinned (OpenSpec.ofChange fnExactLevelAtWrong)

/-- 'laws.FnExactEulerOfLevels': WHATEVER THE INPUT: true; the input reads as it did. -/
def fnExactEulerOfLevelsSpec : ChangeSpec := { name := "fnExactEulerOfLevels", fn := fun _ => fun
  | [d1, d2] => { results := [.lit (.bool true)], args := [d1, d2] }
  | _ => none }
def fnExactEulerOfLevelsRow : OpenClaim := { program := "ytplcbiconfpmlaa", sum := "97efe68c136f327eb74a73d9ac907b4412d6afcb3dd94845ba18334412286dc5", func := "loop.example/g01348/laws.FnExactEulerOfLevels", spec := "fnExactEulerOfLevels", unfollowed := true, recurses := true, plainKeys := false, apart := false }
def FnExactEulerOfLevelsSaid : Prop := fnExactEulerOfLevelsRow.holds Try.pinned (OpenSpec.ofChange fnExactEulerOfLevelsSpec)

/-- ITS FALSE NEIGHBOUR: 'it returns false'. Refute it at one input. -/
def fnExactEulerOfLevelsWrong : ChangeSpec := { name := "fnExactEulerOfLevels", fn := fun _ => fun
  | [d1, d2] => { results := [.lit (.bool false)], args := [d1, d2] }
  | _ => none }
def FnExactEulerOfLevelsWrongFalsely : Prop := fnExactEulerOfLevelsRow.holds Try.pinned (OpenSpec.ofChange fnExactEulerOfLevelsWrong)

/-- 'laws.FnExactOrderOfPairing': WHATEVER THE INPUT: true; the input reads as it did. -/
def fnExactOrderOfPairingSpec : ChangeSpec := { name := "fnExactOrderOfPairing", fn := fun _ => fun
  | [d1, d2] => { results := [.lit (.bool true)], args := [d1, d2] }
  | _ => none }
def fnExactOrderOfPairingRow : OpenClaim := { program := "ytplcbiconfpmlaa", sum := "97efe68c136f327eb74a73d9ac907b4412d6afcb3dd94845ba18334412286dc5", func := "loop.example/g01348/laws.FnExactOrderOfPairing", spec := "fnExactOrderOfPairing", unfollowed := true, recurses := true, plainKeys := false, apart := false }
def FnExactOrderOfPairingSaid : Prop := fnExactOrderOfPairingRow.holds Try.pinned (OpenSpec.ofChange fnExactOrderOfPairingSpec)

/-- ITS FALSE NEIGHBOUR: 'it returns false'. Refute it at one input. -/
def fnExactOrderOfPairingWrong : ChangeSpec := { name := "fnExactOrderOfPairing", fn := fun _ => fun
  | [d1, d2] => { results := [.lit (.bool false)], args := [d1, d2] }
  | _ => none }
def FnExactOrderOfPairingWrongFalsely : Prop := fnExactOrderOfPairingRow.holds Try.pinned (OpenSpec.ofChange fnExactOrderOfPairingWrong)

/-- 'laws.FnExactFlatFunction': WHATEVER THE INPUT: true; the input reads as it did. -/
def fnExactFlatFunctionSpec : ChangeSpec := { name := "fnExactFlatFunction", fn := fun _ => fun
  | [d1, d2] => { results := [.lit (.bool true)], args := [d1, d2] }
  | _ => none }
def fnExactFlatFunctionRow : OpenClaim := { program := "ytplcbiconfpmlaa", sum := "97efe68c136f327eb74a73d9ac907b4412d6afcb3dd94845ba18334412286dc5", func := "loop.example/g01348/laws.FnExactFlatFunction", spec := "fnExactFlatFunction", unfollowed := true, recurses := true, plainKeys := false, apart := false }
def FnExactFlatFunctionSaid : Prop := fnExactFlatFunctionRow.holds Try.pinned (OpenSpec.ofChange fnExactFlatFunctionSpec)

/-- ITS FALSE NEIGHBOUR: 'it returns false'. Refute it at one input. -/
def fnExactFlatFunctionWrong : ChangeSpec := { name := "fnExactFlatFunction", fn := fun _ => fun
  | [d1, d2] => { results := [.lit (.bool false)], args := [d1, d2] }
  | _ => none }
def FnExactFlatFunctionWrongFalsely : Prop := fnExactFlatFunctionRow.holds Try.pinned (OpenSpec.ofChange fnExactFlatFunctionWrong)

/- THE SECOND FORM. 'bulk': how many values and letters a reading holds, each counted each time it is reached (what is shared counts as often as it is met; a slice's spare places count too). A statement '..UptoSaid' is the law's where the arguments, and the package variables that the reading takes, are together of bulk at most 1048576: NARROWER than '..Said'. Prove '..Said' where nothing that the law and all that it calls make is longer than what came in: it says more and counts as full. Else prove '..UptoSaid'. A law counts once. -/
mutual
def uptoBulk {H : Type} : DataW H → Nat
  | .lit (.string bytes) => bytes.length + 1
  | .lit _ => 1
  | .nil => 1
  | .ptr d => uptoBulk d + 1
  | .slice elems spare => uptoBulkAll elems + uptoBulkAll spare + 1
  | .agg parts => uptoBulkAll parts + 1
  | .iface _ d => uptoBulk d + 1
  | .map entries => uptoBulkEntries entries + 1
  | .held _ => 1
def uptoBulkAll {H : Type} : List (DataW H) → Nat
  | [] => 0
  | d :: r => uptoBulk d + uptoBulkAll r
def uptoBulkEntries {H : Type} : List (Lit × DataW H) → Nat
  | [] => 0
  | x :: r => uptoBulkEntry x + uptoBulkEntries r
def uptoBulkEntry {H : Type} : Lit × DataW H → Nat
  | (.string bytes, d) => bytes.length + uptoBulk d + 1
  | (_, d) => uptoBulk d + 1
 end
def uptoSmall : (H : Type) → List (DataW H) → Bool := fun _ ds => decide (uptoBulkAll ds ≤ 1048576)
def OpenSpec.upto (s : _root_.Go.ChangeSpec) : _root_.Go.OpenSpec := { _root_.Go.OpenSpec.ofChange s with cond := some uptoSmall }

/-- 'laws.FnExactInequalitiesFor', WHERE WHAT IT READS IS OF BULK AT MOST 1048576: true; the input reads as it did. -/
def fnExactInequalitiesForUptoRow : OpenClaim := { program := "ytplcbiconfpmlaa", sum := "97efe68c136f327eb74a73d9ac907b4412d6afcb3dd94845ba18334412286dc5", func := "loop.example/g01348/laws.FnExactInequalitiesFor", spec := "fnExactInequalitiesFor", unfollowed := true, recurses := true, plainKeys := false, apart := false, narrowed := true }
def FnExactInequalitiesForUptoSaid : Prop := fnExactInequalitiesForUptoRow.holds Try.pinned (OpenSpec.upto fnExactInequalitiesForSpec)

/-- 'laws.FnExactIsPerfect', WHERE WHAT IT READS IS OF BULK AT MOST 1048576: true; the input reads as it did. -/
def fnExactIsPerfectUptoRow : OpenClaim := { program := "ytplcbiconfpmlaa", sum := "97efe68c136f327eb74a73d9ac907b4412d6afcb3dd94845ba18334412286dc5", func := "loop.example/g01348/laws.FnExactIsPerfect", spec := "fnExactIsPerfect", unfollowed := true, recurses := true, plainKeys := false, apart := false, narrowed := true }
def FnExactIsPerfectUptoSaid : Prop := fnExactIsPerfectUptoRow.holds Try.pinned (OpenSpec.upto fnExactIsPerfectSpec)

/-- 'laws.FnExactIsFullPairing', WHERE WHAT IT READS IS OF BULK AT MOST 1048576: true; the input reads as it did. -/
def fnExactIsFullPairingUptoRow : OpenClaim := { program := "ytplcbiconfpmlaa", sum := "97efe68c136f327eb74a73d9ac907b4412d6afcb3dd94845ba18334412286dc5", func := "loop.example/g01348/laws.FnExactIsFullPairing", spec := "fnExactIsFullPairing", inPlace := ["slices.overlaps[loop.example/g01348/impl.Pair]"], unfollowed := true, recurses := true, plainKeys := false, apart := false, narrowed := true }
def FnExactIsFullPairingUptoSaid : Prop := fnExactIsFullPairingUptoRow.holds Try.pinned (OpenSpec.upto fnExactIsFullPairingSpec)

/-- 'laws.FnExactFillPairing', WHERE WHAT IT READS IS OF BULK AT MOST 1048576: true; the input reads as it did. -/
def fnExactFillPairingUptoRow : OpenClaim := { program := "ytplcbiconfpmlaa", sum := "97efe68c136f327eb74a73d9ac907b4412d6afcb3dd94845ba18334412286dc5", func := "loop.example/g01348/laws.FnExactFillPairing", spec := "fnExactFillPairing", inPlace := ["slices.overlaps[loop.example/g01348/impl.Pair]"], unfollowed := true, recurses := true, plainKeys := false, apart := false, narrowed := true }
def FnExactFillPairingUptoSaid : Prop := fnExactFillPairingUptoRow.holds Try.pinned (OpenSpec.upto fnExactFillPairingSpec)

/-- 'laws.FnExactAddPair', WHERE WHAT IT READS IS OF BULK AT MOST 1048576: true; the input reads as it did. -/
def fnExactAddPairUptoRow : OpenClaim := { program := "ytplcbiconfpmlaa", sum := "97efe68c136f327eb74a73d9ac907b4412d6afcb3dd94845ba18334412286dc5", func := "loop.example/g01348/laws.FnExactAddPair", spec := "fnExactAddPair", inPlace := ["slices.overlaps[loop.example/g01348/impl.Pair]"], unfollowed := true, recurses := true, plainKeys := false, apart := false, narrowed := true }
def FnExactAddPairUptoSaid : Prop := fnExactAddPairUptoRow.holds Try.pinned (OpenSpec.upto fnExactAddPairSpec)

/-- 'laws.FnExactGreedyPairing', WHERE WHAT IT READS IS OF BULK AT MOST 1048576: true; the input reads as it did. -/
def fnExactGreedyPairingUptoRow : OpenClaim := { program := "ytplcbiconfpmlaa", sum := "97efe68c136f327eb74a73d9ac907b4412d6afcb3dd94845ba18334412286dc5", func := "loop.example/g01348/laws.FnExactGreedyPairing", spec := "fnExactGreedyPairing", inPlace := ["slices.overlaps[loop.example/g01348/impl.Pair]"], unfollowed := true, recurses := true, plainKeys := false, apart := false, narrowed := true }
def FnExactGreedyPairingUptoSaid : Prop := fnExactGreedyPairingUptoRow.holds Try.pinned (OpenSpec.upto fnExactGreedyPairingSpec)

/-- 'laws.FnExactCancelFaces', WHERE WHAT IT READS IS OF BULK AT MOST 1048576: true; the input reads as it did. -/
def fnExactCancelFacesUptoRow : OpenClaim := { program := "ytplcbiconfpmlaa", sum := "97efe68c136f327eb74a73d9ac907b4412d6afcb3dd94845ba18334412286dc5", func := "loop.example/g01348/laws.FnExactCancelFaces", spec := "fnExactCancelFaces", unfollowed := true, recurses := true, plainKeys := false, apart := false, narrowed := true }
def FnExactCancelFacesUptoSaid : Prop := fnExactCancelFacesUptoRow.holds Try.pinned (OpenSpec.upto fnExactCancelFacesSpec)

/-- 'laws.FnExactCriticalValues', WHERE WHAT IT READS IS OF BULK AT MOST 1048576: true; the input reads as it did. -/
def fnExactCriticalValuesUptoRow : OpenClaim := { program := "ytplcbiconfpmlaa", sum := "97efe68c136f327eb74a73d9ac907b4412d6afcb3dd94845ba18334412286dc5", func := "loop.example/g01348/laws.FnExactCriticalValues", spec := "fnExactCriticalValues", unfollowed := true, recurses := true, plainKeys := false, apart := false, narrowed := true }
def FnExactCriticalValuesUptoSaid : Prop := fnExactCriticalValuesUptoRow.holds Try.pinned (OpenSpec.upto fnExactCriticalValuesSpec)

/-- 'laws.FnExactLevelAt', WHERE WHAT IT READS IS OF BULK AT MOST 1048576: true; the input reads as it did. -/
def fnExactLevelAtUptoRow : OpenClaim := { program := "ytplcbiconfpmlaa", sum := "97efe68c136f327eb74a73d9ac907b4412d6afcb3dd94845ba18334412286dc5", func := "loop.example/g01348/laws.FnExactLevelAt", spec := "fnExactLevelAt", unfollowed := true, recurses := true, plainKeys := false, apart := false, narrowed := true }
def FnExactLevelAtUptoSaid : Prop := fnExactLevelAtUptoRow.holds Try.pinned (OpenSpec.upto fnExactLevelAtSpec)

/-- 'laws.FnExactEulerOfLevels', WHERE WHAT IT READS IS OF BULK AT MOST 1048576: true; the input reads as it did. -/
def fnExactEulerOfLevelsUptoRow : OpenClaim := { program := "ytplcbiconfpmlaa", sum := "97efe68c136f327eb74a73d9ac907b4412d6afcb3dd94845ba18334412286dc5", func := "loop.example/g01348/laws.FnExactEulerOfLevels", spec := "fnExactEulerOfLevels", unfollowed := true, recurses := true, plainKeys := false, apart := false, narrowed := true }
def FnExactEulerOfLevelsUptoSaid : Prop := fnExactEulerOfLevelsUptoRow.holds Try.pinned (OpenSpec.upto fnExactEulerOfLevelsSpec)

/-- 'laws.FnExactOrderOfPairing', WHERE WHAT IT READS IS OF BULK AT MOST 1048576: true; the input reads as it did. -/
def fnExactOrderOfPairingUptoRow : OpenClaim := { program := "ytplcbiconfpmlaa", sum := "97efe68c136f327eb74a73d9ac907b4412d6afcb3dd94845ba18334412286dc5", func := "loop.example/g01348/laws.FnExactOrderOfPairing", spec := "fnExactOrderOfPairing", unfollowed := true, recurses := true, plainKeys := false, apart := false, narrowed := true }
def FnExactOrderOfPairingUptoSaid : Prop := fnExactOrderOfPairingUptoRow.holds Try.pinned (OpenSpec.upto fnExactOrderOfPairingSpec)

/-- 'laws.FnExactFlatFunction', WHERE WHAT IT READS IS OF BULK AT MOST 1048576: true; the input reads as it did. -/
def fnExactFlatFunctionUptoRow : OpenClaim := { program := "ytplcbiconfpmlaa", sum := "97efe68c136f327eb74a73d9ac907b4412d6afcb3dd94845ba18334412286dc5", func := "loop.example/g01348/laws.FnExactFlatFunction", spec := "fnExactFlatFunction", unfollowed := true, recurses := true, plainKeys := false, apart := false, narrowed := true }
def FnExactFlatFunctionUptoSaid : Prop := fnExactFlatFunctionUptoRow.holds Try.pinned (OpenSpec.upto fnExactFlatFunctionSpec)

end Rows
end Go.Proofs.Ytplcbiconfpmlaa
