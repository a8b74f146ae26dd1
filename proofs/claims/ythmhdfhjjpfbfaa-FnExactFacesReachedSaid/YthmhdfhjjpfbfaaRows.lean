/-
  No cell of these rows narrows 'for every input' (looked for: loops, veiled, ifaces, maps, wideKeys, modest, calm, conditions, laid).
  DERIVED. THE GIVEN ROWS OF THIS SEAT. 12 by the template 'for every input the law returns true; each argument reads behind the call as it read before'; 0 by the template 'total and deterministic' (their statements: YthmhdfhjjpfbfaaTotals.lean).
  GIVEN WITH THE SEED: the statements are not yours to turn. If you find one false, say at which input.
  Laid BY PROGRAM, IN A SANDBOX (cutbox-rows.mjs): the forced cells as the released guide's own fill.sh prints them over the translation 8cb1322ec51c84eb… (all of the seat's roots in one cut). By AI agents, Wed Nov 11 2026. No macro, syntax, notation, axiom, sorry.
-/
import Derived.Test.YthmhdfhjjpfbfaaChecked
import GoSem.Claim
import GoSem.ClaimJoined
import GoSem.ClaimMapViews
import Derived.JoinedTies
import Derived.KernelRfl
namespace Go.Proofs.Ythmhdfhjjpfbfaa
/- THE CELL 'sum', in the pinned program and in every row, IS THE sha256 OF THE DUMP (.gsa) THAT YthmhdfhjjpfbfaaProg.lean LOADS. Nothing in Lean hashes anything: it is a label: what it is worth is what the hold of that sum in a sandbox is worth. -/
noncomputable def Try.pinned : Pinned := { name := "ythmhdfhjjpfbfaa", sum := "8cb1322ec51c84eb7f306fccd71736f90ae7ee0dba438fdd81e204a337163664", checked := Try.checked }
namespace Rows
def none {H : Type} : Left H := { results := [], args := [] }

/-- 'laws.FnExactDimensionFunction': WHATEVER THE INPUT: true; the input reads as it did. -/
def fnExactDimensionFunctionSpec : ChangeSpec := { name := "fnExactDimensionFunction", fn := fun _ => fun
  | [d] => { results := [.lit (.bool true)], args := [d] }
  | _ => none }
def fnExactDimensionFunctionRow : OpenClaim := { program := "ythmhdfhjjpfbfaa", sum := "8cb1322ec51c84eb7f306fccd71736f90ae7ee0dba438fdd81e204a337163664", func := "loop.example/g01348/laws.FnExactDimensionFunction", spec := "fnExactDimensionFunction", unfollowed := true, recurses := true, plainKeys := false, apart := false }
def FnExactDimensionFunctionSaid : Prop := fnExactDimensionFunctionRow.holds Try.pinned (OpenSpec.ofChange fnExactDimensionFunctionSpec)

/-- ITS FALSE NEIGHBOUR: 'it returns false'. Refute it at one input. -/
def fnExactDimensionFunctionWrong : ChangeSpec := { name := "fnExactDimensionFunction", fn := fun _ => fun
  | [d] => { results := [.lit (.bool false)], args := [d] }
  | _ => none }
def FnExactDimensionFunctionWrongFalsely : Prop := fnExactDimensionFunctionRow.holds Try.pinned (OpenSpec.ofChange fnExactDimensionFunctionWrong)

/-- 'laws.FnExactSignsOf': WHATEVER THE INPUT: true; the input reads as it did. -/
def fnExactSignsOfSpec : ChangeSpec := { name := "fnExactSignsOf", fn := fun _ => fun
  | [d1, d2] => { results := [.lit (.bool true)], args := [d1, d2] }
  | _ => none }
def fnExactSignsOfRow : OpenClaim := { program := "ythmhdfhjjpfbfaa", sum := "8cb1322ec51c84eb7f306fccd71736f90ae7ee0dba438fdd81e204a337163664", func := "loop.example/g01348/laws.FnExactSignsOf", spec := "fnExactSignsOf", unfollowed := true, recurses := true, plainKeys := false, apart := false }
def FnExactSignsOfSaid : Prop := fnExactSignsOfRow.holds Try.pinned (OpenSpec.ofChange fnExactSignsOfSpec)

/-- ITS FALSE NEIGHBOUR: 'it returns false'. Refute it at one input. -/
def fnExactSignsOfWrong : ChangeSpec := { name := "fnExactSignsOf", fn := fun _ => fun
  | [d1, d2] => { results := [.lit (.bool false)], args := [d1, d2] }
  | _ => none }
def FnExactSignsOfWrongFalsely : Prop := fnExactSignsOfRow.holds Try.pinned (OpenSpec.ofChange fnExactSignsOfWrong)

/-- 'laws.FnExactIsMorseFunction': WHATEVER THE INPUT: true; the input reads as it did. -/
def fnExactIsMorseFunctionSpec : ChangeSpec := { name := "fnExactIsMorseFunction", fn := fun _ => fun
  | [d1, d2] => { results := [.lit (.bool true)], args := [d1, d2] }
  | _ => none }
def fnExactIsMorseFunctionRow : OpenClaim := { program := "ythmhdfhjjpfbfaa", sum := "8cb1322ec51c84eb7f306fccd71736f90ae7ee0dba438fdd81e204a337163664", func := "loop.example/g01348/laws.FnExactIsMorseFunction", spec := "fnExactIsMorseFunction", unfollowed := true, recurses := true, plainKeys := false, apart := false }
def FnExactIsMorseFunctionSaid : Prop := fnExactIsMorseFunctionRow.holds Try.pinned (OpenSpec.ofChange fnExactIsMorseFunctionSpec)

/-- ITS FALSE NEIGHBOUR: 'it returns false'. Refute it at one input. -/
def fnExactIsMorseFunctionWrong : ChangeSpec := { name := "fnExactIsMorseFunction", fn := fun _ => fun
  | [d1, d2] => { results := [.lit (.bool false)], args := [d1, d2] }
  | _ => none }
def FnExactIsMorseFunctionWrongFalsely : Prop := fnExactIsMorseFunctionRow.holds Try.pinned (OpenSpec.ofChange fnExactIsMorseFunctionWrong)

/-- 'laws.FnExactPairingOfFunction': WHATEVER THE INPUT: true; the input reads as it did. -/
def fnExactPairingOfFunctionSpec : ChangeSpec := { name := "fnExactPairingOfFunction", fn := fun _ => fun
  | [d1, d2] => { results := [.lit (.bool true)], args := [d1, d2] }
  | _ => none }
def fnExactPairingOfFunctionRow : OpenClaim := { program := "ythmhdfhjjpfbfaa", sum := "8cb1322ec51c84eb7f306fccd71736f90ae7ee0dba438fdd81e204a337163664", func := "loop.example/g01348/laws.FnExactPairingOfFunction", spec := "fnExactPairingOfFunction", unfollowed := true, recurses := true, plainKeys := false, apart := false }
def FnExactPairingOfFunctionSaid : Prop := fnExactPairingOfFunctionRow.holds Try.pinned (OpenSpec.ofChange fnExactPairingOfFunctionSpec)

/-- ITS FALSE NEIGHBOUR: 'it returns false'. Refute it at one input. -/
def fnExactPairingOfFunctionWrong : ChangeSpec := { name := "fnExactPairingOfFunction", fn := fun _ => fun
  | [d1, d2] => { results := [.lit (.bool false)], args := [d1, d2] }
  | _ => none }
def FnExactPairingOfFunctionWrongFalsely : Prop := fnExactPairingOfFunctionRow.holds Try.pinned (OpenSpec.ofChange fnExactPairingOfFunctionWrong)

/-- 'laws.FnExactAreEquivalent': WHATEVER THE INPUT: true; the input reads as it did. -/
def fnExactAreEquivalentSpec : ChangeSpec := { name := "fnExactAreEquivalent", fn := fun _ => fun
  | [d1, d2, d3] => { results := [.lit (.bool true)], args := [d1, d2, d3] }
  | _ => none }
def fnExactAreEquivalentRow : OpenClaim := { program := "ythmhdfhjjpfbfaa", sum := "8cb1322ec51c84eb7f306fccd71736f90ae7ee0dba438fdd81e204a337163664", func := "loop.example/g01348/laws.FnExactAreEquivalent", spec := "fnExactAreEquivalent", unfollowed := true, recurses := true, plainKeys := false, apart := false }
def FnExactAreEquivalentSaid : Prop := fnExactAreEquivalentRow.holds Try.pinned (OpenSpec.ofChange fnExactAreEquivalentSpec)

/-- ITS FALSE NEIGHBOUR: 'it returns false'. Refute it at one input. -/
def fnExactAreEquivalentWrong : ChangeSpec := { name := "fnExactAreEquivalent", fn := fun _ => fun
  | [d1, d2, d3] => { results := [.lit (.bool false)], args := [d1, d2, d3] }
  | _ => none }
def FnExactAreEquivalentWrongFalsely : Prop := fnExactAreEquivalentRow.holds Try.pinned (OpenSpec.ofChange fnExactAreEquivalentWrong)

/-- 'laws.FnExactIsFlat': WHATEVER THE INPUT: true; the input reads as it did. -/
def fnExactIsFlatSpec : ChangeSpec := { name := "fnExactIsFlat", fn := fun _ => fun
  | [d1, d2] => { results := [.lit (.bool true)], args := [d1, d2] }
  | _ => none }
def fnExactIsFlatRow : OpenClaim := { program := "ythmhdfhjjpfbfaa", sum := "8cb1322ec51c84eb7f306fccd71736f90ae7ee0dba438fdd81e204a337163664", func := "loop.example/g01348/laws.FnExactIsFlat", spec := "fnExactIsFlat", unfollowed := true, recurses := true, plainKeys := false, apart := false }
def FnExactIsFlatSaid : Prop := fnExactIsFlatRow.holds Try.pinned (OpenSpec.ofChange fnExactIsFlatSpec)

/-- ITS FALSE NEIGHBOUR: 'it returns false'. Refute it at one input. -/
def fnExactIsFlatWrong : ChangeSpec := { name := "fnExactIsFlat", fn := fun _ => fun
  | [d1, d2] => { results := [.lit (.bool false)], args := [d1, d2] }
  | _ => none }
def FnExactIsFlatWrongFalsely : Prop := fnExactIsFlatRow.holds Try.pinned (OpenSpec.ofChange fnExactIsFlatWrong)

/-- 'laws.FnExactIsAcyclicPairing': WHATEVER THE INPUT: true; the input reads as it did. -/
def fnExactIsAcyclicPairingSpec : ChangeSpec := { name := "fnExactIsAcyclicPairing", fn := fun _ => fun
  | [d1, d2] => { results := [.lit (.bool true)], args := [d1, d2] }
  | _ => none }
def fnExactIsAcyclicPairingRow : OpenClaim := { program := "ythmhdfhjjpfbfaa", sum := "8cb1322ec51c84eb7f306fccd71736f90ae7ee0dba438fdd81e204a337163664", func := "loop.example/g01348/laws.FnExactIsAcyclicPairing", spec := "fnExactIsAcyclicPairing", unfollowed := true, recurses := true, plainKeys := false, apart := false }
def FnExactIsAcyclicPairingSaid : Prop := fnExactIsAcyclicPairingRow.holds Try.pinned (OpenSpec.ofChange fnExactIsAcyclicPairingSpec)

/-- ITS FALSE NEIGHBOUR: 'it returns false'. Refute it at one input. -/
def fnExactIsAcyclicPairingWrong : ChangeSpec := { name := "fnExactIsAcyclicPairing", fn := fun _ => fun
  | [d1, d2] => { results := [.lit (.bool false)], args := [d1, d2] }
  | _ => none }
def FnExactIsAcyclicPairingWrongFalsely : Prop := fnExactIsAcyclicPairingRow.holds Try.pinned (OpenSpec.ofChange fnExactIsAcyclicPairingWrong)

/-- 'laws.FnExactFacesReached': WHATEVER THE INPUT: true; the input reads as it did. -/
def fnExactFacesReachedSpec : ChangeSpec := { name := "fnExactFacesReached", fn := fun _ => fun
  | [d1, d2, d3] => { results := [.lit (.bool true)], args := [d1, d2, d3] }
  | _ => none }
def fnExactFacesReachedRow : OpenClaim := { program := "ythmhdfhjjpfbfaa", sum := "8cb1322ec51c84eb7f306fccd71736f90ae7ee0dba438fdd81e204a337163664", func := "loop.example/g01348/laws.FnExactFacesReached", spec := "fnExactFacesReached", unfollowed := true, recurses := true, plainKeys := false, apart := false }
def FnExactFacesReachedSaid : Prop := fnExactFacesReachedRow.holds Try.pinned (OpenSpec.ofChange fnExactFacesReachedSpec)

/-- ITS FALSE NEIGHBOUR: 'it returns false'. Refute it at one input. -/
def fnExactFacesReachedWrong : ChangeSpec := { name := "fnExactFacesReached", fn := fun _ => fun
  | [d1, d2, d3] => { results := [.lit (.bool false)], args := [d1, d2, d3] }
  | _ => none }
def FnExactFacesReachedWrongFalsely : Prop := fnExactFacesReachedRow.holds Try.pinned (OpenSpec.ofChange fnExactFacesReachedWrong)

/-- 'laws.FnExactRankOf': WHATEVER THE INPUT: true; the input reads as it did. -/
def fnExactRankOfSpec : ChangeSpec := { name := "fnExactRankOf", fn := fun _ => fun
  | [d1, d2, d3] => { results := [.lit (.bool true)], args := [d1, d2, d3] }
  | _ => none }
def fnExactRankOfRow : OpenClaim := { program := "ythmhdfhjjpfbfaa", sum := "8cb1322ec51c84eb7f306fccd71736f90ae7ee0dba438fdd81e204a337163664", func := "loop.example/g01348/laws.FnExactRankOf", spec := "fnExactRankOf", unfollowed := true, recurses := true, plainKeys := false, apart := false }
def FnExactRankOfSaid : Prop := fnExactRankOfRow.holds Try.pinned (OpenSpec.ofChange fnExactRankOfSpec)

/-- ITS FALSE NEIGHBOUR: 'it returns false'. Refute it at one input. -/
def fnExactRankOfWrong : ChangeSpec := { name := "fnExactRankOf", fn := fun _ => fun
  | [d1, d2, d3] => { results := [.lit (.bool false)], args := [d1, d2, d3] }
  | _ => none }
def FnExactRankOfWrongFalsely : Prop := fnExactRankOfRow.holds Try.pinned (OpenSpec.ofChange fnExactRankOfWrong)

/-- 'laws.FnExactBettiNumbers': WHATEVER THE INPUT: true; the input reads as it did. -/
def fnExactBettiNumbersSpec : ChangeSpec := { name := "fnExactBettiNumbers", fn := fun _ => fun
  | [d1, d2] => { results := [.lit (.bool true)], args := [d1, d2] }
  | _ => none }
def fnExactBettiNumbersRow : OpenClaim := { program := "ythmhdfhjjpfbfaa", sum := "8cb1322ec51c84eb7f306fccd71736f90ae7ee0dba438fdd81e204a337163664", func := "loop.example/g01348/laws.FnExactBettiNumbers", spec := "fnExactBettiNumbers", unfollowed := true, recurses := true, plainKeys := false, apart := false }
def FnExactBettiNumbersSaid : Prop := fnExactBettiNumbersRow.holds Try.pinned (OpenSpec.ofChange fnExactBettiNumbersSpec)

/-- ITS FALSE NEIGHBOUR: 'it returns false'. Refute it at one input. -/
def fnExactBettiNumbersWrong : ChangeSpec := { name := "fnExactBettiNumbers", fn := fun _ => fun
  | [d1, d2] => { results := [.lit (.bool false)], args := [d1, d2] }
  | _ => none }
def FnExactBettiNumbersWrongFalsely : Prop := fnExactBettiNumbersRow.holds Try.pinned (OpenSpec.ofChange fnExactBettiNumbersWrong)

/-- 'laws.FnExactIsAcyclicComplex': WHATEVER THE INPUT: true; the input reads as it did. -/
def fnExactIsAcyclicComplexSpec : ChangeSpec := { name := "fnExactIsAcyclicComplex", fn := fun _ => fun
  | [d1, d2] => { results := [.lit (.bool true)], args := [d1, d2] }
  | _ => none }
def fnExactIsAcyclicComplexRow : OpenClaim := { program := "ythmhdfhjjpfbfaa", sum := "8cb1322ec51c84eb7f306fccd71736f90ae7ee0dba438fdd81e204a337163664", func := "loop.example/g01348/laws.FnExactIsAcyclicComplex", spec := "fnExactIsAcyclicComplex", unfollowed := true, recurses := true, plainKeys := false, apart := false }
def FnExactIsAcyclicComplexSaid : Prop := fnExactIsAcyclicComplexRow.holds Try.pinned (OpenSpec.ofChange fnExactIsAcyclicComplexSpec)

/-- ITS FALSE NEIGHBOUR: 'it returns false'. Refute it at one input. -/
def fnExactIsAcyclicComplexWrong : ChangeSpec := { name := "fnExactIsAcyclicComplex", fn := fun _ => fun
  | [d1, d2] => { results := [.lit (.bool false)], args := [d1, d2] }
  | _ => none }
def FnExactIsAcyclicComplexWrongFalsely : Prop := fnExactIsAcyclicComplexRow.holds Try.pinned (OpenSpec.ofChange fnExactIsAcyclicComplexWrong)

/-- 'laws.FnExactCountCycles': WHATEVER THE INPUT: true; the input reads as it did. -/
def fnExactCountCyclesSpec : ChangeSpec := { name := "fnExactCountCycles", fn := fun _ => fun
  | [d1, d2] => { results := [.lit (.bool true)], args := [d1, d2] }
  | _ => none }
def fnExactCountCyclesRow : OpenClaim := { program := "ythmhdfhjjpfbfaa", sum := "8cb1322ec51c84eb7f306fccd71736f90ae7ee0dba438fdd81e204a337163664", func := "loop.example/g01348/laws.FnExactCountCycles", spec := "fnExactCountCycles", unfollowed := true, recurses := true, plainKeys := false, apart := false }
def FnExactCountCyclesSaid : Prop := fnExactCountCyclesRow.holds Try.pinned (OpenSpec.ofChange fnExactCountCyclesSpec)

/-- ITS FALSE NEIGHBOUR: 'it returns false'. Refute it at one input. -/
def fnExactCountCyclesWrong : ChangeSpec := { name := "fnExactCountCycles", fn := fun _ => fun
  | [d1, d2] => { results := [.lit (.bool false)], args := [d1, d2] }
  | _ => none }
def FnExactCountCyclesWrongFalsely : Prop := fnExactCountCyclesRow.holds Try.pinned (OpenSpec.ofChange fnExactCountCyclesWrong)

/- THE SECOND FORM. 'bulk': how many values and letters a reading holds, each counted each time it is reached (what is shared counts as often as it is met; a slice's spare places count too). A statement '..UptoSaid' is the law's where the arguments, and the package variables that the reading takes, are together of bulk at most 1048576: NARROWER than '..Said'. Prove '..Said' where nothing that the law and all that it calls make is longer than what came in: it says more and counts as full. Else prove '..UptoSaid'. A law counts once. -/
mutual
def uptoBulk {H : Type} : DataW H → Nat
  | .lit (.string bytes) => bytes.length + 1
  | .lit _ => 1
  | .nil => 1
  | .ptr d => uptoBulk d + 1
  | .slice elems spare => uptoBulkAll elems + uptoBulkAll spare + 1
  | .agg parts => uptoBulkAll parts + 1
  | .iface _ d => uptoBulk d + 1
  | .map entries => uptoBulkEntries entries + 1
  | .held _ => 1
def uptoBulkAll {H : Type} : List (DataW H) → Nat
  | [] => 0
  | d :: r => uptoBulk d + uptoBulkAll r
def uptoBulkEntries {H : Type} : List (Lit × DataW H) → Nat
  | [] => 0
  | x :: r => uptoBulkEntry x + uptoBulkEntries r
def uptoBulkEntry {H : Type} : Lit × DataW H → Nat
  | (.string bytes, d) => bytes.length + uptoBulk d + 1
  | (_, d) => uptoBulk d + 1
 end
def uptoSmall : (H : Type) → List (DataW H) → Bool := fun _ ds => decide (uptoBulkAll ds ≤ 1048576)
def OpenSpec.upto (s : _root_.Go.ChangeSpec) : _root_.Go.OpenSpec := { _root_.Go.OpenSpec.ofChange s with cond := some uptoSmall }

/-- 'laws.FnExactDimensionFunction', WHERE WHAT IT READS IS OF BULK AT MOST 1048576: true; the input reads as it did. -/
def fnExactDimensionFunctionUptoRow : OpenClaim := { program := "ythmhdfhjjpfbfaa", sum := "8cb1322ec51c84eb7f306fccd71736f90ae7ee0dba438fdd81e204a337163664", func := "loop.example/g01348/laws.FnExactDimensionFunction", spec := "fnExactDimensionFunction", unfollowed := true, recurses := true, plainKeys := false, apart := false, narrowed := true }
def FnExactDimensionFunctionUptoSaid : Prop := fnExactDimensionFunctionUptoRow.holds Try.pinned (OpenSpec.upto fnExactDimensionFunctionSpec)

/-- 'laws.FnExactSignsOf', WHERE WHAT IT READS IS OF BULK AT MOST 1048576: true; the input reads as it did. -/
def fnExactSignsOfUptoRow : OpenClaim := { program := "ythmhdfhjjpfbfaa", sum := "8cb1322ec51c84eb7f306fccd71736f90ae7ee0dba438fdd81e204a337163664", func := "loop.example/g01348/laws.FnExactSignsOf", spec := "fnExactSignsOf", unfollowed := true, recurses := true, plainKeys := false, apart := false, narrowed := true }
def FnExactSignsOfUptoSaid : Prop := fnExactSignsOfUptoRow.holds Try.pinned (OpenSpec.upto fnExactSignsOfSpec)

/-- 'laws.FnExactIsMorseFunction', WHERE WHAT IT READS IS OF BULK AT MOST 1048576: true; the input reads as it did. -/
def fnExactIsMorseFunctionUptoRow : OpenClaim := { program := "ythmhdfhjjpfbfaa", sum := "8cb1322ec51c84eb7f306fccd71736f90ae7ee0dba438fdd81e204a337163664", func := "loop.example/g01348/laws.FnExactIsMorseFunction", spec := "fnExactIsMorseFunction", unfollowed := true, recurses := true, plainKeys := false, apart := false, narrowed := true }
def FnExactIsMorseFunctionUptoSaid : Prop := fnExactIsMorseFunctionUptoRow.holds Try.pinned (OpenSpec.upto fnExactIsMorseFunctionSpec)

/-- 'laws.FnExactPairingOfFunction', WHERE WHAT IT READS IS OF BULK AT MOST 1048576: true; the input reads as it did. -/
def fnExactPairingOfFunctionUptoRow : OpenClaim := { program := "ythmhdfhjjpfbfaa", sum := "8cb1322ec51c84eb7f306fccd71736f90ae7ee0dba438fdd81e204a337163664", func := "loop.example/g01348/laws.FnExactPairingOfFunction", spec := "fnExactPairingOfFunction", unfollowed := true, recurses := true, plainKeys := false, apart := false, narrowed := true }
def FnExactPairingOfFunctionUptoSaid : Prop := fnExactPairingOfFunctionUptoRow.holds Try.pinned (OpenSpec.upto fnExactPairingOfFunctionSpec)

/-- 'laws.FnExactAreEquivalent', WHERE WHAT IT READS IS OF BULK AT MOST 1048576: true; the input reads as it did. -/
def fnExactAreEquivalentUptoRow : OpenClaim := { program := "ythmhdfhjjpfbfaa", sum := "8cb1322ec51c84eb7f306fccd71736f90ae7ee0dba438fdd81e204a337163664", func := "loop.example/g01348/laws.FnExactAreEquivalent", spec := "fnExactAreEquivalent", unfollowed := true, recurses := true, plainKeys := false, apart := false, narrowed := true }
def FnExactAreEquivalentUptoSaid : Prop := fnExactAreEquivalentUptoRow.holds Try.pinned (OpenSpec.upto fnExactAreEquivalentSpec)

/-- 'laws.FnExactIsFlat', WHERE WHAT IT READS IS OF BULK AT MOST 1048576: true; the input reads as it did. -/
def fnExactIsFlatUptoRow : OpenClaim := { program := "ythmhdfhjjpfbfaa", sum := "8cb1322ec51c84eb7f306fccd71736f90ae7ee0dba438fdd81e204a337163664", func := "loop.example/g01348/laws.FnExactIsFlat", spec := "fnExactIsFlat", unfollowed := true, recurses := true, plainKeys := false, apart := false, narrowed := true }
def FnExactIsFlatUptoSaid : Prop := fnExactIsFlatUptoRow.holds Try.pinned (OpenSpec.upto fnExactIsFlatSpec)

/-- 'laws.FnExactIsAcyclicPairing', WHERE WHAT IT READS IS OF BULK AT MOST 1048576: true; the input reads as it did. -/
def fnExactIsAcyclicPairingUptoRow : OpenClaim := { program := "ythmhdfhjjpfbfaa", sum := "8cb1322ec51c84eb7f306fccd71736f90ae7ee0dba438fdd81e204a337163664", func := "loop.example/g01348/laws.FnExactIsAcyclicPairing", spec := "fnExactIsAcyclicPairing", unfollowed := true, recurses := true, plainKeys := false, apart := false, narrowed := true }
def FnExactIsAcyclicPairingUptoSaid : Prop := fnExactIsAcyclicPairingUptoRow.holds Try.pinned (OpenSpec.upto fnExactIsAcyclicPairingSpec)

/-- 'laws.FnExactFacesReached', WHERE WHAT IT READS IS OF BULK AT MOST 1048576: true; the input reads as it did. -/
def fnExactFacesReachedUptoRow : OpenClaim := { program := "ythmhdfhjjpfbfaa", sum := "8cb1322ec51c84eb7f306fccd71736f90ae7ee0dba438fdd81e204a337163664", func := "loop.example/g01348/laws.FnExactFacesReached", spec := "fnExactFacesReached", unfollowed := true, recurses := true, plainKeys := false, apart := false, narrowed := true }
def FnExactFacesReachedUptoSaid : Prop := fnExactFacesReachedUptoRow.holds Try.pinned (OpenSpec.upto fnExactFacesReachedSpec)

/-- 'laws.FnExactRankOf', WHERE WHAT IT READS IS OF BULK AT MOST 1048576: true; the input reads as it did. -/
def fnExactRankOfUptoRow : OpenClaim := { program := "ythmhdfhjjpfbfaa", sum := "8cb1322ec51c84eb7f306fccd71736f90ae7ee0dba438fdd81e204a337163664", func := "loop.example/g01348/laws.FnExactRankOf", spec := "fnExactRankOf", unfollowed := true, recurses := true, plainKeys := false, apart := false, narrowed := true }
def FnExactRankOfUptoSaid : Prop := fnExactRankOfUptoRow.holds Try.pinned (OpenSpec.upto fnExactRankOfSpec)

/-- 'laws.FnExactBettiNumbers', WHERE WHAT IT READS IS OF BULK AT MOST 1048576: true; the input reads as it did. -/
def fnExactBettiNumbersUptoRow : OpenClaim := { program := "ythmhdfhjjpfbfaa", sum := "8cb1322ec51c84eb7f306fccd71736f90ae7ee0dba438fdd81e204a337163664", func := "loop.example/g01348/laws.FnExactBettiNumbers", spec := "fnExactBettiNumbers", unfollowed := true, recurses := true, plainKeys := false, apart := false, narrowed := true }
def FnExactBettiNumbersUptoSaid : Prop := fnExactBettiNumbersUptoRow.holds Try.pinned (OpenSpec.upto fnExactBettiNumbersSpec)

/-- 'laws.FnExactIsAcyclicComplex', WHERE WHAT IT READS IS OF BULK AT MOST 1048576: true; the input reads as it did. -/
def fnExactIsAcyclicComplexUptoRow : OpenClaim := { program := "ythmhdfhjjpfbfaa", sum := "8cb1322ec51c84eb7f306fccd71736f90ae7ee0dba438fdd81e204a337163664", func := "loop.example/g01348/laws.FnExactIsAcyclicComplex", spec := "fnExactIsAcyclicComplex", unfollowed := true, recurses := true, plainKeys := false, apart := false, narrowed := true }
def FnExactIsAcyclicComplexUptoSaid : Prop := fnExactIsAcyclicComplexUptoRow.holds Try.pinned (OpenSpec.upto fnExactIsAcyclicComplexSpec)

/-- 'laws.FnExactCountCycles', WHERE WHAT IT READS IS OF BULK AT MOST 1048576: true; the input reads as it did. -/
def fnExactCountCyclesUptoRow : OpenClaim := { program := "ythmhdfhjjpfbfaa", sum := "8cb1322ec51c84eb7f306fccd71736f90ae7ee0dba438fdd81e204a337163664", func := "loop.example/g01348/laws.FnExactCountCycles", spec := "fnExactCountCycles", unfollowed := true, recurses := true, plainKeys := false, apart := false, narrowed := true }
def FnExactCountCyclesUptoSaid : Prop := fnExactCountCyclesUptoRow.holds Try.pinned (OpenSpec.upto fnExactCountCyclesSpec)

end Rows
end Go.Proofs.Ythmhdfhjjpfbfaa
