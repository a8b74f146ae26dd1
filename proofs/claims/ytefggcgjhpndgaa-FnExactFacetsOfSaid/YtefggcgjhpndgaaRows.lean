/-
  No cell of these rows narrows 'for every input' (looked for: loops, veiled, ifaces, maps, wideKeys, modest, calm, conditions, laid).
  DERIVED. THE GIVEN ROWS OF THIS SEAT. 12 by the template 'for every input the law returns true; each argument reads behind the call as it read before'; 0 by the template 'total and deterministic' (their statements: YtefggcgjhpndgaaTotals.lean).
  GIVEN WITH THE SEED: the statements are not yours to turn. If you find one false, say at which input.
  Laid BY PROGRAM, IN A SANDBOX (cutbox-rows.mjs): the forced cells as the released guide's own fill.sh prints them over the translation de3773eeddef6ea1… (all of the seat's roots in one cut). By AI agents, Wed Nov 11 2026. No macro, syntax, notation, axiom, sorry.
-/
import Derived.Test.YtefggcgjhpndgaaChecked
import GoSem.Claim
import GoSem.ClaimJoined
import GoSem.ClaimMapViews
import Derived.JoinedTies
import Derived.KernelRfl
namespace Go.Proofs.Ytefggcgjhpndgaa
/- THE CELL 'sum', in the pinned program and in every row, IS THE sha256 OF THE DUMP (.gsa) THAT YtefggcgjhpndgaaProg.lean LOADS. Nothing in Lean hashes anything: it is a label: what it is worth is what the hold of that sum in a sandbox is worth. -/
noncomputable def Try.pinned : Pinned := { name := "ytefggcgjhpndgaa", sum := "de3773eeddef6ea17b82d17ecfb47a74c05f0eb1f3bef71b7935e013daf669f5", checked := Try.checked }
namespace Rows
def none {H : Type} : Left H := { results := [], args := [] }

/-- 'laws.FnExactJoinOf': WHATEVER THE INPUT: true; the input reads as it did. -/
def fnExactJoinOfSpec : ChangeSpec := { name := "fnExactJoinOf", fn := fun _ => fun
  | [d1, d2] => { results := [.lit (.bool true)], args := [d1, d2] }
  | _ => none }
def fnExactJoinOfRow : OpenClaim := { program := "ytefggcgjhpndgaa", sum := "de3773eeddef6ea17b82d17ecfb47a74c05f0eb1f3bef71b7935e013daf669f5", func := "loop.example/g01348/laws.FnExactJoinOf", spec := "fnExactJoinOf", unfollowed := true, recurses := true, plainKeys := false, apart := false }
def FnExactJoinOfSaid : Prop := fnExactJoinOfRow.holds Try.pinned (OpenSpec.ofChange fnExactJoinOfSpec)

/-- ITS FALSE NEIGHBOUR: 'it returns false'. Refute it at one input. -/
def fnExactJoinOfWrong : ChangeSpec := { name := "fnExactJoinOf", fn := fun _ => fun
  | [d1, d2] => { results := [.lit (.bool false)], args := [d1, d2] }
  | _ => none }
def FnExactJoinOfWrongFalsely : Prop := fnExactJoinOfRow.holds Try.pinned (OpenSpec.ofChange fnExactJoinOfWrong)

/-- 'laws.FnExactConeOf': WHATEVER THE INPUT: true; the input reads as it did. -/
def fnExactConeOfSpec : ChangeSpec := { name := "fnExactConeOf", fn := fun _ => fun
  | [d] => { results := [.lit (.bool true)], args := [d] }
  | _ => none }
def fnExactConeOfRow : OpenClaim := { program := "ytefggcgjhpndgaa", sum := "de3773eeddef6ea17b82d17ecfb47a74c05f0eb1f3bef71b7935e013daf669f5", func := "loop.example/g01348/laws.FnExactConeOf", spec := "fnExactConeOf", unfollowed := true, recurses := true, plainKeys := false, apart := false }
def FnExactConeOfSaid : Prop := fnExactConeOfRow.holds Try.pinned (OpenSpec.ofChange fnExactConeOfSpec)

/-- ITS FALSE NEIGHBOUR: 'it returns false'. Refute it at one input. -/
def fnExactConeOfWrong : ChangeSpec := { name := "fnExactConeOf", fn := fun _ => fun
  | [d] => { results := [.lit (.bool false)], args := [d] }
  | _ => none }
def FnExactConeOfWrongFalsely : Prop := fnExactConeOfRow.holds Try.pinned (OpenSpec.ofChange fnExactConeOfWrong)

/-- 'laws.FnExactFacetsOf': WHATEVER THE INPUT: true; the input reads as it did. -/
def fnExactFacetsOfSpec : ChangeSpec := { name := "fnExactFacetsOf", fn := fun _ => fun
  | [d] => { results := [.lit (.bool true)], args := [d] }
  | _ => none }
def fnExactFacetsOfRow : OpenClaim := { program := "ytefggcgjhpndgaa", sum := "de3773eeddef6ea17b82d17ecfb47a74c05f0eb1f3bef71b7935e013daf669f5", func := "loop.example/g01348/laws.FnExactFacetsOf", spec := "fnExactFacetsOf", unfollowed := true, recurses := true, plainKeys := false, apart := false }
def FnExactFacetsOfSaid : Prop := fnExactFacetsOfRow.holds Try.pinned (OpenSpec.ofChange fnExactFacetsOfSpec)

/-- ITS FALSE NEIGHBOUR: 'it returns false'. Refute it at one input. -/
def fnExactFacetsOfWrong : ChangeSpec := { name := "fnExactFacetsOf", fn := fun _ => fun
  | [d] => { results := [.lit (.bool false)], args := [d] }
  | _ => none }
def FnExactFacetsOfWrongFalsely : Prop := fnExactFacetsOfRow.holds Try.pinned (OpenSpec.ofChange fnExactFacetsOfWrong)

/-- 'laws.FnExactComplexOf': WHATEVER THE INPUT: true; the input reads as it did. -/
def fnExactComplexOfSpec : ChangeSpec := { name := "fnExactComplexOf", fn := fun _ => fun
  | [d1, d2] => { results := [.lit (.bool true)], args := [d1, d2] }
  | _ => none }
def fnExactComplexOfRow : OpenClaim := { program := "ytefggcgjhpndgaa", sum := "de3773eeddef6ea17b82d17ecfb47a74c05f0eb1f3bef71b7935e013daf669f5", func := "loop.example/g01348/laws.FnExactComplexOf", spec := "fnExactComplexOf", unfollowed := true, recurses := true, plainKeys := false, apart := false }
def FnExactComplexOfSaid : Prop := fnExactComplexOfRow.holds Try.pinned (OpenSpec.ofChange fnExactComplexOfSpec)

/-- ITS FALSE NEIGHBOUR: 'it returns false'. Refute it at one input. -/
def fnExactComplexOfWrong : ChangeSpec := { name := "fnExactComplexOf", fn := fun _ => fun
  | [d1, d2] => { results := [.lit (.bool false)], args := [d1, d2] }
  | _ => none }
def FnExactComplexOfWrongFalsely : Prop := fnExactComplexOfRow.holds Try.pinned (OpenSpec.ofChange fnExactComplexOfWrong)

/-- 'laws.FnExactRenumberComplex': WHATEVER THE INPUT: true; the input reads as it did. -/
def fnExactRenumberComplexSpec : ChangeSpec := { name := "fnExactRenumberComplex", fn := fun _ => fun
  | [d1, d2] => { results := [.lit (.bool true)], args := [d1, d2] }
  | _ => none }
def fnExactRenumberComplexRow : OpenClaim := { program := "ytefggcgjhpndgaa", sum := "de3773eeddef6ea17b82d17ecfb47a74c05f0eb1f3bef71b7935e013daf669f5", func := "loop.example/g01348/laws.FnExactRenumberComplex", spec := "fnExactRenumberComplex", unfollowed := true, recurses := true, plainKeys := false, apart := false }
def FnExactRenumberComplexSaid : Prop := fnExactRenumberComplexRow.holds Try.pinned (OpenSpec.ofChange fnExactRenumberComplexSpec)

/-- ITS FALSE NEIGHBOUR: 'it returns false'. Refute it at one input. -/
def fnExactRenumberComplexWrong : ChangeSpec := { name := "fnExactRenumberComplex", fn := fun _ => fun
  | [d1, d2] => { results := [.lit (.bool false)], args := [d1, d2] }
  | _ => none }
def FnExactRenumberComplexWrongFalsely : Prop := fnExactRenumberComplexRow.holds Try.pinned (OpenSpec.ofChange fnExactRenumberComplexWrong)

/-- 'laws.FnExactComponentsOf': WHATEVER THE INPUT: true; the input reads as it did. -/
def fnExactComponentsOfSpec : ChangeSpec := { name := "fnExactComponentsOf", fn := fun _ => fun
  | [d] => { results := [.lit (.bool true)], args := [d] }
  | _ => none }
def fnExactComponentsOfRow : OpenClaim := { program := "ytefggcgjhpndgaa", sum := "de3773eeddef6ea17b82d17ecfb47a74c05f0eb1f3bef71b7935e013daf669f5", func := "loop.example/g01348/laws.FnExactComponentsOf", spec := "fnExactComponentsOf", unfollowed := true, recurses := true, plainKeys := false, apart := false }
def FnExactComponentsOfSaid : Prop := fnExactComponentsOfRow.holds Try.pinned (OpenSpec.ofChange fnExactComponentsOfSpec)

/-- ITS FALSE NEIGHBOUR: 'it returns false'. Refute it at one input. -/
def fnExactComponentsOfWrong : ChangeSpec := { name := "fnExactComponentsOf", fn := fun _ => fun
  | [d] => { results := [.lit (.bool false)], args := [d] }
  | _ => none }
def FnExactComponentsOfWrongFalsely : Prop := fnExactComponentsOfRow.holds Try.pinned (OpenSpec.ofChange fnExactComponentsOfWrong)

/-- 'laws.FnExactIsPairing': WHATEVER THE INPUT: true; the input reads as it did. -/
def fnExactIsPairingSpec : ChangeSpec := { name := "fnExactIsPairing", fn := fun _ => fun
  | [d1, d2] => { results := [.lit (.bool true)], args := [d1, d2] }
  | _ => none }
def fnExactIsPairingRow : OpenClaim := { program := "ytefggcgjhpndgaa", sum := "de3773eeddef6ea17b82d17ecfb47a74c05f0eb1f3bef71b7935e013daf669f5", func := "loop.example/g01348/laws.FnExactIsPairing", spec := "fnExactIsPairing", unfollowed := true, recurses := true, plainKeys := false, apart := false }
def FnExactIsPairingSaid : Prop := fnExactIsPairingRow.holds Try.pinned (OpenSpec.ofChange fnExactIsPairingSpec)

/-- ITS FALSE NEIGHBOUR: 'it returns false'. Refute it at one input. -/
def fnExactIsPairingWrong : ChangeSpec := { name := "fnExactIsPairing", fn := fun _ => fun
  | [d1, d2] => { results := [.lit (.bool false)], args := [d1, d2] }
  | _ => none }
def FnExactIsPairingWrongFalsely : Prop := fnExactIsPairingRow.holds Try.pinned (OpenSpec.ofChange fnExactIsPairingWrong)

/-- 'laws.FnExactCriticalFaces': WHATEVER THE INPUT: true; the input reads as it did. -/
def fnExactCriticalFacesSpec : ChangeSpec := { name := "fnExactCriticalFaces", fn := fun _ => fun
  | [d1, d2] => { results := [.lit (.bool true)], args := [d1, d2] }
  | _ => none }
def fnExactCriticalFacesRow : OpenClaim := { program := "ytefggcgjhpndgaa", sum := "de3773eeddef6ea17b82d17ecfb47a74c05f0eb1f3bef71b7935e013daf669f5", func := "loop.example/g01348/laws.FnExactCriticalFaces", spec := "fnExactCriticalFaces", unfollowed := true, recurses := true, plainKeys := false, apart := false }
def FnExactCriticalFacesSaid : Prop := fnExactCriticalFacesRow.holds Try.pinned (OpenSpec.ofChange fnExactCriticalFacesSpec)

/-- ITS FALSE NEIGHBOUR: 'it returns false'. Refute it at one input. -/
def fnExactCriticalFacesWrong : ChangeSpec := { name := "fnExactCriticalFaces", fn := fun _ => fun
  | [d1, d2] => { results := [.lit (.bool false)], args := [d1, d2] }
  | _ => none }
def FnExactCriticalFacesWrongFalsely : Prop := fnExactCriticalFacesRow.holds Try.pinned (OpenSpec.ofChange fnExactCriticalFacesWrong)

/-- 'laws.FnExactCriticalNumbers': WHATEVER THE INPUT: true; the input reads as it did. -/
def fnExactCriticalNumbersSpec : ChangeSpec := { name := "fnExactCriticalNumbers", fn := fun _ => fun
  | [d1, d2] => { results := [.lit (.bool true)], args := [d1, d2] }
  | _ => none }
def fnExactCriticalNumbersRow : OpenClaim := { program := "ytefggcgjhpndgaa", sum := "de3773eeddef6ea17b82d17ecfb47a74c05f0eb1f3bef71b7935e013daf669f5", func := "loop.example/g01348/laws.FnExactCriticalNumbers", spec := "fnExactCriticalNumbers", unfollowed := true, recurses := true, plainKeys := false, apart := false }
def FnExactCriticalNumbersSaid : Prop := fnExactCriticalNumbersRow.holds Try.pinned (OpenSpec.ofChange fnExactCriticalNumbersSpec)

/-- ITS FALSE NEIGHBOUR: 'it returns false'. Refute it at one input. -/
def fnExactCriticalNumbersWrong : ChangeSpec := { name := "fnExactCriticalNumbers", fn := fun _ => fun
  | [d1, d2] => { results := [.lit (.bool false)], args := [d1, d2] }
  | _ => none }
def FnExactCriticalNumbersWrongFalsely : Prop := fnExactCriticalNumbersRow.holds Try.pinned (OpenSpec.ofChange fnExactCriticalNumbersWrong)

/-- 'laws.FnExactIsAcyclicPairing': WHATEVER THE INPUT: true; the input reads as it did. -/
def fnExactIsAcyclicPairingSpec : ChangeSpec := { name := "fnExactIsAcyclicPairing", fn := fun _ => fun
  | [d1, d2] => { results := [.lit (.bool true)], args := [d1, d2] }
  | _ => none }
def fnExactIsAcyclicPairingRow : OpenClaim := { program := "ytefggcgjhpndgaa", sum := "de3773eeddef6ea17b82d17ecfb47a74c05f0eb1f3bef71b7935e013daf669f5", func := "loop.example/g01348/laws.FnExactIsAcyclicPairing", spec := "fnExactIsAcyclicPairing", unfollowed := true, recurses := true, plainKeys := false, apart := false }
def FnExactIsAcyclicPairingSaid : Prop := fnExactIsAcyclicPairingRow.holds Try.pinned (OpenSpec.ofChange fnExactIsAcyclicPairingSpec)

/-- ITS FALSE NEIGHBOUR: 'it returns false'. Refute it at one input. -/
def fnExactIsAcyclicPairingWrong : ChangeSpec := { name := "fnExactIsAcyclicPairing", fn := fun _ => fun
  | [d1, d2] => { results := [.lit (.bool false)], args := [d1, d2] }
  | _ => none }
def FnExactIsAcyclicPairingWrongFalsely : Prop := fnExactIsAcyclicPairingRow.holds Try.pinned (OpenSpec.ofChange fnExactIsAcyclicPairingWrong)

/-- 'laws.FnExactGreedyPairing': WHATEVER THE INPUT: true; the input reads as it did. -/
def fnExactGreedyPairingSpec : ChangeSpec := { name := "fnExactGreedyPairing", fn := fun _ => fun
  | [d] => { results := [.lit (.bool true)], args := [d] }
  | _ => none }
def fnExactGreedyPairingRow : OpenClaim := { program := "ytefggcgjhpndgaa", sum := "de3773eeddef6ea17b82d17ecfb47a74c05f0eb1f3bef71b7935e013daf669f5", func := "loop.example/g01348/laws.FnExactGreedyPairing", spec := "fnExactGreedyPairing", inPlace := ["slices.overlaps[loop.example/g01348/impl.Pair]"], unfollowed := true, recurses := true, plainKeys := false, apart := false }
def FnExactGreedyPairingSaid : Prop := fnExactGreedyPairingRow.holds Try.pinned (OpenSpec.ofChange fnExactGreedyPairingSpec)

/-- ITS FALSE NEIGHBOUR: 'it returns false'. Refute it at one input. -/
def fnExactGreedyPairingWrong : ChangeSpec := { name := "fnExactGreedyPairing", fn := fun _ => fun
  | [d] => { results := [.lit (.bool false)], args := [d] }
  | _ => none }
def FnExactGreedyPairingWrongFalsely : Prop := fnExactGreedyPairingRow.holds Try.pinned (OpenSpec.ofChange fnExactGreedyPairingWrong)

/-- 'laws.FnExactAddPair': WHATEVER THE INPUT: true; the input reads as it did. -/
def fnExactAddPairSpec : ChangeSpec := { name := "fnExactAddPair", fn := fun _ => fun
  | [d1, d2, d3] => { results := [.lit (.bool true)], args := [d1, d2, d3] }
  | _ => none }
def fnExactAddPairRow : OpenClaim := { program := "ytefggcgjhpndgaa", sum := "de3773eeddef6ea17b82d17ecfb47a74c05f0eb1f3bef71b7935e013daf669f5", func := "loop.example/g01348/laws.FnExactAddPair", spec := "fnExactAddPair", inPlace := ["slices.overlaps[loop.example/g01348/impl.Pair]"], unfollowed := true, recurses := true, plainKeys := false, apart := false }
def FnExactAddPairSaid : Prop := fnExactAddPairRow.holds Try.pinned (OpenSpec.ofChange fnExactAddPairSpec)

/-- ITS FALSE NEIGHBOUR: 'it returns false'. Refute it at one input. -/
def fnExactAddPairWrong : ChangeSpec := { name := "fnExactAddPair", fn := fun _ => fun
  | [d1, d2, d3] => { results := [.lit (.bool false)], args := [d1, d2, d3] }
  | _ => none }
def FnExactAddPairWrongFalsely : Prop := fnExactAddPairRow.holds Try.pinned (OpenSpec.ofChange fnExactAddPairWrong)

/- THE SECOND FORM. 'bulk': how many values and letters a reading holds, each counted each time it is reached (what is shared counts as often as it is met; a slice's spare places count too). A statement '..UptoSaid' is the law's where the arguments, and the package variables that the reading takes, are together of bulk at most 1048576: NARROWER than '..Said'. Prove '..Said' where nothing that the law and all that it calls make is longer than what came in: it says more and counts as full. Else prove '..UptoSaid'. A law counts once. -/
mutual
def uptoBulk {H : Type} : DataW H → Nat
  | .lit (.string bytes) => bytes.length + 1
  | .lit _ => 1
  | .nil => 1
  | .ptr d => uptoBulk d + 1
  | .slice elems spare => uptoBulkAll elems + uptoBulkAll spare + 1
  | .agg parts => uptoBulkAll parts + 1
  | .iface _ d => uptoBulk d + 1
  | .map entries => uptoBulkEntries entries + 1
  | .held _ => 1
def uptoBulkAll {H : Type} : List (DataW H) → Nat
  | [] => 0
  | d :: r => uptoBulk d + uptoBulkAll r
def uptoBulkEntries {H : Type} : List (Lit × DataW H) → Nat
  | [] => 0
  | x :: r => uptoBulkEntry x + uptoBulkEntries r
def uptoBulkEntry {H : Type} : Lit × DataW H → Nat
  | (.string bytes, d) => bytes.length + uptoBulk d + 1
  | (_, d) => uptoBulk d + 1
 end
def uptoSmall : (H : Type) → List (DataW H) → Bool := fun _ ds => decide (uptoBulkAll ds ≤ 1048576)
def OpenSpec.upto (s : _root_.Go.ChangeSpec) : _root_.Go.OpenSpec := { _root_.Go.OpenSpec.ofChange s with cond := some uptoSmall }

/-- 'laws.FnExactJoinOf', WHERE WHAT IT READS IS OF BULK AT MOST 1048576: true; the input reads as it did. -/
def fnExactJoinOfUptoRow : OpenClaim := { program := "ytefggcgjhpndgaa", sum := "de3773eeddef6ea17b82d17ecfb47a74c05f0eb1f3bef71b7935e013daf669f5", func := "loop.example/g01348/laws.FnExactJoinOf", spec := "fnExactJoinOf", unfollowed := true, recurses := true, plainKeys := false, apart := false, narrowed := true }
def FnExactJoinOfUptoSaid : Prop := fnExactJoinOfUptoRow.holds Try.pinned (OpenSpec.upto fnExactJoinOfSpec)

/-- 'laws.FnExactConeOf', WHERE WHAT IT READS IS OF BULK AT MOST 1048576: true; the input reads as it did. -/
def fnExactConeOfUptoRow : OpenClaim := { program := "ytefggcgjhpndgaa", sum := "de3773eeddef6ea17b82d17ecfb47a74c05f0eb1f3bef71b7935e013daf669f5", func := "loop.example/g01348/laws.FnExactConeOf", spec := "fnExactConeOf", unfollowed := true, recurses := true, plainKeys := false, apart := false, narrowed := true }
def FnExactConeOfUptoSaid : Prop := fnExactConeOfUptoRow.holds Try.pinned (OpenSpec.upto fnExactConeOfSpec)

/-- 'laws.FnExactFacetsOf', WHERE WHAT IT READS IS OF BULK AT MOST 1048576: true; the input reads as it did. -/
def fnExactFacetsOfUptoRow : OpenClaim := { program := "ytefggcgjhpndgaa", sum := "de3773eeddef6ea17b82d17ecfb47a74c05f0eb1f3bef71b7935e013daf669f5", func := "loop.example/g01348/laws.FnExactFacetsOf", spec := "fnExactFacetsOf", unfollowed := true, recurses := true, plainKeys := false, apart := false, narrowed := true }
def FnExactFacetsOfUptoSaid : Prop := fnExactFacetsOfUptoRow.holds Try.pinned (OpenSpec.upto fnExactFacetsOfSpec)

/-- 'laws.FnExactComplexOf', WHERE WHAT IT READS IS OF BULK AT MOST 1048576: true; the input reads as it did. -/
def fnExactComplexOfUptoRow : OpenClaim := { program := "ytefggcgjhpndgaa", sum := "de3773eeddef6ea17b82d17ecfb47a74c05f0eb1f3bef71b7935e013daf669f5", func := "loop.example/g01348/laws.FnExactComplexOf", spec := "fnExactComplexOf", unfollowed := true, recurses := true, plainKeys := false, apart := false, narrowed := true }
def FnExactComplexOfUptoSaid : Prop := fnExactComplexOfUptoRow.holds Try.pinned (OpenSpec.upto fnExactComplexOfSpec)

/-- 'laws.FnExactRenumberComplex', WHERE WHAT IT READS IS OF BULK AT MOST 1048576: true; the input reads as it did. -/
def fnExactRenumberComplexUptoRow : OpenClaim := { program := "ytefggcgjhpndgaa", sum := "de3773eeddef6ea17b82d17ecfb47a74c05f0eb1f3bef71b7935e013daf669f5", func := "loop.example/g01348/laws.FnExactRenumberComplex", spec := "fnExactRenumberComplex", unfollowed := true, recurses := true, plainKeys := false, apart := false, narrowed := true }
def FnExactRenumberComplexUptoSaid : Prop := fnExactRenumberComplexUptoRow.holds Try.pinned (OpenSpec.upto fnExactRenumberComplexSpec)

/-- 'laws.FnExactComponentsOf', WHERE WHAT IT READS IS OF BULK AT MOST 1048576: true; the input reads as it did. -/
def fnExactComponentsOfUptoRow : OpenClaim := { program := "ytefggcgjhpndgaa", sum := "de3773eeddef6ea17b82d17ecfb47a74c05f0eb1f3bef71b7935e013daf669f5", func := "loop.example/g01348/laws.FnExactComponentsOf", spec := "fnExactComponentsOf", unfollowed := true, recurses := true, plainKeys := false, apart := false, narrowed := true }
def FnExactComponentsOfUptoSaid : Prop := fnExactComponentsOfUptoRow.holds Try.pinned (OpenSpec.upto fnExactComponentsOfSpec)

/-- 'laws.FnExactIsPairing', WHERE WHAT IT READS IS OF BULK AT MOST 1048576: true; the input reads as it did. -/
def fnExactIsPairingUptoRow : OpenClaim := { program := "ytefggcgjhpndgaa", sum := "de3773eeddef6ea17b82d17ecfb47a74c05f0eb1f3bef71b7935e013daf669f5", func := "loop.example/g01348/laws.FnExactIsPairing", spec := "fnExactIsPairing", unfollowed := true, recurses := true, plainKeys := false, apart := false, narrowed := true }
def FnExactIsPairingUptoSaid : Prop := fnExactIsPairingUptoRow.holds Try.pinned (OpenSpec.upto fnExactIsPairingSpec)

/-- 'laws.FnExactCriticalFaces', WHERE WHAT IT READS IS OF BULK AT MOST 1048576: true; the input reads as it did. -/
def fnExactCriticalFacesUptoRow : OpenClaim := { program := "ytefggcgjhpndgaa", sum := "de3773eeddef6ea17b82d17ecfb47a74c05f0eb1f3bef71b7935e013daf669f5", func := "loop.example/g01348/laws.FnExactCriticalFaces", spec := "fnExactCriticalFaces", unfollowed := true, recurses := true, plainKeys := false, apart := false, narrowed := true }
def FnExactCriticalFacesUptoSaid : Prop := fnExactCriticalFacesUptoRow.holds Try.pinned (OpenSpec.upto fnExactCriticalFacesSpec)

/-- 'laws.FnExactCriticalNumbers', WHERE WHAT IT READS IS OF BULK AT MOST 1048576: true; the input reads as it did. -/
def fnExactCriticalNumbersUptoRow : OpenClaim := { program := "ytefggcgjhpndgaa", sum := "de3773eeddef6ea17b82d17ecfb47a74c05f0eb1f3bef71b7935e013daf669f5", func := "loop.example/g01348/laws.FnExactCriticalNumbers", spec := "fnExactCriticalNumbers", unfollowed := true, recurses := true, plainKeys := false, apart := false, narrowed := true }
def FnExactCriticalNumbersUptoSaid : Prop := fnExactCriticalNumbersUptoRow.holds Try.pinned (OpenSpec.upto fnExactCriticalNumbersSpec)

/-- 'laws.FnExactIsAcyclicPairing', WHERE WHAT IT READS IS OF BULK AT MOST 1048576: true; the input reads as it did. -/
def fnExactIsAcyclicPairingUptoRow : OpenClaim := { program := "ytefggcgjhpndgaa", sum := "de3773eeddef6ea17b82d17ecfb47a74c05f0eb1f3bef71b7935e013daf669f5", func := "loop.example/g01348/laws.FnExactIsAcyclicPairing", spec := "fnExactIsAcyclicPairing", unfollowed := true, recurses := true, plainKeys := false, apart := false, narrowed := true }
def FnExactIsAcyclicPairingUptoSaid : Prop := fnExactIsAcyclicPairingUptoRow.holds Try.pinned (OpenSpec.upto fnExactIsAcyclicPairingSpec)

/-- 'laws.FnExactGreedyPairing', WHERE WHAT IT READS IS OF BULK AT MOST 1048576: true; the input reads as it did. -/
def fnExactGreedyPairingUptoRow : OpenClaim := { program := "ytefggcgjhpndgaa", sum := "de3773eeddef6ea17b82d17ecfb47a74c05f0eb1f3bef71b7935e013daf669f5", func := "loop.example/g01348/laws.FnExactGreedyPairing", spec := "fnExactGreedyPairing", inPlace := ["slices.overlaps[loop.example/g01348/impl.Pair]"], unfollowed := true, recurses := true, plainKeys := false, apart := false, narrowed := true }
def FnExactGreedyPairingUptoSaid : Prop := fnExactGreedyPairingUptoRow.holds Try.pinned (OpenSpec.upto fnExactGreedyPairingSpec)

/-- 'laws.FnExactAddPair', WHERE WHAT IT READS IS OF BULK AT MOST 1048576: true; the input reads as it did. -/
def fnExactAddPairUptoRow : OpenClaim := { program := "ytefggcgjhpndgaa", sum := "de3773eeddef6ea17b82d17ecfb47a74c05f0eb1f3bef71b7935e013daf669f5", func := "loop.example/g01348/laws.FnExactAddPair", spec := "fnExactAddPair", inPlace := ["slices.overlaps[loop.example/g01348/impl.Pair]"], unfollowed := true, recurses := true, plainKeys := false, apart := false, narrowed := true }
def FnExactAddPairUptoSaid : Prop := fnExactAddPairUptoRow.holds Try.pinned (OpenSpec.upto fnExactAddPairSpec)

end Rows
end Go.Proofs.Ytefggcgjhpndgaa
