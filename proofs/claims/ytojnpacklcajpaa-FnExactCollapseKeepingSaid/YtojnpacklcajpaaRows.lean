/-
  No cell of these rows narrows 'for every input' (looked for: loops, veiled, ifaces, maps, wideKeys, modest, calm, conditions, laid).
  DERIVED. THE GIVEN ROWS OF THIS SEAT. 12 by the template 'for every input the law returns true; each argument reads behind the call as it read before'; 0 by the template 'total and deterministic' (their statements: YtojnpacklcajpaaTotals.lean).
  GIVEN WITH THE SEED: the statements are not yours to turn. If you find one false, say at which input.
  Laid BY PROGRAM, IN A SANDBOX (cutbox-rows.mjs): the forced cells as the released guide's own fill.sh prints them over the translation 8d88f7fba84cb60c… (all of the seat's roots in one cut). By AI agents, Wed Nov 11 2026. No macro, syntax, notation, axiom, sorry.
-/
import Derived.Test.YtojnpacklcajpaaChecked
import GoSem.Claim
import GoSem.ClaimJoined
import GoSem.ClaimMapViews
import Derived.JoinedTies
import Derived.KernelRfl
namespace Go.Proofs.Ytojnpacklcajpaa
/- THE CELL 'sum', in the pinned program and in every row, IS THE sha256 OF THE DUMP (.gsa) THAT YtojnpacklcajpaaProg.lean LOADS. Nothing in Lean hashes anything: it is a label: what it is worth is what the hold of that sum in a sandbox is worth. -/
noncomputable def Try.pinned : Pinned := { name := "ytojnpacklcajpaa", sum := "8d88f7fba84cb60cc526fed028c0a18041800a936a7bfb1a9ffe29d21ebcae9f", checked := Try.checked }
namespace Rows
def none {H : Type} : Left H := { results := [], args := [] }

/-- 'laws.FnExactFreePairs': WHATEVER THE INPUT: true; the input reads as it did. -/
def fnExactFreePairsSpec : ChangeSpec := { name := "fnExactFreePairs", fn := fun _ => fun
  | [d] => { results := [.lit (.bool true)], args := [d] }
  | _ => none }
def fnExactFreePairsRow : OpenClaim := { program := "ytojnpacklcajpaa", sum := "8d88f7fba84cb60cc526fed028c0a18041800a936a7bfb1a9ffe29d21ebcae9f", func := "loop.example/g01348/laws.FnExactFreePairs", spec := "fnExactFreePairs", unfollowed := true, recurses := true, plainKeys := false, apart := false }
def FnExactFreePairsSaid : Prop := fnExactFreePairsRow.holds Try.pinned (OpenSpec.ofChange fnExactFreePairsSpec)

/-- ITS FALSE NEIGHBOUR: 'it returns false'. Refute it at one input. -/
def fnExactFreePairsWrong : ChangeSpec := { name := "fnExactFreePairs", fn := fun _ => fun
  | [d] => { results := [.lit (.bool false)], args := [d] }
  | _ => none }
def FnExactFreePairsWrongFalsely : Prop := fnExactFreePairsRow.holds Try.pinned (OpenSpec.ofChange fnExactFreePairsWrong)

/-- 'laws.FnExactCollapsePair': WHATEVER THE INPUT: true; the input reads as it did. -/
def fnExactCollapsePairSpec : ChangeSpec := { name := "fnExactCollapsePair", fn := fun _ => fun
  | [d1, d2] => { results := [.lit (.bool true)], args := [d1, d2] }
  | _ => none }
def fnExactCollapsePairRow : OpenClaim := { program := "ytojnpacklcajpaa", sum := "8d88f7fba84cb60cc526fed028c0a18041800a936a7bfb1a9ffe29d21ebcae9f", func := "loop.example/g01348/laws.FnExactCollapsePair", spec := "fnExactCollapsePair", unfollowed := true, recurses := true, plainKeys := false, apart := false }
def FnExactCollapsePairSaid : Prop := fnExactCollapsePairRow.holds Try.pinned (OpenSpec.ofChange fnExactCollapsePairSpec)

/-- ITS FALSE NEIGHBOUR: 'it returns false'. Refute it at one input. -/
def fnExactCollapsePairWrong : ChangeSpec := { name := "fnExactCollapsePair", fn := fun _ => fun
  | [d1, d2] => { results := [.lit (.bool false)], args := [d1, d2] }
  | _ => none }
def FnExactCollapsePairWrongFalsely : Prop := fnExactCollapsePairRow.holds Try.pinned (OpenSpec.ofChange fnExactCollapsePairWrong)

/-- 'laws.FnExactCollapseOf': WHATEVER THE INPUT: true; the input reads as it did. -/
def fnExactCollapseOfSpec : ChangeSpec := { name := "fnExactCollapseOf", fn := fun _ => fun
  | [d] => { results := [.lit (.bool true)], args := [d] }
  | _ => none }
def fnExactCollapseOfRow : OpenClaim := { program := "ytojnpacklcajpaa", sum := "8d88f7fba84cb60cc526fed028c0a18041800a936a7bfb1a9ffe29d21ebcae9f", func := "loop.example/g01348/laws.FnExactCollapseOf", spec := "fnExactCollapseOf", unfollowed := true, recurses := true, plainKeys := false, apart := false }
def FnExactCollapseOfSaid : Prop := fnExactCollapseOfRow.holds Try.pinned (OpenSpec.ofChange fnExactCollapseOfSpec)

/-- ITS FALSE NEIGHBOUR: 'it returns false'. Refute it at one input. -/
def fnExactCollapseOfWrong : ChangeSpec := { name := "fnExactCollapseOf", fn := fun _ => fun
  | [d] => { results := [.lit (.bool false)], args := [d] }
  | _ => none }
def FnExactCollapseOfWrongFalsely : Prop := fnExactCollapseOfRow.holds Try.pinned (OpenSpec.ofChange fnExactCollapseOfWrong)

/-- 'laws.FnExactIsCollapsible': WHATEVER THE INPUT: true; the input reads as it did. -/
def fnExactIsCollapsibleSpec : ChangeSpec := { name := "fnExactIsCollapsible", fn := fun _ => fun
  | [d] => { results := [.lit (.bool true)], args := [d] }
  | _ => none }
def fnExactIsCollapsibleRow : OpenClaim := { program := "ytojnpacklcajpaa", sum := "8d88f7fba84cb60cc526fed028c0a18041800a936a7bfb1a9ffe29d21ebcae9f", func := "loop.example/g01348/laws.FnExactIsCollapsible", spec := "fnExactIsCollapsible", unfollowed := true, recurses := true, plainKeys := false, apart := false }
def FnExactIsCollapsibleSaid : Prop := fnExactIsCollapsibleRow.holds Try.pinned (OpenSpec.ofChange fnExactIsCollapsibleSpec)

/-- ITS FALSE NEIGHBOUR: 'it returns false'. Refute it at one input. -/
def fnExactIsCollapsibleWrong : ChangeSpec := { name := "fnExactIsCollapsible", fn := fun _ => fun
  | [d] => { results := [.lit (.bool false)], args := [d] }
  | _ => none }
def FnExactIsCollapsibleWrongFalsely : Prop := fnExactIsCollapsibleRow.holds Try.pinned (OpenSpec.ofChange fnExactIsCollapsibleWrong)

/-- 'laws.FnExactCollapseKeeping': WHATEVER THE INPUT: true; the input reads as it did. -/
def fnExactCollapseKeepingSpec : ChangeSpec := { name := "fnExactCollapseKeeping", fn := fun _ => fun
  | [d1, d2] => { results := [.lit (.bool true)], args := [d1, d2] }
  | _ => none }
def fnExactCollapseKeepingRow : OpenClaim := { program := "ytojnpacklcajpaa", sum := "8d88f7fba84cb60cc526fed028c0a18041800a936a7bfb1a9ffe29d21ebcae9f", func := "loop.example/g01348/laws.FnExactCollapseKeeping", spec := "fnExactCollapseKeeping", unfollowed := true, recurses := true, plainKeys := false, apart := false }
def FnExactCollapseKeepingSaid : Prop := fnExactCollapseKeepingRow.holds Try.pinned (OpenSpec.ofChange fnExactCollapseKeepingSpec)

/-- ITS FALSE NEIGHBOUR: 'it returns false'. Refute it at one input. -/
def fnExactCollapseKeepingWrong : ChangeSpec := { name := "fnExactCollapseKeeping", fn := fun _ => fun
  | [d1, d2] => { results := [.lit (.bool false)], args := [d1, d2] }
  | _ => none }
def FnExactCollapseKeepingWrongFalsely : Prop := fnExactCollapseKeepingRow.holds Try.pinned (OpenSpec.ofChange fnExactCollapseKeepingWrong)

/-- 'laws.FnExactDominatedVertices': WHATEVER THE INPUT: true; the input reads as it did. -/
def fnExactDominatedVerticesSpec : ChangeSpec := { name := "fnExactDominatedVertices", fn := fun _ => fun
  | [d] => { results := [.lit (.bool true)], args := [d] }
  | _ => none }
def fnExactDominatedVerticesRow : OpenClaim := { program := "ytojnpacklcajpaa", sum := "8d88f7fba84cb60cc526fed028c0a18041800a936a7bfb1a9ffe29d21ebcae9f", func := "loop.example/g01348/laws.FnExactDominatedVertices", spec := "fnExactDominatedVertices", unfollowed := true, recurses := true, plainKeys := false, apart := false }
def FnExactDominatedVerticesSaid : Prop := fnExactDominatedVerticesRow.holds Try.pinned (OpenSpec.ofChange fnExactDominatedVerticesSpec)

/-- ITS FALSE NEIGHBOUR: 'it returns false'. Refute it at one input. -/
def fnExactDominatedVerticesWrong : ChangeSpec := { name := "fnExactDominatedVertices", fn := fun _ => fun
  | [d] => { results := [.lit (.bool false)], args := [d] }
  | _ => none }
def FnExactDominatedVerticesWrongFalsely : Prop := fnExactDominatedVerticesRow.holds Try.pinned (OpenSpec.ofChange fnExactDominatedVerticesWrong)

/-- 'laws.FnExactDeleteVertex': WHATEVER THE INPUT: true; the input reads as it did. -/
def fnExactDeleteVertexSpec : ChangeSpec := { name := "fnExactDeleteVertex", fn := fun _ => fun
  | [d1, d2] => { results := [.lit (.bool true)], args := [d1, d2] }
  | _ => none }
def fnExactDeleteVertexRow : OpenClaim := { program := "ytojnpacklcajpaa", sum := "8d88f7fba84cb60cc526fed028c0a18041800a936a7bfb1a9ffe29d21ebcae9f", func := "loop.example/g01348/laws.FnExactDeleteVertex", spec := "fnExactDeleteVertex", unfollowed := true, recurses := true, plainKeys := false, apart := false }
def FnExactDeleteVertexSaid : Prop := fnExactDeleteVertexRow.holds Try.pinned (OpenSpec.ofChange fnExactDeleteVertexSpec)

/-- ITS FALSE NEIGHBOUR: 'it returns false'. Refute it at one input. -/
def fnExactDeleteVertexWrong : ChangeSpec := { name := "fnExactDeleteVertex", fn := fun _ => fun
  | [d1, d2] => { results := [.lit (.bool false)], args := [d1, d2] }
  | _ => none }
def FnExactDeleteVertexWrongFalsely : Prop := fnExactDeleteVertexRow.holds Try.pinned (OpenSpec.ofChange fnExactDeleteVertexWrong)

/-- 'laws.FnExactCoreOf': WHATEVER THE INPUT: true; the input reads as it did. -/
def fnExactCoreOfSpec : ChangeSpec := { name := "fnExactCoreOf", fn := fun _ => fun
  | [d] => { results := [.lit (.bool true)], args := [d] }
  | _ => none }
def fnExactCoreOfRow : OpenClaim := { program := "ytojnpacklcajpaa", sum := "8d88f7fba84cb60cc526fed028c0a18041800a936a7bfb1a9ffe29d21ebcae9f", func := "loop.example/g01348/laws.FnExactCoreOf", spec := "fnExactCoreOf", unfollowed := true, recurses := true, plainKeys := false, apart := false }
def FnExactCoreOfSaid : Prop := fnExactCoreOfRow.holds Try.pinned (OpenSpec.ofChange fnExactCoreOfSpec)

/-- ITS FALSE NEIGHBOUR: 'it returns false'. Refute it at one input. -/
def fnExactCoreOfWrong : ChangeSpec := { name := "fnExactCoreOf", fn := fun _ => fun
  | [d] => { results := [.lit (.bool false)], args := [d] }
  | _ => none }
def FnExactCoreOfWrongFalsely : Prop := fnExactCoreOfRow.holds Try.pinned (OpenSpec.ofChange fnExactCoreOfWrong)

/-- 'laws.FnExactReductionOf': WHATEVER THE INPUT: true; the input reads as it did. -/
def fnExactReductionOfSpec : ChangeSpec := { name := "fnExactReductionOf", fn := fun _ => fun
  | [d] => { results := [.lit (.bool true)], args := [d] }
  | _ => none }
def fnExactReductionOfRow : OpenClaim := { program := "ytojnpacklcajpaa", sum := "8d88f7fba84cb60cc526fed028c0a18041800a936a7bfb1a9ffe29d21ebcae9f", func := "loop.example/g01348/laws.FnExactReductionOf", spec := "fnExactReductionOf", unfollowed := true, recurses := true, plainKeys := false, apart := false }
def FnExactReductionOfSaid : Prop := fnExactReductionOfRow.holds Try.pinned (OpenSpec.ofChange fnExactReductionOfSpec)

/-- ITS FALSE NEIGHBOUR: 'it returns false'. Refute it at one input. -/
def fnExactReductionOfWrong : ChangeSpec := { name := "fnExactReductionOf", fn := fun _ => fun
  | [d] => { results := [.lit (.bool false)], args := [d] }
  | _ => none }
def FnExactReductionOfWrongFalsely : Prop := fnExactReductionOfRow.holds Try.pinned (OpenSpec.ofChange fnExactReductionOfWrong)

/-- 'laws.FnExactIsFreeFace': WHATEVER THE INPUT: true; the input reads as it did. -/
def fnExactIsFreeFaceSpec : ChangeSpec := { name := "fnExactIsFreeFace", fn := fun _ => fun
  | [d1, d2] => { results := [.lit (.bool true)], args := [d1, d2] }
  | _ => none }
def fnExactIsFreeFaceRow : OpenClaim := { program := "ytojnpacklcajpaa", sum := "8d88f7fba84cb60cc526fed028c0a18041800a936a7bfb1a9ffe29d21ebcae9f", func := "loop.example/g01348/laws.FnExactIsFreeFace", spec := "fnExactIsFreeFace", unfollowed := true, recurses := true, plainKeys := false, apart := false }
def FnExactIsFreeFaceSaid : Prop := fnExactIsFreeFaceRow.holds Try.pinned (OpenSpec.ofChange fnExactIsFreeFaceSpec)

/-- ITS FALSE NEIGHBOUR: 'it returns false'. Refute it at one input. -/
def fnExactIsFreeFaceWrong : ChangeSpec := { name := "fnExactIsFreeFace", fn := fun _ => fun
  | [d1, d2] => { results := [.lit (.bool false)], args := [d1, d2] }
  | _ => none }
def FnExactIsFreeFaceWrongFalsely : Prop := fnExactIsFreeFaceRow.holds Try.pinned (OpenSpec.ofChange fnExactIsFreeFaceWrong)

/-- 'laws.FnExactIsAcyclicPairing': WHATEVER THE INPUT: true; the input reads as it did. -/
def fnExactIsAcyclicPairingSpec : ChangeSpec := { name := "fnExactIsAcyclicPairing", fn := fun _ => fun
  | [d1, d2] => { results := [.lit (.bool true)], args := [d1, d2] }
  | _ => none }
def fnExactIsAcyclicPairingRow : OpenClaim := { program := "ytojnpacklcajpaa", sum := "8d88f7fba84cb60cc526fed028c0a18041800a936a7bfb1a9ffe29d21ebcae9f", func := "loop.example/g01348/laws.FnExactIsAcyclicPairing", spec := "fnExactIsAcyclicPairing", unfollowed := true, recurses := true, plainKeys := false, apart := false }
def FnExactIsAcyclicPairingSaid : Prop := fnExactIsAcyclicPairingRow.holds Try.pinned (OpenSpec.ofChange fnExactIsAcyclicPairingSpec)

/-- ITS FALSE NEIGHBOUR: 'it returns false'. Refute it at one input. -/
def fnExactIsAcyclicPairingWrong : ChangeSpec := { name := "fnExactIsAcyclicPairing", fn := fun _ => fun
  | [d1, d2] => { results := [.lit (.bool false)], args := [d1, d2] }
  | _ => none }
def FnExactIsAcyclicPairingWrongFalsely : Prop := fnExactIsAcyclicPairingRow.holds Try.pinned (OpenSpec.ofChange fnExactIsAcyclicPairingWrong)

/-- 'laws.FnExactFacesOnCycles': WHATEVER THE INPUT: true; the input reads as it did. -/
def fnExactFacesOnCyclesSpec : ChangeSpec := { name := "fnExactFacesOnCycles", fn := fun _ => fun
  | [d1, d2] => { results := [.lit (.bool true)], args := [d1, d2] }
  | _ => none }
def fnExactFacesOnCyclesRow : OpenClaim := { program := "ytojnpacklcajpaa", sum := "8d88f7fba84cb60cc526fed028c0a18041800a936a7bfb1a9ffe29d21ebcae9f", func := "loop.example/g01348/laws.FnExactFacesOnCycles", spec := "fnExactFacesOnCycles", unfollowed := true, recurses := true, plainKeys := false, apart := false }
def FnExactFacesOnCyclesSaid : Prop := fnExactFacesOnCyclesRow.holds Try.pinned (OpenSpec.ofChange fnExactFacesOnCyclesSpec)

/-- ITS FALSE NEIGHBOUR: 'it returns false'. Refute it at one input. -/
def fnExactFacesOnCyclesWrong : ChangeSpec := { name := "fnExactFacesOnCycles", fn := fun _ => fun
  | [d1, d2] => { results := [.lit (.bool false)], args := [d1, d2] }
  | _ => none }
def FnExactFacesOnCyclesWrongFalsely : Prop := fnExactFacesOnCyclesRow.holds Try.pinned (OpenSpec.ofChange fnExactFacesOnCyclesWrong)

/- THE SECOND FORM. 'bulk': how many values and letters a reading holds, each counted each time it is reached (what is shared counts as often as it is met; a slice's spare places count too). A statement '..UptoSaid' is the law's where the arguments, and the package variables that the reading takes, are together of bulk at most 1048576: NARROWER than '..Said'. Prove '..Said' where nothing that the law and all that it calls make is longer than what came in: it says more and counts as full. Else prove '..UptoSaid'. A law counts once. -/
mutual
def uptoBulk {H : Type} : DataW H → Nat
  | .lit (.string bytes) => bytes.length + 1
  | .lit _ => 1
  | .nil => 1
  | .ptr d => uptoBulk d + 1
  | .slice elems spare => uptoBulkAll elems + uptoBulkAll spare + 1
  | .agg parts => uptoBulkAll parts + 1
  | .iface _ d => uptoBulk d + 1
  | .map entries => uptoBulkEntries entries + 1
  | .held _ => 1
def uptoBulkAll {H : Type} : List (DataW H) → Nat
  | [] => 0
  | d :: r => uptoBulk d + uptoBulkAll r
def uptoBulkEntries {H : Type} : List (Lit × DataW H) → Nat
  | [] => 0
  | x :: r => uptoBulkEntry x + uptoBulkEntries r
def uptoBulkEntry {H : Type} : Lit × DataW H → Nat
  | (.string bytes, d) => bytes.length + uptoBulk d + 1
  | (_, d) => uptoBulk d + 1
 end
def uptoSmall : (H : Type) → List (DataW H) → Bool := fun _ ds => decide (uptoBulkAll ds ≤ 1048576)
def OpenSpec.upto (s : _root_.Go.ChangeSpec) : _root_.Go.OpenSpec := { _root_.Go.OpenSpec.ofChange s with cond := some uptoSmall }

/-- 'laws.FnExactFreePairs', WHERE WHAT IT READS IS OF BULK AT MOST 1048576: true; the input reads as it did. -/
def fnExactFreePairsUptoRow : OpenClaim := { program := "ytojnpacklcajpaa", sum := "8d88f7fba84cb60cc526fed028c0a18041800a936a7bfb1a9ffe29d21ebcae9f", func := "loop.example/g01348/laws.FnExactFreePairs", spec := "fnExactFreePairs", unfollowed := true, recurses := true, plainKeys := false, apart := false, narrowed := true }
def FnExactFreePairsUptoSaid : Prop := fnExactFreePairsUptoRow.holds Try.pinned (OpenSpec.upto fnExactFreePairsSpec)

/-- 'laws.FnExactCollapsePair', WHERE WHAT IT READS IS OF BULK AT MOST 1048576: true; the input reads as it did. -/
def fnExactCollapsePairUptoRow : OpenClaim := { program := "ytojnpacklcajpaa", sum := "8d88f7fba84cb60cc526fed028c0a18041800a936a7bfb1a9ffe29d21ebcae9f", func := "loop.example/g01348/laws.FnExactCollapsePair", spec := "fnExactCollapsePair", unfollowed := true, recurses := true, plainKeys := false, apart := false, narrowed := true }
def FnExactCollapsePairUptoSaid : Prop := fnExactCollapsePairUptoRow.holds Try.pinned (OpenSpec.upto fnExactCollapsePairSpec)

/-- 'laws.FnExactCollapseOf', WHERE WHAT IT READS IS OF BULK AT MOST 1048576: true; the input reads as it did. -/
def fnExactCollapseOfUptoRow : OpenClaim := { program := "ytojnpacklcajpaa", sum := "8d88f7fba84cb60cc526fed028c0a18041800a936a7bfb1a9ffe29d21ebcae9f", func := "loop.example/g01348/laws.FnExactCollapseOf", spec := "fnExactCollapseOf", unfollowed := true, recurses := true, plainKeys := false, apart := false, narrowed := true }
def FnExactCollapseOfUptoSaid : Prop := fnExactCollapseOfUptoRow.holds Try.pinned (OpenSpec.upto fnExactCollapseOfSpec)

/-- 'laws.FnExactIsCollapsible', WHERE WHAT IT READS IS OF BULK AT MOST 1048576: true; the input reads as it did. -/
def fnExactIsCollapsibleUptoRow : OpenClaim := { program := "ytojnpacklcajpaa", sum := "8d88f7fba84cb60cc526fed028c0a18041800a936a7bfb1a9ffe29d21ebcae9f", func := "loop.example/g01348/laws.FnExactIsCollapsible", spec := "fnExactIsCollapsible", unfollowed := true, recurses := true, plainKeys := false, apart := false, narrowed := true }
def FnExactIsCollapsibleUptoSaid : Prop := fnExactIsCollapsibleUptoRow.holds Try.pinned (OpenSpec.upto fnExactIsCollapsibleSpec)

/-- 'laws.FnExactCollapseKeeping', WHERE WHAT IT READS IS OF BULK AT MOST 1048576: true; the input reads as it did. -/
def fnExactCollapseKeepingUptoRow : OpenClaim := { program := "ytojnpacklcajpaa", sum := "8d88f7fba84cb60cc526fed028c0a18041800a936a7bfb1a9ffe29d21ebcae9f", func := "loop.example/g01348/laws.FnExactCollapseKeeping", spec := "fnExactCollapseKeeping", unfollowed := true, recurses := true, plainKeys := false, apart := false, narrowed := true }
def FnExactCollapseKeepingUptoSaid : Prop := fnExactCollapseKeepingUptoRow.holds Try.pinned (OpenSpec.upto fnExactCollapseKeepingSpec)

/-- 'laws.FnExactDominatedVertices', WHERE WHAT IT READS IS OF BULK AT MOST 1048576: true; the input reads as it did. -/
def fnExactDominatedVerticesUptoRow : OpenClaim := { program := "ytojnpacklcajpaa", sum := "8d88f7fba84cb60cc526fed028c0a18041800a936a7bfb1a9ffe29d21ebcae9f", func := "loop.example/g01348/laws.FnExactDominatedVertices", spec := "fnExactDominatedVertices", unfollowed := true, recurses := true, plainKeys := false, apart := false, narrowed := true }
def FnExactDominatedVerticesUptoSaid : Prop := fnExactDominatedVerticesUptoRow.holds Try.pinned (OpenSpec.upto fnExactDominatedVerticesSpec)

/-- 'laws.FnExactDeleteVertex', WHERE WHAT IT READS IS OF BULK AT MOST 1048576: true; the input reads as it did. -/
def fnExactDeleteVertexUptoRow : OpenClaim := { program := "ytojnpacklcajpaa", sum := "8d88f7fba84cb60cc526fed028c0a18041800a936a7bfb1a9ffe29d21ebcae9f", func := "loop.example/g01348/laws.FnExactDeleteVertex", spec := "fnExactDeleteVertex", unfollowed := true, recurses := true, plainKeys := false, apart := false, narrowed := true }
def FnExactDeleteVertexUptoSaid : Prop := fnExactDeleteVertexUptoRow.holds Try.pinned (OpenSpec.upto fnExactDeleteVertexSpec)

/-- 'laws.FnExactCoreOf', WHERE WHAT IT READS IS OF BULK AT MOST 1048576: true; the input reads as it did. -/
def fnExactCoreOfUptoRow : OpenClaim := { program := "ytojnpacklcajpaa", sum := "8d88f7fba84cb60cc526fed028c0a18041800a936a7bfb1a9ffe29d21ebcae9f", func := "loop.example/g01348/laws.FnExactCoreOf", spec := "fnExactCoreOf", unfollowed := true, recurses := true, plainKeys := false, apart := false, narrowed := true }
def FnExactCoreOfUptoSaid : Prop := fnExactCoreOfUptoRow.holds Try.pinned (OpenSpec.upto fnExactCoreOfSpec)

/-- 'laws.FnExactReductionOf', WHERE WHAT IT READS IS OF BULK AT MOST 1048576: true; the input reads as it did. -/
def fnExactReductionOfUptoRow : OpenClaim := { program := "ytojnpacklcajpaa", sum := "8d88f7fba84cb60cc526fed028c0a18041800a936a7bfb1a9ffe29d21ebcae9f", func := "loop.example/g01348/laws.FnExactReductionOf", spec := "fnExactReductionOf", unfollowed := true, recurses := true, plainKeys := false, apart := false, narrowed := true }
def FnExactReductionOfUptoSaid : Prop := fnExactReductionOfUptoRow.holds Try.pinned (OpenSpec.upto fnExactReductionOfSpec)

/-- 'laws.FnExactIsFreeFace', WHERE WHAT IT READS IS OF BULK AT MOST 1048576: true; the input reads as it did. -/
def fnExactIsFreeFaceUptoRow : OpenClaim := { program := "ytojnpacklcajpaa", sum := "8d88f7fba84cb60cc526fed028c0a18041800a936a7bfb1a9ffe29d21ebcae9f", func := "loop.example/g01348/laws.FnExactIsFreeFace", spec := "fnExactIsFreeFace", unfollowed := true, recurses := true, plainKeys := false, apart := false, narrowed := true }
def FnExactIsFreeFaceUptoSaid : Prop := fnExactIsFreeFaceUptoRow.holds Try.pinned (OpenSpec.upto fnExactIsFreeFaceSpec)

/-- 'laws.FnExactIsAcyclicPairing', WHERE WHAT IT READS IS OF BULK AT MOST 1048576: true; the input reads as it did. -/
def fnExactIsAcyclicPairingUptoRow : OpenClaim := { program := "ytojnpacklcajpaa", sum := "8d88f7fba84cb60cc526fed028c0a18041800a936a7bfb1a9ffe29d21ebcae9f", func := "loop.example/g01348/laws.FnExactIsAcyclicPairing", spec := "fnExactIsAcyclicPairing", unfollowed := true, recurses := true, plainKeys := false, apart := false, narrowed := true }
def FnExactIsAcyclicPairingUptoSaid : Prop := fnExactIsAcyclicPairingUptoRow.holds Try.pinned (OpenSpec.upto fnExactIsAcyclicPairingSpec)

/-- 'laws.FnExactFacesOnCycles', WHERE WHAT IT READS IS OF BULK AT MOST 1048576: true; the input reads as it did. -/
def fnExactFacesOnCyclesUptoRow : OpenClaim := { program := "ytojnpacklcajpaa", sum := "8d88f7fba84cb60cc526fed028c0a18041800a936a7bfb1a9ffe29d21ebcae9f", func := "loop.example/g01348/laws.FnExactFacesOnCycles", spec := "fnExactFacesOnCycles", unfollowed := true, recurses := true, plainKeys := false, apart := false, narrowed := true }
def FnExactFacesOnCyclesUptoSaid : Prop := fnExactFacesOnCyclesUptoRow.holds Try.pinned (OpenSpec.upto fnExactFacesOnCyclesSpec)

end Rows
end Go.Proofs.Ytojnpacklcajpaa
