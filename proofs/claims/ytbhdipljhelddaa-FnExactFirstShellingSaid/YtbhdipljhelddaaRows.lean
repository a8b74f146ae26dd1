/-
  No cell of these rows narrows 'for every input' (looked for: loops, veiled, ifaces, maps, wideKeys, modest, calm, conditions, laid).
  DERIVED. THE GIVEN ROWS OF THIS SEAT. 8 by the template 'for every input the law returns true; each argument reads behind the call as it read before'; 0 by the template 'total and deterministic' (their statements: YtbhdipljhelddaaTotals.lean).
  GIVEN WITH THE SEED: the statements are not yours to turn. If you find one false, say at which input.
  Laid BY PROGRAM, IN A SANDBOX (cutbox-rows.mjs): the forced cells as the released guide's own fill.sh prints them over the translation b166513b69c73147… (all of the seat's roots in one cut). By AI agents, Wed Nov 11 2026. No macro, syntax, notation, axiom, sorry.
-/
import Derived.Test.YtbhdipljhelddaaChecked
import GoSem.Claim
import GoSem.ClaimJoined
import GoSem.ClaimMapViews
import Derived.JoinedTies
import Derived.KernelRfl
namespace Go.Proofs.Ytbhdipljhelddaa
/- THE CELL 'sum', in the pinned program and in every row, IS THE sha256 OF THE DUMP (.gsa) THAT YtbhdipljhelddaaProg.lean LOADS. Nothing in Lean hashes anything: it is a label: what it is worth is what the hold of that sum in a sandbox is worth. -/
noncomputable def Try.pinned : Pinned := { name := "ytbhdipljhelddaa", sum := "b166513b69c73147d89b2638a71f68262a052e71cf12dcc284208e2a4c5958ac", checked := Try.checked }
namespace Rows
def none {H : Type} : Left H := { results := [], args := [] }

/-- 'laws.FnExactShortestCircle': WHATEVER THE INPUT: true; the input reads as it did. -/
def fnExactShortestCircleSpec : ChangeSpec := { name := "fnExactShortestCircle", fn := fun _ => fun
  | [d] => { results := [.lit (.bool true)], args := [d] }
  | _ => none }
def fnExactShortestCircleRow : OpenClaim := { program := "ytbhdipljhelddaa", sum := "b166513b69c73147d89b2638a71f68262a052e71cf12dcc284208e2a4c5958ac", func := "loop.example/g01348/laws.FnExactShortestCircle", spec := "fnExactShortestCircle", unfollowed := true, recurses := true, plainKeys := false, apart := false }
def FnExactShortestCircleSaid : Prop := fnExactShortestCircleRow.holds Try.pinned (OpenSpec.ofChange fnExactShortestCircleSpec)

/-- ITS FALSE NEIGHBOUR: 'it returns false'. Refute it at one input. -/
def fnExactShortestCircleWrong : ChangeSpec := { name := "fnExactShortestCircle", fn := fun _ => fun
  | [d] => { results := [.lit (.bool false)], args := [d] }
  | _ => none }
def FnExactShortestCircleWrongFalsely : Prop := fnExactShortestCircleRow.holds Try.pinned (OpenSpec.ofChange fnExactShortestCircleWrong)

/-- 'laws.FnExactCancelFaces': WHATEVER THE INPUT: true; the input reads as it did. -/
def fnExactCancelFacesSpec : ChangeSpec := { name := "fnExactCancelFaces", fn := fun _ => fun
  | [d1, d2, d3, d4] => { results := [.lit (.bool true)], args := [d1, d2, d3, d4] }
  | _ => none }
def fnExactCancelFacesRow : OpenClaim := { program := "ytbhdipljhelddaa", sum := "b166513b69c73147d89b2638a71f68262a052e71cf12dcc284208e2a4c5958ac", func := "loop.example/g01348/laws.FnExactCancelFaces", spec := "fnExactCancelFaces", unfollowed := true, recurses := true, plainKeys := false, apart := false }
def FnExactCancelFacesSaid : Prop := fnExactCancelFacesRow.holds Try.pinned (OpenSpec.ofChange fnExactCancelFacesSpec)

/-- ITS FALSE NEIGHBOUR: 'it returns false'. Refute it at one input. -/
def fnExactCancelFacesWrong : ChangeSpec := { name := "fnExactCancelFaces", fn := fun _ => fun
  | [d1, d2, d3, d4] => { results := [.lit (.bool false)], args := [d1, d2, d3, d4] }
  | _ => none }
def FnExactCancelFacesWrongFalsely : Prop := fnExactCancelFacesRow.holds Try.pinned (OpenSpec.ofChange fnExactCancelFacesWrong)

/-- 'laws.FnExactFirstShelling': WHATEVER THE INPUT: true; the input reads as it did. -/
def fnExactFirstShellingSpec : ChangeSpec := { name := "fnExactFirstShelling", fn := fun _ => fun
  | [d] => { results := [.lit (.bool true)], args := [d] }
  | _ => none }
def fnExactFirstShellingRow : OpenClaim := { program := "ytbhdipljhelddaa", sum := "b166513b69c73147d89b2638a71f68262a052e71cf12dcc284208e2a4c5958ac", func := "loop.example/g01348/laws.FnExactFirstShelling", spec := "fnExactFirstShelling", unfollowed := true, recurses := true, plainKeys := false, apart := false }
def FnExactFirstShellingSaid : Prop := fnExactFirstShellingRow.holds Try.pinned (OpenSpec.ofChange fnExactFirstShellingSpec)

/-- ITS FALSE NEIGHBOUR: 'it returns false'. Refute it at one input. -/
def fnExactFirstShellingWrong : ChangeSpec := { name := "fnExactFirstShelling", fn := fun _ => fun
  | [d] => { results := [.lit (.bool false)], args := [d] }
  | _ => none }
def FnExactFirstShellingWrongFalsely : Prop := fnExactFirstShellingRow.holds Try.pinned (OpenSpec.ofChange fnExactFirstShellingWrong)

/-- 'laws.FnExactLevelAt': WHATEVER THE INPUT: true; the input reads as it did. -/
def fnExactLevelAtSpec : ChangeSpec := { name := "fnExactLevelAt", fn := fun _ => fun
  | [d1, d2, d3] => { results := [.lit (.bool true)], args := [d1, d2, d3] }
  | _ => none }
def fnExactLevelAtRow : OpenClaim := { program := "ytbhdipljhelddaa", sum := "b166513b69c73147d89b2638a71f68262a052e71cf12dcc284208e2a4c5958ac", func := "loop.example/g01348/laws.FnExactLevelAt", spec := "fnExactLevelAt", unfollowed := true, recurses := true, plainKeys := false, apart := false }
def FnExactLevelAtSaid : Prop := fnExactLevelAtRow.holds Try.pinned (OpenSpec.ofChange fnExactLevelAtSpec)

/-- ITS FALSE NEIGHBOUR: 'it returns false'. Refute it at one input. -/
def fnExactLevelAtWrong : ChangeSpec := { name := "fnExactLevelAt", fn := fun _ => fun
  | [d1, d2, d3] => { results := [.lit (.bool false)], args := [d1, d2, d3] }
  | _ => none }
def FnExactLevelAtWrongFalsely : Prop := fnExactLevelAtRow.holds Try.pinned (OpenSpec.ofChange fnExactLevelAtWrong)

/-- 'laws.FnExactEulerOfLevels': WHATEVER THE INPUT: true; the input reads as it did. -/
def fnExactEulerOfLevelsSpec : ChangeSpec := { name := "fnExactEulerOfLevels", fn := fun _ => fun
  | [d1, d2] => { results := [.lit (.bool true)], args := [d1, d2] }
  | _ => none }
def fnExactEulerOfLevelsRow : OpenClaim := { program := "ytbhdipljhelddaa", sum := "b166513b69c73147d89b2638a71f68262a052e71cf12dcc284208e2a4c5958ac", func := "loop.example/g01348/laws.FnExactEulerOfLevels", spec := "fnExactEulerOfLevels", unfollowed := true, recurses := true, plainKeys := false, apart := false }
def FnExactEulerOfLevelsSaid : Prop := fnExactEulerOfLevelsRow.holds Try.pinned (OpenSpec.ofChange fnExactEulerOfLevelsSpec)

/-- ITS FALSE NEIGHBOUR: 'it returns false'. Refute it at one input. -/
def fnExactEulerOfLevelsWrong : ChangeSpec := { name := "fnExactEulerOfLevels", fn := fun _ => fun
  | [d1, d2] => { results := [.lit (.bool false)], args := [d1, d2] }
  | _ => none }
def FnExactEulerOfLevelsWrongFalsely : Prop := fnExactEulerOfLevelsRow.holds Try.pinned (OpenSpec.ofChange fnExactEulerOfLevelsWrong)

/-- 'laws.FnExactCountAcyclic': WHATEVER THE INPUT: true; the input reads as it did. -/
def fnExactCountAcyclicSpec : ChangeSpec := { name := "fnExactCountAcyclic", fn := fun _ => fun
  | [d] => { results := [.lit (.bool true)], args := [d] }
  | _ => none }
def fnExactCountAcyclicRow : OpenClaim := { program := "ytbhdipljhelddaa", sum := "b166513b69c73147d89b2638a71f68262a052e71cf12dcc284208e2a4c5958ac", func := "loop.example/g01348/laws.FnExactCountAcyclic", spec := "fnExactCountAcyclic", inPlace := ["slices.overlaps[loop.example/g01348/impl.Pair]"], unfollowed := true, recurses := true, plainKeys := false, apart := false }
def FnExactCountAcyclicSaid : Prop := fnExactCountAcyclicRow.holds Try.pinned (OpenSpec.ofChange fnExactCountAcyclicSpec)

/-- ITS FALSE NEIGHBOUR: 'it returns false'. Refute it at one input. -/
def fnExactCountAcyclicWrong : ChangeSpec := { name := "fnExactCountAcyclic", fn := fun _ => fun
  | [d] => { results := [.lit (.bool false)], args := [d] }
  | _ => none }
def FnExactCountAcyclicWrongFalsely : Prop := fnExactCountAcyclicRow.holds Try.pinned (OpenSpec.ofChange fnExactCountAcyclicWrong)

/-- 'laws.FnExactLeastCritical': WHATEVER THE INPUT: true; the input reads as it did. -/
def fnExactLeastCriticalSpec : ChangeSpec := { name := "fnExactLeastCritical", fn := fun _ => fun
  | [d] => { results := [.lit (.bool true)], args := [d] }
  | _ => none }
def fnExactLeastCriticalRow : OpenClaim := { program := "ytbhdipljhelddaa", sum := "b166513b69c73147d89b2638a71f68262a052e71cf12dcc284208e2a4c5958ac", func := "loop.example/g01348/laws.FnExactLeastCritical", spec := "fnExactLeastCritical", inPlace := ["slices.overlaps[loop.example/g01348/impl.Pair]"], unfollowed := true, recurses := true, plainKeys := false, apart := false }
def FnExactLeastCriticalSaid : Prop := fnExactLeastCriticalRow.holds Try.pinned (OpenSpec.ofChange fnExactLeastCriticalSpec)

/-- ITS FALSE NEIGHBOUR: 'it returns false'. Refute it at one input. -/
def fnExactLeastCriticalWrong : ChangeSpec := { name := "fnExactLeastCritical", fn := fun _ => fun
  | [d] => { results := [.lit (.bool false)], args := [d] }
  | _ => none }
def FnExactLeastCriticalWrongFalsely : Prop := fnExactLeastCriticalRow.holds Try.pinned (OpenSpec.ofChange fnExactLeastCriticalWrong)

/-- 'laws.FnExactFindIsomorphism': WHATEVER THE INPUT: true; the input reads as it did. -/
def fnExactFindIsomorphismSpec : ChangeSpec := { name := "fnExactFindIsomorphism", fn := fun _ => fun
  | [d1, d2] => { results := [.lit (.bool true)], args := [d1, d2] }
  | _ => none }
def fnExactFindIsomorphismRow : OpenClaim := { program := "ytbhdipljhelddaa", sum := "b166513b69c73147d89b2638a71f68262a052e71cf12dcc284208e2a4c5958ac", func := "loop.example/g01348/laws.FnExactFindIsomorphism", spec := "fnExactFindIsomorphism", unfollowed := true, recurses := true, plainKeys := false, apart := false }
def FnExactFindIsomorphismSaid : Prop := fnExactFindIsomorphismRow.holds Try.pinned (OpenSpec.ofChange fnExactFindIsomorphismSpec)

/-- ITS FALSE NEIGHBOUR: 'it returns false'. Refute it at one input. -/
def fnExactFindIsomorphismWrong : ChangeSpec := { name := "fnExactFindIsomorphism", fn := fun _ => fun
  | [d1, d2] => { results := [.lit (.bool false)], args := [d1, d2] }
  | _ => none }
def FnExactFindIsomorphismWrongFalsely : Prop := fnExactFindIsomorphismRow.holds Try.pinned (OpenSpec.ofChange fnExactFindIsomorphismWrong)

/- THE SECOND FORM. 'bulk': how many values and letters a reading holds, each counted each time it is reached (what is shared counts as often as it is met; a slice's spare places count too). A statement '..UptoSaid' is the law's where the arguments, and the package variables that the reading takes, are together of bulk at most 1048576: NARROWER than '..Said'. Prove '..Said' where nothing that the law and all that it calls make is longer than what came in: it says more and counts as full. Else prove '..UptoSaid'. A law counts once. -/
mutual
def uptoBulk {H : Type} : DataW H → Nat
  | .lit (.string bytes) => bytes.length + 1
  | .lit _ => 1
  | .nil => 1
  | .ptr d => uptoBulk d + 1
  | .slice elems spare => uptoBulkAll elems + uptoBulkAll spare + 1
  | .agg parts => uptoBulkAll parts + 1
  | .iface _ d => uptoBulk d + 1
  | .map entries => uptoBulkEntries entries + 1
  | .held _ => 1
def uptoBulkAll {H : Type} : List (DataW H) → Nat
  | [] => 0
  | d :: r => uptoBulk d + uptoBulkAll r
def uptoBulkEntries {H : Type} : List (Lit × DataW H) → Nat
  | [] => 0
  | x :: r => uptoBulkEntry x + uptoBulkEntries r
def uptoBulkEntry {H : Type} : Lit × DataW H → Nat
  | (.string bytes, d) => bytes.length + uptoBulk d + 1
  | (_, d) => uptoBulk d + 1
 end
def uptoSmall : (H : Type) → List (DataW H) → Bool := fun _ ds => decide (uptoBulkAll ds ≤ 1048576)
def OpenSpec.upto (s : _root_.Go.ChangeSpec) : _root_.Go.OpenSpec := { _root_.Go.OpenSpec.ofChange s with cond := some uptoSmall }

/-- 'laws.FnExactShortestCircle', WHERE WHAT IT READS IS OF BULK AT MOST 1048576: true; the input reads as it did. -/
def fnExactShortestCircleUptoRow : OpenClaim := { program := "ytbhdipljhelddaa", sum := "b166513b69c73147d89b2638a71f68262a052e71cf12dcc284208e2a4c5958ac", func := "loop.example/g01348/laws.FnExactShortestCircle", spec := "fnExactShortestCircle", unfollowed := true, recurses := true, plainKeys := false, apart := false, narrowed := true }
def FnExactShortestCircleUptoSaid : Prop := fnExactShortestCircleUptoRow.holds Try.pinned (OpenSpec.upto fnExactShortestCircleSpec)

/-- 'laws.FnExactCancelFaces', WHERE WHAT IT READS IS OF BULK AT MOST 1048576: true; the input reads as it did. -/
def fnExactCancelFacesUptoRow : OpenClaim := { program := "ytbhdipljhelddaa", sum := "b166513b69c73147d89b2638a71f68262a052e71cf12dcc284208e2a4c5958ac", func := "loop.example/g01348/laws.FnExactCancelFaces", spec := "fnExactCancelFaces", unfollowed := true, recurses := true, plainKeys := false, apart := false, narrowed := true }
def FnExactCancelFacesUptoSaid : Prop := fnExactCancelFacesUptoRow.holds Try.pinned (OpenSpec.upto fnExactCancelFacesSpec)

/-- 'laws.FnExactFirstShelling', WHERE WHAT IT READS IS OF BULK AT MOST 1048576: true; the input reads as it did. -/
def fnExactFirstShellingUptoRow : OpenClaim := { program := "ytbhdipljhelddaa", sum := "b166513b69c73147d89b2638a71f68262a052e71cf12dcc284208e2a4c5958ac", func := "loop.example/g01348/laws.FnExactFirstShelling", spec := "fnExactFirstShelling", unfollowed := true, recurses := true, plainKeys := false, apart := false, narrowed := true }
def FnExactFirstShellingUptoSaid : Prop := fnExactFirstShellingUptoRow.holds Try.pinned (OpenSpec.upto fnExactFirstShellingSpec)

/-- 'laws.FnExactLevelAt', WHERE WHAT IT READS IS OF BULK AT MOST 1048576: true; the input reads as it did. -/
def fnExactLevelAtUptoRow : OpenClaim := { program := "ytbhdipljhelddaa", sum := "b166513b69c73147d89b2638a71f68262a052e71cf12dcc284208e2a4c5958ac", func := "loop.example/g01348/laws.FnExactLevelAt", spec := "fnExactLevelAt", unfollowed := true, recurses := true, plainKeys := false, apart := false, narrowed := true }
def FnExactLevelAtUptoSaid : Prop := fnExactLevelAtUptoRow.holds Try.pinned (OpenSpec.upto fnExactLevelAtSpec)

/-- 'laws.FnExactEulerOfLevels', WHERE WHAT IT READS IS OF BULK AT MOST 1048576: true; the input reads as it did. -/
def fnExactEulerOfLevelsUptoRow : OpenClaim := { program := "ytbhdipljhelddaa", sum := "b166513b69c73147d89b2638a71f68262a052e71cf12dcc284208e2a4c5958ac", func := "loop.example/g01348/laws.FnExactEulerOfLevels", spec := "fnExactEulerOfLevels", unfollowed := true, recurses := true, plainKeys := false, apart := false, narrowed := true }
def FnExactEulerOfLevelsUptoSaid : Prop := fnExactEulerOfLevelsUptoRow.holds Try.pinned (OpenSpec.upto fnExactEulerOfLevelsSpec)

/-- 'laws.FnExactCountAcyclic', WHERE WHAT IT READS IS OF BULK AT MOST 1048576: true; the input reads as it did. -/
def fnExactCountAcyclicUptoRow : OpenClaim := { program := "ytbhdipljhelddaa", sum := "b166513b69c73147d89b2638a71f68262a052e71cf12dcc284208e2a4c5958ac", func := "loop.example/g01348/laws.FnExactCountAcyclic", spec := "fnExactCountAcyclic", inPlace := ["slices.overlaps[loop.example/g01348/impl.Pair]"], unfollowed := true, recurses := true, plainKeys := false, apart := false, narrowed := true }
def FnExactCountAcyclicUptoSaid : Prop := fnExactCountAcyclicUptoRow.holds Try.pinned (OpenSpec.upto fnExactCountAcyclicSpec)

/-- 'laws.FnExactLeastCritical', WHERE WHAT IT READS IS OF BULK AT MOST 1048576: true; the input reads as it did. -/
def fnExactLeastCriticalUptoRow : OpenClaim := { program := "ytbhdipljhelddaa", sum := "b166513b69c73147d89b2638a71f68262a052e71cf12dcc284208e2a4c5958ac", func := "loop.example/g01348/laws.FnExactLeastCritical", spec := "fnExactLeastCritical", inPlace := ["slices.overlaps[loop.example/g01348/impl.Pair]"], unfollowed := true, recurses := true, plainKeys := false, apart := false, narrowed := true }
def FnExactLeastCriticalUptoSaid : Prop := fnExactLeastCriticalUptoRow.holds Try.pinned (OpenSpec.upto fnExactLeastCriticalSpec)

/-- 'laws.FnExactFindIsomorphism', WHERE WHAT IT READS IS OF BULK AT MOST 1048576: true; the input reads as it did. -/
def fnExactFindIsomorphismUptoRow : OpenClaim := { program := "ytbhdipljhelddaa", sum := "b166513b69c73147d89b2638a71f68262a052e71cf12dcc284208e2a4c5958ac", func := "loop.example/g01348/laws.FnExactFindIsomorphism", spec := "fnExactFindIsomorphism", unfollowed := true, recurses := true, plainKeys := false, apart := false, narrowed := true }
def FnExactFindIsomorphismUptoSaid : Prop := fnExactFindIsomorphismUptoRow.holds Try.pinned (OpenSpec.upto fnExactFindIsomorphismSpec)

end Rows
end Go.Proofs.Ytbhdipljhelddaa
