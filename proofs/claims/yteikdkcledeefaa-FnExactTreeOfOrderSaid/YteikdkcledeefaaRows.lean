/-
  No cell of these rows narrows 'for every input' (looked for: loops, veiled, ifaces, maps, wideKeys, modest, calm, conditions, laid).
  DERIVED. THE GIVEN ROWS OF THIS SEAT. 10 by the template 'for every input the law returns true; each argument reads behind the call as it read before'; 0 by the template 'total and deterministic' (their statements: YteikdkcledeefaaTotals.lean).
  GIVEN WITH THE SEED: the statements are not yours to turn. If you find one false, say at which input.
  Laid BY PROGRAM, IN A SANDBOX (cutbox-rows.mjs): the forced cells as the released guide's own fill.sh prints them over the translation 64e98b16aeaa5221… (all of the seat's roots in one cut). By AI agents, Wed Nov 11 2026. No macro, syntax, notation, axiom, sorry.
-/
import Derived.Test.YteikdkcledeefaaChecked
import GoSem.Claim
import GoSem.ClaimJoined
import GoSem.ClaimMapViews
import Derived.JoinedTies
import Derived.KernelRfl
namespace Go.Proofs.Yteikdkcledeefaa
/- THE CELL 'sum', in the pinned program and in every row, IS THE sha256 OF THE DUMP (.gsa) THAT YteikdkcledeefaaProg.lean LOADS. Nothing in Lean hashes anything: it is a label: what it is worth is what the hold of that sum in a sandbox is worth. -/
noncomputable def Try.pinned : Pinned := { name := "yteikdkcledeefaa", sum := "64e98b16aeaa522129d38037ac616f6961ac8ef0475d2db6b797d26fe006cb94", checked := Try.checked }
namespace Rows
def none {H : Type} : Left H := { results := [], args := [] }

/-- 'laws.FnExactTreeOfOrder': WHATEVER THE INPUT: true; the input reads as it did. -/
def fnExactTreeOfOrderSpec : ChangeSpec := { name := "fnExactTreeOfOrder", fn := fun _ => fun
  | [d1, d2] => { results := [.lit (.bool true)], args := [d1, d2] }
  | _ => none }
def fnExactTreeOfOrderRow : OpenClaim := { program := "yteikdkcledeefaa", sum := "64e98b16aeaa522129d38037ac616f6961ac8ef0475d2db6b797d26fe006cb94", func := "loop.example/g01348/laws.FnExactTreeOfOrder", spec := "fnExactTreeOfOrder", plainKeys := false, apart := false }
def FnExactTreeOfOrderSaid : Prop := fnExactTreeOfOrderRow.holds Try.pinned (OpenSpec.ofChange fnExactTreeOfOrderSpec)

/-- ITS FALSE NEIGHBOUR: 'it returns false'. Refute it at one input. -/
def fnExactTreeOfOrderWrong : ChangeSpec := { name := "fnExactTreeOfOrder", fn := fun _ => fun
  | [d1, d2] => { results := [.lit (.bool false)], args := [d1, d2] }
  | _ => none }
def FnExactTreeOfOrderWrongFalsely : Prop := fnExactTreeOfOrderRow.holds Try.pinned (OpenSpec.ofChange fnExactTreeOfOrderWrong)

/-- 'laws.FnExactMorseBoundary': WHATEVER THE INPUT: true; the input reads as it did. -/
def fnExactMorseBoundarySpec : ChangeSpec := { name := "fnExactMorseBoundary", fn := fun _ => fun
  | [d1, d2, d3] => { results := [.lit (.bool true)], args := [d1, d2, d3] }
  | _ => none }
def fnExactMorseBoundaryRow : OpenClaim := { program := "yteikdkcledeefaa", sum := "64e98b16aeaa522129d38037ac616f6961ac8ef0475d2db6b797d26fe006cb94", func := "loop.example/g01348/laws.FnExactMorseBoundary", spec := "fnExactMorseBoundary", unfollowed := true, recurses := true, plainKeys := false, apart := false }
def FnExactMorseBoundarySaid : Prop := fnExactMorseBoundaryRow.holds Try.pinned (OpenSpec.ofChange fnExactMorseBoundarySpec)

/-- ITS FALSE NEIGHBOUR: 'it returns false'. Refute it at one input. -/
def fnExactMorseBoundaryWrong : ChangeSpec := { name := "fnExactMorseBoundary", fn := fun _ => fun
  | [d1, d2, d3] => { results := [.lit (.bool false)], args := [d1, d2, d3] }
  | _ => none }
def FnExactMorseBoundaryWrongFalsely : Prop := fnExactMorseBoundaryRow.holds Try.pinned (OpenSpec.ofChange fnExactMorseBoundaryWrong)

/-- 'laws.FnExactHolesOf': WHATEVER THE INPUT: true; the input reads as it did. -/
def fnExactHolesOfSpec : ChangeSpec := { name := "fnExactHolesOf", fn := fun _ => fun
  | [d1, d2] => { results := [.lit (.bool true)], args := [d1, d2] }
  | _ => none }
def fnExactHolesOfRow : OpenClaim := { program := "yteikdkcledeefaa", sum := "64e98b16aeaa522129d38037ac616f6961ac8ef0475d2db6b797d26fe006cb94", func := "loop.example/g01348/laws.FnExactHolesOf", spec := "fnExactHolesOf", unfollowed := true, recurses := true, plainKeys := false, apart := false }
def FnExactHolesOfSaid : Prop := fnExactHolesOfRow.holds Try.pinned (OpenSpec.ofChange fnExactHolesOfSpec)

/-- ITS FALSE NEIGHBOUR: 'it returns false'. Refute it at one input. -/
def fnExactHolesOfWrong : ChangeSpec := { name := "fnExactHolesOf", fn := fun _ => fun
  | [d1, d2] => { results := [.lit (.bool false)], args := [d1, d2] }
  | _ => none }
def FnExactHolesOfWrongFalsely : Prop := fnExactHolesOfRow.holds Try.pinned (OpenSpec.ofChange fnExactHolesOfWrong)

/-- 'laws.FnExactCancelFaces': WHATEVER THE INPUT: true; the input reads as it did. -/
def fnExactCancelFacesSpec : ChangeSpec := { name := "fnExactCancelFaces", fn := fun _ => fun
  | [d1, d2, d3, d4] => { results := [.lit (.bool true)], args := [d1, d2, d3, d4] }
  | _ => none }
def fnExactCancelFacesRow : OpenClaim := { program := "yteikdkcledeefaa", sum := "64e98b16aeaa522129d38037ac616f6961ac8ef0475d2db6b797d26fe006cb94", func := "loop.example/g01348/laws.FnExactCancelFaces", spec := "fnExactCancelFaces", unfollowed := true, recurses := true, plainKeys := false, apart := false }
def FnExactCancelFacesSaid : Prop := fnExactCancelFacesRow.holds Try.pinned (OpenSpec.ofChange fnExactCancelFacesSpec)

/-- ITS FALSE NEIGHBOUR: 'it returns false'. Refute it at one input. -/
def fnExactCancelFacesWrong : ChangeSpec := { name := "fnExactCancelFaces", fn := fun _ => fun
  | [d1, d2, d3, d4] => { results := [.lit (.bool false)], args := [d1, d2, d3, d4] }
  | _ => none }
def FnExactCancelFacesWrongFalsely : Prop := fnExactCancelFacesRow.holds Try.pinned (OpenSpec.ofChange fnExactCancelFacesWrong)

/-- 'laws.FnExactFlipOf': WHATEVER THE INPUT: true; the input reads as it did. -/
def fnExactFlipOfSpec : ChangeSpec := { name := "fnExactFlipOf", fn := fun _ => fun
  | [d1, d2] => { results := [.lit (.bool true)], args := [d1, d2] }
  | _ => none }
def fnExactFlipOfRow : OpenClaim := { program := "yteikdkcledeefaa", sum := "64e98b16aeaa522129d38037ac616f6961ac8ef0475d2db6b797d26fe006cb94", func := "loop.example/g01348/laws.FnExactFlipOf", spec := "fnExactFlipOf", unfollowed := true, recurses := true, plainKeys := false, apart := false }
def FnExactFlipOfSaid : Prop := fnExactFlipOfRow.holds Try.pinned (OpenSpec.ofChange fnExactFlipOfSpec)

/-- ITS FALSE NEIGHBOUR: 'it returns false'. Refute it at one input. -/
def fnExactFlipOfWrong : ChangeSpec := { name := "fnExactFlipOf", fn := fun _ => fun
  | [d1, d2] => { results := [.lit (.bool false)], args := [d1, d2] }
  | _ => none }
def FnExactFlipOfWrongFalsely : Prop := fnExactFlipOfRow.holds Try.pinned (OpenSpec.ofChange fnExactFlipOfWrong)

/-- 'laws.FnExactFirstShelling': WHATEVER THE INPUT: true; the input reads as it did. -/
def fnExactFirstShellingSpec : ChangeSpec := { name := "fnExactFirstShelling", fn := fun _ => fun
  | [d] => { results := [.lit (.bool true)], args := [d] }
  | _ => none }
def fnExactFirstShellingRow : OpenClaim := { program := "yteikdkcledeefaa", sum := "64e98b16aeaa522129d38037ac616f6961ac8ef0475d2db6b797d26fe006cb94", func := "loop.example/g01348/laws.FnExactFirstShelling", spec := "fnExactFirstShelling", unfollowed := true, recurses := true, plainKeys := false, apart := false }
def FnExactFirstShellingSaid : Prop := fnExactFirstShellingRow.holds Try.pinned (OpenSpec.ofChange fnExactFirstShellingSpec)

/-- ITS FALSE NEIGHBOUR: 'it returns false'. Refute it at one input. -/
def fnExactFirstShellingWrong : ChangeSpec := { name := "fnExactFirstShelling", fn := fun _ => fun
  | [d] => { results := [.lit (.bool false)], args := [d] }
  | _ => none }
def FnExactFirstShellingWrongFalsely : Prop := fnExactFirstShellingRow.holds Try.pinned (OpenSpec.ofChange fnExactFirstShellingWrong)

/-- 'laws.FnExactLevelAt': WHATEVER THE INPUT: true; the input reads as it did. -/
def fnExactLevelAtSpec : ChangeSpec := { name := "fnExactLevelAt", fn := fun _ => fun
  | [d1, d2, d3] => { results := [.lit (.bool true)], args := [d1, d2, d3] }
  | _ => none }
def fnExactLevelAtRow : OpenClaim := { program := "yteikdkcledeefaa", sum := "64e98b16aeaa522129d38037ac616f6961ac8ef0475d2db6b797d26fe006cb94", func := "loop.example/g01348/laws.FnExactLevelAt", spec := "fnExactLevelAt", unfollowed := true, recurses := true, plainKeys := false, apart := false }
def FnExactLevelAtSaid : Prop := fnExactLevelAtRow.holds Try.pinned (OpenSpec.ofChange fnExactLevelAtSpec)

/-- ITS FALSE NEIGHBOUR: 'it returns false'. Refute it at one input. -/
def fnExactLevelAtWrong : ChangeSpec := { name := "fnExactLevelAt", fn := fun _ => fun
  | [d1, d2, d3] => { results := [.lit (.bool false)], args := [d1, d2, d3] }
  | _ => none }
def FnExactLevelAtWrongFalsely : Prop := fnExactLevelAtRow.holds Try.pinned (OpenSpec.ofChange fnExactLevelAtWrong)

/-- 'laws.FnExactEulerOfLevels': WHATEVER THE INPUT: true; the input reads as it did. -/
def fnExactEulerOfLevelsSpec : ChangeSpec := { name := "fnExactEulerOfLevels", fn := fun _ => fun
  | [d1, d2] => { results := [.lit (.bool true)], args := [d1, d2] }
  | _ => none }
def fnExactEulerOfLevelsRow : OpenClaim := { program := "yteikdkcledeefaa", sum := "64e98b16aeaa522129d38037ac616f6961ac8ef0475d2db6b797d26fe006cb94", func := "loop.example/g01348/laws.FnExactEulerOfLevels", spec := "fnExactEulerOfLevels", unfollowed := true, recurses := true, plainKeys := false, apart := false }
def FnExactEulerOfLevelsSaid : Prop := fnExactEulerOfLevelsRow.holds Try.pinned (OpenSpec.ofChange fnExactEulerOfLevelsSpec)

/-- ITS FALSE NEIGHBOUR: 'it returns false'. Refute it at one input. -/
def fnExactEulerOfLevelsWrong : ChangeSpec := { name := "fnExactEulerOfLevels", fn := fun _ => fun
  | [d1, d2] => { results := [.lit (.bool false)], args := [d1, d2] }
  | _ => none }
def FnExactEulerOfLevelsWrongFalsely : Prop := fnExactEulerOfLevelsRow.holds Try.pinned (OpenSpec.ofChange fnExactEulerOfLevelsWrong)

/-- 'laws.FnExactShortestCircle': WHATEVER THE INPUT: true; the input reads as it did. -/
def fnExactShortestCircleSpec : ChangeSpec := { name := "fnExactShortestCircle", fn := fun _ => fun
  | [d] => { results := [.lit (.bool true)], args := [d] }
  | _ => none }
def fnExactShortestCircleRow : OpenClaim := { program := "yteikdkcledeefaa", sum := "64e98b16aeaa522129d38037ac616f6961ac8ef0475d2db6b797d26fe006cb94", func := "loop.example/g01348/laws.FnExactShortestCircle", spec := "fnExactShortestCircle", unfollowed := true, recurses := true, plainKeys := false, apart := false }
def FnExactShortestCircleSaid : Prop := fnExactShortestCircleRow.holds Try.pinned (OpenSpec.ofChange fnExactShortestCircleSpec)

/-- ITS FALSE NEIGHBOUR: 'it returns false'. Refute it at one input. -/
def fnExactShortestCircleWrong : ChangeSpec := { name := "fnExactShortestCircle", fn := fun _ => fun
  | [d] => { results := [.lit (.bool false)], args := [d] }
  | _ => none }
def FnExactShortestCircleWrongFalsely : Prop := fnExactShortestCircleRow.holds Try.pinned (OpenSpec.ofChange fnExactShortestCircleWrong)

/-- 'laws.FnExactFindIsomorphism': WHATEVER THE INPUT: true; the input reads as it did. -/
def fnExactFindIsomorphismSpec : ChangeSpec := { name := "fnExactFindIsomorphism", fn := fun _ => fun
  | [d1, d2] => { results := [.lit (.bool true)], args := [d1, d2] }
  | _ => none }
def fnExactFindIsomorphismRow : OpenClaim := { program := "yteikdkcledeefaa", sum := "64e98b16aeaa522129d38037ac616f6961ac8ef0475d2db6b797d26fe006cb94", func := "loop.example/g01348/laws.FnExactFindIsomorphism", spec := "fnExactFindIsomorphism", unfollowed := true, recurses := true, plainKeys := false, apart := false }
def FnExactFindIsomorphismSaid : Prop := fnExactFindIsomorphismRow.holds Try.pinned (OpenSpec.ofChange fnExactFindIsomorphismSpec)

/-- ITS FALSE NEIGHBOUR: 'it returns false'. Refute it at one input. -/
def fnExactFindIsomorphismWrong : ChangeSpec := { name := "fnExactFindIsomorphism", fn := fun _ => fun
  | [d1, d2] => { results := [.lit (.bool false)], args := [d1, d2] }
  | _ => none }
def FnExactFindIsomorphismWrongFalsely : Prop := fnExactFindIsomorphismRow.holds Try.pinned (OpenSpec.ofChange fnExactFindIsomorphismWrong)

/- THE SECOND FORM. 'bulk': how many values and letters a reading holds, each counted each time it is reached (what is shared counts as often as it is met; a slice's spare places count too). A statement '..UptoSaid' is the law's where the arguments, and the package variables that the reading takes, are together of bulk at most 1048576: NARROWER than '..Said'. Prove '..Said' where nothing that the law and all that it calls make is longer than what came in: it says more and counts as full. Else prove '..UptoSaid'. A law counts once. -/
mutual
def uptoBulk {H : Type} : DataW H → Nat
  | .lit (.string bytes) => bytes.length + 1
  | .lit _ => 1
  | .nil => 1
  | .ptr d => uptoBulk d + 1
  | .slice elems spare => uptoBulkAll elems + uptoBulkAll spare + 1
  | .agg parts => uptoBulkAll parts + 1
  | .iface _ d => uptoBulk d + 1
  | .map entries => uptoBulkEntries entries + 1
  | .held _ => 1
def uptoBulkAll {H : Type} : List (DataW H) → Nat
  | [] => 0
  | d :: r => uptoBulk d + uptoBulkAll r
def uptoBulkEntries {H : Type} : List (Lit × DataW H) → Nat
  | [] => 0
  | x :: r => uptoBulkEntry x + uptoBulkEntries r
def uptoBulkEntry {H : Type} : Lit × DataW H → Nat
  | (.string bytes, d) => bytes.length + uptoBulk d + 1
  | (_, d) => uptoBulk d + 1
 end
def uptoSmall : (H : Type) → List (DataW H) → Bool := fun _ ds => decide (uptoBulkAll ds ≤ 1048576)
def OpenSpec.upto (s : _root_.Go.ChangeSpec) : _root_.Go.OpenSpec := { _root_.Go.OpenSpec.ofChange s with cond := some uptoSmall }

/-- 'laws.FnExactTreeOfOrder', WHERE WHAT IT READS IS OF BULK AT MOST 1048576: true; the input reads as it did. -/
def fnExactTreeOfOrderUptoRow : OpenClaim := { program := "yteikdkcledeefaa", sum := "64e98b16aeaa522129d38037ac616f6961ac8ef0475d2db6b797d26fe006cb94", func := "loop.example/g01348/laws.FnExactTreeOfOrder", spec := "fnExactTreeOfOrder", plainKeys := false, apart := false, narrowed := true }
def FnExactTreeOfOrderUptoSaid : Prop := fnExactTreeOfOrderUptoRow.holds Try.pinned (OpenSpec.upto fnExactTreeOfOrderSpec)

/-- 'laws.FnExactMorseBoundary', WHERE WHAT IT READS IS OF BULK AT MOST 1048576: true; the input reads as it did. -/
def fnExactMorseBoundaryUptoRow : OpenClaim := { program := "yteikdkcledeefaa", sum := "64e98b16aeaa522129d38037ac616f6961ac8ef0475d2db6b797d26fe006cb94", func := "loop.example/g01348/laws.FnExactMorseBoundary", spec := "fnExactMorseBoundary", unfollowed := true, recurses := true, plainKeys := false, apart := false, narrowed := true }
def FnExactMorseBoundaryUptoSaid : Prop := fnExactMorseBoundaryUptoRow.holds Try.pinned (OpenSpec.upto fnExactMorseBoundarySpec)

/-- 'laws.FnExactHolesOf', WHERE WHAT IT READS IS OF BULK AT MOST 1048576: true; the input reads as it did. -/
def fnExactHolesOfUptoRow : OpenClaim := { program := "yteikdkcledeefaa", sum := "64e98b16aeaa522129d38037ac616f6961ac8ef0475d2db6b797d26fe006cb94", func := "loop.example/g01348/laws.FnExactHolesOf", spec := "fnExactHolesOf", unfollowed := true, recurses := true, plainKeys := false, apart := false, narrowed := true }
def FnExactHolesOfUptoSaid : Prop := fnExactHolesOfUptoRow.holds Try.pinned (OpenSpec.upto fnExactHolesOfSpec)

/-- 'laws.FnExactCancelFaces', WHERE WHAT IT READS IS OF BULK AT MOST 1048576: true; the input reads as it did. -/
def fnExactCancelFacesUptoRow : OpenClaim := { program := "yteikdkcledeefaa", sum := "64e98b16aeaa522129d38037ac616f6961ac8ef0475d2db6b797d26fe006cb94", func := "loop.example/g01348/laws.FnExactCancelFaces", spec := "fnExactCancelFaces", unfollowed := true, recurses := true, plainKeys := false, apart := false, narrowed := true }
def FnExactCancelFacesUptoSaid : Prop := fnExactCancelFacesUptoRow.holds Try.pinned (OpenSpec.upto fnExactCancelFacesSpec)

/-- 'laws.FnExactFlipOf', WHERE WHAT IT READS IS OF BULK AT MOST 1048576: true; the input reads as it did. -/
def fnExactFlipOfUptoRow : OpenClaim := { program := "yteikdkcledeefaa", sum := "64e98b16aeaa522129d38037ac616f6961ac8ef0475d2db6b797d26fe006cb94", func := "loop.example/g01348/laws.FnExactFlipOf", spec := "fnExactFlipOf", unfollowed := true, recurses := true, plainKeys := false, apart := false, narrowed := true }
def FnExactFlipOfUptoSaid : Prop := fnExactFlipOfUptoRow.holds Try.pinned (OpenSpec.upto fnExactFlipOfSpec)

/-- 'laws.FnExactFirstShelling', WHERE WHAT IT READS IS OF BULK AT MOST 1048576: true; the input reads as it did. -/
def fnExactFirstShellingUptoRow : OpenClaim := { program := "yteikdkcledeefaa", sum := "64e98b16aeaa522129d38037ac616f6961ac8ef0475d2db6b797d26fe006cb94", func := "loop.example/g01348/laws.FnExactFirstShelling", spec := "fnExactFirstShelling", unfollowed := true, recurses := true, plainKeys := false, apart := false, narrowed := true }
def FnExactFirstShellingUptoSaid : Prop := fnExactFirstShellingUptoRow.holds Try.pinned (OpenSpec.upto fnExactFirstShellingSpec)

/-- 'laws.FnExactLevelAt', WHERE WHAT IT READS IS OF BULK AT MOST 1048576: true; the input reads as it did. -/
def fnExactLevelAtUptoRow : OpenClaim := { program := "yteikdkcledeefaa", sum := "64e98b16aeaa522129d38037ac616f6961ac8ef0475d2db6b797d26fe006cb94", func := "loop.example/g01348/laws.FnExactLevelAt", spec := "fnExactLevelAt", unfollowed := true, recurses := true, plainKeys := false, apart := false, narrowed := true }
def FnExactLevelAtUptoSaid : Prop := fnExactLevelAtUptoRow.holds Try.pinned (OpenSpec.upto fnExactLevelAtSpec)

/-- 'laws.FnExactEulerOfLevels', WHERE WHAT IT READS IS OF BULK AT MOST 1048576: true; the input reads as it did. -/
def fnExactEulerOfLevelsUptoRow : OpenClaim := { program := "yteikdkcledeefaa", sum := "64e98b16aeaa522129d38037ac616f6961ac8ef0475d2db6b797d26fe006cb94", func := "loop.example/g01348/laws.FnExactEulerOfLevels", spec := "fnExactEulerOfLevels", unfollowed := true, recurses := true, plainKeys := false, apart := false, narrowed := true }
def FnExactEulerOfLevelsUptoSaid : Prop := fnExactEulerOfLevelsUptoRow.holds Try.pinned (OpenSpec.upto fnExactEulerOfLevelsSpec)

/-- 'laws.FnExactShortestCircle', WHERE WHAT IT READS IS OF BULK AT MOST 1048576: true; the input reads as it did. -/
def fnExactShortestCircleUptoRow : OpenClaim := { program := "yteikdkcledeefaa", sum := "64e98b16aeaa522129d38037ac616f6961ac8ef0475d2db6b797d26fe006cb94", func := "loop.example/g01348/laws.FnExactShortestCircle", spec := "fnExactShortestCircle", unfollowed := true, recurses := true, plainKeys := false, apart := false, narrowed := true }
def FnExactShortestCircleUptoSaid : Prop := fnExactShortestCircleUptoRow.holds Try.pinned (OpenSpec.upto fnExactShortestCircleSpec)

/-- 'laws.FnExactFindIsomorphism', WHERE WHAT IT READS IS OF BULK AT MOST 1048576: true; the input reads as it did. -/
def fnExactFindIsomorphismUptoRow : OpenClaim := { program := "yteikdkcledeefaa", sum := "64e98b16aeaa522129d38037ac616f6961ac8ef0475d2db6b797d26fe006cb94", func := "loop.example/g01348/laws.FnExactFindIsomorphism", spec := "fnExactFindIsomorphism", unfollowed := true, recurses := true, plainKeys := false, apart := false, narrowed := true }
def FnExactFindIsomorphismUptoSaid : Prop := fnExactFindIsomorphismUptoRow.holds Try.pinned (OpenSpec.upto fnExactFindIsomorphismSpec)

end Rows
end Go.Proofs.Yteikdkcledeefaa
