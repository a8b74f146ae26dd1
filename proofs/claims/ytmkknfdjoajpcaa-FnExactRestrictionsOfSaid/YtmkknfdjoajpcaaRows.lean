/-
  No cell of these rows narrows 'for every input' (looked for: loops, veiled, ifaces, maps, wideKeys, modest, calm, conditions, laid).
  DERIVED. THE GIVEN ROWS OF THIS SEAT. 12 by the template 'for every input the law returns true; each argument reads behind the call as it read before'; 0 by the template 'total and deterministic' (their statements: YtmkknfdjoajpcaaTotals.lean).
  GIVEN WITH THE SEED: the statements are not yours to turn. If you find one false, say at which input.
  Laid BY PROGRAM, IN A SANDBOX (cutbox-rows.mjs): the forced cells as the released guide's own fill.sh prints them over the translation 99119919ab7bcf79… (all of the seat's roots in one cut). By AI agents, Wed Nov 11 2026. No macro, syntax, notation, axiom, sorry.
-/
import Derived.Test.YtmkknfdjoajpcaaChecked
import GoSem.Claim
import GoSem.ClaimJoined
import GoSem.ClaimMapViews
import Derived.JoinedTies
import Derived.KernelRfl
namespace Go.Proofs.Ytmkknfdjoajpcaa
/- THE CELL 'sum', in the pinned program and in every row, IS THE sha256 OF THE DUMP (.gsa) THAT YtmkknfdjoajpcaaProg.lean LOADS. Nothing in Lean hashes anything: it is a label: what it is worth is what the hold of that sum in a sandbox is worth. -/
noncomputable def Try.pinned : Pinned := { name := "ytmkknfdjoajpcaa", sum := "99119919ab7bcf79c4b03acaf16d4cc6de18e112d35d35594c1f7c17d9f0c86b", checked := Try.checked }
namespace Rows
def none {H : Type} : Left H := { results := [], args := [] }

/-- 'laws.FnExactDualOf': WHATEVER THE INPUT: true; the input reads as it did. -/
def fnExactDualOfSpec : ChangeSpec := { name := "fnExactDualOf", fn := fun _ => fun
  | [d] => { results := [.lit (.bool true)], args := [d] }
  | _ => none }
def fnExactDualOfRow : OpenClaim := { program := "ytmkknfdjoajpcaa", sum := "99119919ab7bcf79c4b03acaf16d4cc6de18e112d35d35594c1f7c17d9f0c86b", func := "loop.example/g01348/laws.FnExactDualOf", spec := "fnExactDualOf", unfollowed := true, recurses := true, apart := false }
def FnExactDualOfSaid : Prop := fnExactDualOfRow.holds Try.pinned (OpenSpec.ofChange fnExactDualOfSpec)

/-- ITS FALSE NEIGHBOUR: 'it returns false'. Refute it at one input. -/
def fnExactDualOfWrong : ChangeSpec := { name := "fnExactDualOf", fn := fun _ => fun
  | [d] => { results := [.lit (.bool false)], args := [d] }
  | _ => none }
def FnExactDualOfWrongFalsely : Prop := fnExactDualOfRow.holds Try.pinned (OpenSpec.ofChange fnExactDualOfWrong)

/-- 'laws.FnExactMissingFaces': WHATEVER THE INPUT: true; the input reads as it did. -/
def fnExactMissingFacesSpec : ChangeSpec := { name := "fnExactMissingFaces", fn := fun _ => fun
  | [d] => { results := [.lit (.bool true)], args := [d] }
  | _ => none }
def fnExactMissingFacesRow : OpenClaim := { program := "ytmkknfdjoajpcaa", sum := "99119919ab7bcf79c4b03acaf16d4cc6de18e112d35d35594c1f7c17d9f0c86b", func := "loop.example/g01348/laws.FnExactMissingFaces", spec := "fnExactMissingFaces", unfollowed := true, recurses := true, apart := false }
def FnExactMissingFacesSaid : Prop := fnExactMissingFacesRow.holds Try.pinned (OpenSpec.ofChange fnExactMissingFacesSpec)

/-- ITS FALSE NEIGHBOUR: 'it returns false'. Refute it at one input. -/
def fnExactMissingFacesWrong : ChangeSpec := { name := "fnExactMissingFaces", fn := fun _ => fun
  | [d] => { results := [.lit (.bool false)], args := [d] }
  | _ => none }
def FnExactMissingFacesWrongFalsely : Prop := fnExactMissingFacesRow.holds Try.pinned (OpenSpec.ofChange fnExactMissingFacesWrong)

/-- 'laws.FnExactSuspensionOf': WHATEVER THE INPUT: true; the input reads as it did. -/
def fnExactSuspensionOfSpec : ChangeSpec := { name := "fnExactSuspensionOf", fn := fun _ => fun
  | [d] => { results := [.lit (.bool true)], args := [d] }
  | _ => none }
def fnExactSuspensionOfRow : OpenClaim := { program := "ytmkknfdjoajpcaa", sum := "99119919ab7bcf79c4b03acaf16d4cc6de18e112d35d35594c1f7c17d9f0c86b", func := "loop.example/g01348/laws.FnExactSuspensionOf", spec := "fnExactSuspensionOf", unfollowed := true, recurses := true, apart := false }
def FnExactSuspensionOfSaid : Prop := fnExactSuspensionOfRow.holds Try.pinned (OpenSpec.ofChange fnExactSuspensionOfSpec)

/-- ITS FALSE NEIGHBOUR: 'it returns false'. Refute it at one input. -/
def fnExactSuspensionOfWrong : ChangeSpec := { name := "fnExactSuspensionOf", fn := fun _ => fun
  | [d] => { results := [.lit (.bool false)], args := [d] }
  | _ => none }
def FnExactSuspensionOfWrongFalsely : Prop := fnExactSuspensionOfRow.holds Try.pinned (OpenSpec.ofChange fnExactSuspensionOfWrong)

/-- 'laws.FnExactIsPure': WHATEVER THE INPUT: true; the input reads as it did. -/
def fnExactIsPureSpec : ChangeSpec := { name := "fnExactIsPure", fn := fun _ => fun
  | [d] => { results := [.lit (.bool true)], args := [d] }
  | _ => none }
def fnExactIsPureRow : OpenClaim := { program := "ytmkknfdjoajpcaa", sum := "99119919ab7bcf79c4b03acaf16d4cc6de18e112d35d35594c1f7c17d9f0c86b", func := "loop.example/g01348/laws.FnExactIsPure", spec := "fnExactIsPure", unfollowed := true, recurses := true, apart := false }
def FnExactIsPureSaid : Prop := fnExactIsPureRow.holds Try.pinned (OpenSpec.ofChange fnExactIsPureSpec)

/-- ITS FALSE NEIGHBOUR: 'it returns false'. Refute it at one input. -/
def fnExactIsPureWrong : ChangeSpec := { name := "fnExactIsPure", fn := fun _ => fun
  | [d] => { results := [.lit (.bool false)], args := [d] }
  | _ => none }
def FnExactIsPureWrongFalsely : Prop := fnExactIsPureRow.holds Try.pinned (OpenSpec.ofChange fnExactIsPureWrong)

/-- 'laws.FnExactIsPseudomanifold': WHATEVER THE INPUT: true; the input reads as it did. -/
def fnExactIsPseudomanifoldSpec : ChangeSpec := { name := "fnExactIsPseudomanifold", fn := fun _ => fun
  | [d] => { results := [.lit (.bool true)], args := [d] }
  | _ => none }
def fnExactIsPseudomanifoldRow : OpenClaim := { program := "ytmkknfdjoajpcaa", sum := "99119919ab7bcf79c4b03acaf16d4cc6de18e112d35d35594c1f7c17d9f0c86b", func := "loop.example/g01348/laws.FnExactIsPseudomanifold", spec := "fnExactIsPseudomanifold", unfollowed := true, recurses := true, apart := false }
def FnExactIsPseudomanifoldSaid : Prop := fnExactIsPseudomanifoldRow.holds Try.pinned (OpenSpec.ofChange fnExactIsPseudomanifoldSpec)

/-- ITS FALSE NEIGHBOUR: 'it returns false'. Refute it at one input. -/
def fnExactIsPseudomanifoldWrong : ChangeSpec := { name := "fnExactIsPseudomanifold", fn := fun _ => fun
  | [d] => { results := [.lit (.bool false)], args := [d] }
  | _ => none }
def FnExactIsPseudomanifoldWrongFalsely : Prop := fnExactIsPseudomanifoldRow.holds Try.pinned (OpenSpec.ofChange fnExactIsPseudomanifoldWrong)

/-- 'laws.FnExactFlipOf': WHATEVER THE INPUT: true; the input reads as it did. -/
def fnExactFlipOfSpec : ChangeSpec := { name := "fnExactFlipOf", fn := fun _ => fun
  | [d1, d2] => { results := [.lit (.bool true)], args := [d1, d2] }
  | _ => none }
def fnExactFlipOfRow : OpenClaim := { program := "ytmkknfdjoajpcaa", sum := "99119919ab7bcf79c4b03acaf16d4cc6de18e112d35d35594c1f7c17d9f0c86b", func := "loop.example/g01348/laws.FnExactFlipOf", spec := "fnExactFlipOf", unfollowed := true, recurses := true, apart := false }
def FnExactFlipOfSaid : Prop := fnExactFlipOfRow.holds Try.pinned (OpenSpec.ofChange fnExactFlipOfSpec)

/-- ITS FALSE NEIGHBOUR: 'it returns false'. Refute it at one input. -/
def fnExactFlipOfWrong : ChangeSpec := { name := "fnExactFlipOf", fn := fun _ => fun
  | [d1, d2] => { results := [.lit (.bool false)], args := [d1, d2] }
  | _ => none }
def FnExactFlipOfWrongFalsely : Prop := fnExactFlipOfRow.holds Try.pinned (OpenSpec.ofChange fnExactFlipOfWrong)

/-- 'laws.FnExactNumbersH': WHATEVER THE INPUT: true; the input reads as it did. -/
def fnExactNumbersHSpec : ChangeSpec := { name := "fnExactNumbersH", fn := fun _ => fun
  | [d] => { results := [.lit (.bool true)], args := [d] }
  | _ => none }
def fnExactNumbersHRow : OpenClaim := { program := "ytmkknfdjoajpcaa", sum := "99119919ab7bcf79c4b03acaf16d4cc6de18e112d35d35594c1f7c17d9f0c86b", func := "loop.example/g01348/laws.FnExactNumbersH", spec := "fnExactNumbersH", inPlace := ["slices.overlaps[int64]"], unfollowed := true, recurses := true, apart := false }
def FnExactNumbersHSaid : Prop := fnExactNumbersHRow.holds Try.pinned (OpenSpec.ofChange fnExactNumbersHSpec)

/-- ITS FALSE NEIGHBOUR: 'it returns false'. Refute it at one input. -/
def fnExactNumbersHWrong : ChangeSpec := { name := "fnExactNumbersH", fn := fun _ => fun
  | [d] => { results := [.lit (.bool false)], args := [d] }
  | _ => none }
def FnExactNumbersHWrongFalsely : Prop := fnExactNumbersHRow.holds Try.pinned (OpenSpec.ofChange fnExactNumbersHWrong)

/-- 'laws.FnExactIsShelling': WHATEVER THE INPUT: true; the input reads as it did. -/
def fnExactIsShellingSpec : ChangeSpec := { name := "fnExactIsShelling", fn := fun _ => fun
  | [d1, d2] => { results := [.lit (.bool true)], args := [d1, d2] }
  | _ => none }
def fnExactIsShellingRow : OpenClaim := { program := "ytmkknfdjoajpcaa", sum := "99119919ab7bcf79c4b03acaf16d4cc6de18e112d35d35594c1f7c17d9f0c86b", func := "loop.example/g01348/laws.FnExactIsShelling", spec := "fnExactIsShelling", unfollowed := true, recurses := true, apart := false }
def FnExactIsShellingSaid : Prop := fnExactIsShellingRow.holds Try.pinned (OpenSpec.ofChange fnExactIsShellingSpec)

/-- ITS FALSE NEIGHBOUR: 'it returns false'. Refute it at one input. -/
def fnExactIsShellingWrong : ChangeSpec := { name := "fnExactIsShelling", fn := fun _ => fun
  | [d1, d2] => { results := [.lit (.bool false)], args := [d1, d2] }
  | _ => none }
def FnExactIsShellingWrongFalsely : Prop := fnExactIsShellingRow.holds Try.pinned (OpenSpec.ofChange fnExactIsShellingWrong)

/-- 'laws.FnExactFirstShelling': WHATEVER THE INPUT: true; the input reads as it did. -/
def fnExactFirstShellingSpec : ChangeSpec := { name := "fnExactFirstShelling", fn := fun _ => fun
  | [d] => { results := [.lit (.bool true)], args := [d] }
  | _ => none }
def fnExactFirstShellingRow : OpenClaim := { program := "ytmkknfdjoajpcaa", sum := "99119919ab7bcf79c4b03acaf16d4cc6de18e112d35d35594c1f7c17d9f0c86b", func := "loop.example/g01348/laws.FnExactFirstShelling", spec := "fnExactFirstShelling", unfollowed := true, recurses := true, apart := false }
def FnExactFirstShellingSaid : Prop := fnExactFirstShellingRow.holds Try.pinned (OpenSpec.ofChange fnExactFirstShellingSpec)

/-- ITS FALSE NEIGHBOUR: 'it returns false'. Refute it at one input. -/
def fnExactFirstShellingWrong : ChangeSpec := { name := "fnExactFirstShelling", fn := fun _ => fun
  | [d] => { results := [.lit (.bool false)], args := [d] }
  | _ => none }
def FnExactFirstShellingWrongFalsely : Prop := fnExactFirstShellingRow.holds Try.pinned (OpenSpec.ofChange fnExactFirstShellingWrong)

/-- 'laws.FnExactRestrictionsOf': WHATEVER THE INPUT: true; the input reads as it did. -/
def fnExactRestrictionsOfSpec : ChangeSpec := { name := "fnExactRestrictionsOf", fn := fun _ => fun
  | [d1, d2] => { results := [.lit (.bool true)], args := [d1, d2] }
  | _ => none }
def fnExactRestrictionsOfRow : OpenClaim := { program := "ytmkknfdjoajpcaa", sum := "99119919ab7bcf79c4b03acaf16d4cc6de18e112d35d35594c1f7c17d9f0c86b", func := "loop.example/g01348/laws.FnExactRestrictionsOf", spec := "fnExactRestrictionsOf", unfollowed := true, recurses := true, apart := false }
def FnExactRestrictionsOfSaid : Prop := fnExactRestrictionsOfRow.holds Try.pinned (OpenSpec.ofChange fnExactRestrictionsOfSpec)

/-- ITS FALSE NEIGHBOUR: 'it returns false'. Refute it at one input. -/
def fnExactRestrictionsOfWrong : ChangeSpec := { name := "fnExactRestrictionsOf", fn := fun _ => fun
  | [d1, d2] => { results := [.lit (.bool false)], args := [d1, d2] }
  | _ => none }
def FnExactRestrictionsOfWrongFalsely : Prop := fnExactRestrictionsOfRow.holds Try.pinned (OpenSpec.ofChange fnExactRestrictionsOfWrong)

/-- 'laws.FnExactBoundaryComplex': WHATEVER THE INPUT: true; the input reads as it did. -/
def fnExactBoundaryComplexSpec : ChangeSpec := { name := "fnExactBoundaryComplex", fn := fun _ => fun
  | [d] => { results := [.lit (.bool true)], args := [d] }
  | _ => none }
def fnExactBoundaryComplexRow : OpenClaim := { program := "ytmkknfdjoajpcaa", sum := "99119919ab7bcf79c4b03acaf16d4cc6de18e112d35d35594c1f7c17d9f0c86b", func := "loop.example/g01348/laws.FnExactBoundaryComplex", spec := "fnExactBoundaryComplex", unfollowed := true, recurses := true, apart := false }
def FnExactBoundaryComplexSaid : Prop := fnExactBoundaryComplexRow.holds Try.pinned (OpenSpec.ofChange fnExactBoundaryComplexSpec)

/-- ITS FALSE NEIGHBOUR: 'it returns false'. Refute it at one input. -/
def fnExactBoundaryComplexWrong : ChangeSpec := { name := "fnExactBoundaryComplex", fn := fun _ => fun
  | [d] => { results := [.lit (.bool false)], args := [d] }
  | _ => none }
def FnExactBoundaryComplexWrongFalsely : Prop := fnExactBoundaryComplexRow.holds Try.pinned (OpenSpec.ofChange fnExactBoundaryComplexWrong)

/-- 'laws.FnExactComplexOf': WHATEVER THE INPUT: true; the input reads as it did. -/
def fnExactComplexOfSpec : ChangeSpec := { name := "fnExactComplexOf", fn := fun _ => fun
  | [d1, d2] => { results := [.lit (.bool true)], args := [d1, d2] }
  | _ => none }
def fnExactComplexOfRow : OpenClaim := { program := "ytmkknfdjoajpcaa", sum := "99119919ab7bcf79c4b03acaf16d4cc6de18e112d35d35594c1f7c17d9f0c86b", func := "loop.example/g01348/laws.FnExactComplexOf", spec := "fnExactComplexOf", unfollowed := true, recurses := true, apart := false }
def FnExactComplexOfSaid : Prop := fnExactComplexOfRow.holds Try.pinned (OpenSpec.ofChange fnExactComplexOfSpec)

/-- ITS FALSE NEIGHBOUR: 'it returns false'. Refute it at one input. -/
def fnExactComplexOfWrong : ChangeSpec := { name := "fnExactComplexOf", fn := fun _ => fun
  | [d1, d2] => { results := [.lit (.bool false)], args := [d1, d2] }
  | _ => none }
def FnExactComplexOfWrongFalsely : Prop := fnExactComplexOfRow.holds Try.pinned (OpenSpec.ofChange fnExactComplexOfWrong)

/- THE SECOND FORM. 'bulk': how many values and letters a reading holds, each counted each time it is reached (what is shared counts as often as it is met; a slice's spare places count too). A statement '..UptoSaid' is the law's where the arguments, and the package variables that the reading takes, are together of bulk at most 1048576: NARROWER than '..Said'. Prove '..Said' where nothing that the law and all that it calls make is longer than what came in: it says more and counts as full. Else prove '..UptoSaid'. A law counts once. -/
mutual
def uptoBulk {H : Type} : DataW H → Nat
  | .lit (.string bytes) => bytes.length + 1
  | .lit _ => 1
  | .nil => 1
  | .ptr d => uptoBulk d + 1
  | .slice elems spare => uptoBulkAll elems + uptoBulkAll spare + 1
  | .agg parts => uptoBulkAll parts + 1
  | .iface _ d => uptoBulk d + 1
  | .map entries => uptoBulkEntries entries + 1
  | .held _ => 1
def uptoBulkAll {H : Type} : List (DataW H) → Nat
  | [] => 0
  | d :: r => uptoBulk d + uptoBulkAll r
def uptoBulkEntries {H : Type} : List (Lit × DataW H) → Nat
  | [] => 0
  | x :: r => uptoBulkEntry x + uptoBulkEntries r
def uptoBulkEntry {H : Type} : Lit × DataW H → Nat
  | (.string bytes, d) => bytes.length + uptoBulk d + 1
  | (_, d) => uptoBulk d + 1
 end
def uptoSmall : (H : Type) → List (DataW H) → Bool := fun _ ds => decide (uptoBulkAll ds ≤ 1048576)
def OpenSpec.upto (s : _root_.Go.ChangeSpec) : _root_.Go.OpenSpec := { _root_.Go.OpenSpec.ofChange s with cond := some uptoSmall }

/-- 'laws.FnExactDualOf', WHERE WHAT IT READS IS OF BULK AT MOST 1048576: true; the input reads as it did. -/
def fnExactDualOfUptoRow : OpenClaim := { program := "ytmkknfdjoajpcaa", sum := "99119919ab7bcf79c4b03acaf16d4cc6de18e112d35d35594c1f7c17d9f0c86b", func := "loop.example/g01348/laws.FnExactDualOf", spec := "fnExactDualOf", unfollowed := true, recurses := true, apart := false, narrowed := true }
def FnExactDualOfUptoSaid : Prop := fnExactDualOfUptoRow.holds Try.pinned (OpenSpec.upto fnExactDualOfSpec)

/-- 'laws.FnExactMissingFaces', WHERE WHAT IT READS IS OF BULK AT MOST 1048576: true; the input reads as it did. -/
def fnExactMissingFacesUptoRow : OpenClaim := { program := "ytmkknfdjoajpcaa", sum := "99119919ab7bcf79c4b03acaf16d4cc6de18e112d35d35594c1f7c17d9f0c86b", func := "loop.example/g01348/laws.FnExactMissingFaces", spec := "fnExactMissingFaces", unfollowed := true, recurses := true, apart := false, narrowed := true }
def FnExactMissingFacesUptoSaid : Prop := fnExactMissingFacesUptoRow.holds Try.pinned (OpenSpec.upto fnExactMissingFacesSpec)

/-- 'laws.FnExactSuspensionOf', WHERE WHAT IT READS IS OF BULK AT MOST 1048576: true; the input reads as it did. -/
def fnExactSuspensionOfUptoRow : OpenClaim := { program := "ytmkknfdjoajpcaa", sum := "99119919ab7bcf79c4b03acaf16d4cc6de18e112d35d35594c1f7c17d9f0c86b", func := "loop.example/g01348/laws.FnExactSuspensionOf", spec := "fnExactSuspensionOf", unfollowed := true, recurses := true, apart := false, narrowed := true }
def FnExactSuspensionOfUptoSaid : Prop := fnExactSuspensionOfUptoRow.holds Try.pinned (OpenSpec.upto fnExactSuspensionOfSpec)

/-- 'laws.FnExactIsPure', WHERE WHAT IT READS IS OF BULK AT MOST 1048576: true; the input reads as it did. -/
def fnExactIsPureUptoRow : OpenClaim := { program := "ytmkknfdjoajpcaa", sum := "99119919ab7bcf79c4b03acaf16d4cc6de18e112d35d35594c1f7c17d9f0c86b", func := "loop.example/g01348/laws.FnExactIsPure", spec := "fnExactIsPure", unfollowed := true, recurses := true, apart := false, narrowed := true }
def FnExactIsPureUptoSaid : Prop := fnExactIsPureUptoRow.holds Try.pinned (OpenSpec.upto fnExactIsPureSpec)

/-- 'laws.FnExactIsPseudomanifold', WHERE WHAT IT READS IS OF BULK AT MOST 1048576: true; the input reads as it did. -/
def fnExactIsPseudomanifoldUptoRow : OpenClaim := { program := "ytmkknfdjoajpcaa", sum := "99119919ab7bcf79c4b03acaf16d4cc6de18e112d35d35594c1f7c17d9f0c86b", func := "loop.example/g01348/laws.FnExactIsPseudomanifold", spec := "fnExactIsPseudomanifold", unfollowed := true, recurses := true, apart := false, narrowed := true }
def FnExactIsPseudomanifoldUptoSaid : Prop := fnExactIsPseudomanifoldUptoRow.holds Try.pinned (OpenSpec.upto fnExactIsPseudomanifoldSpec)

/-- 'laws.FnExactFlipOf', WHERE WHAT IT READS IS OF BULK AT MOST 1048576: true; the input reads as it did. -/
def fnExactFlipOfUptoRow : OpenClaim := { program := "ytmkknfdjoajpcaa", sum := "99119919ab7bcf79c4b03acaf16d4cc6de18e112d35d35594c1f7c17d9f0c86b", func := "loop.example/g01348/laws.FnExactFlipOf", spec := "fnExactFlipOf", unfollowed := true, recurses := true, apart := false, narrowed := true }
def FnExactFlipOfUptoSaid : Prop := fnExactFlipOfUptoRow.holds Try.pinned (OpenSpec.upto fnExactFlipOfSpec)

/-- 'laws.FnExactNumbersH', WHERE WHAT IT READS IS OF BULK AT MOST 1048576: true; the input reads as it did. -/
def fnExactNumbersHUptoRow : OpenClaim := { program := "ytmkknfdjoajpcaa", sum := "99119919ab7bcf79c4b03acaf16d4cc6de18e112d35d35594c1f7c17d9f0c86b", func := "loop.example/g01348/laws.FnExactNumbersH", spec := "fnExactNumbersH", inPlace := ["slices.overlaps[int64]"], unfollowed := true, recurses := true, apart := false, narrowed := true }
def FnExactNumbersHUptoSaid : Prop := fnExactNumbersHUptoRow.holds Try.pinned (OpenSpec.upto fnExactNumbersHSpec)

/-- 'laws.FnExactIsShelling', WHERE WHAT IT READS IS OF BULK AT MOST 1048576: true; the input reads as it did. -/
def fnExactIsShellingUptoRow : OpenClaim := { program := "ytmkknfdjoajpcaa", sum := "99119919ab7bcf79c4b03acaf16d4cc6de18e112d35d35594c1f7c17d9f0c86b", func := "loop.example/g01348/laws.FnExactIsShelling", spec := "fnExactIsShelling", unfollowed := true, recurses := true, apart := false, narrowed := true }
def FnExactIsShellingUptoSaid : Prop := fnExactIsShellingUptoRow.holds Try.pinned (OpenSpec.upto fnExactIsShellingSpec)

/-- 'laws.FnExactFirstShelling', WHERE WHAT IT READS IS OF BULK AT MOST 1048576: true; the input reads as it did. -/
def fnExactFirstShellingUptoRow : OpenClaim := { program := "ytmkknfdjoajpcaa", sum := "99119919ab7bcf79c4b03acaf16d4cc6de18e112d35d35594c1f7c17d9f0c86b", func := "loop.example/g01348/laws.FnExactFirstShelling", spec := "fnExactFirstShelling", unfollowed := true, recurses := true, apart := false, narrowed := true }
def FnExactFirstShellingUptoSaid : Prop := fnExactFirstShellingUptoRow.holds Try.pinned (OpenSpec.upto fnExactFirstShellingSpec)

/-- 'laws.FnExactRestrictionsOf', WHERE WHAT IT READS IS OF BULK AT MOST 1048576: true; the input reads as it did. -/
def fnExactRestrictionsOfUptoRow : OpenClaim := { program := "ytmkknfdjoajpcaa", sum := "99119919ab7bcf79c4b03acaf16d4cc6de18e112d35d35594c1f7c17d9f0c86b", func := "loop.example/g01348/laws.FnExactRestrictionsOf", spec := "fnExactRestrictionsOf", unfollowed := true, recurses := true, apart := false, narrowed := true }
def FnExactRestrictionsOfUptoSaid : Prop := fnExactRestrictionsOfUptoRow.holds Try.pinned (OpenSpec.upto fnExactRestrictionsOfSpec)

/-- 'laws.FnExactBoundaryComplex', WHERE WHAT IT READS IS OF BULK AT MOST 1048576: true; the input reads as it did. -/
def fnExactBoundaryComplexUptoRow : OpenClaim := { program := "ytmkknfdjoajpcaa", sum := "99119919ab7bcf79c4b03acaf16d4cc6de18e112d35d35594c1f7c17d9f0c86b", func := "loop.example/g01348/laws.FnExactBoundaryComplex", spec := "fnExactBoundaryComplex", unfollowed := true, recurses := true, apart := false, narrowed := true }
def FnExactBoundaryComplexUptoSaid : Prop := fnExactBoundaryComplexUptoRow.holds Try.pinned (OpenSpec.upto fnExactBoundaryComplexSpec)

/-- 'laws.FnExactComplexOf', WHERE WHAT IT READS IS OF BULK AT MOST 1048576: true; the input reads as it did. -/
def fnExactComplexOfUptoRow : OpenClaim := { program := "ytmkknfdjoajpcaa", sum := "99119919ab7bcf79c4b03acaf16d4cc6de18e112d35d35594c1f7c17d9f0c86b", func := "loop.example/g01348/laws.FnExactComplexOf", spec := "fnExactComplexOf", unfollowed := true, recurses := true, apart := false, narrowed := true }
def FnExactComplexOfUptoSaid : Prop := fnExactComplexOfUptoRow.holds Try.pinned (OpenSpec.upto fnExactComplexOfSpec)

end Rows
end Go.Proofs.Ytmkknfdjoajpcaa
