/-
  No cell of these rows narrows 'for every input' (looked for: loops, veiled, ifaces, maps, wideKeys, modest, calm, conditions, laid).
  DERIVED. THE GIVEN ROWS OF THIS SEAT. 9 by the template 'for every input the law returns true; each argument reads behind the call as it read before'; 0 by the template 'total and deterministic' (their statements: YtilncaagpcgakaaTotals.lean).
  GIVEN WITH THE SEED: the statements are not yours to turn. If you find one false, say at which input.
  Laid BY PROGRAM, IN A SANDBOX (cutbox-rows.mjs): the forced cells as the released guide's own fill.sh prints them over the translation e84452c06a967a25… (all of the seat's roots in one cut). By AI agents, Wed Nov 11 2026. No macro, syntax, notation, axiom, sorry.
-/
import Derived.Test.YtilncaagpcgakaaChecked
import GoSem.Claim
import GoSem.ClaimJoined
import GoSem.ClaimMapViews
import Derived.JoinedTies
import Derived.KernelRfl
namespace Go.Proofs.Ytilncaagpcgakaa
/- THE CELL 'sum', in the pinned program and in every row, IS THE sha256 OF THE DUMP (.gsa) THAT YtilncaagpcgakaaProg.lean LOADS. Nothing in Lean hashes anything: it is a label: what it is worth is what the hold of that sum in a sandbox is worth. -/
noncomputable def Try.pinned : Pinned := { name := "ytilncaagpcgakaa", sum := "e84452c06a967a25025ce2ef690ca308a643108dea5245d31c2ec6e11b8bc6f1", checked := Try.checked }
namespace Rows
def none {H : Type} : Left H := { results := [], args := [] }

/-- 'laws.FnExactIsPairing': WHATEVER THE INPUT: true; the input reads as it did. -/
def fnExactIsPairingSpec : ChangeSpec := { name := "fnExactIsPairing", fn := fun _ => fun
  | [d1, d2] => { results := [.lit (.bool true)], args := [d1, d2] }
  | _ => none }
def fnExactIsPairingRow : OpenClaim := { program := "ytilncaagpcgakaa", sum := "e84452c06a967a25025ce2ef690ca308a643108dea5245d31c2ec6e11b8bc6f1", func := "loop.example/g01348/laws.FnExactIsPairing", spec := "fnExactIsPairing", unfollowed := true, recurses := true, plainKeys := false, apart := false }
def FnExactIsPairingSaid : Prop := fnExactIsPairingRow.holds Try.pinned (OpenSpec.ofChange fnExactIsPairingSpec)

/-- ITS FALSE NEIGHBOUR: 'it returns false'. Refute it at one input. -/
def fnExactIsPairingWrong : ChangeSpec := { name := "fnExactIsPairing", fn := fun _ => fun
  | [d1, d2] => { results := [.lit (.bool false)], args := [d1, d2] }
  | _ => none }
def FnExactIsPairingWrongFalsely : Prop := fnExactIsPairingRow.holds Try.pinned (OpenSpec.ofChange fnExactIsPairingWrong)

/-- 'laws.FnExactCriticalFaces': WHATEVER THE INPUT: true; the input reads as it did. -/
def fnExactCriticalFacesSpec : ChangeSpec := { name := "fnExactCriticalFaces", fn := fun _ => fun
  | [d1, d2] => { results := [.lit (.bool true)], args := [d1, d2] }
  | _ => none }
def fnExactCriticalFacesRow : OpenClaim := { program := "ytilncaagpcgakaa", sum := "e84452c06a967a25025ce2ef690ca308a643108dea5245d31c2ec6e11b8bc6f1", func := "loop.example/g01348/laws.FnExactCriticalFaces", spec := "fnExactCriticalFaces", unfollowed := true, recurses := true, plainKeys := false, apart := false }
def FnExactCriticalFacesSaid : Prop := fnExactCriticalFacesRow.holds Try.pinned (OpenSpec.ofChange fnExactCriticalFacesSpec)

/-- ITS FALSE NEIGHBOUR: 'it returns false'. Refute it at one input. -/
def fnExactCriticalFacesWrong : ChangeSpec := { name := "fnExactCriticalFaces", fn := fun _ => fun
  | [d1, d2] => { results := [.lit (.bool false)], args := [d1, d2] }
  | _ => none }
def FnExactCriticalFacesWrongFalsely : Prop := fnExactCriticalFacesRow.holds Try.pinned (OpenSpec.ofChange fnExactCriticalFacesWrong)

/-- 'laws.FnExactCriticalNumbers': WHATEVER THE INPUT: true; the input reads as it did. -/
def fnExactCriticalNumbersSpec : ChangeSpec := { name := "fnExactCriticalNumbers", fn := fun _ => fun
  | [d1, d2] => { results := [.lit (.bool true)], args := [d1, d2] }
  | _ => none }
def fnExactCriticalNumbersRow : OpenClaim := { program := "ytilncaagpcgakaa", sum := "e84452c06a967a25025ce2ef690ca308a643108dea5245d31c2ec6e11b8bc6f1", func := "loop.example/g01348/laws.FnExactCriticalNumbers", spec := "fnExactCriticalNumbers", unfollowed := true, recurses := true, plainKeys := false, apart := false }
def FnExactCriticalNumbersSaid : Prop := fnExactCriticalNumbersRow.holds Try.pinned (OpenSpec.ofChange fnExactCriticalNumbersSpec)

/-- ITS FALSE NEIGHBOUR: 'it returns false'. Refute it at one input. -/
def fnExactCriticalNumbersWrong : ChangeSpec := { name := "fnExactCriticalNumbers", fn := fun _ => fun
  | [d1, d2] => { results := [.lit (.bool false)], args := [d1, d2] }
  | _ => none }
def FnExactCriticalNumbersWrongFalsely : Prop := fnExactCriticalNumbersRow.holds Try.pinned (OpenSpec.ofChange fnExactCriticalNumbersWrong)

/-- 'laws.FnExactSignsOf': WHATEVER THE INPUT: true; the input reads as it did. -/
def fnExactSignsOfSpec : ChangeSpec := { name := "fnExactSignsOf", fn := fun _ => fun
  | [d1, d2] => { results := [.lit (.bool true)], args := [d1, d2] }
  | _ => none }
def fnExactSignsOfRow : OpenClaim := { program := "ytilncaagpcgakaa", sum := "e84452c06a967a25025ce2ef690ca308a643108dea5245d31c2ec6e11b8bc6f1", func := "loop.example/g01348/laws.FnExactSignsOf", spec := "fnExactSignsOf", unfollowed := true, recurses := true, plainKeys := false, apart := false }
def FnExactSignsOfSaid : Prop := fnExactSignsOfRow.holds Try.pinned (OpenSpec.ofChange fnExactSignsOfSpec)

/-- ITS FALSE NEIGHBOUR: 'it returns false'. Refute it at one input. -/
def fnExactSignsOfWrong : ChangeSpec := { name := "fnExactSignsOf", fn := fun _ => fun
  | [d1, d2] => { results := [.lit (.bool false)], args := [d1, d2] }
  | _ => none }
def FnExactSignsOfWrongFalsely : Prop := fnExactSignsOfRow.holds Try.pinned (OpenSpec.ofChange fnExactSignsOfWrong)

/-- 'laws.FnExactFundamentalChain': WHATEVER THE INPUT: true; the input reads as it did. -/
def fnExactFundamentalChainSpec : ChangeSpec := { name := "fnExactFundamentalChain", fn := fun _ => fun
  | [d] => { results := [.lit (.bool true)], args := [d] }
  | _ => none }
def fnExactFundamentalChainRow : OpenClaim := { program := "ytilncaagpcgakaa", sum := "e84452c06a967a25025ce2ef690ca308a643108dea5245d31c2ec6e11b8bc6f1", func := "loop.example/g01348/laws.FnExactFundamentalChain", spec := "fnExactFundamentalChain", unfollowed := true, recurses := true, plainKeys := false, apart := false }
def FnExactFundamentalChainSaid : Prop := fnExactFundamentalChainRow.holds Try.pinned (OpenSpec.ofChange fnExactFundamentalChainSpec)

/-- ITS FALSE NEIGHBOUR: 'it returns false'. Refute it at one input. -/
def fnExactFundamentalChainWrong : ChangeSpec := { name := "fnExactFundamentalChain", fn := fun _ => fun
  | [d] => { results := [.lit (.bool false)], args := [d] }
  | _ => none }
def FnExactFundamentalChainWrongFalsely : Prop := fnExactFundamentalChainRow.holds Try.pinned (OpenSpec.ofChange fnExactFundamentalChainWrong)

/-- 'laws.FnExactComponentsOf': WHATEVER THE INPUT: true; the input reads as it did. -/
def fnExactComponentsOfSpec : ChangeSpec := { name := "fnExactComponentsOf", fn := fun _ => fun
  | [d] => { results := [.lit (.bool true)], args := [d] }
  | _ => none }
def fnExactComponentsOfRow : OpenClaim := { program := "ytilncaagpcgakaa", sum := "e84452c06a967a25025ce2ef690ca308a643108dea5245d31c2ec6e11b8bc6f1", func := "loop.example/g01348/laws.FnExactComponentsOf", spec := "fnExactComponentsOf", unfollowed := true, recurses := true, plainKeys := false, apart := false }
def FnExactComponentsOfSaid : Prop := fnExactComponentsOfRow.holds Try.pinned (OpenSpec.ofChange fnExactComponentsOfSpec)

/-- ITS FALSE NEIGHBOUR: 'it returns false'. Refute it at one input. -/
def fnExactComponentsOfWrong : ChangeSpec := { name := "fnExactComponentsOf", fn := fun _ => fun
  | [d] => { results := [.lit (.bool false)], args := [d] }
  | _ => none }
def FnExactComponentsOfWrongFalsely : Prop := fnExactComponentsOfRow.holds Try.pinned (OpenSpec.ofChange fnExactComponentsOfWrong)

/-- 'laws.FnExactComplexOf': WHATEVER THE INPUT: true; the input reads as it did. -/
def fnExactComplexOfSpec : ChangeSpec := { name := "fnExactComplexOf", fn := fun _ => fun
  | [d1, d2] => { results := [.lit (.bool true)], args := [d1, d2] }
  | _ => none }
def fnExactComplexOfRow : OpenClaim := { program := "ytilncaagpcgakaa", sum := "e84452c06a967a25025ce2ef690ca308a643108dea5245d31c2ec6e11b8bc6f1", func := "loop.example/g01348/laws.FnExactComplexOf", spec := "fnExactComplexOf", unfollowed := true, recurses := true, plainKeys := false, apart := false }
def FnExactComplexOfSaid : Prop := fnExactComplexOfRow.holds Try.pinned (OpenSpec.ofChange fnExactComplexOfSpec)

/-- ITS FALSE NEIGHBOUR: 'it returns false'. Refute it at one input. -/
def fnExactComplexOfWrong : ChangeSpec := { name := "fnExactComplexOf", fn := fun _ => fun
  | [d1, d2] => { results := [.lit (.bool false)], args := [d1, d2] }
  | _ => none }
def FnExactComplexOfWrongFalsely : Prop := fnExactComplexOfRow.holds Try.pinned (OpenSpec.ofChange fnExactComplexOfWrong)

/-- 'laws.FnExactRenumberComplex': WHATEVER THE INPUT: true; the input reads as it did. -/
def fnExactRenumberComplexSpec : ChangeSpec := { name := "fnExactRenumberComplex", fn := fun _ => fun
  | [d1, d2] => { results := [.lit (.bool true)], args := [d1, d2] }
  | _ => none }
def fnExactRenumberComplexRow : OpenClaim := { program := "ytilncaagpcgakaa", sum := "e84452c06a967a25025ce2ef690ca308a643108dea5245d31c2ec6e11b8bc6f1", func := "loop.example/g01348/laws.FnExactRenumberComplex", spec := "fnExactRenumberComplex", unfollowed := true, recurses := true, plainKeys := false, apart := false }
def FnExactRenumberComplexSaid : Prop := fnExactRenumberComplexRow.holds Try.pinned (OpenSpec.ofChange fnExactRenumberComplexSpec)

/-- ITS FALSE NEIGHBOUR: 'it returns false'. Refute it at one input. -/
def fnExactRenumberComplexWrong : ChangeSpec := { name := "fnExactRenumberComplex", fn := fun _ => fun
  | [d1, d2] => { results := [.lit (.bool false)], args := [d1, d2] }
  | _ => none }
def FnExactRenumberComplexWrongFalsely : Prop := fnExactRenumberComplexRow.holds Try.pinned (OpenSpec.ofChange fnExactRenumberComplexWrong)

/-- 'laws.FnExactCountCycles': WHATEVER THE INPUT: true; the input reads as it did. -/
def fnExactCountCyclesSpec : ChangeSpec := { name := "fnExactCountCycles", fn := fun _ => fun
  | [d1, d2] => { results := [.lit (.bool true)], args := [d1, d2] }
  | _ => none }
def fnExactCountCyclesRow : OpenClaim := { program := "ytilncaagpcgakaa", sum := "e84452c06a967a25025ce2ef690ca308a643108dea5245d31c2ec6e11b8bc6f1", func := "loop.example/g01348/laws.FnExactCountCycles", spec := "fnExactCountCycles", unfollowed := true, recurses := true, plainKeys := false, apart := false }
def FnExactCountCyclesSaid : Prop := fnExactCountCyclesRow.holds Try.pinned (OpenSpec.ofChange fnExactCountCyclesSpec)

/-- ITS FALSE NEIGHBOUR: 'it returns false'. Refute it at one input. -/
def fnExactCountCyclesWrong : ChangeSpec := { name := "fnExactCountCycles", fn := fun _ => fun
  | [d1, d2] => { results := [.lit (.bool false)], args := [d1, d2] }
  | _ => none }
def FnExactCountCyclesWrongFalsely : Prop := fnExactCountCyclesRow.holds Try.pinned (OpenSpec.ofChange fnExactCountCyclesWrong)

/- THE SECOND FORM. 'bulk': how many values and letters a reading holds, each counted each time it is reached (what is shared counts as often as it is met; a slice's spare places count too). A statement '..UptoSaid' is the law's where the arguments, and the package variables that the reading takes, are together of bulk at most 1048576: NARROWER than '..Said'. Prove '..Said' where nothing that the law and all that it calls make is longer than what came in: it says more and counts as full. Else prove '..UptoSaid'. A law counts once. -/
mutual
def uptoBulk {H : Type} : DataW H → Nat
  | .lit (.string bytes) => bytes.length + 1
  | .lit _ => 1
  | .nil => 1
  | .ptr d => uptoBulk d + 1
  | .slice elems spare => uptoBulkAll elems + uptoBulkAll spare + 1
  | .agg parts => uptoBulkAll parts + 1
  | .iface _ d => uptoBulk d + 1
  | .map entries => uptoBulkEntries entries + 1
  | .held _ => 1
def uptoBulkAll {H : Type} : List (DataW H) → Nat
  | [] => 0
  | d :: r => uptoBulk d + uptoBulkAll r
def uptoBulkEntries {H : Type} : List (Lit × DataW H) → Nat
  | [] => 0
  | x :: r => uptoBulkEntry x + uptoBulkEntries r
def uptoBulkEntry {H : Type} : Lit × DataW H → Nat
  | (.string bytes, d) => bytes.length + uptoBulk d + 1
  | (_, d) => uptoBulk d + 1
 end
def uptoSmall : (H : Type) → List (DataW H) → Bool := fun _ ds => decide (uptoBulkAll ds ≤ 1048576)
def OpenSpec.upto (s : _root_.Go.ChangeSpec) : _root_.Go.OpenSpec := { _root_.Go.OpenSpec.ofChange s with cond := some uptoSmall }

/-- 'laws.FnExactIsPairing', WHERE WHAT IT READS IS OF BULK AT MOST 1048576: true; the input reads as it did. -/
def fnExactIsPairingUptoRow : OpenClaim := { program := "ytilncaagpcgakaa", sum := "e84452c06a967a25025ce2ef690ca308a643108dea5245d31c2ec6e11b8bc6f1", func := "loop.example/g01348/laws.FnExactIsPairing", spec := "fnExactIsPairing", unfollowed := true, recurses := true, plainKeys := false, apart := false, narrowed := true }
def FnExactIsPairingUptoSaid : Prop := fnExactIsPairingUptoRow.holds Try.pinned (OpenSpec.upto fnExactIsPairingSpec)

/-- 'laws.FnExactCriticalFaces', WHERE WHAT IT READS IS OF BULK AT MOST 1048576: true; the input reads as it did. -/
def fnExactCriticalFacesUptoRow : OpenClaim := { program := "ytilncaagpcgakaa", sum := "e84452c06a967a25025ce2ef690ca308a643108dea5245d31c2ec6e11b8bc6f1", func := "loop.example/g01348/laws.FnExactCriticalFaces", spec := "fnExactCriticalFaces", unfollowed := true, recurses := true, plainKeys := false, apart := false, narrowed := true }
def FnExactCriticalFacesUptoSaid : Prop := fnExactCriticalFacesUptoRow.holds Try.pinned (OpenSpec.upto fnExactCriticalFacesSpec)

/-- 'laws.FnExactCriticalNumbers', WHERE WHAT IT READS IS OF BULK AT MOST 1048576: true; the input reads as it did. -/
def fnExactCriticalNumbersUptoRow : OpenClaim := { program := "ytilncaagpcgakaa", sum := "e84452c06a967a25025ce2ef690ca308a643108dea5245d31c2ec6e11b8bc6f1", func := "loop.example/g01348/laws.FnExactCriticalNumbers", spec := "fnExactCriticalNumbers", unfollowed := true, recurses := true, plainKeys := false, apart := false, narrowed := true }
def FnExactCriticalNumbersUptoSaid : Prop := fnExactCriticalNumbersUptoRow.holds Try.pinned (OpenSpec.upto fnExactCriticalNumbersSpec)

/-- 'laws.FnExactSignsOf', WHERE WHAT IT READS IS OF BULK AT MOST 1048576: true; the input reads as it did. -/
def fnExactSignsOfUptoRow : OpenClaim := { program := "ytilncaagpcgakaa", sum := "e84452c06a967a25025ce2ef690ca308a643108dea5245d31c2ec6e11b8bc6f1", func := "loop.example/g01348/laws.FnExactSignsOf", spec := "fnExactSignsOf", unfollowed := true, recurses := true, plainKeys := false, apart := false, narrowed := true }
def FnExactSignsOfUptoSaid : Prop := fnExactSignsOfUptoRow.holds Try.pinned (OpenSpec.upto fnExactSignsOfSpec)

/-- 'laws.FnExactFundamentalChain', WHERE WHAT IT READS IS OF BULK AT MOST 1048576: true; the input reads as it did. -/
def fnExactFundamentalChainUptoRow : OpenClaim := { program := "ytilncaagpcgakaa", sum := "e84452c06a967a25025ce2ef690ca308a643108dea5245d31c2ec6e11b8bc6f1", func := "loop.example/g01348/laws.FnExactFundamentalChain", spec := "fnExactFundamentalChain", unfollowed := true, recurses := true, plainKeys := false, apart := false, narrowed := true }
def FnExactFundamentalChainUptoSaid : Prop := fnExactFundamentalChainUptoRow.holds Try.pinned (OpenSpec.upto fnExactFundamentalChainSpec)

/-- 'laws.FnExactComponentsOf', WHERE WHAT IT READS IS OF BULK AT MOST 1048576: true; the input reads as it did. -/
def fnExactComponentsOfUptoRow : OpenClaim := { program := "ytilncaagpcgakaa", sum := "e84452c06a967a25025ce2ef690ca308a643108dea5245d31c2ec6e11b8bc6f1", func := "loop.example/g01348/laws.FnExactComponentsOf", spec := "fnExactComponentsOf", unfollowed := true, recurses := true, plainKeys := false, apart := false, narrowed := true }
def FnExactComponentsOfUptoSaid : Prop := fnExactComponentsOfUptoRow.holds Try.pinned (OpenSpec.upto fnExactComponentsOfSpec)

/-- 'laws.FnExactComplexOf', WHERE WHAT IT READS IS OF BULK AT MOST 1048576: true; the input reads as it did. -/
def fnExactComplexOfUptoRow : OpenClaim := { program := "ytilncaagpcgakaa", sum := "e84452c06a967a25025ce2ef690ca308a643108dea5245d31c2ec6e11b8bc6f1", func := "loop.example/g01348/laws.FnExactComplexOf", spec := "fnExactComplexOf", unfollowed := true, recurses := true, plainKeys := false, apart := false, narrowed := true }
def FnExactComplexOfUptoSaid : Prop := fnExactComplexOfUptoRow.holds Try.pinned (OpenSpec.upto fnExactComplexOfSpec)

/-- 'laws.FnExactRenumberComplex', WHERE WHAT IT READS IS OF BULK AT MOST 1048576: true; the input reads as it did. -/
def fnExactRenumberComplexUptoRow : OpenClaim := { program := "ytilncaagpcgakaa", sum := "e84452c06a967a25025ce2ef690ca308a643108dea5245d31c2ec6e11b8bc6f1", func := "loop.example/g01348/laws.FnExactRenumberComplex", spec := "fnExactRenumberComplex", unfollowed := true, recurses := true, plainKeys := false, apart := false, narrowed := true }
def FnExactRenumberComplexUptoSaid : Prop := fnExactRenumberComplexUptoRow.holds Try.pinned (OpenSpec.upto fnExactRenumberComplexSpec)

/-- 'laws.FnExactCountCycles', WHERE WHAT IT READS IS OF BULK AT MOST 1048576: true; the input reads as it did. -/
def fnExactCountCyclesUptoRow : OpenClaim := { program := "ytilncaagpcgakaa", sum := "e84452c06a967a25025ce2ef690ca308a643108dea5245d31c2ec6e11b8bc6f1", func := "loop.example/g01348/laws.FnExactCountCycles", spec := "fnExactCountCycles", unfollowed := true, recurses := true, plainKeys := false, apart := false, narrowed := true }
def FnExactCountCyclesUptoSaid : Prop := fnExactCountCyclesUptoRow.holds Try.pinned (OpenSpec.upto fnExactCountCyclesSpec)

end Rows
end Go.Proofs.Ytilncaagpcgakaa
