/-
  NARROWER THAN 'FOR EVERY INPUT', by the rows' own cells (each row's printed sentence says how): FnExactQuestionNumber: laid · FnExactIsEvasive: laid · FnExactIsTree: ifaces, laid · FnExactQuestionsFor: ifaces, laid · FnExactEvadersOf: ifaces, laid · FnExactPairingOfTree: ifaces, laid · FnExactLeastEvaders: laid · FnExactBestTree: laid · FnExactBoundaryOf: ifaces, laid · FnExactIsCycle: ifaces, laid · FnExactIsChain: ifaces, laid.
  DERIVED. THE GIVEN ROWS OF THIS SEAT. 11 by the template 'for every input the law returns true; each argument reads behind the call as it read before'; 0 by the template 'total and deterministic' (their statements: YtgnahadlcihneaaDoorTotals.lean).
  GIVEN WITH THE SEED: the statements are not yours to turn. If you find one false, say at which input.
  Laid BY PROGRAM, IN A SANDBOX (cutbox-rows.mjs): the forced cells as the released guide's own fill.sh prints them over the translation 78013e7bb2ce369c… (all of the seat's roots in one cut). By AI agents, Wed Nov 11 2026. No macro, syntax, notation, axiom, sorry.
-/
import Derived.Test.YtgnahadlcihneaaDoorChecked
import GoSem.Claim
import GoSem.ClaimJoined
import GoSem.ClaimMapViews
import Derived.JoinedTies
import Derived.KernelRfl
namespace Go.Proofs.YtgnahadlcihneaaDoor
/- THE CELL 'sum', in the pinned program and in every row, IS THE sha256 OF THE DUMP (.gsa) THAT YtgnahadlcihneaaDoorProg.lean LOADS. Nothing in Lean hashes anything: it is a label: what it is worth is what the hold of that sum in a sandbox is worth. -/
noncomputable def Tryd.pinned : Pinned := { name := "ytgnahadlcihneaadoor", sum := "78013e7bb2ce369c88c4116904e112187145e2547ac2867bcc510117ebafb87f", checked := Tryd.checked }
namespace Rows
def none {H : Type} : Left H := { results := [], args := [] }

/- WHAT THE LISTED PACKAGE-LEVEL VARIABLES READ AS WHEN THE CALL BEGINS. Each datum BY PROGRAM (the guide's laid-datum.mjs) off the statement by which the dump's own 'gosem.cut.vars' lays the variable. In a bare row this is a premise. The card (YtgnahadlcihneaaDoorCards.lean) ties it to the program's text. -/
def laid_loop_example_g01348_impl_hiddenWith {H : Type} : DataW H := .agg [.lit (.int .u64 12297829382473034410), .lit (.int .u64 14757395258967641292), .lit (.int .u64 17361641481138401520), .lit (.int .u64 18374966859414961920), .lit (.int .u64 18446462603027742720), .lit (.int .u64 18446744069414584320)]
def laid_loop_example_g01348_impl_errNoTree {H : Type} : DataW H := .iface "*errors.errorString" (.ptr (.agg [.lit (.string [116, 104, 101, 32, 108, 105, 115, 116, 32, 105, 115, 32, 110, 111, 32, 116, 114, 101, 101])]))
def laid_loop_example_g01348_impl_errNoChain {H : Type} : DataW H := .iface "*errors.errorString" (.ptr (.agg [.lit (.string [116, 104, 101, 32, 108, 105, 115, 116, 32, 105, 115, 32, 110, 111, 32, 99, 104, 97, 105, 110])]))

/-- 'laws.FnExactQuestionNumber': WHATEVER THE INPUT: true; the input reads as it did. -/
def fnExactQuestionNumberSpec : ChangeSpec := { name := "fnExactQuestionNumber", vars := ["loop.example/g01348/impl.hiddenWith"], fn := fun _ => fun
  | [d, g1] => { results := [.lit (.bool true)], args := [d], vars := [g1] }
  | _ => none }
def fnExactQuestionNumberRow : OpenClaim := { program := "ytgnahadlcihneaadoor", sum := "78013e7bb2ce369c88c4116904e112187145e2547ac2867bcc510117ebafb87f", func := "loop.example/g01348/laws.FnExactQuestionNumber", spec := "fnExactQuestionNumber", unfollowed := true, recurses := true, named := ["loop.example/g01348/impl.hiddenWith"], apart := false, laid := [("loop.example/g01348/impl.hiddenWith", laid_loop_example_g01348_impl_hiddenWith)] }
def FnExactQuestionNumberSaid : Prop := fnExactQuestionNumberRow.holds Tryd.pinned (OpenSpec.ofChange fnExactQuestionNumberSpec)

/-- ITS FALSE NEIGHBOUR: 'it returns false'. Refute it at one input. -/
def fnExactQuestionNumberWrong : ChangeSpec := { name := "fnExactQuestionNumber", vars := ["loop.example/g01348/impl.hiddenWith"], fn := fun _ => fun
  | [d, g1] => { results := [.lit (.bool false)], args := [d], vars := [g1] }
  | _ => none }
def FnExactQuestionNumberWrongFalsely : Prop := fnExactQuestionNumberRow.holds Tryd.pinned (OpenSpec.ofChange fnExactQuestionNumberWrong)

/-- 'laws.FnExactIsEvasive': WHATEVER THE INPUT: true; the input reads as it did. -/
def fnExactIsEvasiveSpec : ChangeSpec := { name := "fnExactIsEvasive", vars := ["loop.example/g01348/impl.hiddenWith"], fn := fun _ => fun
  | [d, g1] => { results := [.lit (.bool true)], args := [d], vars := [g1] }
  | _ => none }
def fnExactIsEvasiveRow : OpenClaim := { program := "ytgnahadlcihneaadoor", sum := "78013e7bb2ce369c88c4116904e112187145e2547ac2867bcc510117ebafb87f", func := "loop.example/g01348/laws.FnExactIsEvasive", spec := "fnExactIsEvasive", unfollowed := true, recurses := true, named := ["loop.example/g01348/impl.hiddenWith"], apart := false, laid := [("loop.example/g01348/impl.hiddenWith", laid_loop_example_g01348_impl_hiddenWith)] }
def FnExactIsEvasiveSaid : Prop := fnExactIsEvasiveRow.holds Tryd.pinned (OpenSpec.ofChange fnExactIsEvasiveSpec)

/-- ITS FALSE NEIGHBOUR: 'it returns false'. Refute it at one input. -/
def fnExactIsEvasiveWrong : ChangeSpec := { name := "fnExactIsEvasive", vars := ["loop.example/g01348/impl.hiddenWith"], fn := fun _ => fun
  | [d, g1] => { results := [.lit (.bool false)], args := [d], vars := [g1] }
  | _ => none }
def FnExactIsEvasiveWrongFalsely : Prop := fnExactIsEvasiveRow.holds Tryd.pinned (OpenSpec.ofChange fnExactIsEvasiveWrong)

/-- 'laws.FnExactIsTree': WHATEVER THE INPUT: true; the input reads as it did. -/
def fnExactIsTreeSpec : ChangeSpec := { name := "fnExactIsTree", vars := ["loop.example/g01348/impl.errNoTree"], fn := fun _ => fun
  | [d1, d2, g1] => { results := [.lit (.bool true)], args := [d1, d2], vars := [g1] }
  | _ => none }
def fnExactIsTreeRow : OpenClaim := { program := "ytgnahadlcihneaadoor", sum := "78013e7bb2ce369c88c4116904e112187145e2547ac2867bcc510117ebafb87f", func := "loop.example/g01348/laws.FnExactIsTree", spec := "fnExactIsTree", unfollowed := true, recurses := true, named := ["loop.example/g01348/impl.errNoTree"], ifaces := true, apart := false, laid := [("loop.example/g01348/impl.errNoTree", laid_loop_example_g01348_impl_errNoTree)] }
def FnExactIsTreeSaid : Prop := fnExactIsTreeRow.holds Tryd.pinned (OpenSpec.ofChange fnExactIsTreeSpec)

/-- ITS FALSE NEIGHBOUR: 'it returns false'. Refute it at one input. -/
def fnExactIsTreeWrong : ChangeSpec := { name := "fnExactIsTree", vars := ["loop.example/g01348/impl.errNoTree"], fn := fun _ => fun
  | [d1, d2, g1] => { results := [.lit (.bool false)], args := [d1, d2], vars := [g1] }
  | _ => none }
def FnExactIsTreeWrongFalsely : Prop := fnExactIsTreeRow.holds Tryd.pinned (OpenSpec.ofChange fnExactIsTreeWrong)

/-- 'laws.FnExactQuestionsFor': WHATEVER THE INPUT: true; the input reads as it did. -/
def fnExactQuestionsForSpec : ChangeSpec := { name := "fnExactQuestionsFor", vars := ["loop.example/g01348/impl.errNoTree", "loop.example/g01348/impl.hiddenWith"], fn := fun _ => fun
  | [d1, d2, d3, g1, g2] => { results := [.lit (.bool true)], args := [d1, d2, d3], vars := [g1, g2] }
  | _ => none }
def fnExactQuestionsForRow : OpenClaim := { program := "ytgnahadlcihneaadoor", sum := "78013e7bb2ce369c88c4116904e112187145e2547ac2867bcc510117ebafb87f", func := "loop.example/g01348/laws.FnExactQuestionsFor", spec := "fnExactQuestionsFor", unfollowed := true, recurses := true, named := ["loop.example/g01348/impl.errNoTree", "loop.example/g01348/impl.hiddenWith"], ifaces := true, apart := false, laid := [("loop.example/g01348/impl.errNoTree", laid_loop_example_g01348_impl_errNoTree), ("loop.example/g01348/impl.hiddenWith", laid_loop_example_g01348_impl_hiddenWith)] }
def FnExactQuestionsForSaid : Prop := fnExactQuestionsForRow.holds Tryd.pinned (OpenSpec.ofChange fnExactQuestionsForSpec)

/-- ITS FALSE NEIGHBOUR: 'it returns false'. Refute it at one input. -/
def fnExactQuestionsForWrong : ChangeSpec := { name := "fnExactQuestionsFor", vars := ["loop.example/g01348/impl.errNoTree", "loop.example/g01348/impl.hiddenWith"], fn := fun _ => fun
  | [d1, d2, d3, g1, g2] => { results := [.lit (.bool false)], args := [d1, d2, d3], vars := [g1, g2] }
  | _ => none }
def FnExactQuestionsForWrongFalsely : Prop := fnExactQuestionsForRow.holds Tryd.pinned (OpenSpec.ofChange fnExactQuestionsForWrong)

/-- 'laws.FnExactEvadersOf': WHATEVER THE INPUT: true; the input reads as it did. -/
def fnExactEvadersOfSpec : ChangeSpec := { name := "fnExactEvadersOf", vars := ["loop.example/g01348/impl.errNoTree", "loop.example/g01348/impl.hiddenWith"], fn := fun _ => fun
  | [d1, d2, g1, g2] => { results := [.lit (.bool true)], args := [d1, d2], vars := [g1, g2] }
  | _ => none }
def fnExactEvadersOfRow : OpenClaim := { program := "ytgnahadlcihneaadoor", sum := "78013e7bb2ce369c88c4116904e112187145e2547ac2867bcc510117ebafb87f", func := "loop.example/g01348/laws.FnExactEvadersOf", spec := "fnExactEvadersOf", unfollowed := true, recurses := true, named := ["loop.example/g01348/impl.errNoTree", "loop.example/g01348/impl.hiddenWith"], ifaces := true, apart := false, laid := [("loop.example/g01348/impl.errNoTree", laid_loop_example_g01348_impl_errNoTree), ("loop.example/g01348/impl.hiddenWith", laid_loop_example_g01348_impl_hiddenWith)] }
def FnExactEvadersOfSaid : Prop := fnExactEvadersOfRow.holds Tryd.pinned (OpenSpec.ofChange fnExactEvadersOfSpec)

/-- ITS FALSE NEIGHBOUR: 'it returns false'. Refute it at one input. -/
def fnExactEvadersOfWrong : ChangeSpec := { name := "fnExactEvadersOf", vars := ["loop.example/g01348/impl.errNoTree", "loop.example/g01348/impl.hiddenWith"], fn := fun _ => fun
  | [d1, d2, g1, g2] => { results := [.lit (.bool false)], args := [d1, d2], vars := [g1, g2] }
  | _ => none }
def FnExactEvadersOfWrongFalsely : Prop := fnExactEvadersOfRow.holds Tryd.pinned (OpenSpec.ofChange fnExactEvadersOfWrong)

/-- 'laws.FnExactPairingOfTree': WHATEVER THE INPUT: true; the input reads as it did. -/
def fnExactPairingOfTreeSpec : ChangeSpec := { name := "fnExactPairingOfTree", vars := ["loop.example/g01348/impl.errNoTree"], fn := fun _ => fun
  | [d1, d2, g1] => { results := [.lit (.bool true)], args := [d1, d2], vars := [g1] }
  | _ => none }
def fnExactPairingOfTreeRow : OpenClaim := { program := "ytgnahadlcihneaadoor", sum := "78013e7bb2ce369c88c4116904e112187145e2547ac2867bcc510117ebafb87f", func := "loop.example/g01348/laws.FnExactPairingOfTree", spec := "fnExactPairingOfTree", unfollowed := true, recurses := true, named := ["loop.example/g01348/impl.errNoTree"], ifaces := true, apart := false, laid := [("loop.example/g01348/impl.errNoTree", laid_loop_example_g01348_impl_errNoTree)] }
def FnExactPairingOfTreeSaid : Prop := fnExactPairingOfTreeRow.holds Tryd.pinned (OpenSpec.ofChange fnExactPairingOfTreeSpec)

/-- ITS FALSE NEIGHBOUR: 'it returns false'. Refute it at one input. -/
def fnExactPairingOfTreeWrong : ChangeSpec := { name := "fnExactPairingOfTree", vars := ["loop.example/g01348/impl.errNoTree"], fn := fun _ => fun
  | [d1, d2, g1] => { results := [.lit (.bool false)], args := [d1, d2], vars := [g1] }
  | _ => none }
def FnExactPairingOfTreeWrongFalsely : Prop := fnExactPairingOfTreeRow.holds Tryd.pinned (OpenSpec.ofChange fnExactPairingOfTreeWrong)

/-- 'laws.FnExactLeastEvaders': WHATEVER THE INPUT: true; the input reads as it did. -/
def fnExactLeastEvadersSpec : ChangeSpec := { name := "fnExactLeastEvaders", vars := ["loop.example/g01348/impl.hiddenWith"], fn := fun _ => fun
  | [d, g1] => { results := [.lit (.bool true)], args := [d], vars := [g1] }
  | _ => none }
def fnExactLeastEvadersRow : OpenClaim := { program := "ytgnahadlcihneaadoor", sum := "78013e7bb2ce369c88c4116904e112187145e2547ac2867bcc510117ebafb87f", func := "loop.example/g01348/laws.FnExactLeastEvaders", spec := "fnExactLeastEvaders", unfollowed := true, recurses := true, named := ["loop.example/g01348/impl.hiddenWith"], apart := false, laid := [("loop.example/g01348/impl.hiddenWith", laid_loop_example_g01348_impl_hiddenWith)] }
def FnExactLeastEvadersSaid : Prop := fnExactLeastEvadersRow.holds Tryd.pinned (OpenSpec.ofChange fnExactLeastEvadersSpec)

/-- ITS FALSE NEIGHBOUR: 'it returns false'. Refute it at one input. -/
def fnExactLeastEvadersWrong : ChangeSpec := { name := "fnExactLeastEvaders", vars := ["loop.example/g01348/impl.hiddenWith"], fn := fun _ => fun
  | [d, g1] => { results := [.lit (.bool false)], args := [d], vars := [g1] }
  | _ => none }
def FnExactLeastEvadersWrongFalsely : Prop := fnExactLeastEvadersRow.holds Tryd.pinned (OpenSpec.ofChange fnExactLeastEvadersWrong)

/-- 'laws.FnExactBestTree': WHATEVER THE INPUT: true; the input reads as it did. -/
def fnExactBestTreeSpec : ChangeSpec := { name := "fnExactBestTree", vars := ["loop.example/g01348/impl.hiddenWith"], fn := fun _ => fun
  | [d, g1] => { results := [.lit (.bool true)], args := [d], vars := [g1] }
  | _ => none }
def fnExactBestTreeRow : OpenClaim := { program := "ytgnahadlcihneaadoor", sum := "78013e7bb2ce369c88c4116904e112187145e2547ac2867bcc510117ebafb87f", func := "loop.example/g01348/laws.FnExactBestTree", spec := "fnExactBestTree", unfollowed := true, recurses := true, named := ["loop.example/g01348/impl.hiddenWith"], apart := false, laid := [("loop.example/g01348/impl.hiddenWith", laid_loop_example_g01348_impl_hiddenWith)] }
def FnExactBestTreeSaid : Prop := fnExactBestTreeRow.holds Tryd.pinned (OpenSpec.ofChange fnExactBestTreeSpec)

/-- ITS FALSE NEIGHBOUR: 'it returns false'. Refute it at one input. -/
def fnExactBestTreeWrong : ChangeSpec := { name := "fnExactBestTree", vars := ["loop.example/g01348/impl.hiddenWith"], fn := fun _ => fun
  | [d, g1] => { results := [.lit (.bool false)], args := [d], vars := [g1] }
  | _ => none }
def FnExactBestTreeWrongFalsely : Prop := fnExactBestTreeRow.holds Tryd.pinned (OpenSpec.ofChange fnExactBestTreeWrong)

/-- 'laws.FnExactBoundaryOf': WHATEVER THE INPUT: true; the input reads as it did. -/
def fnExactBoundaryOfSpec : ChangeSpec := { name := "fnExactBoundaryOf", vars := ["loop.example/g01348/impl.errNoChain"], fn := fun _ => fun
  | [d1, d2, g1] => { results := [.lit (.bool true)], args := [d1, d2], vars := [g1] }
  | _ => none }
def fnExactBoundaryOfRow : OpenClaim := { program := "ytgnahadlcihneaadoor", sum := "78013e7bb2ce369c88c4116904e112187145e2547ac2867bcc510117ebafb87f", func := "loop.example/g01348/laws.FnExactBoundaryOf", spec := "fnExactBoundaryOf", unfollowed := true, recurses := true, named := ["loop.example/g01348/impl.errNoChain"], ifaces := true, apart := false, laid := [("loop.example/g01348/impl.errNoChain", laid_loop_example_g01348_impl_errNoChain)] }
def FnExactBoundaryOfSaid : Prop := fnExactBoundaryOfRow.holds Tryd.pinned (OpenSpec.ofChange fnExactBoundaryOfSpec)

/-- ITS FALSE NEIGHBOUR: 'it returns false'. Refute it at one input. -/
def fnExactBoundaryOfWrong : ChangeSpec := { name := "fnExactBoundaryOf", vars := ["loop.example/g01348/impl.errNoChain"], fn := fun _ => fun
  | [d1, d2, g1] => { results := [.lit (.bool false)], args := [d1, d2], vars := [g1] }
  | _ => none }
def FnExactBoundaryOfWrongFalsely : Prop := fnExactBoundaryOfRow.holds Tryd.pinned (OpenSpec.ofChange fnExactBoundaryOfWrong)

/-- 'laws.FnExactIsCycle': WHATEVER THE INPUT: true; the input reads as it did. -/
def fnExactIsCycleSpec : ChangeSpec := { name := "fnExactIsCycle", vars := ["loop.example/g01348/impl.errNoChain"], fn := fun _ => fun
  | [d1, d2, g1] => { results := [.lit (.bool true)], args := [d1, d2], vars := [g1] }
  | _ => none }
def fnExactIsCycleRow : OpenClaim := { program := "ytgnahadlcihneaadoor", sum := "78013e7bb2ce369c88c4116904e112187145e2547ac2867bcc510117ebafb87f", func := "loop.example/g01348/laws.FnExactIsCycle", spec := "fnExactIsCycle", unfollowed := true, recurses := true, named := ["loop.example/g01348/impl.errNoChain"], ifaces := true, apart := false, laid := [("loop.example/g01348/impl.errNoChain", laid_loop_example_g01348_impl_errNoChain)] }
def FnExactIsCycleSaid : Prop := fnExactIsCycleRow.holds Tryd.pinned (OpenSpec.ofChange fnExactIsCycleSpec)

/-- ITS FALSE NEIGHBOUR: 'it returns false'. Refute it at one input. -/
def fnExactIsCycleWrong : ChangeSpec := { name := "fnExactIsCycle", vars := ["loop.example/g01348/impl.errNoChain"], fn := fun _ => fun
  | [d1, d2, g1] => { results := [.lit (.bool false)], args := [d1, d2], vars := [g1] }
  | _ => none }
def FnExactIsCycleWrongFalsely : Prop := fnExactIsCycleRow.holds Tryd.pinned (OpenSpec.ofChange fnExactIsCycleWrong)

/-- 'laws.FnExactIsChain': WHATEVER THE INPUT: true; the input reads as it did. -/
def fnExactIsChainSpec : ChangeSpec := { name := "fnExactIsChain", vars := ["loop.example/g01348/impl.errNoChain"], fn := fun _ => fun
  | [d1, d2, g1] => { results := [.lit (.bool true)], args := [d1, d2], vars := [g1] }
  | _ => none }
def fnExactIsChainRow : OpenClaim := { program := "ytgnahadlcihneaadoor", sum := "78013e7bb2ce369c88c4116904e112187145e2547ac2867bcc510117ebafb87f", func := "loop.example/g01348/laws.FnExactIsChain", spec := "fnExactIsChain", unfollowed := true, recurses := true, named := ["loop.example/g01348/impl.errNoChain"], ifaces := true, apart := false, laid := [("loop.example/g01348/impl.errNoChain", laid_loop_example_g01348_impl_errNoChain)] }
def FnExactIsChainSaid : Prop := fnExactIsChainRow.holds Tryd.pinned (OpenSpec.ofChange fnExactIsChainSpec)

/-- ITS FALSE NEIGHBOUR: 'it returns false'. Refute it at one input. -/
def fnExactIsChainWrong : ChangeSpec := { name := "fnExactIsChain", vars := ["loop.example/g01348/impl.errNoChain"], fn := fun _ => fun
  | [d1, d2, g1] => { results := [.lit (.bool false)], args := [d1, d2], vars := [g1] }
  | _ => none }
def FnExactIsChainWrongFalsely : Prop := fnExactIsChainRow.holds Tryd.pinned (OpenSpec.ofChange fnExactIsChainWrong)

/- THE SECOND FORM. 'bulk': how many values and letters a reading holds, each counted each time it is reached (what is shared counts as often as it is met; a slice's spare places count too). A statement '..UptoSaid' is the law's where the arguments, and the package variables that the reading takes, are together of bulk at most 1048576: NARROWER than '..Said'. Prove '..Said' where nothing that the law and all that it calls make is longer than what came in: it says more and counts as full. Else prove '..UptoSaid'. A law counts once. -/
mutual
def uptoBulk {H : Type} : DataW H → Nat
  | .lit (.string bytes) => bytes.length + 1
  | .lit _ => 1
  | .nil => 1
  | .ptr d => uptoBulk d + 1
  | .slice elems spare => uptoBulkAll elems + uptoBulkAll spare + 1
  | .agg parts => uptoBulkAll parts + 1
  | .iface _ d => uptoBulk d + 1
  | .map entries => uptoBulkEntries entries + 1
  | .held _ => 1
def uptoBulkAll {H : Type} : List (DataW H) → Nat
  | [] => 0
  | d :: r => uptoBulk d + uptoBulkAll r
def uptoBulkEntries {H : Type} : List (Lit × DataW H) → Nat
  | [] => 0
  | x :: r => uptoBulkEntry x + uptoBulkEntries r
def uptoBulkEntry {H : Type} : Lit × DataW H → Nat
  | (.string bytes, d) => bytes.length + uptoBulk d + 1
  | (_, d) => uptoBulk d + 1
 end
def uptoSmall : (H : Type) → List (DataW H) → Bool := fun _ ds => decide (uptoBulkAll ds ≤ 1048576)
def OpenSpec.upto (s : _root_.Go.ChangeSpec) : _root_.Go.OpenSpec := { _root_.Go.OpenSpec.ofChange s with cond := some uptoSmall }

/-- 'laws.FnExactQuestionNumber', WHERE WHAT IT READS IS OF BULK AT MOST 1048576: true; the input reads as it did. -/
def fnExactQuestionNumberUptoRow : OpenClaim := { program := "ytgnahadlcihneaadoor", sum := "78013e7bb2ce369c88c4116904e112187145e2547ac2867bcc510117ebafb87f", func := "loop.example/g01348/laws.FnExactQuestionNumber", spec := "fnExactQuestionNumber", unfollowed := true, recurses := true, named := ["loop.example/g01348/impl.hiddenWith"], apart := false, laid := [("loop.example/g01348/impl.hiddenWith", laid_loop_example_g01348_impl_hiddenWith)], narrowed := true }
def FnExactQuestionNumberUptoSaid : Prop := fnExactQuestionNumberUptoRow.holds Tryd.pinned (OpenSpec.upto fnExactQuestionNumberSpec)

/-- 'laws.FnExactIsEvasive', WHERE WHAT IT READS IS OF BULK AT MOST 1048576: true; the input reads as it did. -/
def fnExactIsEvasiveUptoRow : OpenClaim := { program := "ytgnahadlcihneaadoor", sum := "78013e7bb2ce369c88c4116904e112187145e2547ac2867bcc510117ebafb87f", func := "loop.example/g01348/laws.FnExactIsEvasive", spec := "fnExactIsEvasive", unfollowed := true, recurses := true, named := ["loop.example/g01348/impl.hiddenWith"], apart := false, laid := [("loop.example/g01348/impl.hiddenWith", laid_loop_example_g01348_impl_hiddenWith)], narrowed := true }
def FnExactIsEvasiveUptoSaid : Prop := fnExactIsEvasiveUptoRow.holds Tryd.pinned (OpenSpec.upto fnExactIsEvasiveSpec)

/-- 'laws.FnExactIsTree', WHERE WHAT IT READS IS OF BULK AT MOST 1048576: true; the input reads as it did. -/
def fnExactIsTreeUptoRow : OpenClaim := { program := "ytgnahadlcihneaadoor", sum := "78013e7bb2ce369c88c4116904e112187145e2547ac2867bcc510117ebafb87f", func := "loop.example/g01348/laws.FnExactIsTree", spec := "fnExactIsTree", unfollowed := true, recurses := true, named := ["loop.example/g01348/impl.errNoTree"], ifaces := true, apart := false, laid := [("loop.example/g01348/impl.errNoTree", laid_loop_example_g01348_impl_errNoTree)], narrowed := true }
def FnExactIsTreeUptoSaid : Prop := fnExactIsTreeUptoRow.holds Tryd.pinned (OpenSpec.upto fnExactIsTreeSpec)

/-- 'laws.FnExactQuestionsFor', WHERE WHAT IT READS IS OF BULK AT MOST 1048576: true; the input reads as it did. -/
def fnExactQuestionsForUptoRow : OpenClaim := { program := "ytgnahadlcihneaadoor", sum := "78013e7bb2ce369c88c4116904e112187145e2547ac2867bcc510117ebafb87f", func := "loop.example/g01348/laws.FnExactQuestionsFor", spec := "fnExactQuestionsFor", unfollowed := true, recurses := true, named := ["loop.example/g01348/impl.errNoTree", "loop.example/g01348/impl.hiddenWith"], ifaces := true, apart := false, laid := [("loop.example/g01348/impl.errNoTree", laid_loop_example_g01348_impl_errNoTree), ("loop.example/g01348/impl.hiddenWith", laid_loop_example_g01348_impl_hiddenWith)], narrowed := true }
def FnExactQuestionsForUptoSaid : Prop := fnExactQuestionsForUptoRow.holds Tryd.pinned (OpenSpec.upto fnExactQuestionsForSpec)

/-- 'laws.FnExactEvadersOf', WHERE WHAT IT READS IS OF BULK AT MOST 1048576: true; the input reads as it did. -/
def fnExactEvadersOfUptoRow : OpenClaim := { program := "ytgnahadlcihneaadoor", sum := "78013e7bb2ce369c88c4116904e112187145e2547ac2867bcc510117ebafb87f", func := "loop.example/g01348/laws.FnExactEvadersOf", spec := "fnExactEvadersOf", unfollowed := true, recurses := true, named := ["loop.example/g01348/impl.errNoTree", "loop.example/g01348/impl.hiddenWith"], ifaces := true, apart := false, laid := [("loop.example/g01348/impl.errNoTree", laid_loop_example_g01348_impl_errNoTree), ("loop.example/g01348/impl.hiddenWith", laid_loop_example_g01348_impl_hiddenWith)], narrowed := true }
def FnExactEvadersOfUptoSaid : Prop := fnExactEvadersOfUptoRow.holds Tryd.pinned (OpenSpec.upto fnExactEvadersOfSpec)

/-- 'laws.FnExactPairingOfTree', WHERE WHAT IT READS IS OF BULK AT MOST 1048576: true; the input reads as it did. -/
def fnExactPairingOfTreeUptoRow : OpenClaim := { program := "ytgnahadlcihneaadoor", sum := "78013e7bb2ce369c88c4116904e112187145e2547ac2867bcc510117ebafb87f", func := "loop.example/g01348/laws.FnExactPairingOfTree", spec := "fnExactPairingOfTree", unfollowed := true, recurses := true, named := ["loop.example/g01348/impl.errNoTree"], ifaces := true, apart := false, laid := [("loop.example/g01348/impl.errNoTree", laid_loop_example_g01348_impl_errNoTree)], narrowed := true }
def FnExactPairingOfTreeUptoSaid : Prop := fnExactPairingOfTreeUptoRow.holds Tryd.pinned (OpenSpec.upto fnExactPairingOfTreeSpec)

/-- 'laws.FnExactLeastEvaders', WHERE WHAT IT READS IS OF BULK AT MOST 1048576: true; the input reads as it did. -/
def fnExactLeastEvadersUptoRow : OpenClaim := { program := "ytgnahadlcihneaadoor", sum := "78013e7bb2ce369c88c4116904e112187145e2547ac2867bcc510117ebafb87f", func := "loop.example/g01348/laws.FnExactLeastEvaders", spec := "fnExactLeastEvaders", unfollowed := true, recurses := true, named := ["loop.example/g01348/impl.hiddenWith"], apart := false, laid := [("loop.example/g01348/impl.hiddenWith", laid_loop_example_g01348_impl_hiddenWith)], narrowed := true }
def FnExactLeastEvadersUptoSaid : Prop := fnExactLeastEvadersUptoRow.holds Tryd.pinned (OpenSpec.upto fnExactLeastEvadersSpec)

/-- 'laws.FnExactBestTree', WHERE WHAT IT READS IS OF BULK AT MOST 1048576: true; the input reads as it did. -/
def fnExactBestTreeUptoRow : OpenClaim := { program := "ytgnahadlcihneaadoor", sum := "78013e7bb2ce369c88c4116904e112187145e2547ac2867bcc510117ebafb87f", func := "loop.example/g01348/laws.FnExactBestTree", spec := "fnExactBestTree", unfollowed := true, recurses := true, named := ["loop.example/g01348/impl.hiddenWith"], apart := false, laid := [("loop.example/g01348/impl.hiddenWith", laid_loop_example_g01348_impl_hiddenWith)], narrowed := true }
def FnExactBestTreeUptoSaid : Prop := fnExactBestTreeUptoRow.holds Tryd.pinned (OpenSpec.upto fnExactBestTreeSpec)

/-- 'laws.FnExactBoundaryOf', WHERE WHAT IT READS IS OF BULK AT MOST 1048576: true; the input reads as it did. -/
def fnExactBoundaryOfUptoRow : OpenClaim := { program := "ytgnahadlcihneaadoor", sum := "78013e7bb2ce369c88c4116904e112187145e2547ac2867bcc510117ebafb87f", func := "loop.example/g01348/laws.FnExactBoundaryOf", spec := "fnExactBoundaryOf", unfollowed := true, recurses := true, named := ["loop.example/g01348/impl.errNoChain"], ifaces := true, apart := false, laid := [("loop.example/g01348/impl.errNoChain", laid_loop_example_g01348_impl_errNoChain)], narrowed := true }
def FnExactBoundaryOfUptoSaid : Prop := fnExactBoundaryOfUptoRow.holds Tryd.pinned (OpenSpec.upto fnExactBoundaryOfSpec)

/-- 'laws.FnExactIsCycle', WHERE WHAT IT READS IS OF BULK AT MOST 1048576: true; the input reads as it did. -/
def fnExactIsCycleUptoRow : OpenClaim := { program := "ytgnahadlcihneaadoor", sum := "78013e7bb2ce369c88c4116904e112187145e2547ac2867bcc510117ebafb87f", func := "loop.example/g01348/laws.FnExactIsCycle", spec := "fnExactIsCycle", unfollowed := true, recurses := true, named := ["loop.example/g01348/impl.errNoChain"], ifaces := true, apart := false, laid := [("loop.example/g01348/impl.errNoChain", laid_loop_example_g01348_impl_errNoChain)], narrowed := true }
def FnExactIsCycleUptoSaid : Prop := fnExactIsCycleUptoRow.holds Tryd.pinned (OpenSpec.upto fnExactIsCycleSpec)

/-- 'laws.FnExactIsChain', WHERE WHAT IT READS IS OF BULK AT MOST 1048576: true; the input reads as it did. -/
def fnExactIsChainUptoRow : OpenClaim := { program := "ytgnahadlcihneaadoor", sum := "78013e7bb2ce369c88c4116904e112187145e2547ac2867bcc510117ebafb87f", func := "loop.example/g01348/laws.FnExactIsChain", spec := "fnExactIsChain", unfollowed := true, recurses := true, named := ["loop.example/g01348/impl.errNoChain"], ifaces := true, apart := false, laid := [("loop.example/g01348/impl.errNoChain", laid_loop_example_g01348_impl_errNoChain)], narrowed := true }
def FnExactIsChainUptoSaid : Prop := fnExactIsChainUptoRow.holds Tryd.pinned (OpenSpec.upto fnExactIsChainSpec)

end Rows
end Go.Proofs.YtgnahadlcihneaaDoor
