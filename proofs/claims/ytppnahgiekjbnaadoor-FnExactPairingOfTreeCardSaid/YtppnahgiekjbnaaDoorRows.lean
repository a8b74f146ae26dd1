/-
  NARROWER THAN 'FOR EVERY INPUT', by the rows' own cells (each row's printed sentence says how): FnExactQuestionsFor: ifaces, laid · FnExactEvadersOf: ifaces, laid · FnExactPairingOfTree: ifaces, laid · FnExactBounds: ifaces, laid · FnExactAreHomologous: ifaces, laid.
  DERIVED. THE GIVEN ROWS OF THIS SEAT. 5 by the template 'for every input the law returns true; each argument reads behind the call as it read before'; 0 by the template 'total and deterministic' (their statements: YtppnahgiekjbnaaDoorTotals.lean).
  GIVEN WITH THE SEED: the statements are not yours to turn. If you find one false, say at which input.
  Laid BY PROGRAM, IN A SANDBOX (cutbox-rows.mjs): the forced cells as the released guide's own fill.sh prints them over the translation 8288bb9486d27bc8… (all of the seat's roots in one cut). By AI agents, Wed Nov 11 2026. No macro, syntax, notation, axiom, sorry.
-/
import Derived.Test.YtppnahgiekjbnaaDoorChecked
import GoSem.Claim
import GoSem.ClaimJoined
import GoSem.ClaimMapViews
import Derived.JoinedTies
import Derived.KernelRfl
namespace Go.Proofs.YtppnahgiekjbnaaDoor
/- THE CELL 'sum', in the pinned program and in every row, IS THE sha256 OF THE DUMP (.gsa) THAT YtppnahgiekjbnaaDoorProg.lean LOADS. Nothing in Lean hashes anything: it is a label: what it is worth is what the hold of that sum in a sandbox is worth. -/
noncomputable def Tryd.pinned : Pinned := { name := "ytppnahgiekjbnaadoor", sum := "8288bb9486d27bc852e8f5ccc92f0727d29ffe2585110fca90dc21dd2dffa5c5", checked := Tryd.checked }
namespace Rows
def none {H : Type} : Left H := { results := [], args := [] }

/- WHAT THE LISTED PACKAGE-LEVEL VARIABLES READ AS WHEN THE CALL BEGINS. Each datum BY PROGRAM (the guide's laid-datum.mjs) off the statement by which the dump's own 'gosem.cut.vars' lays the variable. In a bare row this is a premise. The card (YtppnahgiekjbnaaDoorCards.lean) ties it to the program's text. -/
def laid_loop_example_g01348_impl_errNoTree {H : Type} : DataW H := .iface "*errors.errorString" (.ptr (.agg [.lit (.string [116, 104, 101, 32, 108, 105, 115, 116, 32, 105, 115, 32, 110, 111, 32, 116, 114, 101, 101])]))
def laid_loop_example_g01348_impl_hiddenWith {H : Type} : DataW H := .agg [.lit (.int .u64 12297829382473034410), .lit (.int .u64 14757395258967641292), .lit (.int .u64 17361641481138401520), .lit (.int .u64 18374966859414961920), .lit (.int .u64 18446462603027742720), .lit (.int .u64 18446744069414584320)]
def laid_loop_example_g01348_impl_errNoChain {H : Type} : DataW H := .iface "*errors.errorString" (.ptr (.agg [.lit (.string [116, 104, 101, 32, 108, 105, 115, 116, 32, 105, 115, 32, 110, 111, 32, 99, 104, 97, 105, 110])]))

/-- 'laws.FnExactQuestionsFor': WHATEVER THE INPUT: true; the input reads as it did. -/
def fnExactQuestionsForSpec : ChangeSpec := { name := "fnExactQuestionsFor", vars := ["loop.example/g01348/impl.errNoTree", "loop.example/g01348/impl.hiddenWith"], fn := fun _ => fun
  | [d1, d2, d3, g1, g2] => { results := [.lit (.bool true)], args := [d1, d2, d3], vars := [g1, g2] }
  | _ => none }
def fnExactQuestionsForRow : OpenClaim := { program := "ytppnahgiekjbnaadoor", sum := "8288bb9486d27bc852e8f5ccc92f0727d29ffe2585110fca90dc21dd2dffa5c5", func := "loop.example/g01348/laws.FnExactQuestionsFor", spec := "fnExactQuestionsFor", unfollowed := true, recurses := true, named := ["loop.example/g01348/impl.errNoTree", "loop.example/g01348/impl.hiddenWith"], ifaces := true, apart := false, laid := [("loop.example/g01348/impl.errNoTree", laid_loop_example_g01348_impl_errNoTree), ("loop.example/g01348/impl.hiddenWith", laid_loop_example_g01348_impl_hiddenWith)] }
def FnExactQuestionsForSaid : Prop := fnExactQuestionsForRow.holds Tryd.pinned (OpenSpec.ofChange fnExactQuestionsForSpec)

/-- ITS FALSE NEIGHBOUR: 'it returns false'. Refute it at one input. -/
def fnExactQuestionsForWrong : ChangeSpec := { name := "fnExactQuestionsFor", vars := ["loop.example/g01348/impl.errNoTree", "loop.example/g01348/impl.hiddenWith"], fn := fun _ => fun
  | [d1, d2, d3, g1, g2] => { results := [.lit (.bool false)], args := [d1, d2, d3], vars := [g1, g2] }
  | _ => none }
def FnExactQuestionsForWrongFalsely : Prop := fnExactQuestionsForRow.holds Tryd.pinned (OpenSpec.ofChange fnExactQuestionsForWrong)

/-- 'laws.FnExactEvadersOf': WHATEVER THE INPUT: true; the input reads as it did. -/
def fnExactEvadersOfSpec : ChangeSpec := { name := "fnExactEvadersOf", vars := ["loop.example/g01348/impl.errNoTree", "loop.example/g01348/impl.hiddenWith"], fn := fun _ => fun
  | [d1, d2, g1, g2] => { results := [.lit (.bool true)], args := [d1, d2], vars := [g1, g2] }
  | _ => none }
def fnExactEvadersOfRow : OpenClaim := { program := "ytppnahgiekjbnaadoor", sum := "8288bb9486d27bc852e8f5ccc92f0727d29ffe2585110fca90dc21dd2dffa5c5", func := "loop.example/g01348/laws.FnExactEvadersOf", spec := "fnExactEvadersOf", unfollowed := true, recurses := true, named := ["loop.example/g01348/impl.errNoTree", "loop.example/g01348/impl.hiddenWith"], ifaces := true, apart := false, laid := [("loop.example/g01348/impl.errNoTree", laid_loop_example_g01348_impl_errNoTree), ("loop.example/g01348/impl.hiddenWith", laid_loop_example_g01348_impl_hiddenWith)] }
def FnExactEvadersOfSaid : Prop := fnExactEvadersOfRow.holds Tryd.pinned (OpenSpec.ofChange fnExactEvadersOfSpec)

/-- ITS FALSE NEIGHBOUR: 'it returns false'. Refute it at one input. -/
def fnExactEvadersOfWrong : ChangeSpec := { name := "fnExactEvadersOf", vars := ["loop.example/g01348/impl.errNoTree", "loop.example/g01348/impl.hiddenWith"], fn := fun _ => fun
  | [d1, d2, g1, g2] => { results := [.lit (.bool false)], args := [d1, d2], vars := [g1, g2] }
  | _ => none }
def FnExactEvadersOfWrongFalsely : Prop := fnExactEvadersOfRow.holds Tryd.pinned (OpenSpec.ofChange fnExactEvadersOfWrong)

/-- 'laws.FnExactPairingOfTree': WHATEVER THE INPUT: true; the input reads as it did. -/
def fnExactPairingOfTreeSpec : ChangeSpec := { name := "fnExactPairingOfTree", vars := ["loop.example/g01348/impl.errNoTree"], fn := fun _ => fun
  | [d1, d2, g1] => { results := [.lit (.bool true)], args := [d1, d2], vars := [g1] }
  | _ => none }
def fnExactPairingOfTreeRow : OpenClaim := { program := "ytppnahgiekjbnaadoor", sum := "8288bb9486d27bc852e8f5ccc92f0727d29ffe2585110fca90dc21dd2dffa5c5", func := "loop.example/g01348/laws.FnExactPairingOfTree", spec := "fnExactPairingOfTree", unfollowed := true, recurses := true, named := ["loop.example/g01348/impl.errNoTree"], ifaces := true, apart := false, laid := [("loop.example/g01348/impl.errNoTree", laid_loop_example_g01348_impl_errNoTree)] }
def FnExactPairingOfTreeSaid : Prop := fnExactPairingOfTreeRow.holds Tryd.pinned (OpenSpec.ofChange fnExactPairingOfTreeSpec)

/-- ITS FALSE NEIGHBOUR: 'it returns false'. Refute it at one input. -/
def fnExactPairingOfTreeWrong : ChangeSpec := { name := "fnExactPairingOfTree", vars := ["loop.example/g01348/impl.errNoTree"], fn := fun _ => fun
  | [d1, d2, g1] => { results := [.lit (.bool false)], args := [d1, d2], vars := [g1] }
  | _ => none }
def FnExactPairingOfTreeWrongFalsely : Prop := fnExactPairingOfTreeRow.holds Tryd.pinned (OpenSpec.ofChange fnExactPairingOfTreeWrong)

/-- 'laws.FnExactBounds': WHATEVER THE INPUT: true; the input reads as it did. -/
def fnExactBoundsSpec : ChangeSpec := { name := "fnExactBounds", vars := ["loop.example/g01348/impl.errNoChain"], fn := fun _ => fun
  | [d1, d2, g1] => { results := [.lit (.bool true)], args := [d1, d2], vars := [g1] }
  | _ => none }
def fnExactBoundsRow : OpenClaim := { program := "ytppnahgiekjbnaadoor", sum := "8288bb9486d27bc852e8f5ccc92f0727d29ffe2585110fca90dc21dd2dffa5c5", func := "loop.example/g01348/laws.FnExactBounds", spec := "fnExactBounds", unfollowed := true, recurses := true, named := ["loop.example/g01348/impl.errNoChain"], ifaces := true, apart := false, laid := [("loop.example/g01348/impl.errNoChain", laid_loop_example_g01348_impl_errNoChain)] }
def FnExactBoundsSaid : Prop := fnExactBoundsRow.holds Tryd.pinned (OpenSpec.ofChange fnExactBoundsSpec)

/-- ITS FALSE NEIGHBOUR: 'it returns false'. Refute it at one input. -/
def fnExactBoundsWrong : ChangeSpec := { name := "fnExactBounds", vars := ["loop.example/g01348/impl.errNoChain"], fn := fun _ => fun
  | [d1, d2, g1] => { results := [.lit (.bool false)], args := [d1, d2], vars := [g1] }
  | _ => none }
def FnExactBoundsWrongFalsely : Prop := fnExactBoundsRow.holds Tryd.pinned (OpenSpec.ofChange fnExactBoundsWrong)

/-- 'laws.FnExactAreHomologous': WHATEVER THE INPUT: true; the input reads as it did. -/
def fnExactAreHomologousSpec : ChangeSpec := { name := "fnExactAreHomologous", vars := ["loop.example/g01348/impl.errNoChain"], fn := fun _ => fun
  | [d1, d2, d3, g1] => { results := [.lit (.bool true)], args := [d1, d2, d3], vars := [g1] }
  | _ => none }
def fnExactAreHomologousRow : OpenClaim := { program := "ytppnahgiekjbnaadoor", sum := "8288bb9486d27bc852e8f5ccc92f0727d29ffe2585110fca90dc21dd2dffa5c5", func := "loop.example/g01348/laws.FnExactAreHomologous", spec := "fnExactAreHomologous", unfollowed := true, recurses := true, named := ["loop.example/g01348/impl.errNoChain"], ifaces := true, apart := false, laid := [("loop.example/g01348/impl.errNoChain", laid_loop_example_g01348_impl_errNoChain)] }
def FnExactAreHomologousSaid : Prop := fnExactAreHomologousRow.holds Tryd.pinned (OpenSpec.ofChange fnExactAreHomologousSpec)

/-- ITS FALSE NEIGHBOUR: 'it returns false'. Refute it at one input. -/
def fnExactAreHomologousWrong : ChangeSpec := { name := "fnExactAreHomologous", vars := ["loop.example/g01348/impl.errNoChain"], fn := fun _ => fun
  | [d1, d2, d3, g1] => { results := [.lit (.bool false)], args := [d1, d2, d3], vars := [g1] }
  | _ => none }
def FnExactAreHomologousWrongFalsely : Prop := fnExactAreHomologousRow.holds Tryd.pinned (OpenSpec.ofChange fnExactAreHomologousWrong)

/- THE SECOND FORM. 'bulk': how many values and letters a reading holds, each counted each time it is reached (what is shared counts as often as it is met; a slice's spare places count too). A statement '..UptoSaid' is the law's where the arguments, and the package variables that the reading takes, are together of bulk at most 1048576: NARROWER than '..Said'. Prove '..Said' where nothing that the law and all that it calls make is longer than what came in: it says more and counts as full. Else prove '..UptoSaid'. A law counts once. -/
mutual
def uptoBulk {H : Type} : DataW H → Nat
  | .lit (.string bytes) => bytes.length + 1
  | .lit _ => 1
  | .nil => 1
  | .ptr d => uptoBulk d + 1
  | .slice elems spare => uptoBulkAll elems + uptoBulkAll spare + 1
  | .agg parts => uptoBulkAll parts + 1
  | .iface _ d => uptoBulk d + 1
  | .map entries => uptoBulkEntries entries + 1
  | .held _ => 1
def uptoBulkAll {H : Type} : List (DataW H) → Nat
  | [] => 0
  | d :: r => uptoBulk d + uptoBulkAll r
def uptoBulkEntries {H : Type} : List (Lit × DataW H) → Nat
  | [] => 0
  | x :: r => uptoBulkEntry x + uptoBulkEntries r
def uptoBulkEntry {H : Type} : Lit × DataW H → Nat
  | (.string bytes, d) => bytes.length + uptoBulk d + 1
  | (_, d) => uptoBulk d + 1
 end
def uptoSmall : (H : Type) → List (DataW H) → Bool := fun _ ds => decide (uptoBulkAll ds ≤ 1048576)
def OpenSpec.upto (s : _root_.Go.ChangeSpec) : _root_.Go.OpenSpec := { _root_.Go.OpenSpec.ofChange s with cond := some uptoSmall }

/-- 'laws.FnExactQuestionsFor', WHERE WHAT IT READS IS OF BULK AT MOST 1048576: true; the input reads as it did. -/
def fnExactQuestionsForUptoRow : OpenClaim := { program := "ytppnahgiekjbnaadoor", sum := "8288bb9486d27bc852e8f5ccc92f0727d29ffe2585110fca90dc21dd2dffa5c5", func := "loop.example/g01348/laws.FnExactQuestionsFor", spec := "fnExactQuestionsFor", unfollowed := true, recurses := true, named := ["loop.example/g01348/impl.errNoTree", "loop.example/g01348/impl.hiddenWith"], ifaces := true, apart := false, laid := [("loop.example/g01348/impl.errNoTree", laid_loop_example_g01348_impl_errNoTree), ("loop.example/g01348/impl.hiddenWith", laid_loop_example_g01348_impl_hiddenWith)], narrowed := true }
def FnExactQuestionsForUptoSaid : Prop := fnExactQuestionsForUptoRow.holds Tryd.pinned (OpenSpec.upto fnExactQuestionsForSpec)

/-- 'laws.FnExactEvadersOf', WHERE WHAT IT READS IS OF BULK AT MOST 1048576: true; the input reads as it did. -/
def fnExactEvadersOfUptoRow : OpenClaim := { program := "ytppnahgiekjbnaadoor", sum := "8288bb9486d27bc852e8f5ccc92f0727d29ffe2585110fca90dc21dd2dffa5c5", func := "loop.example/g01348/laws.FnExactEvadersOf", spec := "fnExactEvadersOf", unfollowed := true, recurses := true, named := ["loop.example/g01348/impl.errNoTree", "loop.example/g01348/impl.hiddenWith"], ifaces := true, apart := false, laid := [("loop.example/g01348/impl.errNoTree", laid_loop_example_g01348_impl_errNoTree), ("loop.example/g01348/impl.hiddenWith", laid_loop_example_g01348_impl_hiddenWith)], narrowed := true }
def FnExactEvadersOfUptoSaid : Prop := fnExactEvadersOfUptoRow.holds Tryd.pinned (OpenSpec.upto fnExactEvadersOfSpec)

/-- 'laws.FnExactPairingOfTree', WHERE WHAT IT READS IS OF BULK AT MOST 1048576: true; the input reads as it did. -/
def fnExactPairingOfTreeUptoRow : OpenClaim := { program := "ytppnahgiekjbnaadoor", sum := "8288bb9486d27bc852e8f5ccc92f0727d29ffe2585110fca90dc21dd2dffa5c5", func := "loop.example/g01348/laws.FnExactPairingOfTree", spec := "fnExactPairingOfTree", unfollowed := true, recurses := true, named := ["loop.example/g01348/impl.errNoTree"], ifaces := true, apart := false, laid := [("loop.example/g01348/impl.errNoTree", laid_loop_example_g01348_impl_errNoTree)], narrowed := true }
def FnExactPairingOfTreeUptoSaid : Prop := fnExactPairingOfTreeUptoRow.holds Tryd.pinned (OpenSpec.upto fnExactPairingOfTreeSpec)

/-- 'laws.FnExactBounds', WHERE WHAT IT READS IS OF BULK AT MOST 1048576: true; the input reads as it did. -/
def fnExactBoundsUptoRow : OpenClaim := { program := "ytppnahgiekjbnaadoor", sum := "8288bb9486d27bc852e8f5ccc92f0727d29ffe2585110fca90dc21dd2dffa5c5", func := "loop.example/g01348/laws.FnExactBounds", spec := "fnExactBounds", unfollowed := true, recurses := true, named := ["loop.example/g01348/impl.errNoChain"], ifaces := true, apart := false, laid := [("loop.example/g01348/impl.errNoChain", laid_loop_example_g01348_impl_errNoChain)], narrowed := true }
def FnExactBoundsUptoSaid : Prop := fnExactBoundsUptoRow.holds Tryd.pinned (OpenSpec.upto fnExactBoundsSpec)

/-- 'laws.FnExactAreHomologous', WHERE WHAT IT READS IS OF BULK AT MOST 1048576: true; the input reads as it did. -/
def fnExactAreHomologousUptoRow : OpenClaim := { program := "ytppnahgiekjbnaadoor", sum := "8288bb9486d27bc852e8f5ccc92f0727d29ffe2585110fca90dc21dd2dffa5c5", func := "loop.example/g01348/laws.FnExactAreHomologous", spec := "fnExactAreHomologous", unfollowed := true, recurses := true, named := ["loop.example/g01348/impl.errNoChain"], ifaces := true, apart := false, laid := [("loop.example/g01348/impl.errNoChain", laid_loop_example_g01348_impl_errNoChain)], narrowed := true }
def FnExactAreHomologousUptoSaid : Prop := fnExactAreHomologousUptoRow.holds Tryd.pinned (OpenSpec.upto fnExactAreHomologousSpec)

end Rows
end Go.Proofs.YtppnahgiekjbnaaDoor
