/-
  NARROWER THAN 'FOR EVERY INPUT', by the rows' own cells (each row's printed sentence says how): FnExactFlowOf: ifaces, laid · FnExactEndOfFlow: ifaces, laid.
  DERIVED. THE GIVEN ROWS OF THIS SEAT. 2 by the template 'for every input the law returns true; each argument reads behind the call as it read before'; 0 by the template 'total and deterministic' (their statements: YtpdhnjdnlgnniaaGreatDoorTotals.lean).
  GIVEN WITH THE SEED: the statements are not yours to turn. If you find one false, say at which input.
  Laid BY PROGRAM, IN A SANDBOX (cutbox-rows.mjs): the forced cells as the released guide's own fill.sh prints them over the translation b1b432b6484803d0… (all of the seat's roots in one cut). By AI agents, Wed Nov 11 2026. No macro, syntax, notation, axiom, sorry.
-/
import Derived.Test.YtpdhnjdnlgnniaaGreatDoorChecked
import GoSem.Claim
import GoSem.ClaimJoined
import GoSem.ClaimMapViews
import Derived.JoinedTies
import Derived.KernelRfl
namespace Go.Proofs.YtpdhnjdnlgnniaaGreatDoor
/- THE CELL 'sum', in the pinned program and in every row, IS THE sha256 OF THE DUMP (.gsa) THAT YtpdhnjdnlgnniaaGreatDoorProg.lean LOADS. Nothing in Lean hashes anything: it is a label: what it is worth is what the hold of that sum in a sandbox is worth. -/
noncomputable def Tryz.pinned : Pinned := { name := "ytpdhnjdnlgnniaagreatdoor", sum := "b1b432b6484803d0d63ab455e3bc1be75543124b9b2f9bf5d67937bf1a1af2cf", checked := Tryz.checked }
namespace Rows
def none {H : Type} : Left H := { results := [], args := [] }

/- WHAT THE LISTED PACKAGE-LEVEL VARIABLES READ AS WHEN THE CALL BEGINS. Each datum BY PROGRAM (the guide's laid-datum.mjs) off the statement by which the dump's own 'gosem.cut.vars' lays the variable. In a bare row this is a premise. The card (YtpdhnjdnlgnniaaGreatDoorCards.lean) ties it to the program's text. -/
def laid_loop_example_g01348_impl_errNoChain {H : Type} : DataW H := .iface "*errors.errorString" (.ptr (.agg [.lit (.string [116, 104, 101, 32, 108, 105, 115, 116, 32, 105, 115, 32, 110, 111, 32, 99, 104, 97, 105, 110])]))

/-- 'laws.FnExactFlowOf': WHATEVER THE INPUT: true; the input reads as it did. -/
def fnExactFlowOfSpec : ChangeSpec := { name := "fnExactFlowOf", vars := ["loop.example/g01348/impl.errNoChain"], fn := fun _ => fun
  | [d1, d2, d3, g1] => { results := [.lit (.bool true)], args := [d1, d2, d3], vars := [g1] }
  | _ => none }
def fnExactFlowOfRow : OpenClaim := { program := "ytpdhnjdnlgnniaagreatdoor", sum := "b1b432b6484803d0d63ab455e3bc1be75543124b9b2f9bf5d67937bf1a1af2cf", func := "loop.example/g01348/laws.FnExactFlowOf", spec := "fnExactFlowOf", unfollowed := true, recurses := true, named := ["loop.example/g01348/impl.errNoChain"], ifaces := true, plainKeys := false, apart := false, laid := [("loop.example/g01348/impl.errNoChain", laid_loop_example_g01348_impl_errNoChain)] }
def FnExactFlowOfSaid : Prop := fnExactFlowOfRow.holds Tryz.pinned (OpenSpec.ofChange fnExactFlowOfSpec)

/-- ITS FALSE NEIGHBOUR: 'it returns false'. Refute it at one input. -/
def fnExactFlowOfWrong : ChangeSpec := { name := "fnExactFlowOf", vars := ["loop.example/g01348/impl.errNoChain"], fn := fun _ => fun
  | [d1, d2, d3, g1] => { results := [.lit (.bool false)], args := [d1, d2, d3], vars := [g1] }
  | _ => none }
def FnExactFlowOfWrongFalsely : Prop := fnExactFlowOfRow.holds Tryz.pinned (OpenSpec.ofChange fnExactFlowOfWrong)

/-- 'laws.FnExactEndOfFlow': WHATEVER THE INPUT: true; the input reads as it did. -/
def fnExactEndOfFlowSpec : ChangeSpec := { name := "fnExactEndOfFlow", vars := ["loop.example/g01348/impl.errNoChain"], fn := fun _ => fun
  | [d1, d2, d3, g1] => { results := [.lit (.bool true)], args := [d1, d2, d3], vars := [g1] }
  | _ => none }
def fnExactEndOfFlowRow : OpenClaim := { program := "ytpdhnjdnlgnniaagreatdoor", sum := "b1b432b6484803d0d63ab455e3bc1be75543124b9b2f9bf5d67937bf1a1af2cf", func := "loop.example/g01348/laws.FnExactEndOfFlow", spec := "fnExactEndOfFlow", unfollowed := true, recurses := true, named := ["loop.example/g01348/impl.errNoChain"], ifaces := true, plainKeys := false, apart := false, laid := [("loop.example/g01348/impl.errNoChain", laid_loop_example_g01348_impl_errNoChain)] }
def FnExactEndOfFlowSaid : Prop := fnExactEndOfFlowRow.holds Tryz.pinned (OpenSpec.ofChange fnExactEndOfFlowSpec)

/-- ITS FALSE NEIGHBOUR: 'it returns false'. Refute it at one input. -/
def fnExactEndOfFlowWrong : ChangeSpec := { name := "fnExactEndOfFlow", vars := ["loop.example/g01348/impl.errNoChain"], fn := fun _ => fun
  | [d1, d2, d3, g1] => { results := [.lit (.bool false)], args := [d1, d2, d3], vars := [g1] }
  | _ => none }
def FnExactEndOfFlowWrongFalsely : Prop := fnExactEndOfFlowRow.holds Tryz.pinned (OpenSpec.ofChange fnExactEndOfFlowWrong)

/- THE SECOND FORM. 'bulk': how many values and letters a reading holds, each counted each time it is reached (what is shared counts as often as it is met; a slice's spare places count too). A statement '..UptoSaid' is the law's where the arguments, and the package variables that the reading takes, are together of bulk at most 1048576: NARROWER than '..Said'. Prove '..Said' where nothing that the law and all that it calls make is longer than what came in: it says more and counts as full. Else prove '..UptoSaid'. A law counts once. -/
mutual
def uptoBulk {H : Type} : DataW H → Nat
  | .lit (.string bytes) => bytes.length + 1
  | .lit _ => 1
  | .nil => 1
  | .ptr d => uptoBulk d + 1
  | .slice elems spare => uptoBulkAll elems + uptoBulkAll spare + 1
  | .agg parts => uptoBulkAll parts + 1
  | .iface _ d => uptoBulk d + 1
  | .map entries => uptoBulkEntries entries + 1
  | .held _ => 1
def uptoBulkAll {H : Type} : List (DataW H) → Nat
  | [] => 0
  | d :: r => uptoBulk d + uptoBulkAll r
def uptoBulkEntries {H : Type} : List (Lit × DataW H) → Nat
  | [] => 0
  | x :: r => uptoBulkEntry x + uptoBulkEntries r
def uptoBulkEntry {H : Type} : Lit × DataW H → Nat
  | (.string bytes, d) => bytes.length + uptoBulk d + 1
  | (_, d) => uptoBulk d + 1
 end
def uptoSmall : (H : Type) → List (DataW H) → Bool := fun _ ds => decide (uptoBulkAll ds ≤ 1048576)
def OpenSpec.upto (s : _root_.Go.ChangeSpec) : _root_.Go.OpenSpec := { _root_.Go.OpenSpec.ofChange s with cond := some uptoSmall }

/-- 'laws.FnExactFlowOf', WHERE WHAT IT READS IS OF BULK AT MOST 1048576: true; the input reads as it did. -/
def fnExactFlowOfUptoRow : OpenClaim := { program := "ytpdhnjdnlgnniaagreatdoor", sum := "b1b432b6484803d0d63ab455e3bc1be75543124b9b2f9bf5d67937bf1a1af2cf", func := "loop.example/g01348/laws.FnExactFlowOf", spec := "fnExactFlowOf", unfollowed := true, recurses := true, named := ["loop.example/g01348/impl.errNoChain"], ifaces := true, plainKeys := false, apart := false, laid := [("loop.example/g01348/impl.errNoChain", laid_loop_example_g01348_impl_errNoChain)], narrowed := true }
def FnExactFlowOfUptoSaid : Prop := fnExactFlowOfUptoRow.holds Tryz.pinned (OpenSpec.upto fnExactFlowOfSpec)

/-- 'laws.FnExactEndOfFlow', WHERE WHAT IT READS IS OF BULK AT MOST 1048576: true; the input reads as it did. -/
def fnExactEndOfFlowUptoRow : OpenClaim := { program := "ytpdhnjdnlgnniaagreatdoor", sum := "b1b432b6484803d0d63ab455e3bc1be75543124b9b2f9bf5d67937bf1a1af2cf", func := "loop.example/g01348/laws.FnExactEndOfFlow", spec := "fnExactEndOfFlow", unfollowed := true, recurses := true, named := ["loop.example/g01348/impl.errNoChain"], ifaces := true, plainKeys := false, apart := false, laid := [("loop.example/g01348/impl.errNoChain", laid_loop_example_g01348_impl_errNoChain)], narrowed := true }
def FnExactEndOfFlowUptoSaid : Prop := fnExactEndOfFlowUptoRow.holds Tryz.pinned (OpenSpec.upto fnExactEndOfFlowSpec)

end Rows
end Go.Proofs.YtpdhnjdnlgnniaaGreatDoor
