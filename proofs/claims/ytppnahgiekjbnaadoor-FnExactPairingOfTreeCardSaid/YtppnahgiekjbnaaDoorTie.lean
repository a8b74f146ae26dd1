/-
  DERIVED. GIVEN WITH THE SEED: THE PROGRAM's TIES (one call each: nine closed facts by the kernel) AND EACH ROW's TIE, after the 31st guide's Derived/Test/Toyas{Tie, Card}.lean. No idea stands in it: it is a product of the set-up. Laid BY PROGRAM, IN A SANDBOX (cutbox-door.mjs). By AI agents, Wed Nov 11 2026. No macro, syntax, notation, axiom, sorry.
-/
import Derived.Test.YtppnahgiekjbnaaDoorRows
import Derived.LaidByTextLater
import Derived.SevenTiedAt
import Derived.LaidSub
import Derived.LaidOnce
namespace Go.Proofs.YtppnahgiekjbnaaDoor
open Go
set_option maxRecDepth 100000
theorem seatTie1 : Tryd.prog.laidByTextLater [("loop.example/g01348/impl.errNoChain", Rows.laid_loop_example_g01348_impl_errNoChain), ("loop.example/g01348/impl.errNoTree", Rows.laid_loop_example_g01348_impl_errNoTree), ("loop.example/g01348/impl.hiddenWith", Rows.laid_loop_example_g01348_impl_hiddenWith)] [.sentinel, .sentinel, .data] true :=
  Program.laidByTextLater_by_one 52 8 7 (by kernel_rfl) (by kernel_rfl) (by kernel_rfl) (by kernel_rfl) (by kernel_rfl) (by kernel_rfl) (fun _ _ => by kernel_rfl)
theorem noOwnUnsafe : Tryd.pinned.checked.prog.headLifts.contains "ownunsafe" = false := by kernel_rfl
theorem tie : Tryd.prog.laidByTextLater [("loop.example/g01348/impl.errNoTree", Rows.laid_loop_example_g01348_impl_errNoTree), ("loop.example/g01348/impl.hiddenWith", Rows.laid_loop_example_g01348_impl_hiddenWith)] [.sentinel, .data] true :=
  Program.laidByTextLater.sub seatTie1 ["loop.example/g01348/impl.errNoTree", "loop.example/g01348/impl.hiddenWith"] (by kernel_rfl) (by kernel_rfl)
theorem fnExactQuestionsFor_row_tie : Rows.fnExactQuestionsForRow.laidByTextAt .later Tryd.pinned [.sentinel, .data] true :=
  OpenClaim.laidByTextAt_later rfl rfl tie noOwnUnsafe
theorem fnExactEvadersOf_row_tie : Rows.fnExactEvadersOfRow.laidByTextAt .later Tryd.pinned [.sentinel, .data] true :=
  OpenClaim.laidByTextAt_later rfl rfl tie noOwnUnsafe
theorem tie2 : Tryd.prog.laidByTextLater [("loop.example/g01348/impl.errNoTree", Rows.laid_loop_example_g01348_impl_errNoTree)] [.sentinel] true :=
  Program.laidByTextLater.sub seatTie1 ["loop.example/g01348/impl.errNoTree"] (by kernel_rfl) (by kernel_rfl)
theorem fnExactPairingOfTree_row_tie : Rows.fnExactPairingOfTreeRow.laidByTextAt .later Tryd.pinned [.sentinel] true :=
  OpenClaim.laidByTextAt_later rfl rfl tie2 noOwnUnsafe
theorem tie3 : Tryd.prog.laidByTextLater [("loop.example/g01348/impl.errNoChain", Rows.laid_loop_example_g01348_impl_errNoChain)] [.sentinel] true :=
  Program.laidByTextLater.sub seatTie1 ["loop.example/g01348/impl.errNoChain"] (by kernel_rfl) (by kernel_rfl)
theorem fnExactBounds_row_tie : Rows.fnExactBoundsRow.laidByTextAt .later Tryd.pinned [.sentinel] true :=
  OpenClaim.laidByTextAt_later rfl rfl tie3 noOwnUnsafe
theorem fnExactAreHomologous_row_tie : Rows.fnExactAreHomologousRow.laidByTextAt .later Tryd.pinned [.sentinel] true :=
  OpenClaim.laidByTextAt_later rfl rfl tie3 noOwnUnsafe
theorem fnExactQuestionsForUpto_row_tie : Rows.fnExactQuestionsForUptoRow.laidByTextAt .later Tryd.pinned [.sentinel, .data] true :=
  OpenClaim.laidByTextAt_later rfl rfl tie noOwnUnsafe
theorem fnExactEvadersOfUpto_row_tie : Rows.fnExactEvadersOfUptoRow.laidByTextAt .later Tryd.pinned [.sentinel, .data] true :=
  OpenClaim.laidByTextAt_later rfl rfl tie noOwnUnsafe
theorem fnExactPairingOfTreeUpto_row_tie : Rows.fnExactPairingOfTreeUptoRow.laidByTextAt .later Tryd.pinned [.sentinel] true :=
  OpenClaim.laidByTextAt_later rfl rfl tie2 noOwnUnsafe
theorem fnExactBoundsUpto_row_tie : Rows.fnExactBoundsUptoRow.laidByTextAt .later Tryd.pinned [.sentinel] true :=
  OpenClaim.laidByTextAt_later rfl rfl tie3 noOwnUnsafe
theorem fnExactAreHomologousUpto_row_tie : Rows.fnExactAreHomologousUptoRow.laidByTextAt .later Tryd.pinned [.sentinel] true :=
  OpenClaim.laidByTextAt_later rfl rfl tie3 noOwnUnsafe
end Go.Proofs.YtppnahgiekjbnaaDoor
