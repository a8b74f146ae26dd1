import Derived.Test.YtdifmnjheapjcaaGen
/-! Finite facts on bits, decided. -/
namespace Go.Proofs.Ytdifmnjheapjcaa
open Go.RowKit

theorem andNot_fin : ∀ x : Nat, x < 64 → ∀ s : Nat, s < 64 → (bits BinOp.andNot IntKind.i64 (x : Int) (s : Int) == 0) = decide (x &&& s = x) := by
  decide +kernel

end Go.Proofs.Ytdifmnjheapjcaa
