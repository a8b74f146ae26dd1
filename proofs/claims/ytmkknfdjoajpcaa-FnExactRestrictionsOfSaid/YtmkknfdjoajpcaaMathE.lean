import Derived.Test.YtmkknfdjoajpcaaGen
/-! Finite facts on bits, decided. -/
namespace Go.Proofs.Ytmkknfdjoajpcaa
open Go.RowKit

theorem andNot_fin : ∀ x : Nat, x < 64 → ∀ s : Nat, s < 64 → (bits BinOp.andNot IntKind.i64 (x : Int) (s : Int) == 0) = decide (x &&& s = x) := by
  decide +kernel

end Go.Proofs.Ytmkknfdjoajpcaa
