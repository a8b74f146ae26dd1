import Derived.Test.YtmkknfdjoajpcaaMathD
/-! A face that is in another one is in one with a vertex more. -/
namespace Go.Proofs.Ytmkknfdjoajpcaa

theorem above_step : ∀ x f : Fin 64, x.val ≠ 0 → x.val &&& f.val = x.val → x.val ≠ f.val → ∃ y : Fin 64, y.val ≠ 0 ∧ y.val &&& f.val = y.val ∧ y.val &&& x.val = x.val ∧ ones y.val = ones x.val + 1 := by decide +kernel

end Go.Proofs.Ytmkknfdjoajpcaa
