import Derived.Test.YtmkknfdjoajpcaaMath
/-! How many faces a complex has at most. -/
namespace Go.Proofs.Ytmkknfdjoajpcaa

theorem asc_len : ∀ (fs : List Int) (lo : Int), fs.Pairwise (· < ·) → (∀ x ∈ fs, lo ≤ x ∧ x ≤ 63) → fs.length ≤ (64 - lo).toNat
  | [], lo, _, _ => by simp
  | x :: fs, lo, hp, hr => by
    have h1 := hr x (by simp)
    have h2 := asc_len fs (x + 1) (List.pairwise_cons.1 hp).2 (fun y hy => ⟨by have := (List.pairwise_cons.1 hp).1 y hy; omega, (hr y (by simp [hy])).2⟩)
    rw [List.length_cons]
    omega

theorem IsC.len63 {V : Int} {fs : List Int} (h : IsC V fs) : fs.length ≤ 63 := by
  have := asc_len fs 1 h.asc h.range63
  omega

end Go.Proofs.Ytmkknfdjoajpcaa
