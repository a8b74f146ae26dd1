import Derived.Test.YtmkknfdjoajpcaaStepU
import Derived.Test.YtmkknfdjoajpcaaMathE
/-! The numbers from 1 to n that are wanted, ascending. -/
namespace Go.Proofs.Ytmkknfdjoajpcaa
open Go.RowKit

/-- The numbers from 1 to k of which p says yes. -/
def pickTo (p : Int → Bool) : Nat → List Int
  | 0 => []
  | k + 1 => pickTo p k ++ (if p ((k : Int) + 1) then [(k : Int) + 1] else [])

theorem pickTo_len (p : Int → Bool) : ∀ k, (pickTo p k).length ≤ k
  | 0 => by simp [pickTo]
  | k + 1 => by
    have := pickTo_len p k
    simp only [pickTo, List.length_append]
    split <;> simp <;> omega

theorem mem_pickTo {p : Int → Bool} {x : Int} : ∀ k : Nat, x ∈ pickTo p k ↔ 1 ≤ x ∧ x ≤ k ∧ p x = true
  | 0 => by simp [pickTo]; omega
  | k + 1 => by
    have ih := mem_pickTo (p := p) (x := x) k
    simp only [pickTo, List.mem_append, ih]
    constructor
    · rintro (⟨h1, h2, h3⟩ | h)
      · exact ⟨h1, by omega, h3⟩
      · split at h
        · rename_i hp
          simp at h
          subst h
          exact ⟨by omega, by omega, hp⟩
        · simp at h
    · rintro ⟨h1, h2, h3⟩
      by_cases he : x = (k : Int) + 1
      · subst he
        right
        rw [if_pos h3]; simp
      · exact .inl ⟨h1, by omega, h3⟩

theorem pickTo_asc (p : Int → Bool) : ∀ k : Nat, (pickTo p k).Pairwise (· < ·)
  | 0 => by simp [pickTo]
  | k + 1 => by
    simp only [pickTo]
    rw [List.pairwise_append]
    refine ⟨pickTo_asc p k, by split <;> simp, fun a ha b hb => ?_⟩
    have h1 := (mem_pickTo k).1 ha
    split at hb
    · simp at hb; omega
    · simp at hb

theorem pickTo_congr {p q : Int → Bool} : ∀ k : Nat, (∀ x : Int, 1 ≤ x → x ≤ k → p x = q x) → pickTo p k = pickTo q k
  | 0, _ => rfl
  | k + 1, h => by
    simp only [pickTo]
    rw [pickTo_congr k (fun x h1 h2 => h x h1 (by omega)), h ((k : Int) + 1) (by omega) (by omega)]

/-- Two ascending lists with the same members are one. -/
theorem asc_ext : ∀ {xs ys : List Int}, xs.Pairwise (· < ·) → ys.Pairwise (· < ·) → (∀ x, x ∈ xs ↔ x ∈ ys) → xs = ys
  | [], [], _, _, _ => rfl
  | [], y :: ys, _, _, h => absurd ((h y).2 (by simp)) (by simp)
  | x :: xs, [], _, _, h => absurd ((h x).1 (by simp)) (by simp)
  | x :: xs, y :: ys, hx, hy, h => by
    have hx' := List.pairwise_cons.1 hx
    have hy' := List.pairwise_cons.1 hy
    have hxy : x = y := by
      have h1 := (h x).1 (by simp)
      have h2 := (h y).2 (by simp)
      rcases List.mem_cons.1 h1 with h1 | h1
      · exact h1
      · rcases List.mem_cons.1 h2 with h2 | h2
        · exact h2.symm
        · have a := hy'.1 _ h1
          have b := hx'.1 _ h2
          omega
    subst hxy
    congr 1
    refine asc_ext hx'.2 hy'.2 fun z => ?_
    have hz := h z
    simp only [List.mem_cons] at hz
    constructor
    · intro hm
      rcases hz.1 (.inr hm) with rfl | h'
      · exact absurd (hx'.1 _ hm) (by omega)
      · exact h'
    · intro hm
      rcases hz.2 (.inr hm) with rfl | h'
      · exact absurd (hy'.1 _ hm) (by omega)
      · exact h'

end Go.Proofs.Ytmkknfdjoajpcaa
