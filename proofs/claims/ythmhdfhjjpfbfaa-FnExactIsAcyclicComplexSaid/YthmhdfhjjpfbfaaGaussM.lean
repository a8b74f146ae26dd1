import Derived.Test.YthmhdfhjjpfbfaaGen
/-! Elimination modulo 2 or 3, the mathematics. -/
namespace Go.Proofs.Ythmhdfhjjpfbfaa
open Go.RowKit

/-- The entry of a matrix. -/
def ent (M : List (List Int)) (i j : Nat) : Int := (M[i]?.getD [])[j]?.getD 0
/-- A step is taken off a row so often that the row has 0 in column c. -/
def clr (p : Int) (c : Nat) (row own : List Int) : List Int := List.zipWith (fun a b => (a + (p - (row[c]?.getD 0 * own[c]?.getD 0) % p) * b) % p) row own
/-- Rows r and i change places. -/
def swapR (M : List (List Int)) (r i : Nat) : List (List Int) := (M.set r (M[i]?.getD [])).set i (M[r]?.getD [])
/-- The rows behind row r, up to row k, are cleared. -/
def sweepTo (p : Int) (c r k : Nat) (M : List (List Int)) : List (List Int) := M.mapIdx fun i row => if r < i ∧ i < k then clr p c row (M[r]?.getD []) else row
/-- The first row from r on that has no 0 in column c. -/
def firstNZ (M : List (List Int)) (r c : Nat) : Option Nat := (List.range M.length).find? fun i => decide (r ≤ i ∧ ent M i c ≠ 0)
/-- The rank: k columns are left. -/
def elimR (p : Int) : Nat → Nat → Nat → List (List Int) → Nat
  | 0, r, _, _ => r
  | k + 1, r, c, M => match firstNZ M r c with
    | none => elimR p k r (c + 1) M
    | some i => elimR p k (r + 1) (c + 1) (sweepTo p c r M.length (swapR M r i))

/-- n rows of w numbers from 0 to p - 1. -/
structure MatG (p : Int) (n w : Nat) (M : List (List Int)) : Prop where
  len : M.length = n
  wid : ∀ row ∈ M, row.length = w
  rng : ∀ row ∈ M, ∀ x ∈ row, 0 ≤ x ∧ x < p

theorem MatG.row {p : Int} {n w : Nat} {M : List (List Int)} (h : MatG p n w M) {i : Nat} (hi : i < n) : M[i]?.getD [] ∈ M := by
  have : i < M.length := by rw [h.len]; exact hi
  rw [List.getElem?_eq_getElem this]; simp
theorem MatG.rowLen {p : Int} {n w : Nat} {M : List (List Int)} (h : MatG p n w M) {i : Nat} (hi : i < n) : (M[i]?.getD []).length = w := h.wid _ (h.row hi)
theorem getD_memL {α : Type} {xs : List α} {d : α} {k : Nat} (h : k < xs.length) : xs[k]?.getD d ∈ xs := by rw [List.getElem?_eq_getElem h]; simp
theorem MatG.ent {p : Int} {n w : Nat} {M : List (List Int)} (h : MatG p n w M) {i j : Nat} (hi : i < n) (hj : j < w) : 0 ≤ ent M i j ∧ ent M i j < p :=
  h.rng _ (h.row hi) _ (getD_memL (by rw [h.rowLen hi]; exact hj))

theorem clr_len {p : Int} {c w : Nat} {row own : List Int} (h1 : row.length = w) (h2 : own.length = w) : (clr p c row own).length = w := by simp [clr, h1, h2]
theorem clr_rng {p : Int} {c : Nat} {row own : List Int} (hp : 0 < p) : ∀ x ∈ clr p c row own, 0 ≤ x ∧ x < p := by
  intro x hx
  unfold clr at hx
  rw [List.zipWith_eq_zipWith_take_min] at hx
  obtain ⟨i, hi, rfl⟩ := List.getElem_of_mem hx
  rw [List.getElem_zipWith]
  exact ⟨Int.emod_nonneg _ (by omega), Int.emod_lt_of_pos _ hp⟩
theorem clr_get {p : Int} {c w : Nat} {row own : List Int} (h1 : row.length = w) (h2 : own.length = w) {j : Nat} (hj : j < w) :
    (clr p c row own)[j]?.getD 0 = (row[j]?.getD 0 + (p - (row[c]?.getD 0 * own[c]?.getD 0) % p) * own[j]?.getD 0) % p := by
  unfold clr
  rw [List.getElem?_zipWith, List.getElem?_eq_getElem (by omega : j < row.length), List.getElem?_eq_getElem (by omega : j < own.length)]
  simp

theorem swapR_len (M : List (List Int)) (r i : Nat) : (swapR M r i).length = M.length := by simp [swapR]
theorem swapR_good {p : Int} {n w : Nat} {M : List (List Int)} (h : MatG p n w M) {r i : Nat} (hr : r < n) (hi : i < n) : MatG p n w (swapR M r i) := by
  have hmem : ∀ row ∈ swapR M r i, row ∈ M := by
    intro row hrow
    unfold swapR at hrow
    rcases List.mem_or_eq_of_mem_set hrow with h1 | h1
    · rcases List.mem_or_eq_of_mem_set h1 with h2 | h2
      · exact h2
      · rw [h2]; exact h.row hi
    · rw [h1]; exact h.row hr
  exact ⟨by rw [swapR_len]; exact h.len, fun row hrow => h.wid _ (hmem row hrow), fun row hrow => h.rng _ (hmem row hrow)⟩

theorem sweepTo_len (p : Int) (c r k : Nat) (M : List (List Int)) : (sweepTo p c r k M).length = M.length := by simp [sweepTo]
theorem sweepTo_get {p : Int} {c r k : Nat} {M : List (List Int)} {i : Nat} (hi : i < M.length) :
    (sweepTo p c r k M)[i]?.getD [] = if r < i ∧ i < k then clr p c (M[i]?.getD []) (M[r]?.getD []) else M[i]?.getD [] := by
  unfold sweepTo
  rw [List.getElem?_mapIdx, List.getElem?_eq_getElem hi]
  simp
theorem sweepTo_good {p : Int} {n w : Nat} {M : List (List Int)} (h : MatG p n w M) (hp : 0 < p) {c r k : Nat} (hr : r < n) : MatG p n w (sweepTo p c r k M) := by
  have hmem : ∀ row ∈ sweepTo p c r k M, row ∈ M ∨ ∃ row' ∈ M, row = clr p c row' (M[r]?.getD []) := by
    intro row hrow
    obtain ⟨i, hi, rfl⟩ := List.getElem_of_mem hrow
    rw [sweepTo_len] at hi
    have e := sweepTo_get (p := p) (c := c) (r := r) (k := k) hi
    rw [List.getElem?_eq_getElem (by rw [sweepTo_len]; exact hi)] at e
    simp only [Option.getD_some] at e
    rw [e]
    split
    · exact .inr ⟨_, h.row (by rw [← h.len]; exact hi), rfl⟩
    · exact .inl (h.row (by rw [← h.len]; exact hi))
  refine ⟨by rw [sweepTo_len]; exact h.len, fun row hrow => ?_, fun row hrow => ?_⟩
  · rcases hmem row hrow with h1 | ⟨row', h1, rfl⟩
    · exact h.wid _ h1
    · exact clr_len (h.wid _ h1) (h.rowLen hr)
  · rcases hmem row hrow with h1 | ⟨row', h1, rfl⟩
    · exact h.rng _ h1
    · exact clr_rng hp
/-- One row more. -/
theorem sweepTo_succ {p : Int} {c r k : Nat} {M : List (List Int)} (hr : r < k) :
    sweepTo p c r (k + 1) M = (sweepTo p c r k M).set k (clr p c (M[k]?.getD []) (M[r]?.getD [])) := by
  apply List.ext_getElem?
  intro i
  by_cases hi : i < M.length
  · by_cases hik : k = i
    · subst hik
      rw [List.getElem?_set_self (by rw [sweepTo_len]; exact hi)]
      have e := sweepTo_get (p := p) (c := c) (r := r) (k := k + 1) hi
      rw [List.getElem?_eq_getElem (by rw [sweepTo_len]; exact hi)] at e ⊢
      simp only [Option.getD_some] at e
      rw [e, if_pos (by omega)]
    · rw [List.getElem?_set_ne hik]
      have e1 := sweepTo_get (p := p) (c := c) (r := r) (k := k + 1) hi
      have e2 := sweepTo_get (p := p) (c := c) (r := r) (k := k) hi
      rw [List.getElem?_eq_getElem (by rw [sweepTo_len]; exact hi)] at e1 e2 ⊢
      rw [List.getElem?_eq_getElem (by rw [sweepTo_len]; exact hi)]
      simp only [Option.getD_some] at e1 e2
      rw [e1, e2]
      congr 1
      by_cases h : r < i ∧ i < k
      · rw [if_pos h, if_pos (by omega)]
      · rw [if_neg h, if_neg (by omega)]
  · rw [List.getElem?_eq_none (by rw [sweepTo_len]; omega), List.getElem?_eq_none (by rw [List.length_set, sweepTo_len]; omega)]
theorem sweepTo_none {p : Int} {c r k : Nat} {M : List (List Int)} (hk : k ≤ r + 1) : sweepTo p c r k M = M := by
  apply List.ext_getElem?
  intro i
  by_cases hi : i < M.length
  · have e := sweepTo_get (p := p) (c := c) (r := r) (k := k) hi
    rw [List.getElem?_eq_getElem (by rw [sweepTo_len]; exact hi), List.getElem?_eq_getElem hi] at *
    simp only [Option.getD_some] at e
    rw [e, if_neg (by omega)]
  · rw [List.getElem?_eq_none (by rw [sweepTo_len]; omega), List.getElem?_eq_none (by omega)]
/-- The pivot's row is left as it is. -/
theorem sweepTo_pivot {p : Int} {c r k : Nat} {M : List (List Int)} (hr : r < M.length) : (sweepTo p c r k M)[r]?.getD [] = M[r]?.getD [] := by
  rw [sweepTo_get hr, if_neg (by omega)]
theorem sweepTo_later {p : Int} {c r k : Nat} {M : List (List Int)} (hk : k < M.length) : (sweepTo p c r k M)[k]?.getD [] = M[k]?.getD [] := by
  rw [sweepTo_get hk, if_neg (by omega)]

theorem firstNZ_none {M : List (List Int)} {r c : Nat} (h : ∀ i, r ≤ i → i < M.length → ent M i c = 0) : firstNZ M r c = none := by
  unfold firstNZ
  rw [List.find?_eq_none]
  intro i hi
  have := h i
  simp at hi ⊢
  intro hr
  exact this hr hi
theorem firstNZ_some {M : List (List Int)} {r c i : Nat} (hr : r ≤ i) (hi : i < M.length) (hne : ent M i c ≠ 0) (h : ∀ i', r ≤ i' → i' < i → ent M i' c = 0) : firstNZ M r c = some i := by
  unfold firstNZ
  rw [List.find?_range_eq_some]
  refine ⟨by simp [hr, hne], by simpa using hi, ?_⟩
  intro j hj
  have := h j
  simp
  by_cases hrj : r ≤ j
  · exact .inr (this hrj hj)
  · exact .inl (by omega)
theorem elim_none {p : Int} {k r c : Nat} {M : List (List Int)} (h : ∀ i, r ≤ i → i < M.length → ent M i c = 0) : elimR p (k + 1) r c M = elimR p k r (c + 1) M := by
  rw [elimR, firstNZ_none h]
theorem elim_some {p : Int} {k r c i : Nat} {M : List (List Int)} (hr : r ≤ i) (hi : i < M.length) (hne : ent M i c ≠ 0) (h : ∀ i', r ≤ i' → i' < i → ent M i' c = 0) :
    elimR p (k + 1) r c M = elimR p k (r + 1) (c + 1) (sweepTo p c r M.length (swapR M r i)) := by
  rw [elimR, firstNZ_some hr hi hne h]
/-- All rows have been used: the rank stays. -/
theorem elim_full {p : Int} : ∀ (k r c : Nat) (M : List (List Int)), M.length ≤ r → elimR p k r c M = r
  | 0, _, _, _, _ => rfl
  | k + 1, r, c, M, h => by rw [elim_none (fun i h1 h2 => by omega)]; exact elim_full k r (c + 1) M h
theorem elim_le {p : Int} : ∀ (k r c : Nat) (M : List (List Int)), elimR p k r c M ≤ r + k
  | 0, _, _, _ => Nat.le_refl _
  | k + 1, r, c, M => by
    rw [elimR]
    split
    · have := elim_le (p := p) k r (c + 1) M; omega
    · rename_i i _
      have := elim_le (p := p) k (r + 1) (c + 1) (sweepTo p c r M.length (swapR M r i)); omega

/-- Rows from r on have zeros ahead of column c. -/
def ZerosTo (M : List (List Int)) (r c : Nat) : Prop := ∀ i j, r ≤ i → i < M.length → j < c → ent M i j = 0

theorem clear_one {p a b : Int} (hp : p = 2 ∨ p = 3) (ha0 : 0 ≤ a) (ha : a < p) (hb0 : 0 ≤ b) (hb : b < p) (hne : b ≠ 0) : (a + (p - (a * b) % p) * b) % p = 0 := by
  rcases hp with rfl | rfl
  · have : a = 0 ∨ a = 1 := by omega
    have : b = 1 := by omega
    subst this
    rcases ‹a = 0 ∨ a = 1› with rfl | rfl <;> decide
  · have h1 : a = 0 ∨ a = 1 ∨ a = 2 := by omega
    have h2 : b = 1 ∨ b = 2 := by omega
    rcases h1 with rfl | rfl | rfl <;> rcases h2 with rfl | rfl <;> decide

end Go.Proofs.Ythmhdfhjjpfbfaa
