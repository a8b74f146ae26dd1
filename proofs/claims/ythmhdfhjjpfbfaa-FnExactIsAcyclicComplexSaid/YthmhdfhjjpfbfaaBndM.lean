import Derived.Test.YthmhdfhjjpfbfaaIterS
import Derived.Test.YthmhdfhjjpfbfaaFacesOf
import Derived.Test.YthmhdfhjjpfbfaaGaussM
/-! The rows of the boundaries, the mathematics. -/
namespace Go.Proofs.Ythmhdfhjjpfbfaa
open Go.RowKit

/-- The sign that a list has beside a side. -/
def coefAt (L : List (Fin 64 × Int)) (s : Nat) : Int := ((L.find? fun x => x.1.val == s).map Prod.snd).getD 0
/-- The row of some sides with their signs, with a column for each number of S. -/
def bndRow (S : List Int) (p : Int) (L : List (Fin 64 × Int)) : List Int := S.map fun s => (coefAt L s.toNat + p) % p
def bndM (fs : List Int) (d p : Int) : List (List Int) := (ofDim fs d).map fun f => bndRow (ofDim fs (d - 1)) p (signedF f.toNat)

theorem bndRow_len (S : List Int) (p : Int) (L : List (Fin 64 × Int)) : (bndRow S p L).length = S.length := by simp [bndRow]
theorem bndRow_nil (S : List Int) {p : Int} (hp : p = 2 ∨ p = 3) : bndRow S p [] = List.replicate S.length 0 := by
  unfold bndRow
  rw [List.map_congr_left (g := fun _ => (0 : Int)) (fun s _ => by rcases hp with rfl | rfl <;> simp [coefAt])]
  exact List.map_const' ..
theorem bndRow_rng (S : List Int) {p : Int} (hp : 0 < p) (L : List (Fin 64 × Int)) : ∀ x ∈ bndRow S p L, 0 ≤ x ∧ x < p := by
  intro x hx
  unfold bndRow at hx
  obtain ⟨s, _, rfl⟩ := List.mem_map.1 hx
  exact ⟨Int.emod_nonneg _ (by omega), Int.emod_lt_of_pos _ hp⟩

theorem coef_snoc {L : List (Fin 64 × Int)} {x : Fin 64 × Int} (hn : ∀ y ∈ L, y.1 ≠ x.1) (s : Nat) : coefAt (L ++ [x]) s = if x.1.val = s then x.2 else coefAt L s := by
  unfold coefAt
  rw [List.find?_append]
  by_cases h : x.1.val = s
  · have hN : L.find? (fun y => y.1.val == s) = none := by
      rw [List.find?_eq_none]
      intro y hy
      have := hn y hy
      simp
      intro e
      exact this (Fin.ext (by omega))
    rw [hN, if_pos h]
    simp [h]
  · rw [if_neg h]
    have : ([x].find? fun y => y.1.val == s) = none := by simp [h]
    rw [this]
    simp

theorem asc_inj {S : List Int} (hS : S.Pairwise (· < ·)) {i j : Nat} (hi : i < S.length) (hj : j < S.length) (h : S[i] = S[j]) : i = j := by
  rw [List.pairwise_iff_getElem] at hS
  rcases Nat.lt_trichotomy i j with h1 | h1 | h1
  · have := hS i j hi hj h1; omega
  · exact h1
  · have := hS j i hj hi h1; omega

/-- One side more. -/
theorem bndRow_snoc {S : List Int} {p : Int} {L : List (Fin 64 × Int)} {x : Fin 64 × Int} (hS : S.Pairwise (· < ·)) (h0 : ∀ s ∈ S, 0 ≤ s) (hn : ∀ y ∈ L, y.1 ≠ x.1) (hm : ((x.1.val : Nat) : Int) ∈ S) :
    bndRow S p (L ++ [x]) = (bndRow S p L).set (S.idxOf ((x.1.val : Nat) : Int)) ((x.2 + p) % p) := by
  have hk := List.idxOf_lt_length_of_mem hm
  have hat : S[S.idxOf ((x.1.val : Nat) : Int)] = ((x.1.val : Nat) : Int) := List.getElem_idxOf hk
  apply List.ext_getElem?
  intro i
  unfold bndRow
  by_cases hi : i < S.length
  · rw [List.getElem?_map, List.getElem?_eq_getElem hi]
    have hs0 := h0 _ (List.getElem_mem hi)
    simp only [Option.map_some]
    rw [coef_snoc hn]
    by_cases e : S.idxOf ((x.1.val : Nat) : Int) = i
    · subst e
      rw [List.getElem?_set_self (by simpa using hi), hat]
      simp
    · rw [List.getElem?_set_ne e, List.getElem?_map, List.getElem?_eq_getElem hi]
      simp only [Option.map_some]
      rw [if_neg (fun h => e ?_)]
      have he : S[i] = ((x.1.val : Nat) : Int) := by omega
      exact asc_inj hS hk hi (hat.trans he.symm)
  · rw [List.getElem?_eq_none (by simp; omega), List.getElem?_eq_none (by simp; omega)]

theorem signed_nodup : ∀ f : Fin 64, ((signedF f.val).map fun x => x.1).Nodup := by decide +kernel
theorem signed_sub : ∀ f : Fin 64, ∀ x ∈ signedF f.val, x.1.val ≠ 0 ∧ x.1.val &&& f.val = x.1.val ∧ ones x.1.val + 1 = ones f.val ∧ (x.2 = 1 ∨ x.2 = -1) := by decide +kernel
theorem signed_below : ∀ f : Fin 64, f.val ≠ 0 → (signedF f.val).reverse.map (fun x => ((x.1.val : Nat) : Int)) = belowR f.val 63 ∧ (signedF f.val).reverse.map Prod.snd = signL f.val := by decide +kernel
theorem coef_rev : ∀ f : Fin 64, ∀ s : Fin 64, coefAt (signedF f.val).reverse s.val = coefAt (signedF f.val) s.val := by decide +kernel

/-- A prefix with one more: the one more is new. -/
theorem nodup_snoc {α β : Type} {l pre : List α} {g : α → β} {x : α} (hn : (l.map g).Nodup) (hp : pre ++ [x] <+: l) : ∀ y ∈ pre, g y ≠ g x := by
  obtain ⟨t, rfl⟩ := hp
  simp only [List.map_append, List.map_cons, List.map_nil, List.append_assoc] at hn
  intro y hy e
  rw [List.nodup_append] at hn
  exact hn.2.2 (g y) (List.mem_map_of_mem hy) (g x) (by simp) e

theorem ofDim_mem {fs : List Int} {d x : Int} : x ∈ ofDim fs d ↔ x ∈ fs ∧ (ones x.toNat : Int) = d + 1 := by unfold ofDim; rw [List.mem_filter]; simp
theorem ofDim_asc {fs : List Int} (h : fs.Pairwise (· < ·)) (d : Int) : (ofDim fs d).Pairwise (· < ·) := h.filter _
theorem ofDim_len (fs : List Int) (d : Int) : (ofDim fs d).length ≤ fs.length := List.length_filter_le _ _

/-- The sides of a face of dimension d are faces of dimension d - 1. -/
theorem side_in {V : Int} {fs : List Int} (hC : IsC V fs) {d f : Int} (hf : f ∈ ofDim fs d) {x : Fin 64 × Int} (hx : x ∈ signedF f.toNat) : ((x.1.val : Nat) : Int) ∈ ofDim fs (d - 1) := by
  obtain ⟨hm, ho⟩ := ofDim_mem.1 hf
  have hr := hC.range63 f hm
  have hs := signed_sub ⟨f.toNat, by omega⟩ x hx
  simp only at hs
  rw [ofDim_mem]
  refine ⟨hC.closed f hm _ hs.1 hs.2.1, ?_⟩
  rw [Int.toNat_natCast]
  omega

theorem bndRow_rev {V : Int} {fs : List Int} (hC : IsC V fs) {f : Int} (hf : f ∈ fs) (d p : Int) : bndRow (ofDim fs d) p (signedF f.toNat).reverse = bndRow (ofDim fs d) p (signedF f.toNat) := by
  unfold bndRow
  refine List.map_congr_left (fun s hs => ?_)
  have h1 := hC.range63 f hf
  have h2 := hC.range63 s (ofDim_mem.1 hs).1
  have := coef_rev ⟨f.toNat, by omega⟩ ⟨s.toNat, by omega⟩
  simp only at this
  rw [this]

theorem bndM_good {fs : List Int} (d : Int) {p : Int} (hp : p = 2 ∨ p = 3) : MatG p (ofDim fs d).length (ofDim fs (d - 1)).length (bndM fs d p) := by
  refine ⟨by simp [bndM], fun row hrow => ?_, fun row hrow => ?_⟩
  · unfold bndM at hrow
    obtain ⟨f, _, rfl⟩ := List.mem_map.1 hrow
    exact bndRow_len _ _ _
  · unfold bndM at hrow
    obtain ⟨f, _, rfl⟩ := List.mem_map.1 hrow
    exact bndRow_rng _ (by rcases hp with h | h <;> omega) _

/-- The rank of dimension d. -/
def rankN (fs : List Int) (d p : Int) : Nat := elimR p (ofDim fs (d - 1)).length 0 0 (bndM fs d p)

theorem elim_nil (p : Int) (k r c : Nat) : elimR p k r c [] = r := elim_full k r c [] (by simp)
theorem rankN_none {fs : List Int} {d p : Int} (h : ofDim fs d = []) : rankN fs d p = 0 := by unfold rankN bndM; rw [h]; exact elim_nil _ _ _ _
theorem rankN_low {fs : List Int} {d p : Int} (h : ofDim fs (d - 1) = []) : rankN fs d p = 0 := by unfold rankN; rw [h]; rfl

end Go.Proofs.Ythmhdfhjjpfbfaa
