import Derived.Test.YtmkknfdjoajpcaaAround
import Derived.Test.YtmkknfdjoajpcaaPure
import Derived.Test.YtmkknfdjoajpcaaDim
/-! Boundaries of pure complexes, as mathematics. -/
namespace Go.Proofs.Ytmkknfdjoajpcaa
open Go.RowKit Go.Shelf

theorem side_fin : ∀ g x : Fin 64, (x ∈ sidesF g.val) ↔ x.val ≠ 0 ∧ x.val &&& g.val = x.val ∧ ones g.val = ones x.val + 1 := by decide +kernel
theorem side_nodup : ∀ g : Fin 64, (sidesF g.val).Nodup := by decide +kernel

theorem mem_sideL {g : Nat} (hg : g < 64) {x : Int} : x ∈ sideL g ↔ ∃ p : Nat, x = p ∧ p ≠ 0 ∧ p &&& g = p ∧ ones g = ones p + 1 := by
  unfold sideL
  rw [List.mem_map]
  constructor
  · rintro ⟨p, hp, rfl⟩
    exact ⟨p.val, rfl, (side_fin ⟨g, hg⟩ p).1 hp⟩
  · rintro ⟨p, rfl, h0, h1, h2⟩
    have hle := and_le_left' _ _ h1
    exact ⟨⟨p, by omega⟩, (side_fin ⟨g, hg⟩ ⟨p, by omega⟩).2 ⟨h0, h1, h2⟩, rfl⟩

theorem sideL_nodup {g : Nat} (hg : g < 64) : (sideL g).Nodup := by
  unfold sideL
  refine List.pairwise_map.2 ((side_nodup ⟨g, hg⟩).imp fun {a b} hne e => hne ?_)
  exact Fin.ext (by omega)

theorem count_around {g : Nat} (hg : g < 64) {x : Int} (hx : x ≠ 0) : (aroundOf g).count x = if x ∈ sideL g then 1 else 0 := by
  unfold aroundOf
  rw [List.count_append]
  have h0 : (if ones g = 1 then [(0 : Int)] else []).count x = 0 := by
    split
    · rw [List.count_eq_zero]; simpa using hx
    · simp
  rw [h0, Nat.add_zero]
  split
  · next h => rw [(sideL_nodup hg).count, if_pos h]
  · next h => exact List.count_eq_zero.2 h

theorem count_arL {x : Int} (hx : x ≠ 0) : ∀ F : List Int, (∀ g ∈ F, 1 ≤ g ∧ g ≤ 63) → (arL F).count x = (F.filter fun g => decide (x ∈ sideL g.toNat)).length
  | [], _ => by simp [arL]
  | g :: F, h => by
    have ih := count_arL hx F (fun y hy => h y (by simp [hy]))
    have hg := h g (by simp)
    have e : arL (g :: F) = aroundOf g.toNat ++ arL F := by simp [arL]
    rw [e, List.count_append, count_around (by omega) hx, ih, List.filter_cons]
    by_cases hm : x ∈ sideL g.toNat
    · simp [hm]; omega
    · simp [hm]

theorem mem_arL {F : List Int} {x : Int} : x ∈ arL F ↔ ∃ g ∈ F, x ∈ sideL g.toNat ∨ (x = 0 ∧ ones g.toNat = 1) := by
  unfold arL
  rw [List.mem_flatMap]
  constructor
  · rintro ⟨g, hg, h⟩
    refine ⟨g, hg, ?_⟩
    unfold aroundOf at h
    rcases List.mem_append.1 h with h | h
    · exact .inl h
    · split at h
      · next h1 => exact .inr ⟨by simpa using h, h1⟩
      · simp at h
  · rintro ⟨g, hg, h⟩
    refine ⟨g, hg, ?_⟩
    unfold aroundOf
    rcases h with h | ⟨rfl, h1⟩
    · exact List.mem_append.2 (.inl h)
    · exact List.mem_append.2 (.inr (by rw [if_pos h1]; simp))

theorem top_att : ∀ (fs : List Int) (m : Int), fs.foldl (fun m x => more m ((ones x.toNat : Int) - 1)) m = m ∨ ∃ x ∈ fs, (ones x.toNat : Int) - 1 = fs.foldl (fun m x => more m ((ones x.toNat : Int) - 1)) m
  | [], m => .inl rfl
  | y :: fs, m => by
    rw [List.foldl_cons]
    rcases top_att fs (more m ((ones y.toNat : Int) - 1)) with h | ⟨x, hx, h⟩
    · rw [h]
      unfold more
      split
      · exact .inr ⟨y, by simp, rfl⟩
      · exact .inl rfl
    · exact .inr ⟨x, by simp [hx], h⟩

theorem top_face {V : Int} {fs : List Int} (hC : IsC V fs) (hne : fs ≠ []) : ∃ x ∈ fs, (ones x.toNat : Int) - 1 = top fs := by
  rcases top_att fs (-1) with h | h
  · exfalso
    obtain ⟨y, hy⟩ := List.exists_mem_of_ne_nil fs hne
    have h1 := top_ge fs hy
    have hr := hC.range63 y hy
    have h2 := ones_pos ⟨y.toNat, by omega⟩ (by show y.toNat ≠ 0; omega)
    simp only at h2
    unfold top at h1
    omega
  · exact h

theorem top_facet {fs : List Int} {g : Int} (hg : g ∈ fs) (h : (ones g.toNat : Int) - 1 = top fs) : g ∈ facetsL fs := by
  unfold facetsL
  rw [List.mem_filter]
  refine ⟨hg, decide_eq_true ?_⟩
  rw [List.length_eq_zero_iff]
  unfold aboveL
  rw [List.filter_eq_nil_iff]
  intro y hy hd
  have hd' := of_decide_eq_true hd
  have := top_ge fs hy
  omega

theorem pure_top {V : Int} {fs : List Int} (hC : IsC V fs) (hp : pureB (facetsL fs) = true) : ∀ g ∈ facetsL fs, (ones g.toNat : Int) - 1 = top fs := by
  intro g hg
  have hgf := (List.mem_filter.1 hg).1
  obtain ⟨x, hx, he⟩ := top_face hC (fun h => by rw [h] at hgf; simp at hgf)
  have hxF := top_facet hx he
  unfold pureB at hp
  rw [List.all_eq_true] at hp
  have h1 := of_decide_eq_true (hp g hg)
  have h2 := of_decide_eq_true (hp x hxF)
  omega

/-- In how many facets a face of the second dimension is. -/
theorem count_above {V : Int} {fs : List Int} (hC : IsC V fs) (_hp : pureB (facetsL fs) = true) {x : Int} (hx : x ∈ fs) (ht : (ones x.toNat : Int) = top fs) : (arL (facetsL fs)).count x = (aboveL fs x.toNat).length := by
  have hxr := hC.range63 x hx
  rw [count_arL (by omega) _ (facetsL_range hC)]
  unfold facetsL aboveL
  rw [List.filter_filter]
  congr 1
  refine List.filter_congr fun g hg => ?_
  have hgr := hC.range63 g hg
  rw [Bool.eq_iff_iff, Bool.and_eq_true]
  simp only [decide_eq_true_eq]
  constructor
  · rintro ⟨h1, _⟩
    obtain ⟨p, rfl, h0, h2, h3⟩ := (mem_sideL (by omega)).1 h1
    rw [Int.toNat_natCast]
    exact ⟨by rw [Nat.and_comm]; exact h2, h3⟩
  · rintro ⟨h1, h2⟩
    refine ⟨(mem_sideL (by omega)).2 ⟨x.toNat, by omega, by omega, by rw [Nat.and_comm]; exact h1, h2⟩, ?_⟩
    have := top_facet hg (by omega)
    unfold facetsL at this
    exact of_decide_eq_true (List.mem_filter.1 this).2

/-- The faces that make the boundary. -/
def bdT (fs : List Int) : List Int := (ofDim fs (top fs - 1)).filter fun x => decide ((aboveL fs x.toNat).length = 1)

theorem mem_bdT {V : Int} {fs : List Int} (hC : IsC V fs) (hp : pureB (facetsL fs) = true) {x : Int} (hx : 1 ≤ x) : x ∈ bdT fs ↔ x ∈ arL (facetsL fs) ∧ (arL (facetsL fs)).count x = 1 := by
  unfold bdT ofDim
  simp only [List.mem_filter, decide_eq_true_eq]
  constructor
  · rintro ⟨⟨hm, ht⟩, ha⟩
    have hc := count_above hC hp hm (by omega)
    exact ⟨List.count_pos_iff.1 (by omega), by omega⟩
  · rintro ⟨hm, hc⟩
    obtain ⟨g, hg, h | ⟨h, _⟩⟩ := mem_arL.1 hm
    · have hgr := facetsL_range hC g hg
      have ht := pure_top hC hp g hg
      obtain ⟨p, rfl, h0, h2, h3⟩ := (mem_sideL (by omega)).1 h
      have hpf := hC.closed g (List.mem_filter.1 hg).1 p h0 h2
      have htp : (ones ((p : Int)).toNat : Int) = top fs := by rw [Int.toNat_natCast]; omega
      have := count_above hC hp hpf htp
      exact ⟨⟨hpf, by rw [Int.toNat_natCast] at htp ⊢; omega⟩, by omega⟩
    · omega

theorem arL_range {V : Int} {fs : List Int} (hC : IsC V fs) {x : Int} (hx : x ∈ arL (facetsL fs)) : 0 ≤ x ∧ x ≤ allV V := by
  obtain ⟨g, hg, h | ⟨rfl, _⟩⟩ := mem_arL.1 hx
  · have hgr := facetsL_range hC g hg
    have hgv := hC.range g (List.mem_filter.1 hg).1
    obtain ⟨p, rfl, h0, h2, h3⟩ := (mem_sideL (by omega)).1 h
    have := and_le_left' _ _ h2
    omega
  · have hgv := hC.range g (List.mem_filter.1 hg).1
    omega

theorem made_bd {V : Int} {fs S : List Int} (hC : IsC V fs) (hp : pureB (facetsL fs) = true) (hS : ∀ x, x ∈ S ↔ x ∈ arL (facetsL fs) ∧ (arL (facetsL fs)).count x = 1) : madeL V S = madeL V (bdT fs) := by
  unfold madeL
  refine pickTo_congr _ fun z h1 h2 => ?_
  unfold madeP
  rw [Bool.eq_iff_iff, List.any_eq_true, List.any_eq_true]
  constructor
  · rintro ⟨s, hs, hd⟩
    have hs' := (hS s).1 hs
    have hr := arL_range hC hs'.1
    refine ⟨s, (mem_bdT hC hp ?_).2 hs', hd⟩
    have hd' := of_decide_eq_true hd
    by_cases h0 : s = 0
    · subst h0; simp at hd'; omega
    · omega
  · rintro ⟨s, hs, hd⟩
    have hsf : s ∈ fs := by unfold bdT ofDim at hs; exact (List.mem_filter.1 (List.mem_filter.1 hs).1).1
    have hr := hC.range63 s hsf
    exact ⟨s, (hS s).2 ((mem_bdT hC hp hr.1).1 hs), hd⟩

/-- What BoundaryComplex hands back. -/
noncomputable def bdR (V : Int) (fs : List Int) : Int × List Int × Int := if isCB V fs then (if pureB (facetsL fs) then (V, madeL V (bdT fs), 0) else (0, [], 5)) else (0, [], 1)

theorem bdR_len (V : Int) (fs : List Int) (_ : fs.length ≤ 1048576) : (bdR V fs).2.1.length ≤ 1048576 := by
  unfold bdR
  split
  · next h =>
    split
    · have h6 := (isCB_iff.1 h).hi
      have h1 := allV_le h6
      have h2 := pickTo_len (madeP (bdT fs)) (allV V).toNat
      show (madeL V (bdT fs)).length ≤ 1048576
      unfold madeL
      omega
    · simp
  · simp

end Go.Proofs.Ytmkknfdjoajpcaa
