import Derived.Test.YtmkknfdjoajpcaaBdM
/-! Pseudomanifolds, as mathematics. -/
namespace Go.Proofs.Ytmkknfdjoajpcaa
open Go.RowKit Go.Shelf

/-- The model's test. -/
def psB (fs : List Int) : Bool := if top fs < 0 then false else if pureB (facetsL fs) = false then false else if top fs = 0 then decide (fs.length = 2) else (ofDim fs (top fs - 1)).all fun x => decide ((aboveL fs x.toNat).length = 2)

/-- The program's. -/
def psI (F : List Int) : Bool := (arL F).all (fun x => decide ((arL F).count x = 2)) && (decide (0 < F.length) && pureB F)

theorem arL_verts : ∀ F : List Int, (∀ g ∈ F, 1 ≤ g ∧ g ≤ 63 ∧ ones g.toNat = 1) → arL F = List.replicate F.length 0
  | [], _ => rfl
  | g :: F, h => by
    have ih := arL_verts F (fun y hy => h y (by simp [hy]))
    have hg := h g (by simp)
    have e : arL (g :: F) = aroundOf g.toNat ++ arL F := by simp [arL]
    have hs : sideL g.toNat = [] := by
      rw [List.eq_nil_iff_forall_not_mem]
      intro x hx
      obtain ⟨p, rfl, h0, h1, h2⟩ := (mem_sideL (by omega)).1 hx
      have hle := and_le_left' _ _ h1
      have := ones_pos ⟨p, by omega⟩ h0
      simp only at this
      omega
    rw [e, ih]
    unfold aroundOf
    rw [hs, if_pos hg.2.2, List.length_cons, List.replicate_succ]
    rfl

theorem ps_eq {V : Int} {fs : List Int} (hC : IsC V fs) : psI (facetsL fs) = psB fs := by
  have hlo := top_lo fs
  by_cases hne : fs = []
  · subst hne; rfl
  · obtain ⟨x, hx, he⟩ := top_face hC hne
    have hxr := hC.range63 x hx
    have hox := ones_pos ⟨x.toNat, by omega⟩ (by show x.toNat ≠ 0; omega)
    simp only at hox
    have hxF := top_facet hx he
    unfold psI psB
    rw [if_neg (by omega), show decide (0 < (facetsL fs).length) = true from decide_eq_true (List.length_pos_of_mem hxF), Bool.true_and]
    by_cases hp : pureB (facetsL fs) = true
    · rw [hp, if_neg (by decide), Bool.and_true]
      have hpt := pure_top hC hp
      by_cases h0 : top fs = 0
      · rw [if_pos h0]
        have hall : facetsL fs = fs := by
          unfold facetsL
          rw [List.filter_eq_self]
          intro y hy
          have h1 := top_ge fs hy
          have hyr := hC.range63 y hy
          have hoy := ones_pos ⟨y.toNat, by omega⟩ (by show y.toNat ≠ 0; omega)
          simp only at hoy
          have := top_facet hy (by omega)
          unfold facetsL at this
          exact (List.mem_filter.1 this).2
        rw [hall] at hpt ⊢
        rw [arL_verts fs (fun g hg => ⟨(hC.range63 g hg).1, (hC.range63 g hg).2, by have := hpt g hg; omega⟩)]
        rw [Bool.eq_iff_iff, List.all_eq_true, decide_eq_true_eq]
        have hpos := List.length_pos_of_mem hx
        constructor
        · intro h
          have := of_decide_eq_true (h 0 (by simp; omega))
          simpa using this
        · intro h y hy
          have hy0 : y = 0 := (List.mem_replicate.1 hy).2
          subst hy0
          simpa using h
      · rw [if_neg h0]
        rw [Bool.eq_iff_iff, List.all_eq_true, List.all_eq_true]
        constructor
        · intro h y hy
          unfold ofDim at hy
          simp only [List.mem_filter, decide_eq_true_eq] at hy
          have hyt : (ones y.toNat : Int) = top fs := by omega
          have hca := count_above hC hp hy.1 hyt
          have hnot : y ∉ facetsL fs := fun hm => by have := hpt y hm; omega
          have hab : 0 < (aboveL fs y.toNat).length := by
            refine Nat.pos_of_ne_zero fun h0 => hnot ?_
            unfold facetsL
            exact List.mem_filter.2 ⟨hy.1, decide_eq_true h0⟩
          have hm : y ∈ arL (facetsL fs) := List.count_pos_iff.1 (by omega)
          have := of_decide_eq_true (h y hm)
          exact decide_eq_true (by omega)
        · intro h y hy
          obtain ⟨g, hg, hs | ⟨_, h1⟩⟩ := mem_arL.1 hy
          · have hgr := facetsL_range hC g hg
            have ht := hpt g hg
            obtain ⟨p, rfl, hp0, h2, h3⟩ := (mem_sideL (by omega)).1 hs
            have hpf := hC.closed g (List.mem_filter.1 hg).1 p hp0 h2
            have htp : (ones ((p : Int)).toNat : Int) = top fs := by rw [Int.toNat_natCast]; omega
            have hca := count_above hC hp hpf htp
            have := of_decide_eq_true (h (p : Int) (by unfold ofDim; simp only [List.mem_filter, decide_eq_true_eq]; exact ⟨hpf, by omega⟩))
            exact decide_eq_true (by omega)
          · have := hpt g hg
            omega
    · have hp' : pureB (facetsL fs) = false := by simpa using hp
      rw [hp', if_pos rfl, Bool.and_false]

/-- What IsPseudomanifold hands back. -/
noncomputable def isPsR (V : Int) (fs : List Int) : Bool × Int := if isCB V fs then (psB fs, 0) else (false, 1)

end Go.Proofs.Ytmkknfdjoajpcaa
