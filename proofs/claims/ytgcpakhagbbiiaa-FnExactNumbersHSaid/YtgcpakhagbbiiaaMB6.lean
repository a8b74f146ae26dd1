import Derived.Deep.RegionLaw
import Derived.Lib.SliceRun
import Derived.Test.YtgcpakhagbbiiaaMB1
import Derived.Test.YtgcpakhagbbiiaaMB2
import Derived.Test.YtgcpakhagbbiiaaMB3
import Derived.Test.YtgcpakhagbbiiaaMB4
import Derived.Test.YtgcpakhagbbiiaaMB5
/-! The order of a pairing: groups put down one after the other, each when all faces below are there. It takes in all faces exactly if the pairing is acyclic. -/
namespace Go.Proofs.Ytgcpakhagbbiiaa
open Go.RowKit

theorem clash_commO (a b c d : Int) : clashB a b c d = clashB c d a b := by
  cases h : clashB c d a b
  · rw [clash_iff] at h ⊢
    exact ⟨Ne.symm h.1, Ne.symm h.2.2.1, Ne.symm h.2.1, Ne.symm h.2.2.2⟩
  · cases h2 : clashB a b c d
    · rw [clash_iff] at h2
      have : clashB c d a b = false := clash_iff.2 ⟨Ne.symm h2.1, Ne.symm h2.2.2.1, Ne.symm h2.2.1, Ne.symm h2.2.2.2⟩
      rw [this] at h; cases h
    · rfl
theorem below_ones : ∀ f : Fin 64, (belowR f.val 63).all (fun y => decide (1 ≤ y ∧ y ≤ 63 ∧ ones y.toNat + 1 = ones f.val)) = true := by decide +kernel
theorem below_one {f y : Int} (hf : 0 ≤ f ∧ f < 64) (h : y ∈ belowR f.toNat 63) : 1 ≤ y ∧ y ≤ 63 ∧ ones y.toNat + 1 = ones f.toNat := by
  have := List.all_eq_true.1 (below_ones ⟨f.toNat, by omega⟩) y h
  simpa using this
theorem below_mem {V : Int} {fs : List Int} (hC : IsC V fs) {x y : Int} (hx : x ∈ fs) (h : y ∈ belowR x.toNat 63) : y ∈ fs := by
  obtain ⟨j, hj, rfl⟩ := List.getElem_of_mem hx
  refine isC_looks_below hC hj ?_
  rw [List.getElem?_eq_getElem hj]
  exact h

/-- The group of a face that is no high one. -/
def grpL (ps : List Int) (n : Nat) (f : Int) : List Int := if highOf ps n f = 0 then [f] else [f, highOf ps n f]
def isHighB (ps : List Int) (n : Nat) (f : Int) : Bool := (List.range n).any fun j => decide (at0 ps (j * 2 + 1) = f)
theorem isHighB_iff {ps : List Int} {n : Nat} {f : Int} : isHighB ps n f = true ↔ ∃ j, j < n ∧ at0 ps (j * 2 + 1) = f := by
  unfold isHighB
  simp
/-- The group can follow. -/
def readyB (ps : List Int) (n : Nat) (L : List Int) (f : Int) : Bool := !decide (f ∈ L) && !isHighB ps n f && (grpL ps n f).all fun m => (belowR m.toNat 63).all fun b => decide (b ∈ L) || decide (b = f)
def nextF (fs ps : List Int) (n : Nat) (L : List Int) : Option Int := fs.find? (readyB ps n L)
def stepO (fs ps : List Int) (n : Nat) (L : List Int) : List Int := match nextF fs ps n L with
  | some f => L ++ grpL ps n f
  | none => L
def ordN (fs ps : List Int) (n : Nat) : Nat → List Int
  | 0 => []
  | k + 1 => stepO fs ps n (ordN fs ps n k)

/-- What holds of the faces that have been put down. -/
structure InvO (fs ps : List Int) (n : Nat) (L : List Int) : Prop where
  nodup : L.Nodup
  sub : ∀ x ∈ L, x ∈ fs
  both : ∀ i, i < n → (at0 ps (i * 2) ∈ L ↔ at0 ps (i * 2 + 1) ∈ L)
  ord : ∃ L0, Ordered ps n L0 ∧ (∀ i ∈ L0, i < n) ∧ ∀ i, i < n → (at0 ps (i * 2) ∈ L ↔ i ∈ L0)

section
variable {V : Int} {fs ps : List Int} {n : Nat}

theorem pair_facts (hC : IsC V fs) (hO : OkTo fs ps n) {i : Nat} (hi : i < n) : at0 ps (i * 2) ∈ fs ∧ at0 ps (i * 2 + 1) ∈ fs ∧ ones (at0 ps (i * 2 + 1)).toNat = ones (at0 ps (i * 2)).toNat + 1 ∧ (1 ≤ at0 ps (i * 2) ∧ at0 ps (i * 2) ≤ 63) ∧ (1 ≤ at0 ps (i * 2 + 1) ∧ at0 ps (i * 2 + 1) ≤ 63) := by
  have h := (hO i hi).1
  unfold pairB at h
  simp at h
  exact ⟨h.1.1.1, h.1.1.2, h.2, hC.range63 _ h.1.1.1, hC.range63 _ h.1.1.2⟩
theorem clash_all (hO : OkTo fs ps n) {i j : Nat} (hi : i < n) (hj : j < n) (hij : i ≠ j) : clashB (at0 ps (i * 2)) (at0 ps (i * 2 + 1)) (at0 ps (j * 2)) (at0 ps (j * 2 + 1)) = false := by
  rcases Nat.lt_or_ge j i with h | h
  · exact (hO i hi).2.2 j h
  · rw [clash_commO]
    exact (hO j hj).2.2 i (by omega)
/-- No low face is a high one. -/
theorem low_not_high (hC : IsC V fs) (hO : OkTo fs ps n) {i j : Nat} (hi : i < n) (hj : j < n) : at0 ps (i * 2) ≠ at0 ps (j * 2 + 1) := by
  by_cases e : i = j
  · subst e
    intro h
    have := (pair_facts hC hO hi).2.2.1
    rw [← h] at this
    omega
  · have := clash_iff.1 (clash_all hO hi hj e)
    exact this.2.1
theorem high_inj (hO : OkTo fs ps n) {i j : Nat} (hi : i < n) (hj : j < n) (h : at0 ps (i * 2 + 1) = at0 ps (j * 2 + 1)) : i = j := Classical.byContradiction fun e => (clash_iff.1 (clash_all hO hi hj e)).2.2.2 h
theorem low_inj (hO : OkTo fs ps n) {i j : Nat} (hi : i < n) (hj : j < n) (h : at0 ps (i * 2) = at0 ps (j * 2)) : i = j := Classical.byContradiction fun e => (clash_iff.1 (clash_all hO hi hj e)).1 h
theorem high_low (_hC : IsC V fs) (hO : OkTo fs ps n) {i : Nat} (hi : i < n) : highOf ps n (at0 ps (i * 2)) = at0 ps (i * 2 + 1) :=
  highOf_some hi rfl (fun j hj e => absurd (low_inj hO (by omega) hi e) (by omega))
theorem grp_low (hC : IsC V fs) (hO : OkTo fs ps n) {i : Nat} (hi : i < n) : grpL ps n (at0 ps (i * 2)) = [at0 ps (i * 2), at0 ps (i * 2 + 1)] := by
  unfold grpL
  rw [high_low hC hO hi, if_neg (by have := (pair_facts hC hO hi).2.2.2.2; omega)]
theorem grp_crit {f : Int} (h : ∀ i, i < n → at0 ps (i * 2) ≠ f) : grpL ps n f = [f] := by
  unfold grpL
  rw [highOf_none h, if_pos rfl]
theorem step_mem (hC : IsC V fs) (hO : OkTo fs ps n) {i : Nat} (hi : i < n) {b : Int} : b ∈ nextL ps n (at0 ps (i * 2)) ↔ b ∈ belowR (at0 ps (i * 2 + 1)).toNat 63 ∧ b ≠ at0 ps (i * 2) := by
  unfold nextL
  rw [high_low hC hO hi, if_neg (by have := (pair_facts hC hO hi).2.2.2.2; omega)]
  simp

theorem ready_iff {L : List Int} {f : Int} : readyB ps n L f = true ↔ f ∉ L ∧ isHighB ps n f = false ∧ ∀ m ∈ grpL ps n f, ∀ b ∈ belowR m.toNat 63, b ∈ L ∨ b = f := by
  unfold readyB
  simp [List.all_eq_true, and_assoc]

theorem InvO.start (fs ps : List Int) (n : Nat) : InvO fs ps n [] := ⟨by simp, by simp, by simp, [], Ordered.nil ps n, by simp, by simp⟩
theorem InvO.step (hC : IsC V fs) (hO : OkTo fs ps n) {L : List Int} (h : InvO fs ps n L) {f : Int} (hf : f ∈ fs) (hr : readyB ps n L f = true) : InvO fs ps n (L ++ grpL ps n f) := by
  obtain ⟨r1, r2, r3⟩ := ready_iff.1 hr
  by_cases hex : ∃ i, i < n ∧ at0 ps (i * 2) = f
  · obtain ⟨i, hi, rfl⟩ := hex
    obtain ⟨m1, m2, m3, _, _⟩ := pair_facts hC hO hi
    have hne : at0 ps (i * 2) ≠ at0 ps (i * 2 + 1) := low_not_high hC hO hi hi
    have hhL : at0 ps (i * 2 + 1) ∉ L := fun e => r1 ((h.both i hi).2 e)
    rw [grp_low hC hO hi] at r3 ⊢
    obtain ⟨L0, o1, o2, o3⟩ := h.ord
    have hiL0 : i ∉ L0 := fun e => r1 ((o3 i hi).2 e)
    refine ⟨?_, ?_, ?_, L0 ++ [i], ?_, ?_, ?_⟩
    · rw [List.nodup_append]
      refine ⟨h.nodup, by simp [hne], ?_⟩
      intro a ha b hb e
      subst e
      simp at hb
      rcases hb with rfl | rfl
      · exact r1 ha
      · exact hhL ha
    · intro x hx
      rcases List.mem_append.1 hx with hx | hx
      · exact h.sub x hx
      · simp at hx
        rcases hx with rfl | rfl
        · exact m1
        · exact m2
    · intro j hj
      by_cases e : j = i
      · subst e; simp
      · have c := clash_iff.1 (clash_all hO hj hi e)
        have d1 := low_not_high hC hO hj hi
        have d2 := low_not_high hC hO hi hj
        simp only [List.mem_append, List.mem_cons, List.not_mem_nil, or_false]
        rw [h.both j hj]
        constructor
        · rintro (h1 | h1 | h1)
          · exact .inl h1
          · exact absurd h1 c.1
          · exact absurd h1 d1
        · rintro (h1 | h1 | h1)
          · exact .inl h1
          · exact absurd h1.symm d2
          · exact absurd h1 c.2.2.2
    · refine o1.snoc (fun j hj hs => ?_)
      unfold StepP at hs
      obtain ⟨s1, s2⟩ := (step_mem hC hO hi).1 hs
      rcases r3 _ (by simp) _ s1 with h1 | h1
      · exact (o3 j hj).1 h1
      · exact absurd h1 s2
    · intro j hj
      rcases List.mem_append.1 hj with hj | hj
      · exact o2 j hj
      · simp at hj; omega
    · intro j hj
      simp only [List.mem_append, List.mem_cons, List.not_mem_nil, or_false]
      rw [o3 j hj]
      constructor
      · rintro (h1 | h1 | h1)
        · exact .inl h1
        · exact .inr (low_inj hO hj hi h1)
        · exact absurd h1 (low_not_high hC hO hj hi)
      · rintro (h1 | h1)
        · exact .inl h1
        · subst h1; exact .inr (.inl rfl)
  · have hno : ∀ i, i < n → at0 ps (i * 2) ≠ f := fun i hi e => hex ⟨i, hi, e⟩
    have hnh : ∀ i, i < n → at0 ps (i * 2 + 1) ≠ f := fun i hi e => by
      have := isHighB_iff.2 ⟨i, hi, e⟩
      rw [r2] at this
      cases this
    rw [grp_crit hno]
    obtain ⟨L0, o1, o2, o3⟩ := h.ord
    refine ⟨?_, ?_, ?_, L0, o1, o2, ?_⟩
    · rw [List.nodup_append]
      exact ⟨h.nodup, by simp, fun a ha b hb e => by simp at hb; subst e; subst hb; exact r1 ha⟩
    · intro x hx
      rcases List.mem_append.1 hx with hx | hx
      · exact h.sub x hx
      · simp at hx; subst hx; exact hf
    · intro j hj
      simp only [List.mem_append, List.mem_cons, List.not_mem_nil, or_false]
      rw [h.both j hj]
      constructor
      · rintro (h1 | h1)
        · exact .inl h1
        · exact absurd h1 (hno j hj)
      · rintro (h1 | h1)
        · exact .inl h1
        · exact absurd h1 (hnh j hj)
    · intro j hj
      simp only [List.mem_append, List.mem_cons, List.not_mem_nil, or_false]
      rw [o3 j hj]
      exact ⟨fun h1 => h1.elim id (fun e => absurd e (hno j hj)), .inl⟩

/-- Among some pairs of an acyclic pairing there is one whose steps lead to none of them. -/
theorem last_pair (hc : NoCycle ps n) (T : Nat → Prop) {i0 : Nat} (h0 : i0 < n) (ht : T i0) : ∃ i, i < n ∧ T i ∧ ∀ j, j < n → StepP ps n i j → ¬ T j := by
  refine Classical.byContradiction fun hno => ?_
  have hL : ∀ i, i ∈ (List.range n).filter (fun i => @decide (¬ T i) (Classical.propDecidable _)) ↔ i < n ∧ ¬ T i := by
    intro i
    rw [List.mem_filter]
    simp
  have := acyclic_settled (L := (List.range n).filter (fun i => @decide (¬ T i) (Classical.propDecidable _))) hc (fun i hi hn => by
    have hTi : T i := Classical.byContradiction fun h => hn ((hL i).2 ⟨hi, h⟩)
    refine Classical.byContradiction fun hno2 => hno ⟨i, hi, hTi, fun j hj hs hTj => hno2 ⟨j, hj, hs, fun hm => ((hL j).1 hm).2 hTj⟩⟩) i0 h0
  exact ((hL i0).1 this).2 ht

/-- The least of some numbers of vertices. -/
theorem least_ones (S : Int → Prop) {f : Int} (hf : S f) : ∃ g, S g ∧ ∀ h, S h → ones g.toNat ≤ ones h.toNat := by
  obtain ⟨d, hd⟩ : ∃ d, d = ones f.toNat := ⟨_, rfl⟩
  induction d using Nat.strongRecOn generalizing f with
  | _ d ih =>
    by_cases hex : ∃ h, S h ∧ ones h.toNat < ones f.toNat
    · obtain ⟨h, hs, hlt⟩ := hex
      exact ih _ (by omega) hs rfl
    · exact ⟨f, hf, fun h hs => Nat.le_of_not_lt fun hlt => hex ⟨h, hs, hlt⟩⟩

/-- As long as faces are left, a group can follow, if the pairing is acyclic. -/
theorem ready_ex (hC : IsC V fs) (hO : OkTo fs ps n) (hc : NoCycle ps n) {L : List Int} (h : InvO fs ps n L) {x : Int} (hx : x ∈ fs) (hxL : x ∉ L) : ∃ f ∈ fs, readyB ps n L f = true := by
  have hS : ∃ f, f ∈ fs ∧ f ∉ L ∧ isHighB ps n f = false := by
    cases hb : isHighB ps n x
    · exact ⟨x, hx, hxL, hb⟩
    · obtain ⟨j, hj, rfl⟩ := isHighB_iff.1 hb
      refine ⟨at0 ps (j * 2), (pair_facts hC hO hj).1, fun e => hxL ((h.both j hj).1 e), ?_⟩
      cases hb2 : isHighB ps n (at0 ps (j * 2))
      · rfl
      · obtain ⟨k, hk, e⟩ := isHighB_iff.1 hb2
        exact absurd e.symm (low_not_high hC hO hj hk)
  obtain ⟨f0, hf0⟩ := hS
  obtain ⟨g, ⟨g1, g2, g3⟩, gmin⟩ := least_ones (fun f => f ∈ fs ∧ f ∉ L ∧ isHighB ps n f = false) hf0
  -- what is below a face and not there has an owner with few vertices
  have own : ∀ b, b ∈ fs → b ∉ L → (∃ j, j < n ∧ at0 ps (j * 2 + 1) = b ∧ ones b.toNat = ones (at0 ps (j * 2)).toNat + 1 ∧ ones g.toNat ≤ ones (at0 ps (j * 2)).toNat) ∨ (isHighB ps n b = false ∧ ones g.toNat ≤ ones b.toNat) := by
    intro b hb hbL
    cases hbh : isHighB ps n b
    · exact .inr ⟨rfl, gmin b ⟨hb, hbL, hbh⟩⟩
    · obtain ⟨j, hj, rfl⟩ := isHighB_iff.1 hbh
      refine .inl ⟨j, hj, rfl, (pair_facts hC hO hj).2.2.1, gmin _ ⟨(pair_facts hC hO hj).1, fun e => hbL ((h.both j hj).1 e), ?_⟩⟩
      cases hb2 : isHighB ps n (at0 ps (j * 2))
      · rfl
      · obtain ⟨k, hk, e⟩ := isHighB_iff.1 hb2
        exact absurd e.symm (low_not_high hC hO hj hk)
  have low : ∀ f, f ∈ fs → ones f.toNat = ones g.toNat → ∀ b ∈ belowR f.toNat 63, b ∈ L := by
    intro f hf he b hb
    have hr := hC.range63 f hf
    have hbo := below_one (by omega) hb
    refine Classical.byContradiction fun hbL => ?_
    rcases own b (below_mem hC hf hb) hbL with ⟨j, hj, _, e2, e3⟩ | ⟨_, e3⟩
    · omega
    · omega
  by_cases hcr : ∃ f, f ∈ fs ∧ f ∉ L ∧ isHighB ps n f = false ∧ ones f.toNat = ones g.toNat ∧ ∀ i, i < n → at0 ps (i * 2) ≠ f
  · obtain ⟨f, f1, f2, f3, f4, f5⟩ := hcr
    refine ⟨f, f1, ready_iff.2 ⟨f2, f3, ?_⟩⟩
    rw [grp_crit f5]
    intro m hm b hb
    simp at hm
    subst hm
    exact .inl (low m f1 f4 b hb)
  · have hgl : ∃ i, i < n ∧ at0 ps (i * 2) = g := Classical.byContradiction fun hno => hcr ⟨g, g1, g2, g3, rfl, fun i hi e => hno ⟨i, hi, e⟩⟩
    obtain ⟨i0, hi0, rfl⟩ := hgl
    obtain ⟨i, hi, ⟨t1, t2⟩, t3⟩ := last_pair hc (fun i => at0 ps (i * 2) ∉ L ∧ ones (at0 ps (i * 2)).toNat = ones (at0 ps (i0 * 2)).toNat) hi0 ⟨g2, rfl⟩
    obtain ⟨p1, p2, p3, _, p5⟩ := pair_facts hC hO hi
    refine ⟨at0 ps (i * 2), p1, ready_iff.2 ⟨t1, ?_, ?_⟩⟩
    · cases hb2 : isHighB ps n (at0 ps (i * 2))
      · rfl
      · obtain ⟨k, hk, e⟩ := isHighB_iff.1 hb2
        exact absurd e.symm (low_not_high hC hO hi hk)
    · rw [grp_low hC hO hi]
      intro m hm b hb
      simp at hm
      rcases hm with rfl | rfl
      · exact .inl (low _ p1 t2 b hb)
      · by_cases hbf : b = at0 ps (i * 2)
        · exact .inr hbf
        · refine .inl (Classical.byContradiction fun hbL => ?_)
          have hbo := below_one (by omega) hb
          rcases own b (below_mem hC p2 hb) hbL with ⟨j, hj, _, e2, e3⟩ | ⟨e1, e3⟩
          · omega
          · have hbm := below_mem hC p2 hb
            by_cases hlow : ∃ j, j < n ∧ at0 ps (j * 2) = b
            · obtain ⟨j, hj, rfl⟩ := hlow
              refine t3 j hj ?_ ⟨hbL, by omega⟩
              unfold StepP
              exact (step_mem hC hO hi).2 ⟨hb, hbf⟩
            · exact hcr ⟨b, hbm, hbL, e1, by omega, fun j hj e => hlow ⟨j, hj, e⟩⟩

end

section
variable {V : Int} {fs ps : List Int} {n : Nat}

theorem ordN_inv (hC : IsC V fs) (hO : OkTo fs ps n) : ∀ k, InvO fs ps n (ordN fs ps n k)
  | 0 => InvO.start fs ps n
  | k + 1 => by
    have ih := ordN_inv hC hO k
    show InvO fs ps n (stepO fs ps n (ordN fs ps n k))
    unfold stepO
    cases hf : nextF fs ps n (ordN fs ps n k) with
    | none => exact ih
    | some f =>
      unfold nextF at hf
      exact ih.step hC hO (List.mem_of_find?_eq_some hf) (List.find?_some hf)
theorem ordN_stay {k : Nat} (h : nextF fs ps n (ordN fs ps n k) = none) : ∀ d, ordN fs ps n (k + d) = ordN fs ps n k
  | 0 => rfl
  | d + 1 => by
    show stepO fs ps n (ordN fs ps n (k + d)) = _
    rw [ordN_stay h d]
    unfold stepO
    rw [h]
theorem sub_lenI : ∀ (A B : List Int), A.Nodup → (∀ x ∈ A, x ∈ B) → A.length ≤ B.length
  | [], _, _, _ => by simp
  | x :: A, B, hn, h => by
    obtain ⟨h1, h2⟩ := List.nodup_cons.1 hn
    have ih := sub_lenI A (B.erase x) h2 (fun y hy => (List.mem_erase_of_ne (fun e => h1 (by rw [← e]; exact hy))).2 (h y (List.mem_cons_of_mem _ hy)))
    have hx : x ∈ B := h x (by simp)
    have hl := List.length_erase_of_mem hx
    have hp : 0 < B.length := List.length_pos_of_mem hx
    simp only [List.length_cons]
    omega
theorem InvO.le {L : List Int} (h : InvO fs ps n L) : L.length ≤ fs.length := sub_lenI _ _ h.nodup h.sub
theorem grp_pos (ps : List Int) (n : Nat) (f : Int) : 1 ≤ (grpL ps n f).length := by
  unfold grpL
  split <;> simp
/-- Each step puts a face down. -/
theorem ordN_len (k : Nat) (h : ∀ j, j < k → nextF fs ps n (ordN fs ps n j) ≠ none) : k ≤ (ordN fs ps n k).length := by
  induction k with
  | zero => exact Nat.zero_le _
  | succ k ih =>
    have := ih (fun j hj => h j (by omega))
    have hk := h k (by omega)
    show k + 1 ≤ (stepO fs ps n (ordN fs ps n k)).length
    unfold stepO
    cases hf : nextF fs ps n (ordN fs ps n k) with
    | none => exact absurd hf hk
    | some f =>
      simp only [List.length_append]
      have := grp_pos ps n f
      omega
/-- The order. -/
def ordL (fs ps : List Int) (n : Nat) : List Int := ordN fs ps n fs.length
/-- Where no group can follow, the order is there. -/
theorem ord_end (hC : IsC V fs) (hO : OkTo fs ps n) {k : Nat} (hk : ∀ j, j < k → nextF fs ps n (ordN fs ps n j) ≠ none) (h : nextF fs ps n (ordN fs ps n k) = none) : ordN fs ps n k = ordL fs ps n := by
  have h1 := ordN_len k hk
  have h2 := (ordN_inv hC hO k).le
  have := ordN_stay h (fs.length - k)
  rw [show k + (fs.length - k) = fs.length by omega] at this
  exact this.symm
theorem find_none {L : List Int} (h : nextF fs ps n L = none) : ∀ f ∈ fs, readyB ps n L f = false := by
  unfold nextF at h
  intro f hf
  have := List.find?_eq_none.1 h f hf
  simpa using this
/-- All faces have found a place exactly if the pairing is acyclic. -/
theorem ord_all (hC : IsC V fs) (hO : OkTo fs ps n) {L : List Int} (hI : InvO fs ps n L) (h : nextF fs ps n L = none) : (L.length = fs.length ↔ NoCycle ps n) := by
  have hnd : fs.Nodup := hC.asc.imp (fun h => Int.ne_of_lt h)
  constructor
  · intro hl
    have hall : ∀ x ∈ fs, x ∈ L := fun x hx => Classical.byContradiction fun hn => by
      have := sub_lenI (x :: L) fs (List.nodup_cons.2 ⟨hn, hI.nodup⟩) (fun y hy => by
        rcases List.mem_cons.1 hy with rfl | hy
        · exact hx
        · exact hI.sub y hy)
      simp at this
      omega
    obtain ⟨L0, o1, o2, o3⟩ := hI.ord
    exact settled_acyclic o1 (fun i hi => (o3 i hi).1 (hall _ (pair_facts hC hO hi).1))
  · intro hc
    have hall : ∀ x ∈ fs, x ∈ L := fun x hx => Classical.byContradiction fun hn => by
      obtain ⟨f, hf, hr⟩ := ready_ex hC hO hc hI hx hn
      rw [find_none h f hf] at hr
      cases hr
    exact Nat.le_antisymm hI.le (sub_lenI _ _ hnd hall)
theorem ordL_none (hC : IsC V fs) (hO : OkTo fs ps n) : nextF fs ps n (ordL fs ps n) = none := by
  by_cases hex : ∃ k, k ≤ fs.length ∧ nextF fs ps n (ordN fs ps n k) = none
  · obtain ⟨k, hk, h⟩ := hex
    have e : ordL fs ps n = ordN fs ps n k := by
      have := ordN_stay h (fs.length - k)
      rwa [show k + (fs.length - k) = fs.length by omega] at this
    rw [e]
    exact h
  · have hno : ∀ j, j < fs.length + 1 → nextF fs ps n (ordN fs ps n j) ≠ none := fun j hj e => hex ⟨j, by omega, e⟩
    have h1 := ordN_len (fs.length + 1) hno
    have h2 := (ordN_inv hC hO (fs.length + 1)).le
    omega
theorem ordL_acy (hC : IsC V fs) (hO : OkTo fs ps n) : decide ((ordL fs ps n).length = fs.length) = acyB ps n := by
  have h := ord_all hC hO (ordN_inv hC hO fs.length) (ordL_none hC hO)
  by_cases hc : NoCycle ps n
  · rw [acyB_true hc]
    exact decide_eq_true (h.2 hc)
  · rw [acyB_false hc]
    exact decide_eq_false (fun e => hc (h.1 e))

end

end Go.Proofs.Ytgcpakhagbbiiaa

/-! The order of a pairing as the program finds it: the groups that are left, and the first of them that can follow. -/
namespace Go.Proofs.Ytgcpakhagbbiiaa
open Go.RowKit

/-- The faces, no high ones, whose groups are left. -/
def leftL (fs ps : List Int) (n : Nat) (L : List Int) : List Int := fs.filter fun f => !isHighB ps n f && !decide (f ∈ L)
/-- The program's test. -/
def canB (L g : List Int) : Bool := g.all fun m => (sidesF m.toNat).all fun s => decide (((s.val : Nat) : Int) ∈ L) || decide (((s.val : Nat) : Int) ∈ g)

theorem sides_mem {f : Nat} (hf : f < 64) {y : Int} : (∃ s ∈ sidesF f, ((s.val : Nat) : Int) = y) ↔ y ∈ belowR f 63 := by
  have h := sides_below ⟨f, hf⟩
  simp only at h
  rw [← List.mem_reverse, ← h]
  simp
theorem sides_allP {f : Nat} (hf : f < 64) (p : Int → Bool) : (sidesF f).all (fun s => p ((s.val : Nat) : Int)) = (belowR f 63).all p := by
  rw [Bool.eq_iff_iff, List.all_eq_true, List.all_eq_true]
  constructor
  · intro h y hy
    obtain ⟨s, hs, rfl⟩ := (sides_mem hf).2 hy
    exact h s hs
  · intro h s hs
    exact h _ ((sides_mem hf).1 ⟨s, hs, rfl⟩)

section
variable {V : Int} {fs ps : List Int} {n : Nat}

theorem leftL_mem {L : List Int} {f : Int} : f ∈ leftL fs ps n L ↔ f ∈ fs ∧ isHighB ps n f = false ∧ f ∉ L := by
  unfold leftL
  simp [List.mem_filter]
theorem grp_rngP (hC : IsC V fs) (hO : OkTo fs ps n) {f : Int} (hf : f ∈ fs) : ∀ m ∈ grpL ps n f, 1 ≤ m ∧ m ≤ 63 := by
  intro m hm
  by_cases hex : ∃ i, i < n ∧ at0 ps (i * 2) = f
  · obtain ⟨i, hi, rfl⟩ := hex
    rw [grp_low hC hO hi] at hm
    obtain ⟨_, _, _, h1, h2⟩ := pair_facts hC hO hi
    simp at hm
    rcases hm with rfl | rfl
    · exact h1
    · exact h2
  · rw [grp_crit (fun i hi e => hex ⟨i, hi, e⟩)] at hm
    simp at hm
    subst hm
    exact hC.range63 _ hf
theorem can_ready (hC : IsC V fs) (hO : OkTo fs ps n) {L : List Int} {f : Int} (hf : f ∈ leftL fs ps n L) : canB L (grpL ps n f) = readyB ps n L f := by
  obtain ⟨h1, h2, h3⟩ := leftL_mem.1 hf
  have hr := grp_rngP hC hO h1
  rw [Bool.eq_iff_iff, ready_iff]
  unfold canB
  rw [List.all_eq_true]
  have key : ∀ m ∈ grpL ps n f, ∀ b ∈ belowR m.toNat 63, (b ∈ grpL ps n f ↔ b = f) := by
    intro m hm b hb
    by_cases hex : ∃ i, i < n ∧ at0 ps (i * 2) = f
    · obtain ⟨i, hi, rfl⟩ := hex
      obtain ⟨_, _, hone, p4, p5⟩ := pair_facts hC hO hi
      have hmr := hr m hm
      rw [grp_low hC hO hi] at hm ⊢
      have hbo := below_one (by omega) hb
      simp at hm ⊢
      intro e
      subst e
      rcases hm with rfl | rfl
      · omega
      · omega
    · rw [grp_crit (fun i hi e => hex ⟨i, hi, e⟩)]
      simp
  constructor
  · intro h
    refine ⟨h3, h2, fun m hm b hb => ?_⟩
    have := h m hm
    rw [sides_allP (by have := hr m hm; omega) (fun y => decide (y ∈ L) || decide (y ∈ grpL ps n f))] at this
    have := List.all_eq_true.1 this b hb
    simp only [Bool.or_eq_true, decide_eq_true_eq] at this
    exact this.imp id (key m hm b hb).1
  · rintro ⟨_, _, h⟩ m hm
    rw [sides_allP (by have := hr m hm; omega) (fun y => decide (y ∈ L) || decide (y ∈ grpL ps n f)), List.all_eq_true]
    intro b hb
    simp only [Bool.or_eq_true, decide_eq_true_eq]
    exact (h m hm b hb).imp id (key m hm b hb).2

/-- The first of the groups that are left that can follow is the model's. -/
theorem left_find (hC : IsC V fs) (hO : OkTo fs ps n) (L : List Int) : (leftL fs ps n L).find? (fun f => canB L (grpL ps n f)) = nextF fs ps n L := by
  unfold nextF
  have h1 : (leftL fs ps n L).find? (fun f => canB L (grpL ps n f)) = (leftL fs ps n L).find? (readyB ps n L) := by
    have : ∀ (l : List Int), (∀ x ∈ l, canB L (grpL ps n x) = readyB ps n L x) → l.find? (fun f => canB L (grpL ps n f)) = l.find? (readyB ps n L) := by
      intro l
      induction l with
      | nil => intro _; rfl
      | cons x l ih =>
        intro h
        rw [List.find?_cons, List.find?_cons, h x (by simp), ih (fun y hy => h y (by simp [hy]))]
    exact this _ (fun x hx => can_ready hC hO hx)
  rw [h1]
  unfold leftL
  rw [List.find?_filter]
  congr 1
  funext f
  unfold readyB
  generalize ((grpL ps n f).all fun m => (belowR m.toNat 63).all fun b => decide (b ∈ L) || decide (b = f)) = X
  generalize isHighB ps n f = Y
  generalize decide (f ∈ L) = Z
  revert X Y Z
  decide

theorem filter_ne {R : List Int} (h : R.Nodup) {i : Nat} (hi : i < R.length) : R.filter (fun x => !decide (x = R[i]?.getD 0)) = R.take i ++ R.drop (i + 1) := by
  have hs := split_at hi
  obtain ⟨y, hy⟩ : ∃ y, y = R[i]?.getD 0 := ⟨_, rfl⟩
  rw [← hy] at hs ⊢
  obtain ⟨A, hA⟩ : ∃ A, A = R.take i := ⟨_, rfl⟩
  obtain ⟨B, hB⟩ : ∃ B, B = R.drop (i + 1) := ⟨_, rfl⟩
  rw [← hA, ← hB] at hs ⊢
  rw [hs] at h ⊢
  rw [List.nodup_append] at h
  obtain ⟨_, h2, h3⟩ := h
  rw [List.nodup_cons] at h2
  rw [List.filter_append, List.filter_cons, List.filter_eq_self.2, List.filter_eq_self.2]
  · simp
  · intro x hx
    have : x ≠ y := fun e => h2.1 (e ▸ hx)
    simpa using this
  · intro x hx
    have : x ≠ y := h3 x hx y (by simp)
    simpa using this

/-- What is left behind a step. -/
theorem left_step (hC : IsC V fs) (hO : OkTo fs ps n) {L : List Int} {i : Nat} (hi : i < (leftL fs ps n L).length) :
    leftL fs ps n (L ++ grpL ps n ((leftL fs ps n L)[i]?.getD 0)) = (leftL fs ps n L).take i ++ (leftL fs ps n L).drop (i + 1) := by
  have hnd : (leftL fs ps n L).Nodup := (hC.asc.imp (fun h => Int.ne_of_lt h)).filter _
  rw [← filter_ne hnd hi]
  obtain ⟨f, hf⟩ : ∃ f, f = (leftL fs ps n L)[i]?.getD 0 := ⟨_, rfl⟩
  have hm : f ∈ leftL fs ps n L := by rw [hf]; exact getD_mem hi
  rw [← hf]
  unfold leftL
  rw [List.filter_filter]
  refine List.filter_congr (fun x hx => ?_)
  obtain ⟨h1, h2, h3⟩ := leftL_mem.1 hm
  have key : isHighB ps n x = false → (x ∈ grpL ps n f ↔ x = f) := by
    intro hx0
    by_cases hex : ∃ j, j < n ∧ at0 ps (j * 2) = f
    · obtain ⟨j, hj, rfl⟩ := hex
      rw [grp_low hC hO hj]
      simp
      intro e
      subst e
      have := (isHighB_iff (ps := ps) (n := n) (f := at0 ps (j * 2 + 1))).2 ⟨j, hj, rfl⟩
      rw [hx0] at this
      cases this
    · rw [grp_crit (fun j hj e => hex ⟨j, hj, e⟩)]
      simp
  cases hh : isHighB ps n x
  · have hk := key hh
    by_cases hxf : x = f
    · subst hxf
      have hmem := hk.2 rfl
      simp [hmem]
    · have : x ∉ grpL ps n f := fun e => hxf (hk.1 e)
      simp [hxf, this]
  · simp
theorem left_nil {L : List Int} (h : leftL fs ps n L = []) : nextF fs ps n L = none := by
  unfold nextF
  rw [List.find?_eq_none]
  intro f hf hr
  obtain ⟨r1, r2, _⟩ := ready_iff.1 hr
  have : f ∈ leftL fs ps n L := leftL_mem.2 ⟨hf, r2, r1⟩
  rw [h] at this
  cases this
/-- As long as groups are left, one of them can follow. -/
theorem left_ex (hC : IsC V fs) (hO : OkTo fs ps n) (hc : NoCycle ps n) (k : Nat) (h : leftL fs ps n (ordN fs ps n k) ≠ []) :
    ∃ i, i < (leftL fs ps n (ordN fs ps n k)).length ∧ (∀ j, j < i → canB (ordN fs ps n k) (grpL ps n ((leftL fs ps n (ordN fs ps n k))[j]?.getD 0)) = false) ∧ canB (ordN fs ps n k) (grpL ps n ((leftL fs ps n (ordN fs ps n k))[i]?.getD 0)) = true ∧
      nextF fs ps n (ordN fs ps n k) = some ((leftL fs ps n (ordN fs ps n k))[i]?.getD 0) := by
  obtain ⟨L, hL⟩ : ∃ L, L = ordN fs ps n k := ⟨_, rfl⟩
  have hI := ordN_inv hC hO k
  rw [← hL] at h hI ⊢
  obtain ⟨R, hR⟩ : ∃ R, R = leftL fs ps n L := ⟨_, rfl⟩
  have hfind := left_find hC hO L
  have hex : ∃ f ∈ fs, readyB ps n L f = true := by
    rcases List.exists_mem_of_ne_nil _ h with ⟨x, hx⟩
    obtain ⟨h1, _, h3⟩ := leftL_mem.1 hx
    exact ready_ex hC hO hc hI h1 h3
  obtain ⟨f0, hf0, hr0⟩ := hex
  cases hn : nextF fs ps n L with
  | none =>
    unfold nextF at hn
    have := List.find?_eq_none.1 hn f0 hf0
    exact absurd hr0 this
  | some f =>
    rw [hn] at hfind
    rw [← hR] at hfind ⊢
    obtain ⟨hcan, i, hi, hif, hbe⟩ := List.find?_eq_some_iff_getElem.1 hfind
    refine ⟨i, hi, fun j hj => ?_, ?_, ?_⟩
    · have := hbe j hj
      rw [List.getElem?_eq_getElem (by omega)]
      simpa using this
    · rw [List.getElem?_eq_getElem hi, Option.getD_some, hif]
      exact hcan
    · rw [List.getElem?_eq_getElem hi, Option.getD_some, hif]
theorem ordN_next {k : Nat} {f : Int} (h : nextF fs ps n (ordN fs ps n k) = some f) : ordN fs ps n (k + 1) = ordN fs ps n k ++ grpL ps n f := by
  show stepO fs ps n (ordN fs ps n k) = _
  unfold stepO
  rw [h]
theorem left_zero : leftL fs ps n [] = fs.filter fun f => !isHighB ps n f := by
  unfold leftL
  congr 1
  funext f
  simp

end

end Go.Proofs.Ytgcpakhagbbiiaa

/-! groupCanFollow, walked. -/
namespace Go.Proofs.Ytgcpakhagbbiiaa
open Go.RowKit Go.Shelf

attribute [local go_sem] Oper.semAt_some

/-- The sides of a face are there or in the group. -/
def okM (L g : List Int) (m : Int) : Bool := (sidesF m.toNat).all fun s => decide (((s.val : Nat) : Int) ∈ L) || decide (((s.val : Nat) : Int) ∈ g)
theorem canB_ok (L g : List Int) : canB L g = g.all (okM L g) := rfl

/-- What the walk keeps of the world. -/
structure GcW (w W : World) (sl : Value) (M : Nat) (Ds : List Nat) : Prop where
  below : Go.RowKit.Below w.heap.size w W
  b0 : W.heap[w.heap.size]? = some (.cells #[sl] 22 (0, 0))
  b1 : W.heap[w.heap.size + 1]? = some (.cells #[.map (some M)] 128 (0, 0))
  res : W.heap[w.heap.size + 1 + 1]? = some (.cells #[.bool false] 4 (0, 0))
  nodup : Ds.Nodup
  marks : ∀ D ∈ Ds, w.heap.size + 3 ≤ D ∧ W.heap[D]? = some (.deferred (some []))
theorem GcW.size {w W : World} {sl : Value} {M : Nat} {Ds : List Nat} (h : GcW w W sl M Ds) : w.heap.size + 3 ≤ W.heap.size := by
  have := lt_of_get h.res; omega
theorem GcW.turn {w W W' : World} {sl : Value} {M : Nat} {Ds : List Nat} (h : GcW w W sl M Ds) {row : Option Nat} (hg : W.grownBy W' row)
    (hr : ∀ r, row = some r → w.heap.size + 3 ≤ r ∧ r ∉ Ds) : GcW w W' sl M Ds where
  below := h.below.grown hg h.below.size (fun k e => by have := (hr k e).1; omega)
  b0 := (hg.block _ (lt_of_get h.b0) (fun e => by have := (hr _ e.symm).1; omega)).trans h.b0
  b1 := (hg.block _ (lt_of_get h.b1) (fun e => by have := (hr _ e.symm).1; omega)).trans h.b1
  res := (hg.block _ (lt_of_get h.res) (fun e => by have := (hr _ e.symm).1; omega)).trans h.res
  nodup := h.nodup
  marks := fun D hD => ⟨(h.marks D hD).1, (hg.block _ (lt_of_get (h.marks D hD).2) (fun e => (hr _ e.symm).2 hD)).trans (h.marks D hD).2⟩
theorem gcw_own {β : Type} {w : World} {sl : Value} {M : Nat} {Ds : List Nat} {B : Nat} (hB : w.heap.size + 3 ≤ B) (hD : ∀ D ∈ Ds, D < B) : OwnFrom B (fun (_ : β) W => GcW w W sl M Ds) :=
  fun _ _ _ _ hs hg hr => hs.turn hg (fun r e => ⟨by have := (hr r e).1; omega, fun hm => by have := hD r hm; have := (hr r e).1; omega⟩)
theorem GcW.mark {w W : World} {sl : Value} {M : Nat} {Ds : List Nat} (h : GcW w W sl M Ds) {D : Nat} (hD : W.heap[D]? = some (.deferred (some []))) (hb : w.heap.size + 3 ≤ D) (hn : D ∉ Ds) : GcW w W sl M (D :: Ds) where
  below := h.below
  b0 := h.b0
  b1 := h.b1
  res := h.res
  nodup := List.nodup_cons.2 ⟨hn, h.nodup⟩
  marks := fun E hE => by
    rcases List.mem_cons.1 hE with rfl | hE
    · exact ⟨hb, hD⟩
    · exact h.marks E hE
theorem GcW.store {w W : World} {sl : Value} {M : Nat} {Ds : List Nat} (h : GcW w W sl M Ds) : GcW w (W.setCell ⟨w.heap.size + 1 + 1, 0, none⟩ (.bool false)) sl M Ds where
  below := h.below.setCell (p := ⟨w.heap.size + 1 + 1, 0, none⟩) (by simp; omega) _
  b0 := (Below.heap_setCell _ _ _ _ (by simp; omega)).trans h.b0
  b1 := (Below.heap_setCell _ _ _ _ (by simp)).trans h.b1
  res := one_setCell h.res
  nodup := h.nodup
  marks := fun D hD => ⟨(h.marks D hD).1, (Below.heap_setCell _ _ _ _ (by have := (h.marks D hD).1; simp <;> omega)).trans (h.marks D hD).2⟩

/-- groupCanFollow hands back what lies in its block. -/
theorem gc_leave {w W : World} {sl : Value} {M : Nat} {Ds : List Nat} (h : GcW w W sl M Ds) (b c : Bool) (hc : b = c) {tmps : Array Value} (ht : tmps[4]?.getD undef = .pointer (some ⟨w.heap.size + 1 + 1, 0, none⟩)) :
    LeavesInM Fence.wide 10 Try.prog Try.f130 tmps (fun e w' => e = .returned (.bool b) ∧ Go.RowKit.Below w.heap.size w w') (marks Ds) .returning (W.setCell ⟨w.heap.size + 1 + 1, 0, none⟩ (.bool c)) := by
  have hs := h.size
  refine leaves_marks (by simp) Ds _ h.nodup (fun D hD => (Below.heap_setCell _ _ _ _ (by have := (h.marks D hD).1; simp <;> omega)).trans (h.marks D hD).2) (fun w' hw' => ?_)
  have hres : w'.cell? ⟨w.heap.size + 1 + 1, 0, none⟩ = some (.bool c) := by
    rw [World.cell?_of_block (hw'.block _ (fun hm => by have := (h.marks _ hm).1; simp at this <;> omega))]
    exact World.cell?_setCell_same' _ _ _ (by rw [(box_cell h.res).1]; rfl)
  have hB : Go.RowKit.Below w.heap.size w w' := (h.below.setCell (p := ⟨w.heap.size + 1 + 1, 0, none⟩) (by simp; omega) _).trans (hw'.below (fun D hD => by have := (h.marks D hD).1; omega))
  refine ⟨.bool c, ?_, by rw [hc], hB⟩
  simp [results, Try.results130, go_sem, ht, hres]
theorem gc_leave0 {w W : World} {sl : Value} {M : Nat} {Ds : List Nat} (h : GcW w W sl M Ds) (b : Bool) (hc : b = false) {tmps : Array Value} (ht : tmps[4]?.getD undef = .pointer (some ⟨w.heap.size + 1 + 1, 0, none⟩)) :
    LeavesInM Fence.wide 10 Try.prog Try.f130 tmps (fun e w' => e = .returned (.bool b) ∧ Go.RowKit.Below w.heap.size w w') (marks Ds) .returning W := by
  refine leaves_marks (by simp) Ds _ h.nodup (fun D hD => (h.marks D hD).2) (fun w' hw' => ?_)
  have hres : w'.cell? ⟨w.heap.size + 1 + 1, 0, none⟩ = some (.bool false) := by
    rw [World.cell?_of_block (w := W) (hw'.block _ (fun hm => by have := (h.marks _ hm).1; simp at this <;> omega))]
    exact (box_cell h.res).1
  have hB : Go.RowKit.Below w.heap.size w w' := h.below.trans (hw'.below (fun D hD => by have := (h.marks D hD).1; omega))
  refine ⟨.bool false, ?_, by rw [hc], hB⟩
  simp [results, Try.results130, go_sem, ht, hres]

/-- Ahead of face k. -/
def GcSt (w : World) (a : Option Addr) (cap M : Nat) (L g : List Int) (a' : Act) (W : World) : Prop :=
  ∃ (k : Nat) (Ds : List Nat) (us : Nat → Value), a' = { tmps := List.toArray ((.slice a g.length cap) :: (.map (some M)) :: (.pointer (some ⟨w.heap.size, 0, none⟩)) :: (.pointer (some ⟨w.heap.size + 1, 0, none⟩)) :: (.pointer (some ⟨w.heap.size + 1 + 1, 0, none⟩)) :: us 5 :: us 6 :: us 7 :: (.slice a g.length cap) :: (.int .i64 (g.length : Int)) :: (.int .i64 (k : Int)) :: us 11 :: us 12 :: us 13 :: us 14 :: us 15 :: us 16 :: us 17 :: us 18 :: us 19 :: us 20 :: us 21 :: us 22 :: us 23 :: us 24 :: us 25 :: us 26 :: us 27 :: []), defers := marks Ds } ∧
    k ≤ g.length ∧ Hid (∀ j, j < k → okM L g (g[j]?.getD 0) = true) ∧ Hid (GcW w W (.slice a g.length cap) M Ds)
theorem gcSt_of {w W : World} {a : Option Addr} {cap M k : Nat} {L g : List Int} {Ds : List Nat} (tm : Array Value) (ds : List Deferred) (hds : ds = marks Ds)
    (h : tm = List.toArray ((.slice a g.length cap) :: (.map (some M)) :: (.pointer (some ⟨w.heap.size, 0, none⟩)) :: (.pointer (some ⟨w.heap.size + 1, 0, none⟩)) :: (.pointer (some ⟨w.heap.size + 1 + 1, 0, none⟩)) :: tm.getD 5 undef :: tm.getD 6 undef :: tm.getD 7 undef :: (.slice a g.length cap) :: (.int .i64 (g.length : Int)) :: (.int .i64 (k : Int)) :: tm.getD 11 undef :: tm.getD 12 undef :: tm.getD 13 undef :: tm.getD 14 undef :: tm.getD 15 undef :: tm.getD 16 undef :: tm.getD 17 undef :: tm.getD 18 undef :: tm.getD 19 undef :: tm.getD 20 undef :: tm.getD 21 undef :: tm.getD 22 undef :: tm.getD 23 undef :: tm.getD 24 undef :: tm.getD 25 undef :: tm.getD 26 undef :: tm.getD 27 undef :: [])) (hk : k ≤ g.length) (HP : Hid (∀ j, j < k → okM L g (g[j]?.getD 0) = true)) (HW : Hid (GcW w W (.slice a g.length cap) M Ds)) :
    GcSt w a cap M L g { tmps := tm, defers := ds } W :=
  ⟨k, Ds, fun i => tm.getD i undef, by rw [hds]; exact congrArg (fun t => ({ tmps := t, defers := marks Ds } : Act)) h, hk, HP, HW⟩

set_option maxRecDepth 1000000 in
set_option maxHeartbeats 4000000 in
theorem gcf_in (a : Option Addr) (cap M cnt : Nat) (L g : List Int) (w : World) (hx : SlI w w.heap.size a g) (hl : g.length ≤ 1048576) (hr : ∀ m ∈ g, 1 ≤ m ∧ m ≤ 63) (hm : w.ownsMap Try.prog 2 (plainElem (H := Unit) Try.prog 4) M cnt (knownD L)) :
    CallsIn Fence.wide 10 Try.prog 130 #[.slice a g.length cap, .map (some M)] w fun e w' => e = .returned (.bool (canB L g)) ∧ Go.RowKit.Below w.heap.size w w' := by
  have H0 : Hid (GcW w (((w.alloc (.cells #[.slice a g.length cap] 22)).alloc (.cells #[.map (some M)] 128)).alloc (.cells #[.bool false] 4)) (.slice a g.length cap) M []) := by
    have e3 := heap_alloc_new ((w.alloc (.cells #[.slice a g.length cap] 22)).alloc (.cells #[.map (some M)] 128)) (.cells #[.bool false] 4)
    have e2 := heap_alloc_new (w.alloc (.cells #[.slice a g.length cap] 22)) (.cells #[.map (some M)] 128)
    rw [World.size_alloc, World.size_alloc] at e3
    rw [World.size_alloc] at e2
    exact hid {
      below := (((Go.RowKit.Below.refl _ w).alloc (Nat.le_refl _) _).alloc (by simp) _).alloc (by simp; omega) _
      b0 := (Below.heap_alloc _ _ _ (by simp; omega)).trans ((Below.heap_alloc _ _ _ (by simp)).trans (heap_alloc_new _ _))
      b1 := (Below.heap_alloc _ _ _ (by simp)).trans e2
      res := e3
      nodup := by simp
      marks := by simp }
  have Hx := hid hx
  have Hr := hid hr
  have Hm := hid hm
  clear hx hr hm
  refine callsIn_of_wp_marks Try.func130 rfl trivial ?_ rfl
  simp only [Try.ntmps130, List.size_toArray, List.length_cons, List.length_nil, Nat.reduceAdd, Nat.reduceSub, Array.replicate_succ, Array.replicate_zero, List.push_toArray, List.append_toArray, List.nil_append, List.cons_append]
  gi_wp2
  refine wpIn_loop (GcSt w a cap M L g) (fun a' _ => g.length - (intOf (a'.tmps.getD 10 undef)).toNat) ?start ?round
  case start => exact gcSt_of (k := 0) (Ds := []) _ _ rfl rfl (Nat.zero_le _) (hid (by intro j h; omega)) H0
  case round =>
    rintro a' W ⟨k, Ds, us, rfl, hk, HP, HW⟩
    clear H0
    have hsz := HW.out.size
    by_cases hlt : k < g.length
    · obtain ⟨b, off, hb, rfl, hc⟩ : ∃ b off, b < w.heap.size ∧ a = some ⟨b, off, none⟩ ∧ ∀ i, i < g.length → w.cell? ⟨b, off + i, none⟩ = some (.int .i64 (g[i]?.getD 0)) := by
        rcases Hx.out with h | h
        · rw [h] at hlt; simp at hlt
        · exact h
      have hxm := Hr.out _ (getD_mem hlt)
      obtain ⟨f, hf⟩ : ∃ f : Nat, (f : Int) = g[k]?.getD 0 := ⟨(g[k]?.getD 0).toNat, by omega⟩
      have hck : W.cell? ⟨b, off + k, none⟩ = some (.int .i64 (f : Int)) := by rw [hf]; exact (HW.out.below.cell (p := ⟨b, off + k, none⟩) hb).trans (hc k hlt)
      have hf64 : f < 64 := by omega
      have hi0 : (0 : Int) ≤ (k : Int) := by omega
      have hi1 : (k : Int) < (g.length : Int) := by omega
      have Hf := hid hf
      clear hc hf hxm
      gi_wp2_with (first
        | (refine ⟨trivial, ?_⟩; gi_at_call 171; refine (sides_in _ _ _).mono ?_; rintro e w' ⟨rfl, rfl⟩))
      have hW2 : GcW w (W.alloc (.cells #[.int .i64 (f : Int)] 2)) (.slice (some ⟨b, off, none⟩) g.length cap) M Ds := HW.out.turn (World.grownBy_alloc W _ none) (fun r e => by cases e)
      have hsb := heap_alloc_new W (.cells #[.int .i64 (f : Int)] 2)
      have hDlt : ∀ D ∈ Ds, D < (W.alloc (.cells #[.int .i64 (f : Int)] 2)).heap.size := fun D hD => lt_of_get (hW2.marks D hD).2
      refine wpIn_rangeFunc_ownG rfl (by decide) (gf := 215) (lb := #[.pointer (some ⟨W.heap.size, 0, none⟩)]) rfl trivial (enters_of Try.func215 (by kernel_rfl) rfl)
        (sides_stops 9 (by decide) W.heap.size f hf64 _ (by simp) hsb) keepB_t (keepB_b (by simp)) (Go.RowKit.Below.refl _ _) (fun _ => rfl)
        (fun pre W => (∀ p ∈ pre, (decide (((p.val : Nat) : Int) ∈ L) || decide (((p.val : Nat) : Int) ∈ g)) = true) ∧ GcW w W (.slice (some ⟨b, off, none⟩) g.length cap) M Ds)
        (fun c pre W => (c = .ret ∧ ∃ p ∈ pre, (decide (((p.val : Nat) : Int) ∈ L) || decide (((p.val : Nat) : Int) ∈ g)) = false) ∧ GcW w W (.slice (some ⟨b, off, none⟩) g.length cap) M Ds)
        (OwnFrom.and (ownFrom_pure _ _) (gcw_own (by simp; omega) hDlt)) (fun c => OwnFrom.and (ownFrom_pure _ _) (gcw_own (by simp; omega) hDlt))
        ⟨by simp, hW2⟩
        (fun x => { tmps := List.toArray ((.slice (some ⟨b, off, none⟩) g.length cap) :: (.map (some M)) :: (.pointer (some ⟨w.heap.size, 0, none⟩)) :: (.pointer (some ⟨w.heap.size + 1, 0, none⟩)) :: (.pointer (some ⟨w.heap.size + 1 + 1, 0, none⟩)) :: us 5 :: (.int .i64 (f : Int)) :: (.int .i64 (x.val : Int)) :: (.slice (some ⟨b, off, none⟩) g.length cap) :: (.int .i64 (g.length : Int)) :: (.int .i64 (k : Int)) :: (.bool true) :: (.pointer (some ⟨b, off + k, none⟩)) :: (.int .i64 (f : Int)) :: (.int .i64 (f : Int)) :: (.func (.func 215) #[] #[.pointer (some ⟨W.heap.size, 0, none⟩)]) :: (.int .i64 (x.val : Int)) :: us 17 :: us 18 :: us 19 :: us 20 :: us 21 :: us 22 :: us 23 :: us 24 :: us 25 :: us 26 :: us 27 :: []), defers := [] }) ?assign ?body ?done ?stop
      case assign =>
        intro l x W3 K hK
        gi_wp2
        exact hK
      case body =>
        rintro l pre x W3 ⟨hp, hW3⟩ _
        clear HW hsz hsb hW2 hDlt
        have m3 : W3.cell? ⟨w.heap.size + 1, 0, none⟩ = some (.map (some M)) := (box_cell hW3.b1).1
        have s3 : W3.cell? ⟨w.heap.size, 0, none⟩ = some (.slice (some ⟨b, off, none⟩) g.length cap) := (box_cell hW3.b0).1
        have r3 : W3.cell? ⟨w.heap.size + 1 + 1, 0, none⟩ = some (.bool false) := (box_cell hW3.res).1
        have r4 : W3.frozen? ⟨w.heap.size + 1 + 1, 0, none⟩ = false := (box_cell hW3.res).2
        have hxl := x.isLt
        have hwx : (Lit.int .i64 (x.val : Int)).wf = true := WalkArith.wf_i64 (by omega)
        have HM3 := hid (World.ownsMap.kept Hm.out (w' := W3) (row := none) ⟨hW3.below.os, hW3.below.tape, hW3.below.output, hW3.below.size, fun q hq _ => hW3.below.block q hq⟩ (by simp))
        have HC := hid (contains_any (some ⟨b, off, none⟩) cap g ((x.val : Nat) : Int) W3 (Hx.out.later hW3.below hW3.below.size) hl)
        have HW3 := hid hW3
        have Hp := hid hp
        clear hW3 hp
        by_cases hmL : ((x.val : Nat) : Int) ∈ L
        · have HmL := hid hmL
          clear hmL HC
          gi_wp2_with (gi_at_lookup; refine at_known rfl rfl HM3.out hwx rfl rfl (decide_eq_true HmL.out) ?_)
          refine ⟨trivial, ?_⟩
          gi_wp2
          refine ⟨KeepsFrom.refl _ _, rfl, fun p hp' => ?_, HW3.out⟩
          rcases List.mem_append.1 hp' with hp' | hp'
          · exact Hp.out p hp'
          · simp at hp'; rw [hp']; simp [HmL.out]
        · have HmL := hid hmL
          clear hmL
          by_cases hmg : ((x.val : Nat) : Int) ∈ g
          · rw [decide_eq_true hmg] at HC
            have Hmg := hid hmg
            clear hmg
            gi_wp2_with (first
              | (gi_at_lookup; refine at_known rfl rfl HM3.out hwx rfl rfl (decide_eq_false HmL.out) ?_)
              | (refine ⟨trivial, ?_⟩; gi_at_call 199; refine (callsIn_wide.2 HC.out).mono ?_; rintro e w' ⟨rfl, rfl⟩))
            refine ⟨KeepsFrom.refl _ _, rfl, fun p hp' => ?_, HW3.out⟩
            rcases List.mem_append.1 hp' with hp' | hp'
            · exact Hp.out p hp'
            · simp at hp'; rw [hp']; simp [Hmg.out]
          · rw [decide_eq_false hmg] at HC
            have Hmg := hid hmg
            clear hmg
            gi_wp2_with (first
              | (gi_at_lookup; refine at_known rfl rfl HM3.out hwx rfl rfl (decide_eq_false HmL.out) ?_)
              | (refine ⟨trivial, ?_⟩; gi_at_call 199; refine (callsIn_wide.2 HC.out).mono ?_; rintro e w' ⟨rfl, rfl⟩))
            exact ⟨(KeepsOthers.setCell _ _ _).from _, ⟨rfl, x, by simp, by simp [HmL.out, Hmg.out]⟩, HW3.out.store⟩
      case done =>
        rintro D ys W3 hD rfl ⟨hp, hW3⟩ hK
        have hDb : w.heap.size + 3 ≤ D := by simp at hD; omega
        have hDn : D ∉ Ds := fun hm => by have := hDlt D hm; omega
        have HW4 := hid (hW3.mark hK hDb hDn)
        have HP' : Hid (∀ j, j < k + 1 → okM L g (g[j]?.getD 0) = true) := hid (fun j hj => by
          by_cases e : j < k
          · exact HP.out j e
          · obtain rfl : j = k := by omega
            rw [← Hf.out]
            unfold okM
            rw [Int.toNat_natCast, List.all_eq_true]
            exact hp)
        clear hp hW3 hK
        gi_wp2
        exact ⟨gcSt_of (k := k + 1) (Ds := D :: Ds) _ _ rfl rfl (by omega) HP' HW4, by simp [intOf]; omega⟩
      case stop =>
        rintro D c pre W3 hD hpre ⟨⟨rfl, p, hpm, hpn⟩, hW3⟩ hK
        have hDb : w.heap.size + 3 ≤ D := by simp at hD; omega
        have hDn : D ∉ Ds := fun hm => by have := hDlt D hm; omega
        have HW4 := hid (hW3.mark hK hDb hDn)
        have Hbad : Hid (canB L g = false) := hid (by
          rw [canB_ok, List.all_eq_false]
          refine ⟨_, getD_mem hlt, ?_⟩
          rw [← Hf.out]
          unfold okM
          rw [Int.toNat_natCast]
          rw [show ((sidesF f).all fun s => decide (((s.val : Nat) : Int) ∈ L) || decide (((s.val : Nat) : Int) ∈ g)) = false from List.all_eq_false.2 ⟨p, hpre.subset hpm, by rw [hpn]; simp⟩]
          simp)
        clear hW3 hpn hpm hpre hK
        gi_wp2
        exact gc_leave0 HW4.out _ Hbad.out rfl
    · obtain rfl : k = g.length := by omega
      have Hgood : Hid (canB L g = true) := hid (by
        rw [canB_ok, List.all_eq_true]
        intro m hm
        obtain ⟨j, hj, rfl⟩ := List.getElem_of_mem hm
        have := HP.out j hj
        rwa [List.getElem?_eq_getElem hj, Option.getD_some] at this)
      obtain ⟨k0, _⟩ := box_cell HW.out.res
      have r4 : W.frozen? ⟨w.heap.size + 1 + 1, 0, none⟩ = false := (box_cell HW.out.res).2
      gi_wp2
      exact gc_leave HW.out _ true Hgood.out rfl

theorem gcf_any (a : Option Addr) (cap M cnt : Nat) (L g : List Int) (w : World) (hx : SlI w w.heap.size a g) (hl : g.length ≤ 1048576) (hr : ∀ m ∈ g, 1 ≤ m ∧ m ≤ 63) (hm : w.ownsMap Try.prog 2 (plainElem (H := Unit) Try.prog 4) M cnt (knownD L)) :
    Calls Try.prog 130 #[.slice a g.length cap, .map (some M)] w fun e w' => e = .returned (.bool (canB L g)) ∧ Go.RowKit.Below w.heap.size w w' := callsIn_wide.1 (gcf_in a cap M cnt L g w hx hl hr hm)

end Go.Proofs.Ytgcpakhagbbiiaa

/-! 'append(row, list...)' of pairs, as a run. -/
namespace Go.Proofs.Ytgcpakhagbbiiaa
open Go.RowKit

theorem wp_append_run {P : Program} {o : Oper} {a : Act} {w w' : World} {K : Act → World → Prop} {Q : Exit → Act → World → Prop} {s y : Operand} {T : TypeId} (ho : o.op = .call { callee := .builtin .append, args := #[s, y], argTypes := #[T, T] })
    {v u v' : Value} (hs : a.eval s = v) (hy : a.eval y = u) (hr : (Builtin.append_ #[T, T] o.type #[v, u]).run P w = .ok v' w') (hK : K (a.put o.dst v') w') : o.wp P a w K Q := by
  unfold Oper.wp execOp
  simp only [ho, resolve, invoke, builtin, Sem.run_bind, Sem.run_pure, Result.andThen_ok, List.map_toArray, List.map_cons, List.map_nil, hs, hy, hr]
  exact hK
/-- 'append(row, list...)' of pairs, as a run. -/
theorem append_run {w : World} {base : Nat} {v : Value} {m : Nat} {xs ys : List Int} {ad : Addr} {l c : Nat} (hown : w.ownsRow base 69 2 v m (xs.map (Value.int .i64))) (hbase : base ≤ w.heap.size) (hm : m ≤ 1048576) (hl : l ≤ 1048576) (hys : ys.length = l * 2)
    (hc : ∀ j, j < l * 2 → w.cell? (ad.add j) = some (.int .i64 (ys[j]?.getD 0))) :
    ∃ v' w', (Builtin.append_ #[32, 32] 32 #[v, .slice (some ad) l c]).run Try.prog w = .ok v' w' ∧ w'.ownsRow base 69 2 v' (m + l) ((xs ++ ys).map (Value.int .i64)) ∧ w.grownBy w' v.ownBlock ∧ Below base w w' := by
  obtain ⟨i0, hi, hz0, hz1, hz2⟩ := info_parts info_pair
  obtain ⟨v', w', h1, h2, h3, _, _⟩ := run_append_own_at (P := Try.prog) (w := w) base 32 32 69 i0 (.agg #[.int .i64 0, .int .i64 0]) 2 16 Try.underlying32 hi hz0 hz1 hz2 rfl (by decide) v m (xs.map (Value.int .i64)) hown ad l c (ys.map (Value.int .i64)) (by simp [hys]) (fun j u hj => by
    have hjl : j < ys.length := by
      have := (List.getElem?_eq_some_iff.1 hj).1
      simpa using this
    have h := hc j (by omega)
    rw [List.getElem?_map, List.getElem?_eq_getElem hjl] at hj
    rw [List.getElem?_eq_getElem hjl] at h
    simp at hj h
    rw [h, hj]) (fun u hu => by
    obtain ⟨x, _, rfl⟩ := List.mem_map.1 hu
    rfl) (by unfold maxLen; omega) (by omega) hbase
  exact ⟨v', w', h1, by rw [List.map_append]; exact h2, h3, (Below.refl base w).grown h3 hbase (fun k hk => (hown.lt k hk).1)⟩
/-- A list of one pair. -/
theorem one_pair {w : World} {base : Nat} (hb : base ≤ w.heap.size) (x y : Int) : (w.alloc (.cells #[.int .i64 x, .int .i64 y] 69)).ownsRow base 69 2 (.slice (some ⟨w.heap.size, 0, none⟩) 1 1) 1 ([x, y].map (Value.int .i64)) :=
  ⟨by simp, .inr ⟨w.heap.size, 1, _, rfl, hb, heap_alloc_new w _, Nat.le_refl _, by decide, by simp, by simp⟩⟩

theorem wpList_append_run {P : Program} {ops : Array Oper} {rest : List Oper} {o : Oper} {a : Act} {w w' : World} {Q : Exit → Act → World → Prop} (hgd : o.guard = none) {s y : Operand} {T : TypeId} (ho : o.op = .call { callee := .builtin .append, args := #[s, y], argTypes := #[T, T] })
    {v u v' : Value} (hs : a.eval s = v) (hy : a.eval y = u) (hr : (Builtin.append_ #[T, T] o.type #[v, u]).run P w = .ok v' w') (hK : wpList P ops Q rest (a.put o.dst v') w') : wpList P ops Q (o :: rest) a w :=
  wpList_plain hgd fun _ hK' => wp_append_run ho hs hy hr (hK' _ _ hK)

theorem map_get {ys : List Int} {j : Nat} (h : j < ys.length) : (ys.map (Value.int .i64))[j]? = some (.int .i64 (ys[j]?.getD 0)) := by simp [h]

theorem own_pairs {w : World} {base b n c : Nat} {qs : List Int} (h : w.ownsRow base 69 2 (.slice (some ⟨b, 0, none⟩) n c) n (qs.map (Value.int .i64))) : b < w.heap.size ∧ n ≤ c ∧ ∀ i, i < qs.length → w.cell? ⟨b, 0 + i, none⟩ = some (.int .i64 (qs[i]?.getD 0)) := by
  refine ⟨(h.lt b rfl).2, ?_, fun i hi => ?_⟩
  · rcases h.2 with ⟨h1, _⟩ | ⟨g, cp, cur, h1, _, _, h2, _⟩
    · cases h1
    · injection h1 with _ h3
      omega
  · have := h.cells rfl i _ (map_get hi)
    have hadd : (⟨b, 0, none⟩ : Addr).add i = ⟨b, 0 + i, none⟩ := by unfold Addr.add; split <;> simp_all
    rwa [hadd] at this
theorem row_later {w w' : World} {B base e s n : Nat} {v : Value} {xs : List Value} (h : w.ownsRow base e s v n xs) (hb : Below w.heap.size w w') (_ : B = 0) : w'.ownsRow base e s v n xs :=
  h.kept (row := none) ⟨hb.os, hb.tape, hb.output, hb.size, fun q hq _ => hb.block q hq⟩ (by cases hv : v.ownBlock <;> simp)

end Go.Proofs.Ytgcpakhagbbiiaa

/-! Lists of groups in memory; the first group that can follow; a group taken out of a list. -/
namespace Go.Proofs.Ytgcpakhagbbiiaa
open Go.RowKit

theorem info_rowO : (Try.prog.info? 22).map (fun i => (i.zero, i.size, i.bytes)) = some (some (.slice none 0 0), 1, 24) := by kernel_rfl

/-- The first of a row. -/
theorem own_firstO {w : World} {base g n cap m size e : Nat} {xs : List Value} (h : w.ownsRow base e size (.slice (some ⟨g, 0, none⟩) n cap) n xs) (hm : m ≤ n) :
    w.ownsRow base e size (.slice (some ⟨g, 0, none⟩) m cap) m (xs.take (m * size)) := by
  rcases h.2 with ⟨h', _⟩ | ⟨g', cap', cur, h', hb, hg, hnc, hcm, hcs, htake⟩
  · simp at h'
  · simp only [Value.slice.injEq, Option.some.injEq, Addr.mk.injEq, and_true, true_and] at h'
    obtain ⟨rfl, rfl⟩ := h'
    have hms : m * size ≤ n * size := Nat.mul_le_mul_right _ hm
    refine ⟨by rw [List.length_take, h.1]; omega, .inr ⟨g, cap, cur, rfl, hb, hg, by omega, hcm, hcs, ?_⟩⟩
    rw [← htake, List.take_take, Nat.min_eq_left hms]

/-- v is a slice with the integers g, in a block of its own. -/
def GrpV (w : World) (B : Nat) (v : Value) (g : List Int) : Prop := ∃ b, v = .slice (some ⟨b, 0, none⟩) g.length g.length ∧ B ≤ b ∧ w.heap[b]? = some (.cells (g.map (Value.int .i64)).toArray 2 (0, 0))
theorem GrpV.kept {w w' : World} {B : Nat} {v : Value} {g : List Int} (h : GrpV w B v g) {row : Option Nat} (hg : w.grownBy w' row) (hr : ∀ r, row = some r → ∀ cur, w.heap[r]? ≠ some (.cells cur 2 (0, 0))) : GrpV w' B v g := by
  obtain ⟨b, h1, h2, h3⟩ := h
  exact ⟨b, h1, h2, (hg.block b (lt_of_get h3) (fun e => hr b e.symm _ h3)).trans h3⟩
theorem GrpV.below {w w' : World} {B : Nat} {v : Value} {g : List Int} (h : GrpV w B v g) (hb : Go.RowKit.Below w.heap.size w w') : GrpV w' B v g := by
  obtain ⟨b, h1, h2, h3⟩ := h
  exact ⟨b, h1, h2, (hb.block b (lt_of_get h3)).trans h3⟩
theorem GrpV.slI {w : World} {B : Nat} {v : Value} {g : List Int} (h : GrpV w B v g) : ∃ a, v = .slice a g.length g.length ∧ SlI w w.heap.size a g := by
  obtain ⟨b, h1, h2, h3⟩ := h
  refine ⟨_, h1, .inr ⟨b, 0, lt_of_get h3, rfl, fun i hi => ?_⟩⟩
  simp [World.cell?, h3, hi]
theorem GrpV.one {w : World} {B : Nat} {v : Value} {g : List Int} (h : GrpV w B v g) : v.oneCell' = true := by
  obtain ⟨b, rfl, _, _⟩ := h
  rfl
/-- A list of such slices. -/
def Gs (w : World) (B : Nat) (vs : List Value) (gs : List (List Int)) : Prop := vs.length = gs.length ∧ ∀ i, i < gs.length → GrpV w B (vs[i]?.getD undef) (gs[i]?.getD [])
theorem Gs.kept {w w' : World} {B : Nat} {vs : List Value} {gs : List (List Int)} (h : Gs w B vs gs) {row : Option Nat} (hg : w.grownBy w' row) (hr : ∀ r, row = some r → ∀ cur, w.heap[r]? ≠ some (.cells cur 2 (0, 0))) : Gs w' B vs gs := ⟨h.1, fun i hi => (h.2 i hi).kept hg hr⟩
theorem Gs.below {w w' : World} {B : Nat} {vs : List Value} {gs : List (List Int)} (h : Gs w B vs gs) (hb : Go.RowKit.Below w.heap.size w w') : Gs w' B vs gs := ⟨h.1, fun i hi => (h.2 i hi).below hb⟩
theorem Gs.nil (w : World) (B : Nat) : Gs w B [] [] := ⟨rfl, fun i hi => absurd hi (by simp)⟩
theorem Gs.snoc {w : World} {B : Nat} {vs : List Value} {gs : List (List Int)} (h : Gs w B vs gs) {v : Value} {g : List Int} (hv : GrpV w B v g) : Gs w B (vs ++ [v]) (gs ++ [g]) := by
  refine ⟨by simp [h.1], fun i hi => ?_⟩
  by_cases e : i < gs.length
  · rw [List.getElem?_append_left (by rw [h.1]; exact e), List.getElem?_append_left e]
    exact h.2 i e
  · have : i = gs.length := by simp at hi; omega
    subst this
    rw [← h.1, List.getElem?_append_right (Nat.le_refl _), h.1, List.getElem?_append_right (Nat.le_refl _)]
    simpa using hv
theorem Gs.del {w : World} {B : Nat} {vs : List Value} {gs : List (List Int)} (h : Gs w B vs gs) {i : Nat} (hi : i < gs.length) : Gs w B (vs.take i ++ vs.drop (i + 1)) (gs.take i ++ gs.drop (i + 1)) := by
  have hl := h.1
  refine ⟨by simp [hl], fun j hj => ?_⟩
  simp at hj
  by_cases e : j < i
  · rw [List.getElem?_append_left (by simp; omega), List.getElem?_append_left (by simp; omega), List.getElem?_take_of_lt e, List.getElem?_take_of_lt e]
    exact h.2 j (by omega)
  · rw [List.getElem?_append_right (by simp; omega), List.getElem?_append_right (by simp; omega), List.getElem?_drop, List.getElem?_drop]
    simp only [List.length_take]
    rw [show i + 1 + (j - min i vs.length) = j + 1 by omega, show i + 1 + (j - min i gs.length) = j + 1 by omega]
    exact h.2 (j + 1) (by omega)
theorem Gs.ones {w : World} {B : Nat} {vs : List Value} {gs : List (List Int)} (h : Gs w B vs gs) : ∀ v ∈ vs, v.oneCell' = true := by
  intro v hv
  obtain ⟨i, hi, rfl⟩ := List.getElem_of_mem hv
  have := (h.2 i (by rw [← h.1]; exact hi)).one
  rwa [List.getElem?_eq_getElem hi] at this

/-- 'groups = append(groups, group)' on a list that the call itself has made. -/
theorem append_rowV {w : World} {ops : Array Oper} {rest : List Oper} {o : Oper} {a : Act} {Q : Exit → Act → World → Prop} (hgd : o.guard = none) {s y : Operand}
    (ho : o.op = .call { callee := .builtin .append, args := #[s, y], argTypes := #[50, 50] })
    {base n sz : Nat} {v u : Value} {xs : List Value} (hsz : w.heap.size = sz) (hn : n = xs.length) (hown : w.ownsRow base 22 1 v n xs) (hbase : base ≤ w.heap.size) (hl : n ≤ 1048576) (hu : u.oneCell' = true)
    (hs : a.eval s = v) (hy : a.eval y = .slice (some ⟨sz, 0, none⟩) 1 1)
    (hK : ∀ v' w', w'.ownsRow base 22 1 v' (n + 1) (xs ++ [u]) → w.grownBy w' v.ownBlock → (v'.ownBlock = v.ownBlock ∨ v'.ownBlock = some (sz + 1)) → Below base w w' → wpList Try.prog ops Q rest (a.put o.dst v') w') :
    wpList Try.prog ops Q (o :: rest) a (w.alloc (.cells #[u] 22)) := by
  subst hn
  subst hsz
  obtain ⟨i0, hi, hz0, hz1, hz2⟩ := info_parts info_rowO
  refine wpList_append_own_at _ hgd s y 50 ho base 22 i0 (.slice none 0 0) 1 24 Try.underlying50 hi hz0 hz1 hz2 rfl (by decide) v _ _ hs (hown.alloc _) ⟨w.heap.size, 0, none⟩ 1 1 [u] hy rfl (cell_one_new _ _ _) (by simpa using hu) (by unfold maxLen; omega) (by omega) (by simp; omega) ?_
  intro v' w1 hown1 hgrow1 _ hat
  have hg : w.grownBy w1 v.ownBlock := (World.grownBy_alloc w _ _).trans hgrow1
  refine hK v' w1 (by simpa using hown1) hg (by simpa using hat) ((Below.refl base w).grown hg hbase (fun k hk => (hown.lt k hk).1))

set_option maxRecDepth 100000 in
set_option maxHeartbeats 1000000 in
/-- The closure in orderedGroups. -/
theorem can_any (a : Option Addr) (bm M cnt : Nat) (L g : List Int) (w : World) (hx : SlI w w.heap.size a g) (hl : g.length ≤ 1048576) (hr : ∀ m ∈ g, 1 ≤ m ∧ m ≤ 63) (hm : w.ownsMap Try.prog 2 (plainElem (H := Unit) Try.prog 4) M cnt (knownD L)) (hbm : w.cell? ⟨bm, 0, none⟩ = some (.map (some M))) :
    Calls Try.prog 129 #[.slice a g.length g.length, .pointer (some ⟨bm, 0, none⟩)] w fun e w' => e = .returned (.bool (canB L g)) ∧ Below w.heap.size w w' := by
  have HC := hid (gcf_any a g.length M cnt L g w hx hl hr hm)
  clear hx hr hm
  go_enter Try.func129, Try.ntmps129
  go_wp2_with fail
  refine HC.out.mono ?_
  rintro e w1 ⟨rfl, hB⟩
  have HB := hid hB
  clear hB
  go_wp2_with fail
  go_ret
  exact ⟨rfl, HB.out⟩

set_option maxRecDepth 100000 in
set_option maxHeartbeats 2000000 in
theorem idxG_any (bp n cap : Nat) (vs : List Value) (gs : List (List Int)) (bm M cnt : Nat) (L : List Int) (w : World) (hn : n = gs.length) (hn2 : n ≤ 1048576) (hbp : bp < w.heap.size) (hc : ∀ i, i < n → w.cell? ⟨bp, i, none⟩ = some (vs[i]?.getD undef)) (B : Nat) (hG : Gs w B vs gs)
    (hr : ∀ g ∈ gs, g.length ≤ 2 ∧ ∀ m ∈ g, 1 ≤ m ∧ m ≤ 63) (hm : w.ownsMap Try.prog 2 (plainElem (H := Unit) Try.prog 4) M cnt (knownD L)) (hbm : w.cell? ⟨bm, 0, none⟩ = some (.map (some M))) (hlt : bm < w.heap.size) :
    Calls Try.prog 128 #[.slice (some ⟨bp, 0, none⟩) n cap, .func (.func 129) #[] #[.pointer (some ⟨bm, 0, none⟩)]] w fun e w' => ∃ (i : Int) (k : Nat), e = .returned (.int .i64 i) ∧ k ≤ n ∧ (∀ j, j < k → canB L (gs[j]?.getD []) = false) ∧ (k < n → i = k ∧ canB L (gs[k]?.getD []) = true) ∧ Below w.heap.size w w' := by
  have hent : ∀ args w, (callFunc 129 args).run Try.prog w = .ok (.enter 129 args) w := enters_of Try.func129 (by kernel_rfl) rfl
  have Hn := hid hn
  have Hc := hid hc
  have HG := hid hG
  have Hr := hid hr
  have HD := hid (fun (W' : World) (a : Option Addr) (g : List Int) (hB : Below w.heap.size w W') (hx : SlI W' W'.heap.size a g) (hg : g.length ≤ 2 ∧ ∀ m ∈ g, 1 ≤ m ∧ m ≤ 63) => can_any a bm M cnt L g W' hx (by omega) hg.2 (hm.kept (row := none) ⟨hB.os, hB.tape, hB.output, hB.size, fun q hq _ => hB.block q hq⟩ (by simp)) ((hB.cell (p := ⟨bm, 0, none⟩) hlt).trans hbm))
  clear hn hc hG hr hm hbm
  go_enter Try.func128, Try.ntmps128
  go_wp2
  go_loopw [8] (fun i wr => ∃ k : Nat, k ≤ n ∧ i = .int .i64 k ∧ Hid (∀ j, j < k → canB L (gs[j]?.getD []) = false) ∧ Hid (Below w.heap.size w wr)) (fun i _ => n - (intOf i).toNat)
  case atStart => exact ⟨0, Nat.zero_le _, rfl, hid (by intro j h; omega), hid (Below.refl _ _)⟩
  case round =>
    obtain ⟨k, hk, rfl, Hk, HB⟩ := hrel
    by_cases hlt2 : k < n
    · have hgv := (HG.out.2 k (by have := Hn.out; omega))
      have hgm : gs[k]?.getD [] ∈ gs := by
        have hk' : k < gs.length := by have := Hn.out; omega
        rw [List.getElem?_eq_getElem hk']
        exact List.getElem_mem hk'
      obtain ⟨a, hva, hsl⟩ := (hgv.slI)
      have hc2 : wr.cell? ⟨bp, k, none⟩ = some (vs[k]?.getD undef) := (HB.out.cell (p := ⟨bp, k, none⟩) hbp).trans (Hc.out k hlt2)
      rw [hva] at hc2
      have HC := hid (HD.out wr a _ HB.out (hsl.later HB.out HB.out.size) (Hr.out _ hgm))
      obtain ⟨g, hg⟩ : ∃ g, g = gs[k]?.getD [] := ⟨_, rfl⟩
      rw [← hg] at HC hc2
      have hi0 : (0 : Int) ≤ (k : Int) := by omega
      have hi1 : (k : Int) < (n : Int) := by omega
      have Hg := hid hg
      clear hva hsl hgv hgm hg
      cases hb : canB L g
      · rw [hb] at HC
        have He : Hid (∀ j, j < k + 1 → canB L (gs[j]?.getD []) = false) := hid (by
          intro j h
          by_cases e : j < k
          · exact Hk.out j e
          · obtain rfl : j = k := by omega
            rw [← Hg.out]; exact hb)
        clear hb
        go_wp2_with (go_at_call 129; refine HC.out.mono ?_; rintro e w1 ⟨rfl, hB1⟩; have HB1 := hid (HB.out.trans (hB1.mono HB.out.size)); clear hB1)
        go_roundw
        case rel => exact ⟨k + 1, by omega, by go_num, He, HB1⟩
        case measure => simp [intOf]; omega
      · rw [hb] at HC
        have Hb := hid hb
        clear hb
        go_wp2_with (go_at_call 129; refine HC.out.mono ?_; rintro e w1 ⟨rfl, hB1⟩; have HB1 := hid (HB.out.trans (hB1.mono HB.out.size)); clear hB1)
        go_ret
        exact ⟨_, k, rfl, hk, Hk.out, fun _ => ⟨rfl, by rw [← Hg.out]; exact Hb.out⟩, HB1.out⟩
    · obtain rfl : k = n := by omega
      go_wp2_with fail
      go_ret
      exact ⟨_, k, rfl, hk, Hk.out, fun h => absurd h (by omega), HB.out⟩

/-- A row that is written in one piece. -/
theorem own_lay {base e g n cap : Nat} : ∀ (us : List Value) (o : Nat) (w : World) (xs : List Value), w.ownsRow base e 1 (.slice (some ⟨g, 0, none⟩) n cap) n xs → o + us.length ≤ xs.length →
    (w.setCells g o us).ownsRow base e 1 (.slice (some ⟨g, 0, none⟩) n cap) n (xs.take o ++ us ++ xs.drop (o + us.length)) ∧ w.grownBy (w.setCells g o us) (some g)
  | [], o, w, xs, h, _ => ⟨by
    have e : xs.take o ++ [] ++ xs.drop (o + ([] : List Value).length) = xs := by simp
    rw [e]
    exact h, ⟨rfl, rfl, rfl, Nat.le_refl _, fun _ _ _ => rfl⟩⟩
  | u :: us, o, w, xs, h, ho => by
    simp only [List.length_cons] at ho
    obtain ⟨h1, h2⟩ := h.stored o u
    obtain ⟨e2, e3⟩ := own_lay us (o + 1) _ _ h1 (by simp; omega)
    refine ⟨?_, h2.trans e3⟩
    have e : (xs.set o u).take (o + 1) ++ us ++ (xs.set o u).drop (o + 1 + us.length) = xs.take o ++ (u :: us) ++ xs.drop (o + (us.length + 1)) := by
      rw [take_snocV (by simp; omega), List.take_set_of_le (Nat.le_refl _), List.getElem?_set_self (by omega), List.drop_set_of_lt (by omega), show o + 1 + us.length = o + (us.length + 1) by omega]
      simp
    rw [e] at e2
    exact e2
where
  take_snocV {xs : List Value} {k : Nat} (h : k < xs.length) : xs.take (k + 1) = xs.take k ++ [xs[k]?.getD undef] := by
    rw [List.take_succ_eq_append_getElem h, List.getElem?_eq_getElem h]; simp

theorem zero_row (w : World) : (zeroValue 22).run Try.prog w = .ok (.slice none 0 0) w := by kernel_rfl

set_option maxRecDepth 100000 in
set_option maxHeartbeats 4000000 in
/-- slices.Delete of one group. -/
theorem delG_any (base g n cap i j : Nat) (hj : j = i + 1) (vs : List Value) (w : World) (hn : n ≤ 1048576) (hi : i < n) (hown : w.ownsRow base 22 1 (.slice (some ⟨g, 0, none⟩) n cap) n vs) (hone : ∀ v ∈ vs, v.oneCell' = true) :
    Calls Try.prog 131 #[.slice (some ⟨g, 0, none⟩) n cap, .int .i64 i, .int .i64 (j : Int)] w fun e w' => e = .returned (.slice (some ⟨g, 0, none⟩) (n - 1) cap) ∧ w'.ownsRow base 22 1 (.slice (some ⟨g, 0, none⟩) (n - 1) cap) (n - 1) (vs.take i ++ vs.drop (i + 1)) ∧ w.grownBy w' (some g) := by
  have hl : vs.length = n := by have := hown.1; omega
  have hnc : n ≤ cap := by
    rcases hown.2 with ⟨h1, _⟩ | ⟨_, _, _, h1, _, _, h2, _⟩
    · cases h1
    · injection h1 with _ _ h3; omega
  have hcm : cap ≤ maxLen := by
    rcases hown.2 with ⟨h1, _⟩ | ⟨_, _, _, h1, _, _, _, h2, _⟩
    · cases h1
    · injection h1 with _ _ h3; omega
  obtain ⟨i0, hin0, hz0, hz1, hz2⟩ := info_parts info_rowO
  obtain ⟨W0, hW0⟩ : ∃ W0, W0 = w.drew := ⟨_, rfl⟩
  have hownW : W0.ownsRow base 22 1 (.slice (some ⟨g, 0, none⟩) n cap) n vs := by rw [hW0]; exact row_later (B := 0) hown ⟨rfl, rfl, rfl, Nat.le_refl _, fun _ _ => rfl⟩ rfl
  obtain ⟨news, hnews⟩ : ∃ news, news = vs.drop (i + 1) := ⟨_, rfl⟩
  have hlen : news.length = n - (i + 1) := by rw [hnews]; simp [hl]
  have hcs : ∀ t, t < n → W0.cell? ⟨g, t, none⟩ = some (vs[t]?.getD undef) := by
    intro t ht
    rw [hownW.cellAt t (by omega), List.getElem?_eq_getElem (by omega)]
    simp
  obtain ⟨A, hA, hsrc⟩ : ∃ A : Addr, (if cap = i + 1 then some (⟨g, 0, none⟩ : Addr) else some ⟨g, i + 1, none⟩) = some A ∧ Hid (∀ t u, news[t]? = some u → W0.cell? (A.add t) = some u) := by
    by_cases h : cap = i + 1
    · refine ⟨⟨g, 0, none⟩, by simp [h], hid (fun t u hu => ?_)⟩
      have h0 : news.length = 0 := by rw [hlen]; omega
      rw [List.length_eq_zero_iff.1 h0] at hu
      simp at hu
    · refine ⟨⟨g, i + 1, none⟩, by simp [h], hid (fun t u hu => ?_)⟩
      have ht : t < n - (i + 1) := by
        have := (List.getElem?_eq_some_iff.1 hu).1
        rwa [hlen] at this
      rw [hnews, List.getElem?_drop] at hu
      have hadd : (⟨g, i + 1, none⟩ : Addr).add t = ⟨g, i + 1 + t, none⟩ := by unfold Addr.add; split <;> simp_all
      rw [hadd, hcs _ (by omega), hu]
      rfl
  have s1 : Hid (news.length = (n - (i + 1)) * 1) := hid (by rw [Nat.mul_one]; exact hlen)
  have s2 : Hid (∀ u ∈ news, u.oneCell' = true) := hid (by
    intro u hu
    rw [hnews] at hu
    exact hone u (List.mem_of_mem_drop hu))
  have s3 : Hid (∀ t, t < news.length → (W0.cell? ⟨g, 0 + i * 1 + t, none⟩).isSome = true ∧ W0.frozen? ⟨g, 0 + i * 1 + t, none⟩ = false) := hid (by
    intro t ht
    rw [Nat.zero_add, Nat.mul_one]
    exact ⟨by rw [hcs _ (by omega)]; rfl, hownW.frozenAt _⟩)
  obtain ⟨hown1, hg1⟩ := own_lay news i W0 vs hownW (by omega)
  obtain ⟨W1, hW1⟩ : ∃ W1, W1 = W0.setCells g i news := ⟨_, rfl⟩
  rw [← hW1] at hown1 hg1
  obtain ⟨ys, hys⟩ : ∃ ys, ys = vs.take i ++ news ++ vs.drop (i + news.length) := ⟨_, rfl⟩
  rw [← hys] at hown1
  have hyl : ys.length = n := by have := hown1.1; omega
  have hfst : ys.take (n - 1) = vs.take i ++ vs.drop (i + 1) := by
    rw [hys, ← hnews, List.take_append_of_le_length (by simp [hlen, hl]; omega), List.take_of_length_le (by simp [hlen, hl]; omega)]
  have hcl : ∀ ty, (Builtin.clear_ #[50] ty #[.slice (some ⟨g, n - 1, none⟩) (n - (n - 1)) (cap - (n - 1))]).run Try.prog W1 = .ok (.tuple #[]) (W1.setCells g (n - 1) (List.replicate 1 (.slice none 0 0))) :=
    fun ty => by
      have := Lib.run_clear_slice (P := Try.prog) W1 50 22 ty (.slice none 0 0) Try.underlying50 zero_row rfl rfl g (n - 1) (n - (n - 1)) (cap - (n - 1)) (by omega) (fun t ht => by rw [hown1.cellAt _ (by omega), List.getElem?_eq_getElem (by omega)]; rfl) (fun t ht => hown1.frozenAt _)
      rwa [show n - (n - 1) = 1 by omega] at this ⊢
  obtain ⟨hown2, hg2⟩ := own_lay [.slice none 0 0] (n - 1) W1 ys hown1 (by simp; omega)
  have hown3 := own_firstO (m := n - 1) hown2 (by omega)
  rw [Nat.mul_one, List.append_assoc, List.take_append_of_le_length (by simp; omega), List.take_take, Nat.min_self, hfst] at hown3
  have HO := hid hown3
  have HGr : Hid (w.grownBy (W1.setCells g (n - 1) [.slice none 0 0]) (some g)) := hid (by
    have e : w.grownBy W0 (some g) := by rw [hW0]; exact ⟨rfl, rfl, rfl, Nat.le_refl _, fun _ _ _ => rfl⟩
    exact (e.trans hg1).trans hg2)
  have hW : Hid (W1 = W0.setCells g (0 + i * 1) news) := hid (by rw [hW1, Nat.zero_add, Nat.mul_one])
  have hi0 : (0 : Int) ≤ (i : Int) := by omega
  have hi1 : (i : Int) ≤ (j : Int) := by omega
  have hi2 : (j : Int) ≤ (n : Int) := by omega
  have hij : i ≤ j := by omega
  have hjn : j ≤ n := by omega
  have hne : ((i : Int) == (j : Int)) = false := by simp; omega
  have hic : i ≤ cap := by omega
  have hjc : j ≤ cap := by omega
  have hlast : i + (n - j) = n - 1 := by omega
  rw [← hj] at hA
  rw [← hj] at s1
  clear hown hown1 hg1 hownW hone hys hyl hfst hown2 hg2 hown3 hW1 hnews hlen hcs hl
  clear hj
  subst hW0
  go_enter Try.func131, Try.ntmps131
  go_wp2_with fail
  go_region_law (refine step_append_room rfl (.tmp 22) (.tmp 25) 50 rfl 22 i0 1 Try.underlying50 hin0 hz1 g 0 i cap (by simp [Act.eval, Act.put]) A (n - j) (cap - j) news (by simp [Act.eval, Act.put]) s1.out hsrc.out s2.out (by omega) s3.out ?_; rw [← hW.out])
  go_wp2
  go_ret
  exact ⟨rfl, HO.out, HGr.out⟩

end Go.Proofs.Ytgcpakhagbbiiaa

/-! groupsOf, walked. -/
namespace Go.Proofs.Ytgcpakhagbbiiaa
open Go.RowKit

theorem ownsRow_form {w : World} {base e n : Nat} {v : Value} {xs : List Value} (h : w.ownsRow base e 1 v n xs) : ∃ a cp, v = .slice a n cp := by
  rcases h.2 with ⟨rfl, rfl⟩ | ⟨g, cap, _, rfl, _⟩
  · exact ⟨none, 0, rfl⟩
  · exact ⟨_, cap, rfl⟩
/-- The block of a list of rows is none of integers. -/
theorem row_not_int {w : World} {base n : Nat} {v : Value} {xs : List Value} (h : w.ownsRow base 22 1 v n xs) : ∀ r, v.ownBlock = some r → ∀ cur, w.heap[r]? ≠ some (.cells cur 2 (0, 0)) := by
  rcases h.2 with ⟨rfl, rfl⟩ | ⟨g, cap, cur', rfl, _, hg, _⟩
  · intro r hr; cases hr
  · intro r hr cur hcur
    cases hr
    rw [hg] at hcur
    injection hcur with hcur
    injection hcur with _ h2 _
    exact absurd h2 (by decide)
theorem map_row_ne {R : Value → Option (DataW Unit × List MemPlace)} {w : World} {key M cnt : Nat} {D : DataW Unit} {base e n : Nat} {v : Value} {xs : List Value} (hm : w.ownsMap Try.prog key R M cnt D) (hr : w.ownsRow base e 1 v n xs) : some M ≠ v.ownBlock := by
  rcases hr.2 with ⟨rfl, rfl⟩ | ⟨g, cap, cur', rfl, _, hg, _⟩
  · intro h; cases h
  · intro h
    cases h
    obtain ⟨_, _, hh, _⟩ := hm
    rw [hh] at hg
    cases hg
def highsL (ps : List Int) (k : Nat) : List Int := (List.range k).map fun j => at0 ps (j * 2 + 1)
theorem highsL_succ (ps : List Int) (k : Nat) : highsL ps (k + 1) = highsL ps k ++ [at0 ps (k * 2 + 1)] := by simp [highsL, List.range_succ]
theorem highsL_mem (ps : List Int) (n : Nat) (f : Int) : decide (f ∈ highsL ps n) = isHighB ps n f := by
  rw [Bool.eq_iff_iff, isHighB_iff]
  simp [highsL]
theorem left_snoc (fs ps : List Int) (n : Nat) (L : List Int) {k : Nat} (hk : k < fs.length) : leftL (fs.take (k + 1)) ps n L = leftL (fs.take k) ps n L ++ (if !isHighB ps n (fs[k]?.getD 0) && !decide (fs[k]?.getD 0 ∈ L) then [fs[k]?.getD 0] else []) := by
  rw [take_snoc hk]
  unfold leftL
  rw [List.filter_append]
  congr 1
  rw [List.filter_cons]
  simp

set_option maxRecDepth 100000 in
set_option maxHeartbeats 4000000 in
theorem groups_any (V : Int) (a0 : Option Addr) (cap : Nat) (fs : List Int) (a1 : Option Addr) (n cap1 : Nat) (ps : List Int) (w : World) (hx : SlI w w.heap.size a0 fs) (hx1 : SlI w w.heap.size a1 ps) (hp : ps.length = 2 * n) (hn : n ≤ 1048576) (hw : ∀ x ∈ ps, (Lit.int .i64 x).wf = true) (hC : IsC V fs) (hO : OkTo fs ps n) :
    Calls Try.prog 127 #[.agg #[.int .i64 V, .slice a0 fs.length cap], .slice a1 n cap1] w fun e w' => ∃ v vs, e = .returned v ∧ w'.ownsRow w.heap.size 22 1 v (leftL fs ps n []).length vs ∧ Gs w' w.heap.size vs ((leftL fs ps n []).map (grpL ps n)) ∧ Below w.heap.size w w' := by
  have hB0 : Below w.heap.size w (w.alloc (.cells #[.int .i64 V, .slice a0 fs.length cap] 30)) := (Below.refl _ w).alloc (Nat.le_refl _) _
  have HL := hid (lows_any a1 n cap1 ps _ (hx1.later hB0 hB0.size) hp hn hw)
  have Hx := hid hx
  have Hy := hid hx1
  have Hp := hid hp
  have Hw := hid hw
  have HC := hid hC
  have HO := hid hO
  have h63 := hC.len63
  have HD := hid (okTo_apart hO)
  have hmm := @run_makeMap Try.prog
  have HB0 := hid hB0
  clear hx hx1 hp hw hC hO hB0
  go_enter Try.func127, Try.ntmps127
  go_wp2_with fail
  refine HL.out.mono ?_
  rintro e w1 ⟨rfl, hown, hB1⟩
  rw [World.size_alloc] at hown
  have k1 : w1.cell? ⟨w.heap.size, 1, none⟩ = some (.slice a0 fs.length cap) := (hB1.cell (p := ⟨w.heap.size, 1, none⟩) (by simp)).trans (by simp [go_sem])
  have HBb := hid ((hB1.block w.heap.size (by simp)).trans (heap_alloc_new w _))
  have HB1 := hid (HB0.out.trans (hB1.mono (by simp)))
  have hMl := hown.lt
  have HM1 := hid hown
  have H2 : Hid ((w1.alloc (.map #[] 0)).ownsMap Try.prog 2 (plainElem (H := Unit) Try.prog 4) w1.heap.size 0 (knownD (highsL ps 0))) := hid (World.ownsMap_made w1 Try.prog 2 _)
  clear hown hB1 HL k1
  go_wp2_with fail
  clear hmm
  go_loopw [19] (fun i wr => ∃ k : Nat, k ≤ n ∧ i = .int .i64 k ∧ Hid (wr.ownsMap Try.prog 2 (plainElem (H := Unit) Try.prog 4) w1.heap.size k (knownD (highsL ps k))) ∧ Hid (Below w1.heap.size w1 wr)) (fun i _ => n - (intOf i).toNat)
  case atStart => exact ⟨0, Nat.zero_le _, rfl, H2, hid ((Below.refl _ w1).alloc (Nat.le_refl _) _)⟩
  case round =>
    clear H2
    obtain ⟨k, hk, rfl, HM, HB⟩ := hrel
    by_cases hlt : k < n
    · obtain ⟨b, off, hb, rfl, hc⟩ : ∃ b off, b < w.heap.size ∧ a1 = some ⟨b, off, none⟩ ∧ ∀ i, i < ps.length → w.cell? ⟨b, off + i, none⟩ = some (.int .i64 (ps[i]?.getD 0)) := by
        rcases Hy.out with h | h
        · have := Hp.out; rw [h] at this; simp at this; omega
        · exact h
      have hBr := HB1.out.trans (HB.out.mono HB1.out.size)
      have hc2 : wr.cell? ⟨b, off + k * 2, none⟩ = some (.int .i64 (at0 ps (k * 2))) := (hBr.cell (p := ⟨b, off + k * 2, none⟩) hb).trans (hc _ (by have := Hp.out; omega))
      have hc3 : wr.cell? ⟨b, off + k * 2 + 1, none⟩ = some (.int .i64 (at0 ps (k * 2 + 1))) := (hBr.cell (p := ⟨b, off + (k * 2 + 1), none⟩) hb).trans (hc _ (by have := Hp.out; omega))
      obtain ⟨x, hx⟩ : ∃ x, x = at0 ps (k * 2) := ⟨_, rfl⟩
      obtain ⟨y, hy⟩ : ∃ y, y = at0 ps (k * 2 + 1) := ⟨_, rfl⟩
      have hlen := Hp.out
      have hwy : (Lit.int .i64 y).wf = true := Hw.out y (by rw [hy]; exact getD_mem (by omega))
      have Hsn : Hid (highsL ps (k + 1) = highsL ps k ++ [y]) := hid (by rw [hy]; exact highsL_succ ps k)
      rw [← hx] at hc2
      rw [← hy] at hc3
      have hi0 : (0 : Int) ≤ (k : Int) := by omega
      have hi1 : (k : Int) < (n : Int) := by omega
      obtain ⟨wa, hrun1, hwa, hga⟩ := World.ownsMap.update (w := wr.alloc (.cells #[.int .i64 x, .int .i64 y] 69)) (World.ownsMap.alloc HM.out _) (Maps.int_keyed Try.underlying2) Try.underlying128 (show k < maxLen by unfold maxLen; omega) (Maps.keyOf_int_mk Try.underlying2 hwy) (plainElem_bool Try.underlying4 true)
      rw [← knownD_snoc, ← Hsn.out] at hwa
      have Hwa := hid hwa
      have HBa := hid ((HB.out.alloc HB.out.size (.cells #[.int .i64 x, .int .i64 y] 69)).grown hga (by have := HB.out.size; simp; omega) (fun r e => by cases e; exact Nat.le_refl _))
      clear hwa hga hx hy hc hlen hBr
      go_wp2_with fail
      go_roundw
      case rel => exact ⟨k + 1, by omega, by go_num, Hwa, HBa⟩
      case measure => simp [intOf]; omega
    · obtain rfl : k = n := by omega
      have hBb := (HB.out.block w.heap.size (lt_of_get HBb.out)).trans HBb.out
      have hgr : w1.grownBy wr none := ⟨HB.out.os, HB.out.tape, HB.out.output, HB.out.size, fun q hq _ => HB.out.block q hq⟩
      have HM2 := hid (HM1.out.kept hgr (by simp))
      have HB2 := hid (HB1.out.trans (HB.out.mono HB1.out.size))
      have hl2 := HM.out.lt
      obtain ⟨_, k1, _, _⟩ := two_of hBb
      obtain ⟨M, hM⟩ : ∃ M, M = w.heap.size + 1 := ⟨_, rfl⟩
      obtain ⟨S, hS⟩ : ∃ S, S = w1.heap.size := ⟨_, rfl⟩
      have hMw : w.heap.size < M := by omega
      have hSw : w.heap.size < S := by omega
      obtain ⟨w2, hw2⟩ : ∃ w2, w2 = wr := ⟨_, rfl⟩
      rw [← hM] at HM2 ⊢
      rw [← hS] at HM
      rw [← hS]
      rw [← hw2] at HM2 HM HB2 ⊢ k1
      have hz2 : w.heap.size ≤ w2.heap.size := HB2.out.size
      clear hM hS hBb hgr HBb HB1 HM1 HB0 hMl hl2 HB hw2
      go_wp2_with fail
      go_loopw [9, 30] (fun gv ii wx => ∃ (j : Nat) (v : Value) (vs : List Value), j ≤ fs.length ∧ gv = v ∧ ii = .int .i64 j ∧ Hid (wx.ownsRow w.heap.size 22 1 v (leftL (fs.take j) ps k []).length vs) ∧ Hid (Gs wx w.heap.size vs ((leftL (fs.take j) ps k []).map (grpL ps k))) ∧ Hid (wx.ownsMap Try.prog 2 pairElem M k (lowsD ps k)) ∧ Hid (wx.ownsMap Try.prog 2 (plainElem (H := Unit) Try.prog 4) S k (knownD (highsL ps k))) ∧ Hid (Below w.heap.size w wx)) (fun _ ii _ => fs.length - (intOf ii).toNat)
      case atStart => exact ⟨0, .slice none 0 0, [], Nat.zero_le _, rfl, rfl, hid (by simpa [leftL] using World.ownsRow_nil _ _ _ _), hid (by simpa [leftL] using Gs.nil _ _), HM2, HM, HB2⟩
      case round =>
        obtain ⟨j, v, vs, hj, rfl, rfl, HR, HG, HMl, HMh, HB⟩ := hrel
        by_cases hlt2 : j < fs.length
        · obtain ⟨b, off, hb, rfl, hc⟩ : ∃ b off, b < w.heap.size ∧ a0 = some ⟨b, off, none⟩ ∧ ∀ i, i < fs.length → w.cell? ⟨b, off + i, none⟩ = some (.int .i64 (fs[i]?.getD 0)) := by
            rcases Hx.out with h | h
            · rw [h] at hlt2; simp at hlt2
            · exact h
          have hxm := getD_mem hlt2
          have hxr := HC.out.range63 _ hxm
          have hls := left_snoc fs ps k [] hlt2
          obtain ⟨x, hxe⟩ : ∃ x, x = fs[j]?.getD 0 := ⟨_, rfl⟩
          rw [← hxe] at hls hxm hxr
          have hck : wr.cell? ⟨b, off + j, none⟩ = some (.int .i64 x) := by rw [hxe]; exact (HB.out.cell (p := ⟨b, off + j, none⟩) hb).trans (hc j hlt2)
          have hwx : (Lit.int .i64 x).wf = true := WalkArith.wf_i64 (by omega)
          have hi0 : (0 : Int) ≤ (j : Int) := by omega
          have hi1 : (j : Int) < (fs.length : Int) := by omega
          have hle : (leftL (fs.take j) ps k []).length ≤ 63 := Nat.le_trans (List.length_filter_le _ _) (by simp; omega)
          obtain ⟨R, hR⟩ : ∃ R, R = leftL (fs.take j) ps k [] := ⟨_, rfl⟩
          rw [← hR] at HR HG hls hle
          have hsz := HB.out.size
          clear hc hxe hR
          rcases lows_look HMl.out HD.out hwx with ⟨i, hi, hia, hh, hrun⟩ | ⟨hno, hrun⟩
          · obtain ⟨_, _, _, _, p5⟩ := pair_facts HC.out HO.out hi
            have hnh : isHighB ps k x = false := by
              cases hb2 : isHighB ps k x
              · rfl
              · obtain ⟨q, hq, e⟩ := isHighB_iff.1 hb2
                exact absurd (hia.trans e.symm) (low_not_high HC.out HO.out hi hq)
            rw [← hh] at p5
            have Hg2 : Hid (grpL ps k x = [x, highOf ps k x]) := hid (by unfold grpL; rw [if_neg (by omega)])
            obtain ⟨y, hy⟩ : ∃ y, y = highOf ps k x := ⟨_, rfl⟩
            rw [← hy] at hrun Hg2
            have Hls : Hid (leftL (fs.take (j + 1)) ps k [] = R ++ [x]) := hid (by rw [hls, hnh]; simp)
            clear hy hh hia hls hnh p5
            have hB3 : Below wr.heap.size wr ((wr.alloc (.cells #[.int .i64 x, .int .i64 y] 69)).alloc (.cells #[.int .i64 x, .int .i64 y] 2)) := ((Below.refl _ wr).alloc (Nat.le_refl _) _).alloc (by simp) _
            have hgv : GrpV ((wr.alloc (.cells #[.int .i64 x, .int .i64 y] 69)).alloc (.cells #[.int .i64 x, .int .i64 y] 2)) w.heap.size (.slice (some ⟨wr.heap.size + 1, 0, none⟩) 2 2) [x, y] := ⟨wr.heap.size + 1, rfl, by omega, by
              have := heap_alloc_new (wr.alloc (.cells #[.int .i64 x, .int .i64 y] 69)) (.cells #[.int .i64 x, .int .i64 y] 2)
              rwa [World.size_alloc] at this⟩
            have HR3 := hid (row_later (B := 0) HR.out hB3 rfl)
            have HG3 := hid ((HG.out.below hB3).snoc hgv)
            have HB3 := hid (HB.out.trans (hB3.mono HB.out.size))
            have hgr : wr.grownBy ((wr.alloc (.cells #[.int .i64 x, .int .i64 y] 69)).alloc (.cells #[.int .i64 x, .int .i64 y] 2)) none := ⟨hB3.os, hB3.tape, hB3.output, hB3.size, fun q hq _ => hB3.block q hq⟩
            have HMl3 := hid (HMl.out.kept hgr (by simp))
            have HMh3 := hid (HMh.out.kept hgr (by simp))
            have hsz3 : w.heap.size ≤ ((wr.alloc (.cells #[.int .i64 x, .int .i64 y] 69)).alloc (.cells #[.int .i64 x, .int .i64 y] 2)).heap.size := by simp; omega
            clear hB3 hgv hgr
            go_wp2_with (at_builtin; refine append_rowV rfl rfl (sz := wr.heap.size + 1 + 1) (u := .slice (some ⟨wr.heap.size + 1, 0, none⟩) 2 2) (by simp) (by have := HR3.out.1; omega) HR3.out hsz3 (by omega) rfl rfl rfl ?_; intro v' w4 hown4 hgrow4 _ hB4)
            have Hown4 := hid hown4
            have HG4 := hid (HG3.out.kept hgrow4 (row_not_int HR3.out))
            have HMl4 := hid (HMl3.out.kept hgrow4 (map_row_ne HMl3.out HR3.out))
            have HMh4 := hid (HMh3.out.kept hgrow4 (map_row_ne HMh3.out HR3.out))
            have HB4 := hid (HB3.out.trans ((hB4.mono (Nat.le_refl _)).trans (Below.refl _ _)))
            clear hown4 hgrow4 hB4 HG3 HMl3 HMh3 HR3
            go_wp2_with fail
            go_roundw
            case rel =>
              refine ⟨j + 1, v', vs ++ [.slice (some ⟨wr.heap.size + 1, 0, none⟩) 2 2], by omega, rfl, by go_num, hid ?_, hid ?_, HMl4, HMh4, HB4⟩
              · rw [Hls.out, List.length_append]
                exact Hown4.out
              · rw [Hls.out, List.map_append, List.map_cons, List.map_nil, Hg2.out]
                exact HG4.out
            case measure => simp [intOf]; omega
          · have Hg1 : Hid (grpL ps k x = [x]) := hid (by unfold grpL; rw [if_pos hno])
            have hlk := lookup_known (w := wr.alloc (.cells #[.int .i64 0, .int .i64 0] 69)) (HMh.out.alloc _) hwx
            rw [highsL_mem] at hlk
            have hB2 : Below wr.heap.size wr (wr.alloc (.cells #[.int .i64 0, .int .i64 0] 69)) := (Below.refl _ wr).alloc (Nat.le_refl _) _
            have HB2' := hid (HB.out.trans (hB2.mono HB.out.size))
            have HR2 := hid (row_later (B := 0) HR.out hB2 rfl)
            have HG2 := hid (HG.out.below hB2)
            have HMl2 := hid (HMl.out.alloc (.cells #[.int .i64 0, .int .i64 0] 69))
            have HMh2 := hid (HMh.out.alloc (.cells #[.int .i64 0, .int .i64 0] 69))
            clear hno hB2
            cases hnh : isHighB ps k x
            · rw [hnh] at hlk hls
              have Hls : Hid (leftL (fs.take (j + 1)) ps k [] = R ++ [x]) := hid (by rw [hls]; simp)
              clear hls hnh
              have hB3 : Below (wr.alloc (.cells #[.int .i64 0, .int .i64 0] 69)).heap.size (wr.alloc (.cells #[.int .i64 0, .int .i64 0] 69)) ((wr.alloc (.cells #[.int .i64 0, .int .i64 0] 69)).alloc (.cells #[.int .i64 x] 2)) := (Below.refl _ _).alloc (Nat.le_refl _) _
              have hgv : GrpV ((wr.alloc (.cells #[.int .i64 0, .int .i64 0] 69)).alloc (.cells #[.int .i64 x] 2)) w.heap.size (.slice (some ⟨wr.heap.size + 1, 0, none⟩) 1 1) [x] := ⟨wr.heap.size + 1, rfl, by omega, by
                have := heap_alloc_new (wr.alloc (.cells #[.int .i64 0, .int .i64 0] 69)) (.cells #[.int .i64 x] 2)
                rwa [World.size_alloc] at this⟩
              have HR3 := hid (row_later (B := 0) HR2.out hB3 rfl)
              have HG3 := hid ((HG2.out.below hB3).snoc hgv)
              have HB3 := hid (HB2'.out.trans (hB3.mono HB2'.out.size))
              have HMl3 := hid (HMl2.out.alloc (.cells #[.int .i64 x] 2))
              have HMh3 := hid (HMh2.out.alloc (.cells #[.int .i64 x] 2))
              have hsz3 : w.heap.size ≤ ((wr.alloc (.cells #[.int .i64 0, .int .i64 0] 69)).alloc (.cells #[.int .i64 x] 2)).heap.size := by simp; omega
              clear hB3 hgv HR2 HG2 HMl2 HMh2
              go_wp2_with (at_builtin; refine append_rowV rfl rfl (sz := wr.heap.size + 1 + 1) (u := .slice (some ⟨wr.heap.size + 1, 0, none⟩) 1 1) (by simp) (by have := HR3.out.1; omega) HR3.out hsz3 (by omega) rfl rfl rfl ?_; intro v' w4 hown4 hgrow4 _ hB4)
              have Hown4 := hid hown4
              have HG4 := hid (HG3.out.kept hgrow4 (row_not_int HR3.out))
              have HMl4 := hid (HMl3.out.kept hgrow4 (map_row_ne HMl3.out HR3.out))
              have HMh4 := hid (HMh3.out.kept hgrow4 (map_row_ne HMh3.out HR3.out))
              have HB4 := hid (HB3.out.trans ((hB4.mono (Nat.le_refl _)).trans (Below.refl _ _)))
              clear hown4 hgrow4 hB4 HG3 HMl3 HMh3 HR3
              go_wp2_with fail
              go_roundw
              case rel =>
                refine ⟨j + 1, v', vs ++ [.slice (some ⟨wr.heap.size + 1, 0, none⟩) 1 1], by omega, rfl, by go_num, hid ?_, hid ?_, HMl4, HMh4, HB4⟩
                · rw [Hls.out, List.length_append]
                  exact Hown4.out
                · rw [Hls.out, List.map_append, List.map_cons, List.map_nil, Hg1.out]
                  exact HG4.out
              case measure => simp [intOf]; omega
            · rw [hnh] at hlk hls
              have Hls : Hid (leftL (fs.take (j + 1)) ps k [] = R) := hid (by rw [hls]; simp)
              clear hls hnh
              go_wp2_with fail
              go_roundw
              case rel => exact ⟨j + 1, _, vs, by omega, rfl, by go_num, hid (by rw [Hls.out]; exact HR2.out), hid (by rw [Hls.out]; exact HG2.out), HMl2, HMh2, HB2'⟩
              case measure => simp [intOf]; omega
        · obtain rfl : j = fs.length := by omega
          rw [List.take_length] at HR HG
          go_wp2_with fail
          go_ret
          exact ⟨_, vs, rfl, HR.out, HG.out, HB.out⟩

end Go.Proofs.Ytgcpakhagbbiiaa

/-! orderedGroups, walked. -/
namespace Go.Proofs.Ytgcpakhagbbiiaa
open Go.RowKit

/-- What the walk keeps: B what lay ahead of the rows; M: the map; b3: its box. -/
structure OgW (wx : World) (w : World) (M b3 : Nat) (fs ps : List Int) (n k : Nat) (Os : List Int) (ov gv : Value) (ovs gvs : List Value) : Prop where
  orow : wx.ownsRow (b3 + 1) 22 1 ov Os.length ovs
  ogs : Gs wx (b3 + 1) ovs (Os.map (grpL ps n))
  grow : wx.ownsRow (b3 + 1) 22 1 gv (leftL fs ps n (ordN fs ps n k)).length gvs
  ggs : Gs wx (b3 + 1) gvs ((leftL fs ps n (ordN fs ps n k)).map (grpL ps n))
  off : ∀ g, gv.ownBlock = some g → ov.ownBlock ≠ some g
  flat : Os.flatMap (grpL ps n) = ordN fs ps n k
  heads : ∀ f ∈ Os, f ∈ fs ∧ isHighB ps n f = false
  more : ∀ j, j < k → nextF fs ps n (ordN fs ps n j) ≠ none
  map : wx.ownsMap Try.prog 2 (plainElem (H := Unit) Try.prog 4) M (ordN fs ps n k).length (knownD (ordN fs ps n k))
  box : wx.heap[b3]? = some (.cells #[.map (some M)] 128 (0, 0))
  ml : M < b3
  wl : w.heap.size ≤ M
  below : Below w.heap.size w wx

theorem flat_len {Os : List Int} {ps : List Int} {n : Nat} : Os.length ≤ (Os.flatMap (grpL ps n)).length := by
  induction Os with
  | nil => simp
  | cons x Os ih =>
    simp only [List.flatMap_cons, List.length_append, List.length_cons]
    have := grp_pos ps n x
    omega

theorem GrpV.base {w : World} {B B' : Nat} {v : Value} {g : List Int} (h : GrpV w B v g) (hb : B' ≤ B) : GrpV w B' v g := by
  obtain ⟨b, h1, h2, h3⟩ := h
  exact ⟨b, h1, by omega, h3⟩
theorem Gs.base {w : World} {B B' : Nat} {vs : List Value} {gs : List (List Int)} (h : Gs w B vs gs) (hb : B' ≤ B) : Gs w B' vs gs := ⟨h.1, fun i hi => (h.2 i hi).base hb⟩
theorem map_not_int {w : World} {M cnt : Nat} {D : DataW Unit} (h : w.ownsMap Try.prog 2 (plainElem (H := Unit) Try.prog 4) M cnt D) : ∀ r, some M = some r → ∀ cur, w.heap[r]? ≠ some (.cells cur 2 (0, 0)) := by
  intro r hr cur hc
  cases hr
  obtain ⟨_, _, hh, _⟩ := h
  rw [hh] at hc
  cases hc
theorem kept_row {w w' : World} {base base' e e' n n' : Nat} {v v' : Value} {xs xs' : List Value} (h : w.ownsRow base e 1 v n xs) (hg : w.grownBy w' v'.ownBlock) (_h' : w.ownsRow base' e' 1 v' n' xs') (hne : ∀ g, v.ownBlock = some g → v'.ownBlock ≠ some g) : w'.ownsRow base e 1 v n xs :=
  h.kept hg (by
    cases hv : v.ownBlock with
    | none => exact .inl rfl
    | some g => exact .inr (fun e => hne g hv e.symm))
theorem OgW.later {wx wy w : World} {M b3 : Nat} {fs ps : List Int} {n k : Nat} {Os : List Int} {ov gv : Value} {ovs gvs : List Value} (h : OgW wx w M b3 fs ps n k Os ov gv ovs gvs) (hB : Below wx.heap.size wx wy) : OgW wy w M b3 fs ps n k Os ov gv ovs gvs where
  orow := row_later (B := 0) h.orow hB rfl
  ogs := h.ogs.below hB
  grow := row_later (B := 0) h.grow hB rfl
  ggs := h.ggs.below hB
  off := h.off
  flat := h.flat
  heads := h.heads
  more := h.more
  map := h.map.kept (row := none) ⟨hB.os, hB.tape, hB.output, hB.size, fun q hq _ => hB.block q hq⟩ (by simp)
  box := (hB.block _ (lt_of_get h.box)).trans h.box
  ml := h.ml
  wl := h.wl
  below := h.below.trans (hB.mono h.below.size)
/-- Faces put into the map. -/
theorem OgW.put {wx wy w : World} {M b3 : Nat} {fs ps : List Int} {n k : Nat} {Os : List Int} {ov gv : Value} {ovs gvs : List Value} (h : OgW wx w M b3 fs ps n k Os ov gv ovs gvs) (hg : wx.grownBy wy (some M)) :
    wy.ownsRow (b3 + 1) 22 1 ov Os.length ovs ∧ Gs wy (b3 + 1) ovs (Os.map (grpL ps n)) ∧ wy.ownsRow (b3 + 1) 22 1 gv (leftL fs ps n (ordN fs ps n k)).length gvs ∧ Gs wy (b3 + 1) gvs ((leftL fs ps n (ordN fs ps n k)).map (grpL ps n)) ∧ wy.heap[b3]? = some (.cells #[.map (some M)] 128 (0, 0)) ∧ Below w.heap.size w wy := by
  have hml := h.ml
  have hk : ∀ {e n : Nat} {v : Value} {xs : List Value}, wx.ownsRow (b3 + 1) e 1 v n xs → wy.ownsRow (b3 + 1) e 1 v n xs := fun {e n v xs} hr => hr.kept hg (by
    cases hv : v.ownBlock with
    | none => exact .inl rfl
    | some g => exact .inr (fun e => by have := (hr.lt g hv).1; injection e with e; omega))
  exact ⟨hk h.orow, h.ogs.kept hg (map_not_int h.map), hk h.grow, h.ggs.kept hg (map_not_int h.map), (hg.block _ (lt_of_get h.box) (fun e => by injection e with e; omega)).trans h.box, h.below.grown hg h.below.size (fun r e => by injection e with e; have := h.wl; omega)⟩

set_option maxRecDepth 100000 in
set_option maxHeartbeats 4000000 in
theorem ordered_any (V : Int) (a0 : Option Addr) (cap : Nat) (fs : List Int) (a1 : Option Addr) (n cap1 : Nat) (ps : List Int) (w : World) (hx : SlI w w.heap.size a0 fs) (hx1 : SlI w w.heap.size a1 ps) (hp : ps.length = 2 * n) (hn : n ≤ 1048576) (hw : ∀ x ∈ ps, (Lit.int .i64 x).wf = true) (hC : IsC V fs) (hO : OkTo fs ps n) (hc : NoCycle ps n) :
    Calls Try.prog 63 #[.agg #[.int .i64 V, .slice a0 fs.length cap], .slice a1 n cap1] w fun e w' => ∃ (v : Value) (vs : List Value) (Os : List Int), e = .returned v ∧ w'.ownsRow w.heap.size 22 1 v Os.length vs ∧ Gs w' w.heap.size vs (Os.map (grpL ps n)) ∧ Os.flatMap (grpL ps n) = ordL fs ps n ∧ (∀ f ∈ Os, f ∈ fs ∧ isHighB ps n f = false) ∧ Below w.heap.size w w' := by
  have h63 := hC.len63
  have HC := hid hC
  have HO := hid hO
  have Hc := hid hc
  have hmm := @run_makeMap Try.prog
  have hBb : Below w.heap.size w (((w.alloc (.cells #[.int .i64 V, .slice a0 fs.length cap] 30)).alloc (.map #[] 0)).alloc (.cells #[.map (some (w.heap.size + 1))] 128)) := (((Below.refl _ w).alloc (Nat.le_refl _) _).alloc (by simp) _).alloc (by simp; omega) _
  have HG := hid (groups_any V a0 cap fs a1 n cap1 ps _ (hx.later hBb hBb.size) (hx1.later hBb hBb.size) hp hn hw hC hO)
  have hmap : (((w.alloc (.cells #[.int .i64 V, .slice a0 fs.length cap] 30)).alloc (.map #[] 0)).alloc (.cells #[.map (some (w.heap.size + 1))] 128)).ownsMap Try.prog 2 (plainElem (H := Unit) Try.prog 4) (w.heap.size + 1) 0 (knownD []) := by
    have := World.ownsMap_made (H := Unit) (w.alloc (.cells #[.int .i64 V, .slice a0 fs.length cap] 30)) Try.prog 2 (plainElem (H := Unit) Try.prog 4)
    rw [World.size_alloc] at this
    exact this.alloc _
  have hbx : (((w.alloc (.cells #[.int .i64 V, .slice a0 fs.length cap] 30)).alloc (.map #[] 0)).alloc (.cells #[.map (some (w.heap.size + 1))] 128)).heap[w.heap.size + 1 + 1]? = some (.cells #[.map (some (w.heap.size + 1))] 128 (0, 0)) := by
    have := heap_alloc_new ((w.alloc (.cells #[.int .i64 V, .slice a0 fs.length cap] 30)).alloc (.map #[] 0)) (.cells #[.map (some (w.heap.size + 1))] 128)
    rwa [World.size_alloc, World.size_alloc] at this
  have HBb := hid hBb
  have Hmap := hid hmap
  have Hbx := hid hbx
  clear hx hx1 hp hw hC hO hc hBb hmap hbx
  go_enter Try.func63, Try.ntmps63
  go_wp2_with fail
  clear hmm
  refine HG.out.mono ?_
  rintro e w1 ⟨v, gvs, rfl, hown, hgs, hB1⟩
  simp only [World.size_alloc] at hown hgs
  obtain ⟨bv, cq, rfl⟩ := ownsRow_form hown
  have H0 : Hid (OgW w1 w (w.heap.size + 1) (w.heap.size + 1 + 1) fs ps n 0 [] (.slice none 0 0) (.slice bv (leftL fs ps n (ordN fs ps n 0)).length cq) [] gvs) := hid {
    orow := World.ownsRow_nil _ _ _ _
    ogs := Gs.nil _ _
    grow := hown
    ggs := hgs
    off := fun g _ => by simp [Value.ownBlock]
    flat := rfl
    heads := by simp
    more := fun j hj => absurd hj (Nat.not_lt_zero _)
    map := Hmap.out.kept (row := none) ⟨hB1.os, hB1.tape, hB1.output, hB1.size, fun q hq _ => hB1.block q hq⟩ (by simp)
    box := (hB1.block _ (lt_of_get Hbx.out)).trans Hbx.out
    ml := by omega
    wl := by omega
    below := HBb.out.trans (hB1.mono HBb.out.size) }
  obtain ⟨M, hM⟩ : ∃ M, M = w.heap.size + 1 := ⟨_, rfl⟩
  obtain ⟨b3, hb3⟩ : ∃ b3, b3 = w.heap.size + 1 + 1 := ⟨_, rfl⟩
  rw [← hb3, ← hM] at H0
  rw [← hb3]
  clear hown hgs hB1 HG Hbx Hmap HBb hM hb3
  go_wp2_with fail
  go_loopw [5, 7] (fun ow gw wx => ∃ (k : Nat) (Os : List Int) (av bv : Option Addr) (cp cq : Nat) (ovs gvs : List Value), ow = .slice av Os.length cp ∧ gw = .slice bv (leftL fs ps n (ordN fs ps n k)).length cq ∧ Hid (OgW wx w M b3 fs ps n k Os (.slice av Os.length cp) (.slice bv (leftL fs ps n (ordN fs ps n k)).length cq) ovs gvs)) (fun _ gw _ => match gw with | .slice _ m _ => m | _ => 0)
  case atStart => exact ⟨0, [], none, bv, 0, cq, [], gvs, rfl, rfl, H0⟩
  case round =>
    clear H0
    obtain ⟨k, Os, av, bv, cp, cq, ovs, gvs, rfl, rfl, HW⟩ := hrel
    have hIv := ordN_inv HC.out HO.out k
    have hLl : (ordN fs ps n k).length ≤ 63 := Nat.le_trans hIv.le h63
    have hOl : Os.length ≤ 63 := Nat.le_trans (by have := flat_len (Os := Os) (ps := ps) (n := n); rw [HW.out.flat] at this; exact this) hLl
    have hRl : (leftL fs ps n (ordN fs ps n k)).length ≤ 63 := Nat.le_trans (List.length_filter_le _ _) h63
    by_cases h0 : leftL fs ps n (ordN fs ps n k) = []
    · have Hend := hid (ord_end HC.out HO.out HW.out.more (left_nil h0))
      obtain ⟨m, hm⟩ : ∃ m, m = (leftL fs ps n (ordN fs ps n k)).length := ⟨_, rfl⟩
      rw [← hm] at HW ⊢
      obtain rfl : m = 0 := by rw [hm, h0]; rfl
      clear hm h0
      go_wp2_with fail
      go_ret
      have hml := HW.out.ml
      have hwl := HW.out.wl
      exact ⟨_, ovs, Os, rfl, ownsRow_base HW.out.orow (by omega), HW.out.ogs.base (by omega), HW.out.flat.trans Hend.out, HW.out.heads, HW.out.below⟩
    · obtain ⟨i, hi, hbe, hcan, hnx⟩ := left_ex HC.out HO.out Hc.out k h0
      obtain ⟨R, hR⟩ : ∃ R, R = leftL fs ps n (ordN fs ps n k) := ⟨_, rfl⟩
      obtain ⟨L, hL⟩ : ∃ L, L = ordN fs ps n k := ⟨_, rfl⟩
      have Hgr := hid (HW.out.grow)
      have Hgg := hid (HW.out.ggs)
      have hstep := left_step (n := n) (ps := ps) HC.out HO.out (L := ordN fs ps n k) hi
      rw [← ordN_next hnx] at hstep
      have hon := ordN_next hnx
      rw [← hR] at hi hbe hcan hnx hRl hstep hon Hgr Hgg HW ⊢
      rw [← hL] at hbe hcan hnx hLl hon
      obtain ⟨f, hf⟩ : ∃ f, f = R[i]?.getD 0 := ⟨_, rfl⟩
      rw [← hf] at hcan hnx hon
      have hfR : f ∈ R := by rw [hf]; exact getD_mem hi
      have hfs : f ∈ fs := by rw [hR] at hfR; exact (leftL_mem.1 hfR).1
      have hgrg := grp_rngP HC.out HO.out hfs
      have Hfh : Hid (f ∈ fs ∧ isHighB ps n f = false) := hid ⟨hfs, by rw [hR] at hfR; exact (leftL_mem.1 hfR).2.1⟩
      obtain ⟨gl, hgl⟩ : ∃ gl, gl = grpL ps n f := ⟨_, rfl⟩
      have hgl2 : gl.length ≤ 2 := by rw [hgl]; unfold grpL; split <;> simp
      rw [← hgl] at hcan hgrg hon
      obtain ⟨g, hbv, hglt, hgcell⟩ : ∃ g, bv = some ⟨g, 0, none⟩ ∧ g < wr.heap.size ∧ ∀ j, j < R.length → wr.cell? ⟨g, j, none⟩ = some (gvs[j]?.getD undef) := by
        rcases Hgr.out.2 with ⟨h1, h2⟩ | ⟨g, c0, cur, h1, _, hh, _⟩
        · exact absurd h2 (by omega)
        · injection h1 with h1 _ _
          have hlv : gvs.length = R.length := by have := Hgr.out.1; omega
          refine ⟨g, h1, lt_of_get hh, fun j hj => ?_⟩
          subst h1
          rw [Hgr.out.cellAt j (by omega), List.getElem?_eq_getElem (by omega)]
          simp
      subst hbv
      have hgs2 : ∀ g ∈ R.map (grpL ps n), g.length ≤ 2 ∧ ∀ m ∈ g, 1 ≤ m ∧ m ≤ 63 := by
        intro g hg
        obtain ⟨f', hf', rfl⟩ := List.mem_map.1 hg
        have hm : f' ∈ fs := by rw [hR] at hf'; exact (leftL_mem.1 hf').1
        exact ⟨by unfold grpL; split <;> simp, grp_rngP HC.out HO.out hm⟩
      have hget : ∀ j, j < R.length → (R.map (grpL ps n))[j]?.getD [] = grpL ps n (R[j]?.getD 0) := by
        intro j hj
        simp [hj]
      have hmapL := HW.out.map
      rw [← hL] at hmapL
      obtain ⟨b3c, _⟩ := box_cell HW.out.box
      have HI : Hid (Calls Try.prog 128 #[.slice (some ⟨g, 0, none⟩) R.length cq, .func (.func 129) #[] #[.pointer (some ⟨b3, 0, none⟩)]] wr fun e w' => e = .returned (.int .i64 (i : Int)) ∧ Below wr.heap.size wr w') := hid (by
        refine (idxG_any g R.length cq gvs (R.map (grpL ps n)) b3 M _ L wr (by simp) (by omega) hglt hgcell _ Hgg.out hgs2 hmapL b3c (lt_of_get HW.out.box)).mono ?_
        rintro e w' ⟨i', k', rfl, h1, h2, h3, hB⟩
        refine ⟨?_, hB⟩
        have hki : k' = i := by
          rcases Nat.lt_trichotomy k' i with h | h | h
          · have := (h3 (by omega)).2
            rw [hget _ (by omega), hbe _ h] at this
            cases this
          · exact h
          · have := h2 i h
            rw [hget _ hi, ← hf, ← hgl, hcan] at this
            cases this
        rw [(h3 (by omega)).1, hki])
      have Hstep := hid hstep
      have Hnx := hid hnx
      have Hon := hid hon
      have Hgrg := hid hgrg
      have Hgl := hid hgl
      have HR := hid hR
      have HL := hid hL
      have Hf := hid hf
      have hgi : GrpV wr (b3 + 1) (gvs[i]?.getD undef) gl := by
        have := Hgg.out.2 i (by simpa using hi)
        rwa [hget _ hi, ← hf, ← hgl] at this
      have hci := hgcell i hi
      obtain ⟨b, hgv, hbb, hbh⟩ := hgi
      rw [hgv] at hci
      have Hgv := hid hgv
      have hi0 : (0 : Int) ≤ (i : Int) := by omega
      have hi1 : (i : Int) < (R.length : Int) := by omega
      have hpos : (0 : Int) < (R.length : Int) := by omega
      clear hmapL b3c hgs2 hget hgcell hfR hfs hcan hbe h0 hstep hnx hon hgrg hgl hR hf hL hgv hIv
      go_wp2_with fail
      refine HI.out.mono ?_
      rintro e w1 ⟨rfl, hB1⟩
      have hci1 := (hB1.cell (p := ⟨g, i, none⟩) hglt).trans hci
      have hbh1 := (hB1.block _ (lt_of_get hbh)).trans hbh
      have HW1 := hid (HW.out.later hB1)
      have hg1 : g < w1.heap.size := Nat.lt_of_lt_of_le hglt hB1.size
      have Hm1 : Hid (w1.ownsMap Try.prog 2 (plainElem (H := Unit) Try.prog 4) M (L.length + 0) (knownD (L ++ gl.take 0))) := hid (by
        have := HW1.out.map
        rw [← HL.out] at this
        simpa using this)
      have Hbh1 := hid hbh1
      clear hB1 hci hbh HI HW hglt
      go_wp2_with fail
      go_loopw [26] (fun ii wx => ∃ t : Nat, t ≤ gl.length ∧ ii = .int .i64 t ∧ Hid (wx.ownsMap Try.prog 2 (plainElem (H := Unit) Try.prog 4) M (L.length + t) (knownD (L ++ gl.take t))) ∧ Hid (w1.grownBy wx (some M))) (fun ii _ => gl.length - (intOf ii).toNat)
      case atStart => exact ⟨0, Nat.zero_le _, rfl, Hm1, hid ⟨rfl, rfl, rfl, Nat.le_refl _, fun _ _ _ => rfl⟩⟩
      case round =>
        clear Hm1
        obtain ⟨t, ht, rfl, HM, HGr⟩ := hrel
        have hml := HW1.out.ml
        by_cases hlt : t < gl.length
        · obtain ⟨x, hx⟩ : ∃ x, x = gl[t]?.getD 0 := ⟨_, rfl⟩
          have hxr := Hgrg.out _ (getD_mem hlt)
          rw [← hx] at hxr
          have hwx : (Lit.int .i64 x).wf = true := WalkArith.wf_i64 (by omega)
          have hbx : wr.heap[b]? = some (.cells (gl.map (Value.int .i64)).toArray 2 (0, 0)) := (HGr.out.block _ (lt_of_get Hbh1.out) (fun e => by injection e with e; omega)).trans Hbh1.out
          have hcx : wr.cell? ⟨b, t, none⟩ = some (.int .i64 x) := by rw [hx]; simp [World.cell?, hbx, hlt]
          obtain ⟨_, _, _, _, hbox, _⟩ := HW1.out.put HGr.out
          obtain ⟨b3c, _⟩ := box_cell hbox
          have htk : gl.take (t + 1) = gl.take t ++ [x] := by rw [take_snoc hlt, hx]
          have hj0 : (0 : Int) ≤ (t : Int) := by omega
          have hj1 : (t : Int) < (gl.length : Int) := by omega
          obtain ⟨wa, hrun1, hwa, hga⟩ := World.ownsMap.update HM.out (Maps.int_keyed Try.underlying2) Try.underlying128 (show L.length + t < maxLen by unfold maxLen; omega) (Maps.keyOf_int_mk Try.underlying2 hwx) (plainElem_bool Try.underlying4 true)
          rw [← knownD_snoc, List.append_assoc, ← htk] at hwa
          have Hwa := hid hwa
          have Hga := hid (HGr.out.trans hga)
          clear hwa hga htk hbox hbx hx hxr
          go_wp2_with fail
          go_roundw
          case rel => exact ⟨t + 1, by omega, by go_num, Hwa, Hga⟩
          case measure => simp [intOf]; omega
        · obtain rfl : t = gl.length := by omega
          rw [List.take_length] at HM
          obtain ⟨h1, h2, h3, h4, h5, h6⟩ := HW1.out.put HGr.out
          have hsz := HGr.out.size
          have hcix : wr.cell? ⟨g, i, none⟩ = some (.slice (some ⟨b, 0, none⟩) gl.length gl.length) := HGr.out.cell hci1 (by
            have := (HW1.out.grow.lt g rfl).1
            simp; omega)
          have Horow := hid h1
          have Hogs := hid h2
          have Hgrow := hid h3
          have Hggs := hid h4
          have Hbox := hid h5
          have HB := hid h6
          have hszb : b3 + 1 ≤ wr.heap.size := by have := lt_of_get h5; omega
          clear h1 h2 h3 h4 h5 h6
          rw [← HR.out] at Hgrow Hggs
          go_wp2_with (at_builtin; refine append_rowV rfl rfl (u := .slice (some ⟨b, 0, none⟩) gl.length gl.length) rfl (by have := Horow.out.1; omega) Horow.out hszb (by omega) rfl rfl rfl ?_; intro v' w4 hown4 hgrow4 hat4 hB4)
          obtain ⟨av', cp', rfl⟩ := ownsRow_form hown4
          have hgl4 : g < wr.heap.size := (Hgrow.out.lt g rfl).2
          have hoff := HW1.out.off g rfl
          have hgrow4' := kept_row Hgrow.out hgrow4 Horow.out (fun q hq => by cases hq; exact hoff)
          have hone := Hggs.out.ones
          have hDel := delG_any (b3 + 1) g R.length cq i (i + 1) rfl gvs w4 (by omega) hi hgrow4' hone
          rw [show ((i + 1 : Nat) : Int) = (i : Int) + 1 from by simp] at hDel
          have HDel := hid hDel
          have Hown4 := hid hown4
          have Hgr4 := hid hgrow4
          have Hat4 := hid hat4
          have HB4 := hid hB4
          have Hoff := hid hoff
          have Hgrow4 := hid hgrow4'
          clear hDel hown4 hgrow4 hat4 hB4 hoff hgrow4' hone hcix
          go_wp2_with fail
          refine HDel.out.mono ?_
          rintro e w5 ⟨rfl, hown5, hg5⟩
          have Hown5 := hid hown5
          have Hg5 := hid hg5
          have hlen : (leftL fs ps n (ordN fs ps n (k + 1))).length = R.length - 1 := by
            rw [Hstep.out]
            simp
            omega
          have hblk : (Value.slice av' (Os.length + 1) cp').ownBlock ≠ some g := by
            rcases Hat4.out with h | h
            · rw [h]; exact Hoff.out
            · rw [h]; intro e; injection e with e; omega
          have HFin : Hid (OgW w5 w M b3 fs ps n (k + 1) (Os ++ [f]) (.slice av' (Os.length + 1) cp') (.slice (some ⟨g, 0, none⟩) (R.length - 1) cq) (ovs ++ [.slice (some ⟨b, 0, none⟩) gl.length gl.length]) (gvs.take i ++ gvs.drop (i + 1))) := hid {
            orow := by
              rw [List.length_append]
              exact Hown4.out.kept Hg5.out (by
                cases hv : (Value.slice av' (Os.length + 1) cp').ownBlock with
                | none => exact .inl rfl
                | some q => exact .inr (fun e => hblk (by rw [hv]; exact e)))
            ogs := by
              rw [List.map_append]
              refine Gs.snoc ((Hogs.out.kept Hgr4.out (row_not_int Horow.out)).kept Hg5.out (row_not_int Hgrow4.out)) ?_
              have h := Hggs.out.2 i (by simpa using hi)
              rw [Hgv.out, show (R.map (grpL ps n))[i]?.getD [] = grpL ps n f by simp [hi, Hf.out]] at h
              exact (h.kept Hgr4.out (row_not_int Horow.out)).kept Hg5.out (row_not_int Hgrow4.out)
            grow := by rw [hlen]; exact Hown5.out
            ggs := by
              have h := ((Hggs.out.kept Hgr4.out (row_not_int Horow.out)).kept Hg5.out (row_not_int Hgrow4.out)).del (i := i) (by simpa using hi)
              rw [Hstep.out, List.map_append, List.map_take, List.map_drop]
              exact h
            off := fun q hq => by cases hq; exact hblk
            flat := by
              rw [List.flatMap_append, HW1.out.flat, Hon.out, ← HL.out, Hgl.out]
              simp
            heads := fun f' hf' => by
              rcases List.mem_append.1 hf' with h | h
              · exact HW1.out.heads f' h
              · simp at h
                subst h
                exact Hfh.out
            more := fun j hj => by
              by_cases e : j < k
              · exact HW1.out.more j e
              · obtain rfl : j = k := by omega
                rw [← HL.out, Hnx.out]
                simp
            map := by
              rw [Hon.out, List.length_append]
              exact (HM.out.kept Hgr4.out (map_row_ne HM.out Horow.out)).kept Hg5.out (map_row_ne (HM.out.kept Hgr4.out (map_row_ne HM.out Horow.out)) Hgrow4.out)
            box := (Hg5.out.block _ (by have := Hgr4.out.size; omega) (fun e => by injection e with e; have := (Hgrow4.out.lt g rfl).1; omega)).trans ((Hgr4.out.block _ (by omega) (fun e => by have := (Horow.out.lt b3 e.symm).1; omega)).trans Hbox.out)
            ml := hml
            wl := HW1.out.wl
            below := by
              have hwl := HW1.out.wl
              refine (HB.out.trans (HB4.out.mono (by omega))).grown Hg5.out ?_ (fun q e => by injection e with e; have := (Hgrow4.out.lt g rfl).1; omega)
              exact Nat.le_trans HB.out.size Hgr4.out.size }
          clear hown5 hg5
          go_wp2_with fail
          go_roundw
          case rel => exact ⟨k + 1, Os ++ [f], av', some ⟨g, 0, none⟩, cp', cq, _, _, by rw [List.length_append]; rfl, by rw [hlen], by rw [hlen, List.length_append]; exact HFin⟩
          case measure => simp only []; omega

end Go.Proofs.Ytgcpakhagbbiiaa
