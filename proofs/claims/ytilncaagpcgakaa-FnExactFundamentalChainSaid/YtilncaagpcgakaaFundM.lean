import Derived.Test.YtilncaagpcgakaaBoundM
/-! Boundaries modulo 2: sums of ascending lists. -/
namespace Go.Proofs.Ytilncaagpcgakaa
open Go.RowKit

/-- What stands in just one of two ascending lists. -/
def sumL : List Int → List Int → List Int
  | [], ys => ys
  | a :: xs, [] => a :: xs
  | a :: xs, b :: ys => if a < b then a :: sumL xs (b :: ys) else if b < a then b :: sumL (a :: xs) ys else sumL xs ys
termination_by x y => x.length + y.length

theorem sumL_nil (ys : List Int) : sumL [] ys = ys := by unfold sumL; rfl
theorem sumL_nil' (xs : List Int) : sumL xs [] = xs := by cases xs <;> (unfold sumL; rfl)
theorem sumL_lt {a b : Int} (xs ys : List Int) (h : a < b) : sumL (a :: xs) (b :: ys) = a :: sumL xs (b :: ys) := by rw [sumL, if_pos h]
theorem sumL_gt {a b : Int} (xs ys : List Int) (h : b < a) : sumL (a :: xs) (b :: ys) = b :: sumL (a :: xs) ys := by rw [sumL, if_neg (by omega), if_pos h]
theorem sumL_eq (a : Int) (xs ys : List Int) : sumL (a :: xs) (a :: ys) = sumL xs ys := by rw [sumL, if_neg (by omega), if_neg (by omega)]

theorem sumL_len (n : Nat) : ∀ xs ys : List Int, xs.length + ys.length ≤ n → (sumL xs ys).length ≤ xs.length + ys.length := by
  induction n with
  | zero => intro xs ys h; obtain rfl : xs = [] := List.length_eq_zero_iff.1 (by omega); rw [sumL_nil]; simp
  | succ n ih =>
    intro xs ys h
    cases xs with
    | nil => rw [sumL_nil]; simp
    | cons a xs =>
      cases ys with
      | nil => rw [sumL_nil']; simp
      | cons b ys =>
        simp only [List.length_cons] at h
        rcases Int.lt_trichotomy a b with h1 | h1 | h1
        · rw [sumL_lt _ _ h1]; have := ih xs (b :: ys) (by simp; omega); simp only [List.length_cons] at *; omega
        · subst h1; rw [sumL_eq]; have := ih xs ys (by omega); simp only [List.length_cons]; omega
        · rw [sumL_gt _ _ h1]; have := ih (a :: xs) ys (by simp; omega); simp only [List.length_cons] at *; omega

theorem sumL_spec (n : Nat) : ∀ xs ys : List Int, xs.length + ys.length ≤ n → xs.Pairwise (· < ·) → ys.Pairwise (· < ·) →
    (∀ x, x ∈ sumL xs ys ↔ ((x ∈ xs ∧ x ∉ ys) ∨ (x ∉ xs ∧ x ∈ ys))) ∧ (sumL xs ys).Pairwise (· < ·) := by
  induction n with
  | zero =>
    intro xs ys h ha hb
    obtain rfl : xs = [] := List.length_eq_zero_iff.1 (by omega)
    rw [sumL_nil]; exact ⟨fun x => by simp, hb⟩
  | succ n ih =>
    intro xs ys h ha hb
    cases xs with
    | nil => rw [sumL_nil]; exact ⟨fun x => by simp, hb⟩
    | cons a xs =>
      cases ys with
      | nil => rw [sumL_nil']; exact ⟨fun x => by simp, ha⟩
      | cons b ys =>
        simp only [List.length_cons] at h
        obtain ⟨ha1, ha2⟩ := List.pairwise_cons.1 ha
        obtain ⟨hb1, hb2⟩ := List.pairwise_cons.1 hb
        rcases Int.lt_trichotomy a b with h1 | h1 | h1
        · rw [sumL_lt _ _ h1]
          obtain ⟨i1, i2⟩ := ih xs (b :: ys) (by simp; omega) ha2 hb
          have hab : a ∉ b :: ys := fun hm => by
            rcases List.mem_cons.1 hm with rfl | hm
            · omega
            · have := hb1 _ hm; omega
          have haa : a ∉ xs := fun hm => by have := ha1 _ hm; omega
          refine ⟨fun x => ?_, List.pairwise_cons.2 ⟨fun y hy => ?_, i2⟩⟩
          · rw [List.mem_cons, i1]
            by_cases hx : x = a
            · subst hx; simp only [true_or, true_iff]; exact .inl ⟨by simp, hab⟩
            · simp only [hx, false_or, List.mem_cons (a := x) (b := a)]
          · rcases (i1 y).1 hy with ⟨hy, _⟩ | ⟨_, hy⟩
            · exact ha1 _ hy
            · rcases List.mem_cons.1 hy with rfl | hy
              · exact h1
              · have := hb1 _ hy; omega
        · subst h1
          rw [sumL_eq]
          obtain ⟨i1, i2⟩ := ih xs ys (by omega) ha2 hb2
          refine ⟨fun x => ?_, i2⟩
          rw [i1]
          by_cases hx : x = a
          · subst hx
            have haa : x ∉ xs := fun hm => by have := ha1 _ hm; omega
            have hbb : x ∉ ys := fun hm => by have := hb1 _ hm; omega
            simp [haa, hbb]
          · simp only [List.mem_cons, hx, false_or]
        · rw [sumL_gt _ _ h1]
          obtain ⟨i1, i2⟩ := ih (a :: xs) ys (by simp; omega) ha hb2
          have hba : b ∉ a :: xs := fun hm => by
            rcases List.mem_cons.1 hm with rfl | hm
            · omega
            · have := ha1 _ hm; omega
          have hbb : b ∉ ys := fun hm => by have := hb1 _ hm; omega
          refine ⟨fun x => ?_, List.pairwise_cons.2 ⟨fun y hy => ?_, i2⟩⟩
          · rw [List.mem_cons, i1]
            by_cases hx : x = b
            · subst hx; simp only [true_or, true_iff]; exact .inr ⟨hba, by simp⟩
            · simp only [hx, false_or, List.mem_cons (a := x) (b := b)]
          · rcases (i1 y).1 hy with ⟨hy, _⟩ | ⟨_, hy⟩
            · rcases List.mem_cons.1 hy with rfl | hy
              · exact h1
              · have := ha1 _ hy; omega
            · exact hb1 _ hy

theorem asc_ext : ∀ {a b : List Int}, a.Pairwise (· < ·) → b.Pairwise (· < ·) → (∀ x, x ∈ a ↔ x ∈ b) → a = b
  | [], [], _, _, _ => rfl
  | [], y :: b, _, _, h => by have := (h y).2 (by simp); simp at this
  | x :: a, [], _, _, h => by have := (h x).1 (by simp); simp at this
  | x :: a, y :: b, ha, hb, h => by
    obtain ⟨ha1, ha2⟩ := List.pairwise_cons.1 ha
    obtain ⟨hb1, hb2⟩ := List.pairwise_cons.1 hb
    have hxy : x = y := by
      rcases List.mem_cons.1 ((h x).1 (by simp)) with e | hx
      · exact e
      · rcases List.mem_cons.1 ((h y).2 (by simp)) with e | hy
        · exact e.symm
        · have h1 := hb1 _ hx; have h2 := ha1 _ hy; omega
    subst hxy
    have : a = b := asc_ext ha2 hb2 (fun z => by
      have hz := h z
      simp only [List.mem_cons] at hz
      constructor
      · intro hm
        rcases hz.1 (.inr hm) with e | hm'
        · subst e; have := ha1 _ hm; omega
        · exact hm'
      · intro hm
        rcases hz.2 (.inr hm) with e | hm'
        · subst e; have := hb1 _ hm; omega
        · exact hm')
    rw [this]

theorem below_sides : ∀ f : Fin 64, belowR f.val 63 = ((sidesF f.val).map fun p => ((p.val : Nat) : Int)).reverse := by decide +kernel
theorem below_asc : ∀ f : Fin 64, (belowR f.val 63).Pairwise (· < ·) := by decide +kernel
theorem sides_nodup : ∀ f : Fin 64, ((sidesF f.val).map fun p => ((p.val : Nat) : Int)).Nodup := by decide +kernel
theorem sides_sub : ∀ f : Fin 64, ∀ p ∈ sidesF f.val, p.val ≠ 0 ∧ p.val &&& f.val = p.val := by decide +kernel

/-- The boundary of a chain, xs the model sums it up. -/
def bdS (ch : List Int) : List Int := ch.foldl (fun o x => sumL o (belowR x.toNat 63)) []
theorem bdS_snoc (ch : List Int) (x : Int) : bdS (ch ++ [x]) = sumL (bdS ch) (belowR x.toNat 63) := by simp [bdS]

theorem par_add {p : Int} (L : List Int) (f : Nat) (hf : f < 64) : par p (L ++ sidesI f (sidesF f)) = (par p L != decide (p ∈ belowR f 63)) := by
  have hb := below_sides ⟨f, hf⟩
  simp only at hb
  have hn := sides_nodup ⟨f, hf⟩
  simp only at hn
  have e : sidesI f (sidesF f) = (sidesF f).map fun p => ((p.val : Nat) : Int) := rfl
  rw [hb, e]
  generalize (sidesF f).map (fun p => ((p.val : Nat) : Int)) = M at *
  unfold par
  rw [List.count_append]
  by_cases hm : p ∈ M
  · have h1 : M.count p = 1 := by rw [List.Nodup.count hn, if_pos hm]
    rw [h1]
    rcases Nat.mod_two_eq_zero_or_one (L.count p) with h | h
    · have : (L.count p + 1) % 2 = 1 := by omega
      simp [h, this, hm]
    · have : ¬ (L.count p + 1) % 2 = 1 := by omega
      simp [h, this, hm]
  · have h0 : M.count p = 0 := List.count_eq_zero.2 hm
    rw [h0]
    simp [hm]

theorem fold_spec : ∀ (ch o L : List Int), (∀ x ∈ ch, 1 ≤ x ∧ x ≤ 63) → (∀ p, p ∈ o ↔ par p L = true) → o.Pairwise (· < ·) →
    (∀ p, p ∈ ch.foldl (fun o x => sumL o (belowR x.toNat 63)) o ↔ par p (L ++ sidesAll ch) = true) ∧ (ch.foldl (fun o x => sumL o (belowR x.toNat 63)) o).Pairwise (· < ·)
  | [], o, L, _, h1, h2 => ⟨fun p => by simpa [sidesAll] using h1 p, h2⟩
  | x :: ch, o, L, h, i1, i2 => by
    have hx := h x (by simp)
    have hf : x.toNat < 64 := by omega
    have ha := below_asc ⟨x.toNat, hf⟩
    simp only at ha
    obtain ⟨s1, s2⟩ := sumL_spec _ o (belowR x.toNat 63) (Nat.le_refl _) i2 ha
    have e : L ++ sidesAll (x :: ch) = (L ++ sidesI x.toNat (sidesF x.toNat)) ++ sidesAll ch := by simp [sidesAll]
    rw [List.foldl_cons, e]
    refine fold_spec ch _ _ (fun y hy => h y (by simp [hy])) (fun p => ?_) s2
    rw [s1, i1, par_add _ _ hf]
    cases par p L <;> by_cases hm : p ∈ belowR x.toNat 63 <;> simp [hm]

theorem bdS_spec (ch : List Int) (h : ∀ x ∈ ch, 1 ≤ x ∧ x ≤ 63) : (∀ p, p ∈ bdS ch ↔ par p (sidesAll ch) = true) ∧ (bdS ch).Pairwise (· < ·) := by
  have := fold_spec ch [] [] h (fun p => by simp [par]) (by simp)
  simpa [bdS] using this

theorem bdS_bdL {V : Int} {fs : List Int} (hC : IsC V fs) {ch : List Int} (hs : ∀ x ∈ ch, x ∈ fs) : bdS ch = bdL fs ch := by
  obtain ⟨h1, h2⟩ := bdS_spec ch (fun x hx => hC.range63 x (hs x hx))
  refine asc_ext h2 (List.Pairwise.sublist List.filter_sublist hC.asc) (fun p => ?_)
  unfold bdL
  rw [h1, List.mem_filter]
  refine ⟨fun hp => ⟨?_, hp⟩, fun hp => hp.2⟩
  have hm : p ∈ sidesAll ch := by
    unfold par at hp
    have := of_decide_eq_true hp
    exact List.count_pos_iff.1 (by omega)
  unfold sidesAll at hm
  obtain ⟨x, hx, hm⟩ := List.mem_flatMap.1 hm
  have hxr := hC.range63 x (hs x hx)
  obtain ⟨q, hq, rfl⟩ := List.mem_map.1 hm
  have := sides_sub ⟨x.toNat, by omega⟩ q hq
  exact hC.closed x (hs x hx) q.val this.1 this.2

end Go.Proofs.Ytilncaagpcgakaa
