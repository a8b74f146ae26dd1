import Derived.Test.YtmkknfdjoajpcaaMathD
namespace Go.Proofs.Ytmkknfdjoajpcaa



/-- All vertices of a complex with V of them. -/
def allV (V : Int) : Int := 2 ^ V.toNat - 1

theorem allV_le {V : Int} (h : V ≤ 6) : allV V ≤ 63 := by
  have h1 : V.toNat ≤ 6 := by omega
  have h2 : (2 : Nat) ^ V.toNat ≤ 2 ^ 6 := Nat.pow_le_pow_right (by decide) h1
  have h3 : ((2 ^ V.toNat : Nat) : Int) ≤ 64 := by exact_mod_cast h2
  simp only [Int.natCast_pow] at h3
  unfold allV
  have : ((2 : Nat) : Int) = 2 := rfl
  rw [this] at h3
  omega

/-- (V, fs) is a complex. -/
structure IsC (V : Int) (fs : List Int) : Prop where
  lo : 1 ≤ V
  hi : V ≤ 6
  range : ∀ x ∈ fs, 1 ≤ x ∧ x ≤ allV V
  asc : fs.Pairwise (· < ·)
  closed : ∀ x ∈ fs, ∀ p : Nat, p ≠ 0 → p &&& x.toNat = p → (p : Int) ∈ fs

theorem IsC.range63 {V : Int} {fs : List Int} (h : IsC V fs) : ∀ x ∈ fs, 1 ≤ x ∧ x ≤ 63 := fun x hx => ⟨(h.range x hx).1, by have := allV_le h.hi; have := (h.range x hx).2; omega⟩

theorem and_le_left' (p x : Nat) (h : p &&& x = p) : p ≤ x := by rw [← h]; exact Nat.and_le_right

/-- One vertex less is enough. -/
theorem closed_of_step {fs : List Int} (hr : ∀ x ∈ fs, 1 ≤ x ∧ x ≤ 63)
    (hs : ∀ x ∈ fs, ∀ v : Nat, v < 6 → bitN x.toNat v = true → x ≠ 2 ^ v → x - 2 ^ v ∈ fs) :
    ∀ x ∈ fs, ∀ p : Nat, p ≠ 0 → p &&& x.toNat = p → (p : Int) ∈ fs := by
  have key : ∀ n : Nat, ∀ x ∈ fs, x.toNat ≤ n → ∀ p : Nat, p ≠ 0 → p &&& x.toNat = p → (p : Int) ∈ fs := by
    intro n
    induction n with
    | zero => intro x hx hn; have := hr x hx; omega
    | succ n ih =>
      intro x hx hn p hp hpx
      have hx1 := hr x hx
      have hple := and_le_left' _ _ hpx
      rcases sub_chain ⟨x.toNat, by omega⟩ ⟨p, by omega⟩ hp hpx with h | ⟨v, hv, hne, hsub⟩
      · simp only at h
        rw [h, Int.toNat_of_nonneg (by omega)]; exact hx
      · simp only at hv hne hsub
        have hb := (bit_sub ⟨x.toNat, by omega⟩ v hv).2
        simp only at hb
        have hpos : 0 < 2 ^ v.val := Nat.two_pow_pos _
        have hc : ((2 ^ v.val : Nat) : Int) = 2 ^ v.val := by simp
        have hm := hs x hx v.val v.isLt hv (by rw [← hc]; omega)
        refine ih (x - 2 ^ v.val) hm (by rw [← hc]; omega) p hp ?_
        rw [show (x - 2 ^ v.val : Int).toNat = x.toNat - 2 ^ v.val by rw [← hc]; omega]
        exact hsub
  exact fun x hx => key x.toNat x hx (Nat.le_refl _)

theorem step_of_closed {fs : List Int} (hr : ∀ x ∈ fs, 1 ≤ x ∧ x ≤ 63)
    (h : ∀ x ∈ fs, ∀ p : Nat, p ≠ 0 → p &&& x.toNat = p → (p : Int) ∈ fs) :
    ∀ x ∈ fs, ∀ v : Nat, v < 6 → bitN x.toNat v = true → x ≠ 2 ^ v → x - 2 ^ v ∈ fs := by
  intro x hx v hv hb hne
  have hx1 := hr x hx
  obtain ⟨h1, h2⟩ := bit_sub ⟨x.toNat, by omega⟩ ⟨v, hv⟩ hb
  simp only at h1 h2
  have hc : ((2 ^ v : Nat) : Int) = 2 ^ v := by simp
  have := h x hx (x.toNat - 2 ^ v) (by rw [← hc] at hne; omega) h1
  rwa [show ((x.toNat - 2 ^ v : Nat) : Int) = x - 2 ^ v by rw [← hc]; omega] at this




theorem chain_fuel (f : Nat) : ∀ n m p : Nat, p ≤ n → p ≤ m → chain f n p = chain f m p := by
  intro n
  induction n with
  | zero => intro m p h1 _; obtain rfl : p = 0 := by omega
            cases m <;> simp [chain]
  | succ n ih =>
    intro m p h1 h2
    cases m with
    | zero => obtain rfl : p = 0 := by omega
              simp [chain]
    | succ m =>
      unfold chain
      by_cases hp : p = 0
      · simp [hp]
      · have h3 : (p - 1) &&& f ≤ p - 1 := Nat.and_le_left
        simp only [hp, if_false]
        rw [ih m _ (by omega) (by omega)]

theorem chain_pos {f n p : Nat} (hp : 0 < p) (hn : p ≤ n) : chain f n p = p :: chain f n ((p - 1) &&& f) := by
  cases n with
  | zero => omega
  | succ n =>
    have h3 : (p - 1) &&& f ≤ p - 1 := Nat.and_le_left
    conv => lhs; unfold chain
    rw [if_neg (by omega), chain_fuel f n (n + 1) _ (by omega) (by omega)]

theorem chain_zero (f n : Nat) : chain f n 0 = [] := by cases n <;> simp [chain]

theorem mem_subs {f x : Nat} (hf : f < 64) : x ∈ subs f ↔ x ≠ 0 ∧ x &&& f = x := by
  have hle : ∀ n p, ∀ y ∈ chain f n p, y ≤ p := by
    intro n
    induction n with
    | zero => intro p y hy; simp [chain] at hy
    | succ n ih =>
      intro p y hy
      unfold chain at hy
      split at hy
      · simp at hy
      · rcases List.mem_cons.1 hy with rfl | h
        · exact Nat.le_refl _
        · have := ih _ _ h
          have h3 : (p - 1) &&& f ≤ p - 1 := Nat.and_le_left
          omega
  constructor
  · intro h
    have hx := hle _ _ _ h
    exact (mem_subs' ⟨f, hf⟩ ⟨x, by omega⟩).1 h
  · intro h
    have hx := and_le_left' _ _ h.2
    exact (mem_subs' ⟨f, hf⟩ ⟨x, by omega⟩).2 h

noncomputable def isCB (V : Int) (fs : List Int) : Bool := @decide (IsC V fs) (Classical.propDecidable _)
theorem isCB_true {V : Int} {fs : List Int} (h : IsC V fs) : isCB V fs = true := by unfold isCB; exact @decide_eq_true _ (Classical.propDecidable _) h
theorem isCB_false {V : Int} {fs : List Int} (h : ¬ IsC V fs) : isCB V fs = false := by unfold isCB; exact @decide_eq_false _ (Classical.propDecidable _) h
theorem isCB_iff {V : Int} {fs : List Int} : isCB V fs = true ↔ IsC V fs := by unfold isCB; exact @decide_eq_true_iff _ (Classical.propDecidable _)

/-! ### face by face, in order -/
theorem isC_nil {V : Int} (h1 : 1 ≤ V) (h2 : V ≤ 6) : IsC V [] := ⟨h1, h2, by simp, List.Pairwise.nil, by simp⟩

theorem isC_snoc {V : Int} {pre : List Int} {x : Int} (h : IsC V pre) (hlt : ∀ y ∈ pre, y < x) (h1 : 1 ≤ x) (h2 : x ≤ allV V)
    (hp : ∀ p : Nat, p ≠ 0 → p &&& x.toNat = p → (p : Int) ∈ pre ++ [x]) : IsC V (pre ++ [x]) := by
  refine ⟨h.lo, h.hi, ?_, ?_, ?_⟩
  · intro y hy
    rcases List.mem_append.1 hy with hy | hy
    · exact h.range y hy
    · simp at hy; subst hy; exact ⟨h1, h2⟩
  · rw [List.pairwise_append]
    exact ⟨h.asc, by simp, fun a ha b hb => by simp at hb; subst hb; exact hlt a ha⟩
  · intro y hy p hp0 hpy
    rcases List.mem_append.1 hy with hy | hy
    · exact List.mem_append.2 (.inl (h.closed y hy p hp0 hpy))
    · simp at hy; subst hy; exact hp p hp0 hpy

theorem isC_head {V : Int} {pre rest : List Int} {x : Int} (h : IsC V (pre ++ x :: rest)) : (∀ y ∈ pre, y < x) ∧ 1 ≤ x ∧ x ≤ allV V :=
  ⟨fun y hy => (List.pairwise_append.1 h.asc).2.2 y hy x (by simp), h.range x (by simp)⟩

theorem isC_parts {V : Int} {pre rest : List Int} {x : Int} (h : IsC V (pre ++ x :: rest)) {p : Nat} (hp : p ≠ 0) (hpx : p &&& x.toNat = p) : (p : Int) ∈ pre ++ [x] := by
  have hx := (h.range63 x (by simp))
  have hm := h.closed x (by simp) p hp hpx
  have hple := and_le_left' _ _ hpx
  rcases List.mem_append.1 hm with hm | hm
  · exact List.mem_append.2 (.inl hm)
  · rcases List.mem_cons.1 hm with hm | hm
    · rw [hm]; simp
    · have := (List.pairwise_cons.1 (List.pairwise_append.1 h.asc).2.1).1 _ hm
      omega

/-- What the model finds below a face: m places have been looked at, from 62 downwards. -/
def belowR (f : Nat) : Nat → List Int
  | 0 => []
  | m + 1 => belowR f m ++ (if bitN f (62 - m) && f != 2 ^ (62 - m) then [(f : Int) - 2 ^ (62 - m)] else [])

theorem belowR_len (f : Nat) : ∀ m, (belowR f m).length ≤ m
  | 0 => by simp [belowR]
  | m + 1 => by
    have := belowR_len f m
    simp only [belowR, List.length_append]
    split <;> simp <;> omega

theorem mem_belowR {f : Nat} {y : Int} : ∀ m, m ≤ 63 → (y ∈ belowR f m ↔ ∃ v, v < 63 ∧ 63 - m ≤ v ∧ bitN f v = true ∧ f ≠ 2 ^ v ∧ y = f - 2 ^ v)
  | 0, _ => by simp [belowR]; intro v h1 h2; omega
  | m + 1, hm => by
    have ih := mem_belowR (f := f) (y := y) m (by omega)
    simp only [belowR, List.mem_append, ih]
    constructor
    · rintro (⟨v, h1, h2, h3⟩ | h)
      · exact ⟨v, h1, by omega, h3⟩
      · split at h
        · rename_i hb
          simp at hb h
          exact ⟨62 - m, by omega, by omega, hb.1, hb.2, h⟩
        · simp at h
    · rintro ⟨v, h1, h2, h3, h4, h5⟩
      by_cases hv : v = 62 - m
      · subst hv
        right
        rw [if_pos (by simp [h3, h4])]
        simp [h5]
      · exact .inl ⟨v, h1, by omega, h3, h4, h5⟩


theorem getD_mem {xs : List Int} {k : Nat} (h : k < xs.length) : xs[k]?.getD 0 ∈ xs := by
  rw [List.getElem?_eq_getElem h]; simp

theorem mem_getD {xs : List Int} {x : Int} (h : x ∈ xs) : ∃ k, k < xs.length ∧ xs[k]?.getD 0 = x := by
  obtain ⟨k, hk, e⟩ := List.mem_iff_getElem.1 h
  exact ⟨k, hk, by rw [List.getElem?_eq_getElem hk]; simpa using e⟩

/-- What the model asks, face by face. -/
theorem isC_of_looks {V : Int} {fs : List Int} (h1 : 1 ≤ V) (h2 : V ≤ 6) (hr : ∀ j, j < fs.length → 1 ≤ fs[j]?.getD 0 ∧ fs[j]?.getD 0 ≤ allV V)
    (ha : ∀ j, 0 < j → j < fs.length → fs[j - 1]?.getD 0 < fs[j]?.getD 0) (hb : ∀ j, j < fs.length → ∀ y ∈ belowR (fs[j]?.getD 0).toNat 63, y ∈ fs) : IsC V fs := by
  have hrange : ∀ x ∈ fs, 1 ≤ x ∧ x ≤ allV V := fun x hx => by obtain ⟨k, hk, e⟩ := mem_getD hx; rw [← e]; exact hr k hk
  have h63 : ∀ x ∈ fs, 1 ≤ x ∧ x ≤ 63 := fun x hx => ⟨(hrange x hx).1, by have := allV_le h2; have := (hrange x hx).2; omega⟩
  refine ⟨h1, h2, hrange, ?_, closed_of_step h63 ?_⟩
  · have key : ∀ i d, i + d + 1 < fs.length → fs[i]?.getD 0 < fs[i + d + 1]?.getD 0 := by
      intro i d
      induction d with
      | zero => intro h; exact ha (i + 1) (by omega) h
      | succ d ih => intro h; have h3 := ih (by omega); have h4 := ha (i + (d + 1) + 1) (by omega) h; simp only [Nat.add_sub_cancel] at h4; have e : i + (d + 1) = i + d + 1 := by omega
                     rw [e] at h4; rw [e]; omega
    rw [List.pairwise_iff_getElem]
    intro i j hi hj hij
    have := key i (j - i - 1) (by omega)
    rw [show i + (j - i - 1) + 1 = j by omega, List.getElem?_eq_getElem hi, List.getElem?_eq_getElem hj] at this
    simpa using this
  · intro x hx v hv hbit hne
    obtain ⟨k, hk, e⟩ := mem_getD hx
    have hx1 := h63 x hx
    refine hb k hk _ ((mem_belowR 63 (Nat.le_refl _)).2 ⟨v, by omega, by omega, by rw [e]; exact hbit, ?_, ?_⟩)
    · rw [e]; intro h; apply hne; have : ((x.toNat : Nat) : Int) = ((2 ^ v : Nat) : Int) := by rw [h]
      rw [Int.toNat_of_nonneg (by omega)] at this; simpa using this
    · rw [e, Int.toNat_of_nonneg (by omega)]

theorem isC_looks_range {V : Int} {fs : List Int} (h : IsC V fs) {j : Nat} (hj : j < fs.length) : 1 ≤ fs[j]?.getD 0 ∧ fs[j]?.getD 0 ≤ allV V := h.range _ (getD_mem hj)
theorem isC_looks_asc {V : Int} {fs : List Int} (h : IsC V fs) {j : Nat} (h0 : 0 < j) (hj : j < fs.length) : fs[j - 1]?.getD 0 < fs[j]?.getD 0 := by
  have := List.pairwise_iff_getElem.1 h.asc (j - 1) j (by omega) hj (by omega)
  rw [List.getElem?_eq_getElem (show j - 1 < fs.length by omega), List.getElem?_eq_getElem hj]
  simpa using this
theorem isC_looks_below {V : Int} {fs : List Int} (h : IsC V fs) {j : Nat} (hj : j < fs.length) {y : Int} (hy : y ∈ belowR (fs[j]?.getD 0).toNat 63) : y ∈ fs := by
  have hm := getD_mem hj
  have hx := h.range63 _ hm
  obtain ⟨v, h1, _, h3, h4, h5⟩ := (mem_belowR 63 (Nat.le_refl _)).1 hy
  have hc : ((2 ^ v : Nat) : Int) = 2 ^ v := by simp
  by_cases hv : v < 6
  · have hne : fs[j]?.getD 0 ≠ 2 ^ v := by
      intro e
      apply h4
      rw [e, ← hc]
      rfl
    have := step_of_closed h.range63 h.closed _ hm v hv h3 hne
    rw [h5, Int.toNat_of_nonneg (by omega)]; exact this
  · have hb := bit_big ⟨(fs[j]?.getD 0).toNat, by omega⟩ ⟨v, h1⟩ (by simp only; omega)
    simp only at hb
    rw [hb] at h3; cases h3

end Go.Proofs.Ytmkknfdjoajpcaa
