import Derived.WalkMore
import Derived.ScopeJumps
import Derived.Deep.CutRange
import Derived.Deep.RegionHeld3
import Derived.Lib.QuietBelow
import Derived.Test.YtbhdipljhelddaaMSC1
import Derived.Test.YtbhdipljhelddaaMSC2
import Derived.Test.YtbhdipljhelddaaMSC3
/-! The rank by elimination depends on the span of the rows alone. -/
namespace Go.Proofs.Ytbhdipljhelddaa
open Go.RowKit

/-- Sums of multiples of rows, modulo p. -/
inductive Spn (p : Int) (S : (Nat → Int) → Prop) : (Nat → Int) → Prop
  | zero : Spn p S (fun _ => 0)
  | add {f g : Nat → Int} (x : Int) : Spn p S f → S g → Spn p S (fun j => f j + x * g j)
  | cong {f g : Nat → Int} : Spn p S f → (∀ j, p ∣ f j - g j) → Spn p S g

/-- The rows of a matrix from row r on. -/
def RowsOf (M : List (List Int)) (r : Nat) : (Nat → Int) → Prop := fun g => ∃ i, r ≤ i ∧ i < M.length ∧ g = fun j => ent M i j

theorem dvd_of_eq {p a b : Int} (h : a = b) : p ∣ a - b := by rw [h, Int.sub_self]; exact Int.dvd_zero _
theorem dvd_emod (p x : Int) : p ∣ x % p - x := ⟨-(x / p), by rw [Int.emod_def, Int.mul_neg]; omega⟩

theorem Spn.mem {p : Int} {S : (Nat → Int) → Prop} {g : Nat → Int} (h : S g) : Spn p S g :=
  .cong (.add 1 .zero h) (fun j => dvd_of_eq (by simp))
theorem Spn.lin {p : Int} {S : (Nat → Int) → Prop} {f g : Nat → Int} (x : Int) (hf : Spn p S f) (hg : Spn p S g) : Spn p S (fun j => f j + x * g j) := by
  induction hg generalizing x with
  | zero => exact .cong hf (fun j => dvd_of_eq (by simp))
  | @add g h y _ hh ih => exact .cong (.add (x * y) (ih x) hh) (fun j => dvd_of_eq (by rw [Int.mul_add, Int.mul_assoc]; omega))
  | @cong g h _ hd ih => exact .cong (ih x) (fun j => by
      have e : f j + x * g j - (f j + x * h j) = x * (g j - h j) := by rw [Int.mul_sub]; omega
      rw [e]; exact Int.dvd_mul_of_dvd_right (hd j))
theorem Spn.sub {p : Int} {S T : (Nat → Int) → Prop} (h : ∀ g, S g → Spn p T g) {f : Nat → Int} (hf : Spn p S f) : Spn p T f := by
  induction hf with
  | zero => exact .zero
  | add x _ hg ih => exact ih.lin x (h _ hg)
  | cong _ hd ih => exact .cong ih hd
theorem Spn.vanish {p : Int} {S : (Nat → Int) → Prop} {c : Nat} (h : ∀ g, S g → p ∣ g c) {f : Nat → Int} (hf : Spn p S f) : p ∣ f c := by
  induction hf with
  | zero => exact Int.dvd_zero _
  | add x _ hg ih => exact Int.dvd_add ih (Int.dvd_mul_of_dvd_right (h _ hg))
  | @cong f g _ hd ih =>
    have := Int.dvd_sub ih (hd c)
    rwa [show f c - (f c - g c) = g c by omega] at this
/-- A multiple of one row is split off. -/
theorem Spn.split {p : Int} {S T : (Nat → Int) → Prop} {v : Nat → Int} (h : ∀ g, S g → ∃ y g', Spn p T g' ∧ ∀ j, p ∣ g j - (g' j + y * v j)) {f : Nat → Int} (hf : Spn p S f) :
    ∃ a f', Spn p T f' ∧ ∀ j, p ∣ f j - (f' j + a * v j) := by
  induction hf with
  | zero => exact ⟨0, _, .zero, fun j => dvd_of_eq (by simp)⟩
  | @add f g x _ hg ih =>
    obtain ⟨a, f', h1, h2⟩ := ih
    obtain ⟨y, g', h3, h4⟩ := h _ hg
    refine ⟨a + x * y, _, h1.lin x h3, fun j => ?_⟩
    have e : f j + x * g j - (f' j + x * g' j + (a + x * y) * v j) = (f j - (f' j + a * v j)) + x * (g j - (g' j + y * v j)) := by
      rw [Int.mul_sub, Int.mul_add, Int.add_mul, Int.mul_assoc]; omega
    rw [e]
    exact Int.dvd_add (h2 j) (Int.dvd_mul_of_dvd_right (h4 j))
  | @cong f g _ hd ih =>
    obtain ⟨a, f', h1, h2⟩ := ih
    refine ⟨a, f', h1, fun j => ?_⟩
    have := Int.dvd_sub (h2 j) (hd j)
    rwa [show f j - (f' j + a * v j) - (f j - g j) = g j - (f' j + a * v j) by omega] at this

/-- Column c is the first one without 0 of a sum of rows. -/
def Lead (p : Int) (S : (Nat → Int) → Prop) (c : Nat) : Prop := ∃ f, Spn p S f ∧ (∀ j, j < c → p ∣ f j) ∧ ¬ p ∣ f c
open Classical in
noncomputable def cntL (p : Int) (S : (Nat → Int) → Prop) : Nat → Nat → Nat
  | 0, _ => 0
  | k + 1, c => (if Lead p S c then 1 else 0) + cntL p S k (c + 1)
theorem cntL_congr {p : Int} {S T : (Nat → Int) → Prop} : ∀ (k c : Nat), (∀ c', c ≤ c' → (Lead p S c' ↔ Lead p T c')) → cntL p S k c = cntL p T k c
  | 0, _, _ => rfl
  | k + 1, c, h => by
    rw [cntL, cntL, cntL_congr k (c + 1) (fun c' hc => h c' (by omega))]
    have := h c (Nat.le_refl _)
    by_cases h1 : Lead p S c
    · rw [if_pos h1, if_pos (this.1 h1)]
    · rw [if_neg h1, if_neg (fun h2 => h1 (this.2 h2))]

theorem not_dvd {p x : Int} (h0 : 0 ≤ x) (h1 : x < p) (hne : x ≠ 0) : ¬ p ∣ x := fun h => by
  have := Int.le_of_dvd (by omega) h
  omega
theorem prime_23 {p a b : Int} (hp : p = 2 ∨ p = 3) (h0 : 0 ≤ b) (h1 : b < p) (hne : b ≠ 0) (h : p ∣ a * b) : p ∣ a := by
  rcases hp with rfl | rfl
  · obtain rfl : b = 1 := by omega
    simpa using h
  · have : b = 1 ∨ b = 2 := by omega
    rcases this with rfl | rfl
    · simpa using h
    · omega

theorem ent_out {p : Int} {n w : Nat} {M : List (List Int)} (hG : MatG p n w M) {i j : Nat} (hj : w ≤ j) : ent M i j = 0 := by
  unfold ent
  by_cases hi : i < n
  · rw [List.getElem?_eq_none (by rw [hG.rowLen hi]; exact hj)]; rfl
  · have e : M[i]? = none := List.getElem?_eq_none (by rw [hG.len]; omega)
    rw [e]; simp
theorem ent_swapG {p : Int} {n w : Nat} {M : List (List Int)} (hG : MatG p n w M) {r b : Nat} (hr : r < n) (hb : b < n) (k j : Nat) :
    ent (swapR M r b) k j = if k = b then ent M r j else if k = r then ent M b j else ent M k j := by
  unfold ent swapR
  by_cases e1 : k = b
  · subst e1; rw [List.getElem?_set_self (by simp [hG.len]; omega), if_pos rfl]; simp
  · rw [if_neg e1, List.getElem?_set_ne (fun e => e1 e.symm)]
    by_cases e2 : k = r
    · subst e2; rw [List.getElem?_set_self (by simp [hG.len]; omega), if_pos rfl]; simp
    · rw [if_neg e2, List.getElem?_set_ne (fun e => e2 e.symm)]

/-- Two rows that change places. -/
theorem rows_swap {p : Int} {n w : Nat} {M : List (List Int)} (hG : MatG p n w M) {q r b : Nat} (hr : r < n) (hb : b < n) (hqr : q ≤ r) (hqb : q ≤ b) (g : Nat → Int) : RowsOf (swapR M r b) q g ↔ RowsOf M q g := by
  have hl := hG.len
  constructor
  · rintro ⟨i, h1, h2, rfl⟩
    rw [swapR_len] at h2
    by_cases e1 : i = b
    · exact ⟨r, hqr, by omega, funext fun j => by rw [ent_swapG hG hr hb, if_pos e1]⟩
    · by_cases e2 : i = r
      · exact ⟨b, hqb, by omega, funext fun j => by rw [ent_swapG hG hr hb, if_neg e1, if_pos e2]⟩
      · exact ⟨i, h1, h2, funext fun j => by rw [ent_swapG hG hr hb, if_neg e1, if_neg e2]⟩
  · rintro ⟨i, h1, h2, rfl⟩
    by_cases e1 : i = r
    · exact ⟨b, hqb, by rw [swapR_len]; omega, funext fun j => by rw [ent_swapG hG hr hb, if_pos rfl, e1]⟩
    · by_cases e2 : i = b
      · refine ⟨r, hqr, by rw [swapR_len]; omega, funext fun j => ?_⟩
        rw [ent_swapG hG hr hb, if_neg (fun e => e1 (e2.trans e.symm)), if_pos rfl, e2]
      · exact ⟨i, h1, by rw [swapR_len]; exact h2, funext fun j => by rw [ent_swapG hG hr hb, if_neg e2, if_neg e1]⟩

/-- A row that has been swept. -/
theorem ent_sweep {p : Int} {n w c r : Nat} {M : List (List Int)} (hG : MatG p n w M) (hr : r < n) {i : Nat} (hi : i < n) (hri : r < i) : ∃ x, ∀ j, p ∣ ent (sweepTo p c r n M) i j - (ent M i j + x * ent M r j) := by
  refine ⟨p - (ent M i c * ent M r c) % p, fun j => ?_⟩
  by_cases hj : j < w
  · have e : ent (sweepTo p c r n M) i j = (ent M i j + (p - (ent M i c * ent M r c) % p) * ent M r j) % p := by
      unfold ent
      rw [sweepTo_get (by rw [hG.len]; exact hi), if_pos ⟨hri, hi⟩, clr_get (hG.rowLen hi) (hG.rowLen hr) hj]
    rw [e]
    exact dvd_emod _ _
  · have e : ent (sweepTo p c r n M) i j = 0 := by
      unfold ent
      rw [sweepTo_get (by rw [hG.len]; exact hi), if_pos ⟨hri, hi⟩, List.getElem?_eq_none (by rw [clr_len (hG.rowLen hi) (hG.rowLen hr)]; omega)]
      rfl
    rw [e, ent_out hG (i := i) (j := j) (by omega), ent_out hG (i := r) (j := j) (by omega)]
    simp
theorem ent_keep {p : Int} {n w c r : Nat} {M : List (List Int)} (hG : MatG p n w M) {i : Nat} (hi : i < n) (hri : i ≤ r) (j : Nat) : ent (sweepTo p c r n M) i j = ent M i j := by
  unfold ent
  rw [sweepTo_get (by rw [hG.len]; exact hi), if_neg (by omega)]

/-- Rows of one matrix are sums of rows of another one, and the other way round. -/
def SpanEq (p : Int) (M M' : List (List Int)) : Prop := ∀ f, Spn p (RowsOf M 0) f ↔ Spn p (RowsOf M' 0) f
theorem SpanEq.refl (p : Int) (M : List (List Int)) : SpanEq p M M := fun _ => Iff.rfl
theorem SpanEq.trans {p : Int} {M M' M'' : List (List Int)} (h : SpanEq p M M') (h' : SpanEq p M' M'') : SpanEq p M M'' := fun f => (h f).trans (h' f)
theorem SpanEq.symm {p : Int} {M M' : List (List Int)} (h : SpanEq p M M') : SpanEq p M' M := fun f => (h f).symm
theorem span_of {p : Int} {M M' : List (List Int)} (h1 : ∀ g, RowsOf M 0 g → Spn p (RowsOf M' 0) g) (h2 : ∀ g, RowsOf M' 0 g → Spn p (RowsOf M 0) g) : SpanEq p M M' := fun _ => ⟨Spn.sub h1, Spn.sub h2⟩
theorem span_swap {p : Int} {n w : Nat} {M : List (List Int)} (hG : MatG p n w M) {r b : Nat} (hr : r < n) (hb : b < n) : SpanEq p M (swapR M r b) :=
  span_of (fun g hg => .mem ((rows_swap hG hr hb (Nat.zero_le _) (Nat.zero_le _) g).2 hg)) (fun g hg => .mem ((rows_swap hG hr hb (Nat.zero_le _) (Nat.zero_le _) g).1 hg))
theorem span_sweep {p : Int} {n w c r : Nat} {M : List (List Int)} (hG : MatG p n w M) (hr : r < n) : SpanEq p M (sweepTo p c r n M) := by
  have hl := hG.len
  refine span_of ?_ ?_
  · rintro g ⟨i, _, h2, rfl⟩
    by_cases hri : r < i
    · obtain ⟨x, hx⟩ := ent_sweep (c := c) hG hr (i := i) (by omega) hri
      have m1 : Spn p (RowsOf (sweepTo p c r n M) 0) (fun j => ent (sweepTo p c r n M) i j) := .mem ⟨i, Nat.zero_le _, by rw [sweepTo_len]; exact h2, rfl⟩
      have m2 : Spn p (RowsOf (sweepTo p c r n M) 0) (fun j => ent (sweepTo p c r n M) r j) := .mem ⟨r, Nat.zero_le _, by rw [sweepTo_len]; omega, rfl⟩
      refine .cong (m1.lin (-x) m2) (fun j => ?_)
      have := hx j
      rw [ent_keep hG hr (Nat.le_refl _)]
      rwa [show ent (sweepTo p c r n M) i j + -x * ent M r j - ent M i j = ent (sweepTo p c r n M) i j - (ent M i j + x * ent M r j) by rw [Int.neg_mul]; omega]
    · exact .mem ⟨i, Nat.zero_le _, by rw [sweepTo_len]; exact h2, funext fun j => (ent_keep hG (by omega) (by omega) j).symm⟩
  · rintro g ⟨i, _, h2, rfl⟩
    rw [sweepTo_len] at h2
    by_cases hri : r < i
    · obtain ⟨x, hx⟩ := ent_sweep (c := c) hG hr (i := i) (by omega) hri
      have m1 : Spn p (RowsOf M 0) (fun j => ent M i j) := .mem ⟨i, Nat.zero_le _, h2, rfl⟩
      have m2 : Spn p (RowsOf M 0) (fun j => ent M r j) := .mem ⟨r, Nat.zero_le _, by omega, rfl⟩
      refine .cong (m1.lin x m2) (fun j => ?_)
      have := Int.dvd_neg.2 (hx j)
      rwa [Int.neg_sub] at this
    · exact .mem ⟨i, Nat.zero_le _, h2, funext fun j => ent_keep hG (by omega) (by omega) j⟩

theorem firstNZ_spec {M : List (List Int)} {r c i : Nat} (h : firstNZ M r c = some i) : r ≤ i ∧ i < M.length ∧ ent M i c ≠ 0 := by
  unfold firstNZ at h
  have h1 := List.find?_some h
  have h2 := List.mem_of_find?_eq_some h
  simp at h1 h2
  exact ⟨h1.1, h2, h1.2⟩
theorem firstNZ_none' {M : List (List Int)} {r c : Nat} (h : firstNZ M r c = none) : ∀ i, r ≤ i → i < M.length → ent M i c = 0 := by
  intro i h1 h2
  unfold firstNZ at h
  rw [List.find?_eq_none] at h
  have := h i (by simpa using h2)
  simp at this
  exact this h1

theorem zeros_swapG {p : Int} {n w r b c : Nat} {M : List (List Int)} (hG : MatG p n w M) (hr : r < n) (hb : b < n) (hrb : r ≤ b) (hZ : ZerosTo M r c) : ZerosTo (swapR M r b) r c := by
  have hl := hG.len
  intro i j h1 h2 h3
  rw [swapR_len] at h2
  rw [ent_swapG hG hr hb]
  split
  · exact hZ r j (Nat.le_refl _) (by omega) h3
  · split
    · exact hZ b j hrb (by omega) h3
    · exact hZ i j h1 h2 h3
theorem zeros_sweepG {p : Int} {n w r c : Nat} {M : List (List Int)} (hp : p = 2 ∨ p = 3) (hG : MatG p n w M) (hr : r < n) (hZ : ZerosTo M r c) (hc : c < w) (hne : ent M r c ≠ 0) : ZerosTo (sweepTo p c r n M) (r + 1) (c + 1) := by
  intro i j h1 h2 h3
  rw [sweepTo_len, hG.len] at h2
  unfold ent
  rw [sweepTo_get (by rw [hG.len]; exact h2), if_pos ⟨by omega, h2⟩, clr_get (hG.rowLen h2) (hG.rowLen hr) (by omega)]
  have ea := hG.ent h2 hc
  have eb := hG.ent hr hc
  by_cases e : j = c
  · subst e
    exact clear_one hp ea.1 ea.2 eb.1 eb.2 hne
  · have z1 := hZ i j (by omega) (by rw [hG.len]; exact h2) (by omega)
    have z2 := hZ r j (Nat.le_refl _) (by rw [hG.len]; exact hr) (by omega)
    unfold ent at z1 z2
    rw [z1, z2]
    simp

/-- The rank is the number of leading columns of the span. -/
theorem elim_lead {p : Int} {n w : Nat} (hp : p = 2 ∨ p = 3) : ∀ (k r c : Nat) (M : List (List Int)), MatG p n w M → ZerosTo M r c → c + k = w → elimR p k r c M = r + cntL p (RowsOf M r) k c
  | 0, r, c, M, _, _, _ => rfl
  | k + 1, r, c, M, hG, hZ, hk => by
    have hl := hG.len
    rw [elimR, cntL]
    cases hf : firstNZ M r c with
    | none =>
      have hz := firstNZ_none' hf
      have hnl : ¬ Lead p (RowsOf M r) c := by
        rintro ⟨f, h1, _, h3⟩
        exact h3 (h1.vanish (by rintro g ⟨i, hi1, hi2, rfl⟩; simp only; rw [hz i hi1 hi2]; exact Int.dvd_zero _))
      simp only
      rw [if_neg hnl, elim_lead hp k r (c + 1) M hG (fun i j h1 h2 h3 => by
        by_cases e : j = c
        · rw [e]; exact hz i h1 h2
        · exact hZ i j h1 h2 (by omega)) (by omega)]
      omega
    | some i =>
      obtain ⟨hri, hil, hne⟩ := firstNZ_spec hf
      have hin : i < n := by omega
      have hrn : r < n := by omega
      have hen := hG.ent hin (show c < w by omega)
      have hld : Lead p (RowsOf M r) c := ⟨fun j => ent M i j, .mem ⟨i, hri, hil, rfl⟩, fun j hj => by simp only; rw [hZ i j hri hil hj]; exact Int.dvd_zero _, not_dvd hen.1 hen.2 hne⟩
      have hG1 := swapR_good hG hrn hin
      have hZ1 := zeros_swapG hG hrn hin hri hZ
      have hne1 : ent (swapR M r i) r c = ent M i c := by
        rw [ent_swapG hG hrn hin]
        split
        · rename_i e; rw [← e]
        · rw [if_pos rfl]
      have hG2 := sweepTo_good (c := c) (k := n) hG1 (by rcases hp with h | h <;> omega) hrn
      have hZ2 := zeros_sweepG (c := c) hp hG1 hrn hZ1 (by omega) (by rw [hne1]; exact hne)
      simp only
      rw [if_pos hld, hl, elim_lead hp k (r + 1) (c + 1) _ hG2 hZ2 (by omega)]
      have key : cntL p (RowsOf (sweepTo p c r n (swapR M r i)) (r + 1)) k (c + 1) = cntL p (RowsOf M r) k (c + 1) := by
        refine cntL_congr k (c + 1) (fun c' hc' => ⟨?_, ?_⟩)
        · rintro ⟨f, h1, h2, h3⟩
          refine ⟨f, h1.sub ?_, h2, h3⟩
          rintro g ⟨t, ht1, ht2, rfl⟩
          rw [sweepTo_len, swapR_len] at ht2
          obtain ⟨x, hx⟩ := ent_sweep (c := c) hG1 hrn (i := t) (by omega) (by omega)
          have m1 : Spn p (RowsOf M r) (fun j => ent (swapR M r i) t j) := .mem ((rows_swap hG hrn hin (Nat.le_refl _) hri _).1 ⟨t, by omega, by rw [swapR_len]; exact ht2, rfl⟩)
          have m2 : Spn p (RowsOf M r) (fun j => ent (swapR M r i) r j) := .mem ((rows_swap hG hrn hin (Nat.le_refl _) hri _).1 ⟨r, Nat.le_refl _, by rw [swapR_len]; omega, rfl⟩)
          refine .cong (m1.lin x m2) (fun j => ?_)
          have := Int.dvd_neg.2 (hx j)
          rwa [Int.neg_sub] at this
        · rintro ⟨f, h1, h2, h3⟩
          obtain ⟨a, f', s1, s2⟩ := Spn.split (T := RowsOf (sweepTo p c r n (swapR M r i)) (r + 1)) (v := fun j => ent (swapR M r i) r j) (fun g hg => by
            obtain ⟨t, ht1, ht2, rfl⟩ := (rows_swap hG hrn hin (Nat.le_refl _) hri g).2 hg
            rw [swapR_len] at ht2
            by_cases e : t = r
            · exact ⟨1, _, .zero, fun j => dvd_of_eq (by simp [e])⟩
            · obtain ⟨x, hx⟩ := ent_sweep (c := c) hG1 hrn (i := t) (by omega) (by omega)
              refine ⟨-x, _, .mem ⟨t, by omega, by rw [sweepTo_len, swapR_len]; exact ht2, rfl⟩, fun j => ?_⟩
              have := Int.dvd_neg.2 (hx j)
              rwa [Int.neg_sub, show ent (swapR M r i) t j + x * ent (swapR M r i) r j - ent (sweepTo p c r n (swapR M r i)) t j = ent (swapR M r i) t j - (ent (sweepTo p c r n (swapR M r i)) t j + -x * ent (swapR M r i) r j) by rw [Int.neg_mul]; omega] at this) h1
          have z1 : p ∣ f' c := s1.vanish (by
            rintro g ⟨t, ht1, ht2, rfl⟩
            simp only
            rw [hZ2 t c ht1 ht2 (by omega)]
            exact Int.dvd_zero _)
          have z2 : p ∣ a * ent (swapR M r i) r c := by
            have u1 := Int.dvd_sub (h2 c (by omega)) (s2 c)
            have u2 := Int.dvd_sub u1 z1
            rwa [show f c - (f c - (f' c + a * ent (swapR M r i) r c)) - f' c = a * ent (swapR M r i) r c by omega] at u2
          have z3 : p ∣ a := by rw [hne1] at z2; exact prime_23 hp hen.1 hen.2 hne z2
          have z4 : ∀ j, p ∣ f j - f' j := fun j => by
            have := Int.dvd_add (s2 j) (Int.dvd_trans z3 (Int.dvd_mul_right a (ent (swapR M r i) r j)))
            rwa [show f j - (f' j + a * ent (swapR M r i) r j) + a * ent (swapR M r i) r j = f j - f' j by omega] at this
          refine ⟨f', s1, fun j hj => ?_, fun h => h3 ?_⟩
          · have := Int.dvd_sub (h2 j hj) (z4 j)
            rwa [show f j - (f j - f' j) = f' j by omega] at this
          · have := Int.dvd_add (z4 c') h
            rwa [show f c' - f' c' + f' c' = f c' by omega] at this
      rw [key]
      omega

theorem rank_span {p : Int} {n n' w : Nat} {M M' : List (List Int)} (hp : p = 2 ∨ p = 3) (hG : MatG p n w M) (hG' : MatG p n' w M') (h : SpanEq p M M') : elimR p w 0 0 M = elimR p w 0 0 M' := by
  rw [elim_lead hp w 0 0 M hG (fun i j _ _ hj => by omega) (by omega), elim_lead hp w 0 0 M' hG' (fun i j _ _ hj => by omega) (by omega)]
  rw [cntL_congr w 0 (fun c' _ => ?_)]
  constructor
  · rintro ⟨f, h1, h2⟩; exact ⟨f, (h f).1 h1, h2⟩
  · rintro ⟨f, h1, h2⟩; exact ⟨f, (h f).2 h1, h2⟩

theorem ent_app_lt {M X : List (List Int)} {i : Nat} (h : i < M.length) (j : Nat) : ent (M ++ X) i j = ent M i j := by unfold ent; rw [List.getElem?_append_left h]
theorem ent_app_ge {M X : List (List Int)} {i : Nat} (h : M.length ≤ i) (j : Nat) : ent (M ++ X) i j = ent X (i - M.length) j := by unfold ent; rw [List.getElem?_append_right h]
theorem span_app {p : Int} {M M' : List (List Int)} (X : List (List Int)) (h : SpanEq p M M') : SpanEq p (M ++ X) (M' ++ X) := by
  have one : ∀ {A B : List (List Int)}, SpanEq p A B → ∀ g, RowsOf (A ++ X) 0 g → Spn p (RowsOf (B ++ X) 0) g := by
    intro A B h
    rintro g ⟨i, _, h2, rfl⟩
    by_cases hi : i < A.length
    · have := (h _).1 (.mem (p := p) (g := fun j => ent A i j) ⟨i, Nat.zero_le _, hi, rfl⟩)
      have e : (fun j => ent (A ++ X) i j) = fun j => ent A i j := funext fun j => ent_app_lt hi j
      rw [e]
      refine this.sub ?_
      rintro g ⟨t, _, ht, rfl⟩
      exact .mem ⟨t, Nat.zero_le _, by simp; omega, funext fun j => (ent_app_lt ht j).symm⟩
    · have hi' : i - A.length < X.length := by simp at h2; omega
      refine .mem ⟨B.length + (i - A.length), Nat.zero_le _, by simp; omega, funext fun j => ?_⟩
      rw [ent_app_ge (by omega), ent_app_ge (by omega)]
      congr 1
      omega
  exact span_of (one h) (one h.symm)

end Go.Proofs.Ytbhdipljhelddaa

/-! The program's bringToSteps: a machine with two labels. Rows X behind those that it is told stay as they are. -/
namespace Go.Proofs.Ytbhdipljhelddaa
open Go.RowKit
open Go.Sort hiding Below

/-- As Q; by a goto: what holds there. -/
def jump2 (l0 l1 : Nat) (J0 J1 : Act → World → Prop) (Q : Exit → Act → World → Prop) : Exit → Act → World → Prop
  | .goto l, a, w => (l = l0 ∧ J0 a w) ∨ (l = l1 ∧ J1 a w)
  | .normal, a, w => Q .normal a w
  | .exit id, a, w => Q (.exit id) a w
  | .ret, a, w => Q .ret a w
  | .panic ch, a, w => Q (.panic ch) a w
  | .outgrown, a, w => Q .outgrown a w

/-- A scope with two labels, one of them at its head: what holds at each jump, and what each lowers. -/
theorem wp_scope_two {P : Program} {Q : Exit → Act → World → Prop} {a : Act} {w : World} {c c1 X Y x1 x2 x3 x4 : Code} {l0 l1 : Nat} (J0 J1 : Act → World → Prop) (m0 m1 : Act → World → Nat) (hc : c = c1.seq ((Code.label l0).seq X)) (_hX : X = x1.seq (x2.seq (x3.seq (x4.seq ((Code.label l1).seq Y)))))
    (h0 : findLabel c l0 = some (Code.skip.seq X)) (h1 : findLabel c l1 = some (Code.skip.seq Y))
    (first : c1.wp P (fun e a w => e = .normal ∧ J0 a w) a w)
    (pass0 : ∀ a w, J0 a w → X.wp P (jump2 l0 l1 (fun a' w' => J0 a' w' ∧ m0 a' w' < m0 a w) (fun a' w' => J1 a' w' ∧ m1 a' w' < m0 a w) Q) a w)
    (pass1 : ∀ a w, J1 a w → Y.wp P (jump2 l0 l1 (fun a' w' => J0 a' w' ∧ m0 a' w' < m1 a w) (fun a' w' => J1 a' w' ∧ m1 a' w' < m1 a w) Q) a w) : (Code.scope c).wp P Q a w := by
  intro b k cs
  have g0 : gotoIn l0 (.inScope c :: k) = some (.code (Code.skip.seq X) :: .inScope c :: k) := by simp [gotoIn, h0]
  have g1 : gotoIn l1 (.inScope c :: k) = some (.code (Code.skip.seq Y) :: .inScope c :: k) := by simp [gotoIn, h1]
  have key : ∀ N, (∀ a w, m0 a w = N → J0 a w → ∃ e a' w', Q e a' w' ∧ Arrives P (lone (b.at a (.code (Code.skip.seq X) :: .inScope c :: k)) cs w) b k cs e a' w') ∧
      (∀ a w, m1 a w = N → J1 a w → ∃ e a' w', Q e a' w' ∧ Arrives P (lone (b.at a (.code (Code.skip.seq Y) :: .inScope c :: k)) cs w) b k cs e a' w') := by
    intro N
    induction N using Nat.strongRecOn with
    | _ N ih =>
      have go : ∀ (Z : Code) (a : Act) (w : World), Z.wp P (jump2 l0 l1 (fun a' w' => J0 a' w' ∧ m0 a' w' < N) (fun a' w' => J1 a' w' ∧ m1 a' w' < N) Q) a w → ∃ e a' w', Q e a' w' ∧ Arrives P (lone (b.at a (.code Z :: .inScope c :: k)) cs w) b k cs e a' w' := by
        intro Z a w hZ
        obtain ⟨e, a1, w1, hq, harr⟩ := hZ b (.inScope c :: k) cs
        cases e with
        | normal => exact ⟨.normal, a1, w1, hq, Steps.trans harr (.one step_inScope)⟩
        | exit id => exact ⟨.exit id, a1, w1, hq, fun k' hk => harr k' (by simp [exitTo, hk])⟩
        | goto l' =>
          rcases hq with ⟨rfl, hJ, hlt⟩ | ⟨rfl, hJ, hlt⟩
          · obtain ⟨e2, a2, w2, hq2, harr2⟩ := (ih _ hlt).1 a1 w1 rfl hJ
            exact ⟨e2, a2, w2, hq2, .of_steps (harr _ g0) harr2⟩
          · obtain ⟨e2, a2, w2, hq2, harr2⟩ := (ih _ hlt).2 a1 w1 rfl hJ
            exact ⟨e2, a2, w2, hq2, .of_steps (harr _ g1) harr2⟩
        | ret => exact ⟨_, a1, w1, hq, harr⟩
        | panic ch => exact ⟨_, a1, w1, hq, harr⟩
        | outgrown => exact ⟨_, a1, w1, hq, harr⟩
      exact ⟨fun a w hn hJ => go _ a w (wp_seq (wp_skip (by subst hn; exact pass0 a w hJ))), fun a w hn hJ => go _ a w (wp_seq (wp_skip (by subst hn; exact pass1 a w hJ)))⟩
  have hfirst : c.wp P (jump2 l0 l1 J0 J1 Q) a w := by
    rw [hc]
    refine wp_seq (wp_mono first ?_)
    rintro e a w ⟨rfl, hJ⟩
    refine wp_seq (wp_label (wp_mono (pass0 a w hJ) ?_))
    intro e a' w' hq
    cases e with
    | goto l' => rcases hq with ⟨rfl, hJ, _⟩ | ⟨rfl, hJ, _⟩; exact .inl ⟨rfl, hJ⟩; exact .inr ⟨rfl, hJ⟩
    | normal => exact hq
    | exit id => exact hq
    | ret => exact hq
    | panic ch => exact hq
    | outgrown => exact hq
  obtain ⟨e, a1, w1, hq, harr⟩ := hfirst b (.inScope c :: k) cs
  cases e with
  | normal => exact ⟨.normal, a1, w1, hq, .head step_scope (Steps.trans harr (.one step_inScope))⟩
  | exit id => exact ⟨.exit id, a1, w1, hq, fun k' hk => .head step_scope (harr k' (by simp [exitTo, hk]))⟩
  | goto l' =>
    rcases hq with ⟨rfl, hJ⟩ | ⟨rfl, hJ⟩
    · obtain ⟨e2, a2, w2, hq2, harr2⟩ := (key _).1 a1 w1 rfl hJ
      exact ⟨e2, a2, w2, hq2, .of_steps (.head step_scope (harr _ g0)) harr2⟩
    · obtain ⟨e2, a2, w2, hq2, harr2⟩ := (key _).2 a1 w1 rfl hJ
      exact ⟨e2, a2, w2, hq2, .of_steps (.head step_scope (harr _ g1)) harr2⟩
  | ret => exact ⟨_, a1, w1, hq, .of_steps (.one step_scope) harr⟩
  | panic ch => exact ⟨_, a1, w1, hq, .of_steps (.one step_scope) harr⟩
  | outgrown => exact ⟨_, a1, w1, hq, .of_steps (.one step_scope) harr⟩

section
variable {Q : Exit → Act → World → Prop} {J0 J1 : Act → World → Prop} {l0 l1 : Nat} {a : Act} {w : World}
@[go_sem] theorem jump2_normal : jump2 l0 l1 J0 J1 Q .normal a w = Q .normal a w := rfl
@[go_sem] theorem jump2_exit (id : Nat) : jump2 l0 l1 J0 J1 Q (.exit id) a w = Q (.exit id) a w := rfl
@[go_sem] theorem jump2_ret : jump2 l0 l1 J0 J1 Q .ret a w = Q .ret a w := rfl
end

/-- Two rows' slices are put at one another's places, in the program's order. -/
theorem MatW.swap3 {W : World} {B R n w : Nat} {ad : Ads} {M : List (List Int)} (h : MatW W B R n w ad M) {r i ei er : Nat} (hr : r < n) (hi : i < n) (hci : W.cell? ⟨R, i, none⟩ = some (.slice (some ⟨(adr ad i).1, (adr ad i).2, none⟩) w ei)) (hcr : W.cell? ⟨R, r, none⟩ = some (.slice (some ⟨(adr ad r).1, (adr ad r).2, none⟩) w er)) :
    MatW ((W.setCell ⟨R, r, none⟩ (.slice (some ⟨(adr ad i).1, (adr ad i).2, none⟩) w ei)).setCell ⟨R, i, none⟩ (.slice (some ⟨(adr ad r).1, (adr ad r).2, none⟩) w er)) B R n w (swapA ad r i) (swapR M r i) := by
  refine h.swap hr hi (by simp [World.setCell]) (fun b hb => ?_) (fun k hk => ⟨?_, ?_⟩)
  · rw [Below.heap_setCell _ _ _ _ (by simpa using hb), Below.heap_setCell _ _ _ _ (by simpa using hb)]
  · rw [cells_set2 (by rw [hcr]; rfl) (by rw [hci]; rfl)]
    by_cases e1 : k = i
    · exact ⟨er, by simp [e1]⟩
    · by_cases e2 : k = r
      · exact ⟨ei, by rw [if_neg e1, if_pos e2, if_neg e1, if_pos e2]⟩
      · obtain ⟨ek, hk2⟩ := (h.hd k hk).1
        exact ⟨ek, by rw [if_neg e1, if_neg e2, if_neg e1, if_neg e2]; exact hk2⟩
  · rw [World.frozen?_setCell, World.frozen?_setCell]; exact (h.hd k hk).2

theorem MatX.swap3 {W : World} {B R n w : Nat} {ad : Ads} {M X : List (List Int)} (h : MatX W B R n w ad M X) {r i ei er : Nat} (hr : r < n) (hi : i < n) (hci : W.cell? ⟨R, i, none⟩ = some (.slice (some ⟨(adr ad i).1, (adr ad i).2, none⟩) w ei)) (hcr : W.cell? ⟨R, r, none⟩ = some (.slice (some ⟨(adr ad r).1, (adr ad r).2, none⟩) w er)) :
    MatX ((W.setCell ⟨R, r, none⟩ (.slice (some ⟨(adr ad i).1, (adr ad i).2, none⟩) w ei)).setCell ⟨R, i, none⟩ (.slice (some ⟨(adr ad r).1, (adr ad r).2, none⟩) w er)) B R n w (swapA ad r i) (swapR M r i) X := by
  refine ⟨?_, by rw [swapR_len]; exact h.len⟩
  have := h.it.swap3 (r := r) (i := i) (by omega) (by omega) hci hcr
  rwa [swapR_app (by rw [h.len]; exact hr) (by rw [h.len]; exact hi)] at this

/-- What holds at the label seek. -/
def Seek (B R n w : Nat) (M0 X : List (List Int)) (W : World) (p : Int) (E r c : Nat) (wr : World) : Prop :=
  ∃ (M : List (List Int)) (ad : Ads), r ≤ n ∧ c ≤ w ∧ MatX wr B R n w ad M X ∧ MatG p n w M ∧ E = elimR p (w - c) r c M ∧ Go.RowKit.Below B W wr ∧ SpanEq p M0 M
/-- .. at the label sweep. -/
def Swp (B R n w : Nat) (M0 X : List (List Int)) (W : World) (p : Int) (E r c : Nat) (wr : World) : Prop :=
  ∃ (M : List (List Int)) (ad : Ads), r < n ∧ c < w ∧ MatX wr B R n w ad M X ∧ MatG p n w M ∧ E = elimR p (w - (c + 1)) (r + 1) (c + 1) (sweepTo p c r n M) ∧ Go.RowKit.Below B W wr ∧ SpanEq p M0 M

/-- The machine at the label seek; at the label sweep. -/
def AtSeek (B R n w cap : Nat) (M0 X : List (List Int)) (W : World) (p : Int) (E : Nat) (a' : Act) (w' : World) : Prop :=
  ∃ (r c : Nat) (us : Nat → Value), a' = { tmps := #[.slice (some ⟨R, 0, none⟩) n cap, .int .i64 p, undef, undef, .int .i64 0, .int .i64 (r : Int), .int .i64 (c : Int), us 7, us 8, us 9, us 10, us 11, us 12, us 13, us 14, us 15, us 16, us 17, us 18, us 19, us 20, us 21, us 22, us 23, us 24, us 25, us 26, us 27, us 28, us 29, us 30, us 31, us 32, us 33, us 34, us 35, us 36, us 37, us 38, us 39, us 40, us 41, us 42, us 43, us 44, us 45, us 46, us 47, us 48, us 49, us 50, us 51, us 52, us 53, us 54, us 55, us 56, us 57, us 58, us 59, us 60, us 61, us 62, us 63, us 64, us 65, us 66, us 67, us 68, us 69, us 70, us 71, us 72, us 73, us 74, us 75, us 76], defers := [] } ∧ Hid (Seek B R n w M0 X W p E r c w')
def AtSweep (B R n w cap : Nat) (M0 X : List (List Int)) (W : World) (p : Int) (E : Nat) (a' : Act) (w' : World) : Prop :=
  ∃ (r c : Nat) (us : Nat → Value), a' = { tmps := #[.slice (some ⟨R, 0, none⟩) n cap, .int .i64 p, undef, undef, .int .i64 0, .int .i64 (r : Int), .int .i64 (c : Int), us 7, us 8, us 9, us 10, us 11, us 12, us 13, us 14, us 15, us 16, us 17, us 18, us 19, us 20, us 21, us 22, us 23, us 24, us 25, us 26, us 27, us 28, us 29, us 30, us 31, us 32, us 33, us 34, us 35, us 36, us 37, us 38, us 39, us 40, us 41, us 42, us 43, us 44, us 45, us 46, us 47, us 48, us 49, us 50, us 51, us 52, us 53, us 54, us 55, us 56, us 57, us 58, us 59, us 60, us 61, us 62, us 63, us 64, us 65, us 66, us 67, us 68, us 69, us 70, us 71, us 72, us 73, us 74, us 75, us 76], defers := [] } ∧ Hid (Swp B R n w M0 X W p E r c w')
theorem atSeek_of {B R n w cap : Nat} {M0 X : List (List Int)} {W : World} {p : Int} {E r c : Nat} {w' : World} (tm : Array Value) (h : tm = #[.slice (some ⟨R, 0, none⟩) n cap, .int .i64 p, undef, undef, .int .i64 0, .int .i64 (r : Int), .int .i64 (c : Int), tm.getD 7 undef, tm.getD 8 undef, tm.getD 9 undef, tm.getD 10 undef, tm.getD 11 undef, tm.getD 12 undef, tm.getD 13 undef, tm.getD 14 undef, tm.getD 15 undef, tm.getD 16 undef, tm.getD 17 undef, tm.getD 18 undef, tm.getD 19 undef, tm.getD 20 undef, tm.getD 21 undef, tm.getD 22 undef, tm.getD 23 undef, tm.getD 24 undef, tm.getD 25 undef, tm.getD 26 undef, tm.getD 27 undef, tm.getD 28 undef, tm.getD 29 undef, tm.getD 30 undef, tm.getD 31 undef, tm.getD 32 undef, tm.getD 33 undef, tm.getD 34 undef, tm.getD 35 undef, tm.getD 36 undef, tm.getD 37 undef, tm.getD 38 undef, tm.getD 39 undef, tm.getD 40 undef, tm.getD 41 undef, tm.getD 42 undef, tm.getD 43 undef, tm.getD 44 undef, tm.getD 45 undef, tm.getD 46 undef, tm.getD 47 undef, tm.getD 48 undef, tm.getD 49 undef, tm.getD 50 undef, tm.getD 51 undef, tm.getD 52 undef, tm.getD 53 undef, tm.getD 54 undef, tm.getD 55 undef, tm.getD 56 undef, tm.getD 57 undef, tm.getD 58 undef, tm.getD 59 undef, tm.getD 60 undef, tm.getD 61 undef, tm.getD 62 undef, tm.getD 63 undef, tm.getD 64 undef, tm.getD 65 undef, tm.getD 66 undef, tm.getD 67 undef, tm.getD 68 undef, tm.getD 69 undef, tm.getD 70 undef, tm.getD 71 undef, tm.getD 72 undef, tm.getD 73 undef, tm.getD 74 undef, tm.getD 75 undef, tm.getD 76 undef]) (HK : Hid (Seek B R n w M0 X W p E r c w')) : AtSeek B R n w cap M0 X W p E { tmps := tm, defers := [] } w' :=
  ⟨r, c, fun i => tm.getD i undef, congrArg (fun t => ({ tmps := t, defers := [] } : Act)) h, HK⟩
theorem atSweep_of {B R n w cap : Nat} {M0 X : List (List Int)} {W : World} {p : Int} {E r c : Nat} {w' : World} (tm : Array Value) (h : tm = #[.slice (some ⟨R, 0, none⟩) n cap, .int .i64 p, undef, undef, .int .i64 0, .int .i64 (r : Int), .int .i64 (c : Int), tm.getD 7 undef, tm.getD 8 undef, tm.getD 9 undef, tm.getD 10 undef, tm.getD 11 undef, tm.getD 12 undef, tm.getD 13 undef, tm.getD 14 undef, tm.getD 15 undef, tm.getD 16 undef, tm.getD 17 undef, tm.getD 18 undef, tm.getD 19 undef, tm.getD 20 undef, tm.getD 21 undef, tm.getD 22 undef, tm.getD 23 undef, tm.getD 24 undef, tm.getD 25 undef, tm.getD 26 undef, tm.getD 27 undef, tm.getD 28 undef, tm.getD 29 undef, tm.getD 30 undef, tm.getD 31 undef, tm.getD 32 undef, tm.getD 33 undef, tm.getD 34 undef, tm.getD 35 undef, tm.getD 36 undef, tm.getD 37 undef, tm.getD 38 undef, tm.getD 39 undef, tm.getD 40 undef, tm.getD 41 undef, tm.getD 42 undef, tm.getD 43 undef, tm.getD 44 undef, tm.getD 45 undef, tm.getD 46 undef, tm.getD 47 undef, tm.getD 48 undef, tm.getD 49 undef, tm.getD 50 undef, tm.getD 51 undef, tm.getD 52 undef, tm.getD 53 undef, tm.getD 54 undef, tm.getD 55 undef, tm.getD 56 undef, tm.getD 57 undef, tm.getD 58 undef, tm.getD 59 undef, tm.getD 60 undef, tm.getD 61 undef, tm.getD 62 undef, tm.getD 63 undef, tm.getD 64 undef, tm.getD 65 undef, tm.getD 66 undef, tm.getD 67 undef, tm.getD 68 undef, tm.getD 69 undef, tm.getD 70 undef, tm.getD 71 undef, tm.getD 72 undef, tm.getD 73 undef, tm.getD 74 undef, tm.getD 75 undef, tm.getD 76 undef]) (HK : Hid (Swp B R n w M0 X W p E r c w')) : AtSweep B R n w cap M0 X W p E { tmps := tm, defers := [] } w' :=
  ⟨r, c, fun i => tm.getD i undef, congrArg (fun t => ({ tmps := t, defers := [] } : Act)) h, HK⟩

set_option maxRecDepth 1000000 in
set_option maxHeartbeats 4000000 in
theorem steps_more (B R n w cap : Nat) (ad : Ads) (p : Int) (M0 X : List (List Int)) (W : World) (hM : MatX W B R n w ad M0 X) (hG : MatG p n w M0) (hp : p = 2 ∨ p = 3) (hn : n ≤ 1048576) (hw : w ≤ 1048576) :
    Calls Try.prog 167 #[.slice (some ⟨R, 0, none⟩) n cap, .int .i64 p] W fun e W' => e = .returned (.int .i64 (elimR p w 0 0 M0 : Int)) ∧ Go.RowKit.Below B W W' ∧ ∃ M' ad', MatX W' B R n w ad' M' X ∧ MatG p n w M' ∧ SpanEq p M0 M' := by
  obtain ⟨E, hE⟩ : ∃ E, E = elimR p w 0 0 M0 := ⟨_, rfl⟩
  rw [← hE]
  have HS : Hid (Seek B R n w M0 X W p E 0 0 W) := hid ⟨M0, ad, by omega, by omega, hM, hG, hE, .refl _ _, .refl _ _⟩
  have HP := hid hp
  clear hM hG hE hp
  go_enter Try.func167, Try.ntmps167
  go_wp2
  refine wp_scope_two (l0 := 0) (l1 := 1) (AtSeek B R n w cap M0 X W p E) (AtSweep B R n w cap M0 X W p E)
    (fun a' _ => 2 * (w - (intOf (a'.tmps.getD 6 undef)).toNat) + 1) (fun a' _ => 2 * (w - (intOf (a'.tmps.getD 6 undef)).toNat)) rfl rfl (by kernel_rfl) (by kernel_rfl) ?_ ?_ ?_
  · go_wp2
    exact atSeek_of (r := 0) (c := 0) _ rfl HS
  · rintro a' wr ⟨r, c, us, rfl, HK⟩
    clear HS
    obtain ⟨M, ad, hr, hc, hM, hG, hE, hB, hT⟩ := HK.out
    have HM := hid hM
    have HG := hid hG
    have HE := hid hE
    have HB := hid hB
    have HT := hid hT
    clear hM hG hE hB HK hT
    have hr0 : (0 : Int) ≤ (r : Int) := by omega
    have hc0 : (0 : Int) ≤ (c : Int) := by omega
    by_cases hrn : r = n
    · have hd : ((r : Int) == (n : Int)) = true := by simp [hrn]
      have He : Hid (E = r) := hid (by rw [HE.out, elim_full _ _ _ _ (by rw [HG.out.len]; omega)])
      clear hrn
      go_wp2
      go_ret
      exact ⟨ret_int (by rw [He.out]), HB.out, _, _, HM.out, HG.out, HT.out⟩
    · have hd : ((r : Int) == (n : Int)) = false := by simp; omega
      have hrlt : r < n := by omega
      have hri : (r : Int) < (n : Int) := by omega
      obtain ⟨⟨er, cr⟩, fr⟩ := HM.out.hd r hrlt
      clear hrn
      by_cases hcw : c = w
      · have hd2 : ((c : Int) == (w : Int)) = true := by simp [hcw]
        have He : Hid (E = r) := hid (by rw [HE.out, hcw, Nat.sub_self]; rfl)
        clear hcw
        go_wp2
        go_ret
        exact ⟨ret_int (by rw [He.out]), HB.out, _, _, HM.out, HG.out, HT.out⟩
      · have hd2 : ((c : Int) == (w : Int)) = false := by simp; omega
        have hcl : c < w := by omega
        have hci : (c : Int) < (w : Int) := by omega
        clear hcw
        go_wp2
        obtain ⟨wo, rfl⟩ : ∃ wo : World, wo = wr := ⟨_, rfl⟩
        go_loopw [7] (fun s7 wx => ∃ (i : Nat), s7 = .int .i64 i ∧ r ≤ i ∧ i ≤ n ∧ Hid (∀ i', r ≤ i' → i' < i → ent M i' c = 0) ∧ wx = wo) (fun s7 _ => n - (intOf s7).toNat)
        case atStart => exact ⟨r, rfl, Nat.le_refl _, hr, hid (fun i' h1 h2 => by omega), rfl⟩
        case round =>
          obtain ⟨i, rfl, hri', hin, Hz, rfl⟩ := hrel
          by_cases hlt : i < n
          · have hi0 : (0 : Int) ≤ (i : Int) := by omega
            have hi1 : (i : Int) < (n : Int) := by omega
            obtain ⟨⟨ei, ci⟩, fi⟩ := HM.out.hd i hlt
            have cx := (HM.out.at hlt hcl).1
            by_cases hx : ent M i c = 0
            · have Hz' : Hid (∀ i', r ≤ i' → i' < i + 1 → ent M i' c = 0) := hid (fun i' h1 h2 => by
                by_cases e : i' = i
                · rw [e]; exact hx
                · exact Hz.out i' h1 (by omega))
              rw [hx] at cx
              clear hx
              go_wp2
              go_roundw
              case rel => exact ⟨i + 1, by go_num, by omega, by omega, Hz', trivial⟩
              case measure => simp [intOf]; omega
            · have hdx : (ent M i c != 0) = true := by simpa using hx
              have HE2 : Hid (E = elimR p (w - (c + 1)) (r + 1) (c + 1) (sweepTo p c r n (swapR M r i))) := hid (by
                have h1 := HE.out
                rw [show w - c = (w - (c + 1)) + 1 by omega, elim_some hri' (by rw [HG.out.len]; exact hlt) hx Hz.out, HG.out.len] at h1
                exact h1)
              have hRB := HM.out.head
              have HM2 := hid ((HM.out.swap3 hrlt hlt ci cr).drewN 1)
              have HB2 := hid (below_drewN ((HB.out.setCell (p := ⟨R, r, none⟩) hRB.1 (.slice (some ⟨(adr ad i).1, (adr ad i).2, none⟩) w ei)).setCell (p := ⟨R, i, none⟩) hRB.1 (.slice (some ⟨(adr ad r).1, (adr ad r).2, none⟩) w er)) 1)
              have HT2 := hid (HT.out.trans (span_swap HG.out hrlt hlt))
              have HG2 := hid (swapR_good HG.out hrlt hlt)
              obtain ⟨v', ci2⟩ := cell?_setCell_some (w := wr) (p := ⟨R, r, none⟩) (x := .slice (some ⟨(adr ad i).1, (adr ad i).2, none⟩) w ei) (q := ⟨R, i, none⟩) (v := _) ci
              clear hRB
              obtain ⟨x, hxx⟩ : ∃ x, x = ent M i c := ⟨_, rfl⟩
              rw [← hxx] at cx hdx
              clear hx hxx
              go_wp2
              go_region
              go_wp2
              refine wp_goto ?_
              refine .inr ⟨rfl, atSweep_of (r := r) (c := c) _ rfl (hid ⟨_, _, hrlt, hcl, HM2.out, HG2.out, HE2.out, HB2.out, HT2.out⟩), ?_⟩
              simp [intOf]
          · obtain rfl : i = n := by omega
            have HS2 : Hid (Seek B R i w M0 X W p E r (c + 1) wr) := hid ⟨M, ad, hr, by omega, HM.out, HG.out, by
              have h1 := HE.out
              rw [show w - c = (w - (c + 1)) + 1 by omega, elim_none (fun i' h1 h2 => Hz.out i' h1 (by rw [← HG.out.len]; exact h2))] at h1
              exact h1, HB.out, HT.out⟩
            go_wp2
            refine wp_goto ?_
            refine .inl ⟨rfl, atSeek_of (r := r) (c := c + 1) _ rfl HS2, ?_⟩
            simp [intOf]
            omega
  · rintro a' wr ⟨r, c, us, rfl, HK⟩
    clear HS
    obtain ⟨M, ad, hr, hc, hM, hG, hE, hB, hT⟩ := HK.out
    have HM := hid hM
    have HG := hid hG
    have HE := hid hE
    have HB := hid hB
    have HT := hid hT
    clear hM hG hE hB HK hT
    have hr0 : (0 : Int) ≤ (r : Int) := by omega
    have hr1 : (r : Int) < (n : Int) := by omega
    have hc0 : (0 : Int) ≤ (c : Int) := by omega
    have hci : (c : Int) < (w : Int) := by omega
    go_wp2
    go_loopw [8] (fun s8 wx => ∃ (i : Nat), s8 = .int .i64 i ∧ r + 1 ≤ i ∧ i ≤ n ∧ Hid (MatX wx B R n w ad (sweepTo p c r i M) X) ∧ Hid (Go.RowKit.Below B W wx)) (fun s8 _ => n - (intOf s8).toNat)
    case atStart => exact ⟨r + 1, by go_num, Nat.le_refl _, by omega, hid (by rw [sweepTo_none (Nat.le_refl _)]; exact HM.out), HB⟩
    case round =>
      clear HM HB
      obtain ⟨i, rfl, hri, hin, HM, HB⟩ := hrel
      by_cases hlt : i < n
      · have hi0 : (0 : Int) ≤ (i : Int) := by omega
        have hi1 : (i : Int) < (n : Int) := by omega
        obtain ⟨ei, ci⟩ := (HM.out.hd i hlt).1
        obtain ⟨er, cr⟩ := (HM.out.hd r hr).1
        have hrow : (sweepTo p c r i M)[i]?.getD [] = M[i]?.getD [] := sweepTo_later (by rw [HG.out.len]; exact hlt)
        have hown : (sweepTo p c r i M)[r]?.getD [] = M[r]?.getD [] := sweepTo_pivot (by rw [HG.out.len]; exact hr)
        have h1 := HM.out.row i hlt
        have h2 := HM.out.row r hr
        rw [hrow] at h1
        rw [hown] at h2
        have HC := hid (clear_any (adr ad i).1 (adr ad i).2 (adr ad r).1 (adr ad r).2 w c ei er p _ _ wr.drew (Sort.holds_ahead encI wr 1 _ _ _ h1) (Sort.holds_ahead encI wr 1 _ _ _ h2) (HG.out.rowLen hlt) (HG.out.rowLen hr) hc hw HP.out (HG.out.rng _ (HG.out.row hlt)) (HG.out.rng _ (HG.out.row hr)) (HM.out.apart i r hlt hr (by omega)))
        have Hput := hid (fun m => HM.out.put hlt m (row := clr p c (M[i]?.getD []) (M[r]?.getD [])) (clr_len (HG.out.rowLen hlt) (HG.out.rowLen hr)))
        have Hsn := hid (sweepTo_succ (p := p) (c := c) (r := r) (k := i) (M := M) (by omega))
        have Hbs := hid (HM.out.base i hlt).1
        clear hrow hown h1 h2
        go_wp2_with fail
        go_region_with (go_at_call 204; refine HC.out.mono ?_; rintro e w2 ⟨⟨u, rfl⟩, m, hw2⟩; have A : Aside (w2 = _) := hw2; clear hw2)
        all_goals
          have hM2 := Hput.out (m + 1)
          have hB2 := below_put HB.out (m + 1) (adr ad i).1 (adr ad i).2 (clr p c (M[i]?.getD []) (M[r]?.getD [])) Hbs.out
          have e2 : w2 = putRow encI (Sort.ahead wr (m + 1)) (adr ad i).1 (adr ad i).2 (clr p c (M[i]?.getD []) (M[r]?.getD [])).toArray := by rw [A.out, Sort.drew_eq_ahead, Sort.ahead_ahead, Nat.add_comm 1 m]
          rw [← e2, ← Hsn.out] at hM2
          rw [← e2] at hB2
          have HM2 := hid hM2
          have HB2 := hid hB2
          clear hM2 hB2 e2 A
          go_wp2
          go_roundw
          case rel => exact ⟨i + 1, by go_num, by omega, by omega, HM2, HB2⟩
          case measure => simp [intOf]; omega
      · obtain rfl : i = n := by omega
        have HS2 : Hid (Seek B R i w M0 X W p E (r + 1) (c + 1) wr) := hid ⟨_, _, hr, hc, HM.out, sweepTo_good HG.out (by rcases HP.out with h | h <;> omega) hr, HE.out, HB.out, HT.out.trans (span_sweep HG.out hr)⟩
        go_wp2
        refine wp_goto ?_
        refine .inl ⟨rfl, atSeek_of (r := r + 1) (c := c + 1) _ rfl HS2, ?_⟩
        simp [intOf]
        omega

theorem steps_any (B R n w cap : Nat) (ad : Ads) (p : Int) (M : List (List Int)) (W : World) (hM : MatW W B R n w ad M) (hG : MatG p n w M) (hp : p = 2 ∨ p = 3) (hn : n ≤ 1048576) (hw : w ≤ 1048576) :
    Calls Try.prog 167 #[.slice (some ⟨R, 0, none⟩) n cap, .int .i64 p] W fun e W' => e = .returned (.int .i64 (elimR p w 0 0 M : Int)) ∧ Go.RowKit.Below B W W' :=
  (steps_more B R n w cap ad p M [] W hM.x hG hp hn hw).mono fun _ _ h => ⟨h.1, h.2.1⟩

end Go.Proofs.Ytbhdipljhelddaa

/-! The faces of a dimension: the program's facesOfDimension. -/
namespace Go.Proofs.Ytbhdipljhelddaa
open Go.RowKit

theorem fodWanted (d : Int) (bd : Nat) (x : Int) (w : World) (hx0 : 1 ≤ x) (hx1 : x ≤ 63) (hd : w.cell? ⟨bd, 0, none⟩ = some (.int .i64 d)) :
    Calls Try.prog 106 #[.int .i64 x, .pointer (some ⟨bd, 0, none⟩)] w fun e w' => e = .returned (.bool (decide ((ones x.toNat : Int) = d + 1))) ∧ Below w.heap.size w w' := by
  obtain ⟨f, rfl⟩ : ∃ f : Nat, x = f := ⟨x.toNat, by omega⟩
  have hf : f < 64 := by omega
  rw [Int.toNat_natCast]
  have ho := ones_le f
  have He : Hid (((ones f : Int) - 1 == d) = decide ((ones f : Int) = d + 1)) := hid (by rw [Bool.eq_iff_iff]; simp; omega)
  go_enter Try.func106, Try.ntmps106
  go_wp2_with fail
  go_quiet ((go_at_call 107; exact quiet_of_eq (dim_any f _ hf)))
  go_wp2_with fail
  go_ret
  exact ⟨ret_bool He.out, ⟨rfl, rfl, rfl, Nat.le_refl _, fun _ _ => rfl⟩⟩

set_option maxRecDepth 100000 in
set_option maxHeartbeats 1000000 in
theorem fod_any (V : Int) (a : Option Addr) (cap : Nat) (fs : List Int) (d : Int) (w : World) (hx : SlI w w.heap.size a fs) (hl : fs.length ≤ 1048576) (hf : ∀ x ∈ fs, 1 ≤ x ∧ x ≤ 63) :
    Calls Try.prog 48 #[.agg #[.int .i64 V, .slice a fs.length cap], .int .i64 d] w fun e w' => ∃ v, e = .returned v ∧ Res w w' v (ofDim fs d) := by
  have hB0 : Below w.heap.size w ((w.alloc (.cells #[.int .i64 V, .slice a fs.length cap] 28)).alloc (.cells #[.int .i64 d] 2)) := ((Below.refl _ w).alloc (Nat.le_refl _) _).alloc (by simp) _
  have e1 : ((w.alloc (.cells #[.int .i64 V, .slice a fs.length cap] 28)).alloc (.cells #[.int .i64 d] 2)).heap[w.heap.size + 1]? = some (.cells #[.int .i64 d] 2 (0, 0)) := new2 _ _ _
  have HFW := hid (fw_any V a cap fs _ 106 (.pointer (some ⟨w.heap.size + 1, 0, none⟩)) (fun x => decide ((ones x.toNat : Int) = d + 1)) (hx.later hB0 hB0.size) hl (enters_of Try.func106 (by kernel_rfl) rfl) (fun W' x hW' hxm => fodWanted d _ x W' (hf x hxm).1 (hf x hxm).2 ((hW'.cell (p := ⟨w.heap.size + 1, 0, none⟩) (lt_of_get e1)).trans (box_cell e1).1)))
  clear hx hf e1
  go_enter Try.func48, Try.ntmps48
  go_wp2_with fail
  refine HFW.out.mono ?_
  rintro e w2 ⟨v, rfl, hr⟩
  go_wp2_with fail
  go_ret
  exact ⟨v, rfl, hr.later hB0⟩

end Go.Proofs.Ytbhdipljhelddaa

/-! boundaryRank: the program's rank of a dimension. -/
namespace Go.Proofs.Ytbhdipljhelddaa
open Go.RowKit Go.Shelf

set_option maxRecDepth 1000000 in
set_option maxHeartbeats 1000000 in
theorem fill_nil (B R w cr cf cs : Nat) (ad : Ads) (p : Int) (S : List Int) (X : List (List Int)) (af as_ : Option Addr) (W : World) (hM : MatX W B R 0 w ad [] X) (hB : B ≤ W.heap.size) :
    CallsIn Fence.wide 10 Try.prog 165 #[.slice (some ⟨R, 0, none⟩) 0 cr, .slice af 0 cf, .slice as_ w cs, .int .i64 p] W fun e W' => (∃ v, e = .returned v) ∧ MatX W' B R 0 w ad (([] : List Int).map fun f => bndRow S p (signedF f.toNat)) X ∧ Below B W W' := by
  have hBl : Below B W (((W.alloc (.cells #[.slice (some ⟨R, 0, none⟩) 0 cr] 56)).alloc (.cells #[.slice as_ w cs] 22)).alloc (.cells #[.int .i64 p] 2)) :=
    ((((Below.refl _ W).alloc (Nat.le_refl _) _).alloc (by simp) _).alloc (by simp <;> omega) _).mono hB
  have hk : (((W.alloc (.cells #[.slice (some ⟨R, 0, none⟩) 0 cr] 56)).alloc (.cells #[.slice as_ w cs] 22)).alloc (.cells #[.int .i64 p] 2)).heap[R]? = W.heap[R]? :=
    (Below.heap_alloc _ _ _ (by have := hM.head.2; simp <;> omega)).trans ((Below.heap_alloc _ _ _ (by have := hM.head.2; simp <;> omega)).trans (Below.heap_alloc _ _ _ hM.head.2))
  have HM2 := hid (hM.keep (W' := ((W.alloc (.cells #[.slice (some ⟨R, 0, none⟩) 0 cr] 56)).alloc (.cells #[.slice as_ w cs] 22)).alloc (.cells #[.int .i64 p] 2)) (by simp <;> omega) hk (fun i hi => (Below.heap_alloc _ _ _ (by have := (hM.it.base i hi).2; simp <;> omega)).trans ((Below.heap_alloc _ _ _ (by have := (hM.it.base i hi).2; simp <;> omega)).trans (Below.heap_alloc _ _ _ (hM.it.base i hi).2))))
  have HBl := hid hBl
  clear hM hBl hk
  refine callsIn_of_wp_marks Try.func165 rfl trivial ?_ rfl
  simp only [Try.ntmps165, List.size_toArray, List.length_cons, List.length_nil, Nat.reduceAdd, Nat.reduceSub, Array.replicate_succ, Array.replicate_zero, List.push_toArray, List.append_toArray, List.nil_append, List.cons_append]
  gi_wp2
  refine wpIn_loop_rounds 1 ?_
  rw [roundsIn_succ]
  gi_wp2
  exact ⟨_, results_none rfl _ _ _, ⟨_, rfl⟩, HM2.out, HBl.out⟩

theorem fill_any (B R n w cr cf cs : Nat) (ad : Ads) (p : Int) (F S : List Int) (X : List (List Int)) (af as_ : Option Addr) (W : World) (hM : MatX W B R n w ad (List.replicate n (List.replicate w 0)) X) (hF : F.length = n) (hS : S.length = w)
    (xF : SlI W B af F) (xS : SlI W B as_ S) (hB : B ≤ W.heap.size) (hp : p = 2 ∨ p = 3) (hFr : ∀ x ∈ F, 1 ≤ x ∧ x ≤ 63) (hSa : S.Pairwise (· < ·)) (hS0 : ∀ s ∈ S, 0 ≤ s)
    (hsd : ∀ f ∈ F, ∀ x ∈ signedF f.toNat, ((x.1.val : Nat) : Int) ∈ S) (hn : n ≤ 1000) (hw : w ≤ 1000) :
    Calls Try.prog 165 #[.slice (some ⟨R, 0, none⟩) n cr, .slice af n cf, .slice as_ w cs, .int .i64 p] W fun e W' => (∃ v, e = .returned v) ∧ MatX W' B R n w ad (F.map fun f => bndRow S p (signedF f.toNat)) X ∧ Below B W W' := by
  rcases xF with rfl | ⟨b1, o1, hb, rfl, hc⟩
  · obtain rfl : n = 0 := by simpa using hF.symm
    exact callsIn_wide.1 (fill_nil B R w cr cf cs ad p S X af as_ W hM hB)
  · exact callsIn_wide.1 (fill_in B R n w cr cf cs ad p F S X b1 o1 as_ W hM hF hS hb hc xS hB hp hFr hSa hS0 hsd hn hw)

set_option maxRecDepth 1000000 in
set_option maxHeartbeats 2000000 in
theorem brank_any (V : Int) (a0 : Option Addr) (cap : Nat) (fs : List Int) (d p : Int) (w : World) (hx : SlI w w.heap.size a0 fs) (hl : fs.length ≤ 1048576) (hC : IsC V fs) (hp : p = 2 ∨ p = 3) (hd0 : -1 ≤ d) (hd1 : d ≤ 100) :
    Calls Try.prog 199 #[.agg #[.int .i64 V, .slice a0 fs.length cap], .int .i64 d, .int .i64 p] w fun e w' => e = .returned (.int .i64 (rankN fs d p : Int)) ∧ Below w.heap.size w w' := by
  have hB0 : Below w.heap.size w (w.alloc (.cells #[.int .i64 V, .slice a0 fs.length cap] 28)) := (Below.refl _ w).alloc (Nat.le_refl _) _
  have hBd := below_drewN hB0 1
  have h63 := hC.len63
  have HF := hid (fun dd w' (hw : Below w.heap.size w w') => fod_any V a0 cap fs dd w' (hx.later hw hw.size) hl hC.range63)
  have hsub : IntKind.i64.wrap (d - 1) = d - 1 := IntWalk.i64_in _ (by omega)
  have HBd := hid hBd
  have HC := hid hC
  have HP := hid hp
  have hF63 := ofDim_len fs d
  have hS63 := ofDim_len fs (d - 1)
  obtain ⟨E, hE⟩ : ∃ E, E = rankN fs d p := ⟨_, rfl⟩
  rw [← hE]
  have HE : Hid (E = elimR p (ofDim fs (d - 1)).length 0 0 ((ofDim fs d).map fun f => bndRow (ofDim fs (d - 1)) p (signedF f.toNat))) := hid hE
  clear hx hB0 hBd hC hp hE
  go_enter Try.func199, Try.ntmps199
  go_wp2_with fail
  go_cut [7, 8] from 10 to 16 (fun q1 q2 wx => ∃ (a1 a2 : Option Addr) (c1 c2 : Nat), q1 = .slice a1 (ofDim fs d).length c1 ∧ q2 = .slice a2 (ofDim fs (d - 1)).length c2 ∧ SlI wx wx.heap.size a1 (ofDim fs d) ∧ SlI wx wx.heap.size a2 (ofDim fs (d - 1)) ∧ Below w.heap.size w wx)
  case first =>
    go_region_with (first
      | (go_at_call 48; have hz := HB1.out; clear HB1; refine (HF.out _ w1 hz).mono ?_; rintro e w2 ⟨v2, rfl, hr2⟩; obtain ⟨_, a2, c2, rfl, s2⟩ := ownsRow_slI hr2.1; have S2 := hid s2; have HR2 := hid hr2; have HB2 := hid hz; clear s2 hr2 hz n0 n1)
      | (go_at_call 48; refine (HF.out _ _ HBd.out).mono ?_; rintro e w1 ⟨v1, rfl, hr1⟩; have hb1 : Below w.heap.size w w1 := HBd.out.trans (hr1.2.mono HBd.out.size); have n0 : w1.cell? ⟨w.heap.size, 0, none⟩ = some (.int .i64 V) := (hr1.2.cell (p := ⟨w.heap.size, 0, none⟩) (by simp)).trans (by simp [go_sem]); have n1 : w1.cell? ⟨w.heap.size, 1, none⟩ = some (.slice a0 fs.length cap) := (hr1.2.cell (p := ⟨w.heap.size, 1, none⟩) (by simp)).trans (by simp [go_sem]); obtain ⟨_, a1, c1, rfl, s1⟩ := ownsRow_slI hr1.1; have S1 := hid s1; have HB1 := hid hb1; clear hr1 hb1 s1))
    all_goals
      go_wp2_with fail
      go_meet
      case rel =>
        have hb2 := HB2.out.trans (HR2.out.2.mono HB2.out.size)
        have s1' := S1.out.later HR2.out.2 HR2.out.2.size
        first
        | exact ⟨a1, a2, c1, c2, rfl, rfl, s1', S2.out, hb2⟩
        | exact ⟨a2, a1, c2, c1, rfl, rfl, S2.out, s1', hb2⟩
  case rest =>
    obtain ⟨a1, a2, c1, c2, rfl, rfl, s1, s2, hb⟩ := hcut
    have hn63 : (ofDim fs d).length ≤ 1000 := by omega
    have hw63 : (ofDim fs (d - 1)).length ≤ 1000 := by omega
    have HG := hid (bndM_good (fs := fs) d HP.out)
    have HFr : Hid (∀ x ∈ ofDim fs d, 1 ≤ x ∧ x ≤ 63) := hid (fun x hx => HC.out.range63 x (ofDim_mem.1 hx).1)
    have HSa := hid (ofDim_asc HC.out.asc (d - 1))
    have HS0 : Hid (∀ s ∈ ofDim fs (d - 1), 0 ≤ s) := hid (fun x hx => by have := HC.out.range63 x (ofDim_mem.1 hx).1; omega)
    have HSd : Hid (∀ f ∈ ofDim fs d, ∀ x ∈ signedF f.toNat, ((x.1.val : Nat) : Int) ∈ ofDim fs (d - 1)) := hid (fun f hf x hx => side_in HC.out hf hx)
    have S1 := hid s1
    have S2 := hid s2
    have HB := hid hb
    have HG' : Hid (MatG p (ofDim fs d).length (ofDim fs (d - 1)).length ((ofDim fs d).map fun f => bndRow (ofDim fs (d - 1)) p (signedF f.toNat))) := HG
    clear s1 s2 hb HG hF63 hS63 hsub
    go_wp2_with fail
    refine (newRows_any (ofDim fs d).length (ofDim fs (d - 1)).length _ hn63 hw63).mono ?_
    rintro e w3 ⟨R, ad, rfl, hM, hB3⟩
    have HM := hid hM
    have HB3 := hid hB3
    clear hM hB3
    go_wp2_with fail
    refine (fill_any wc.heap.size R (ofDim fs d).length (ofDim fs (d - 1)).length (ofDim fs d).length c1 c2 ad p (ofDim fs d) (ofDim fs (d - 1)) [] a1 a2 w3 HM.out.x rfl rfl (S1.out.below HB3.out) (S2.out.below HB3.out) HB3.out.size HP.out HFr.out HSa.out HS0.out HSd.out hn63 hw63).mono ?_
    rintro e w4 ⟨⟨u, rfl⟩, hM4, hB4⟩
    have HM4 := hid hM4
    have HB4 := hid (HB3.out.trans hB4)
    clear hM4 hB4
    go_wp2_with fail
    refine (steps_any wc.heap.size R (ofDim fs d).length (ofDim fs (d - 1)).length (ofDim fs d).length ad p _ w4 HM4.out.w HG'.out HP.out (by omega) (by omega)).mono ?_
    rintro e w5 ⟨rfl, hB5⟩
    have HB5 := hid (HB.out.trans ((HB4.out.trans hB5).mono HB.out.size))
    clear hB5
    go_wp2_with fail
    go_ret
    exact ⟨ret_int (by rw [HE.out]), HB5.out⟩

end Go.Proofs.Ytbhdipljhelddaa

/-! RankOf, the model's and the program's. -/
namespace Go.Proofs.Ytbhdipljhelddaa
open Go.RowKit

theorem ofDim_low {V : Int} {fs : List Int} (hC : IsC V fs) {d : Int} (hd : d < 0) : ofDim fs d = [] := by
  rw [List.eq_nil_iff_forall_not_mem]
  intro x hx
  obtain ⟨hm, ho⟩ := ofDim_mem.1 hx
  have hr := hC.range63 x hm
  have := ones_pos ⟨x.toNat, by omega⟩ (by simp only; omega)
  simp only at this
  omega
theorem ofDim_high {V : Int} {fs : List Int} (_hC : IsC V fs) {d : Int} (hd : top fs < d) : ofDim fs d = [] := by
  rw [List.eq_nil_iff_forall_not_mem]
  intro x hx
  obtain ⟨hm, ho⟩ := ofDim_mem.1 hx
  have := top_ge fs hm
  omega

set_option maxRecDepth 1000000 in
set_option maxHeartbeats 1000000 in
theorem rankS_nil (R cap : Nat) (p : Int) (W : World) :
    Calls Try.prog 99 #[.slice (some ⟨R, 0, none⟩) 0 cap, .int .i64 p] W fun e W' => e = .returned (.int .i64 0) ∧ W = W' := by
  go_enter Try.func99, Try.ntmps99
  go_wp2
  refine wp_loop_rounds 1 ?_; rw [rounds_succ]
  go_wp2
  go_ret
  exact ⟨rfl, rfl⟩

set_option maxRecDepth 1000000 in
set_option maxHeartbeats 2000000 in
theorem rkS_any (V : Int) (a0 : Option Addr) (cap : Nat) (fs : List Int) (d p : Int) (w : World) (hx : SlI w w.heap.size a0 fs) (hl : fs.length ≤ 1048576) (hC : IsC V fs) (hp : p = 2 ∨ p = 3) (hd0 : 0 ≤ d) (hd1 : d ≤ 100) :
    Calls Try.prog 101 #[.agg #[.int .i64 V, .slice a0 fs.length cap], .int .i64 d, .int .i64 p] w fun e w' => e = .returned (.int .i64 (rankN fs d p : Int)) ∧ Below w.heap.size w w' := by
  have hB0 : Below w.heap.size w (w.alloc (.cells #[.int .i64 V, .slice a0 fs.length cap] 28)) := (Below.refl _ w).alloc (Nat.le_refl _) _
  have h63 := hC.len63
  obtain ⟨E, hE⟩ : ∃ E, E = rankN fs d p := ⟨_, rfl⟩
  rw [← hE]
  by_cases h1 : d < 1
  · have He : Hid (E = 0) := hid (by rw [hE]; exact rankN_low (ofDim_low hC (by omega)))
    clear hE
    go_enter Try.func101, Try.ntmps101
    go_wp2
    go_ret
    exact ⟨ret_int (by rw [He.out]; rfl), hB0⟩
  · have h1' : 1 ≤ d := by omega
    have HD := hid (dimS_any V a0 cap fs _ (hx.later hB0 hB0.size) hl hC.range63)
    have htl := top_lo fs
    have hth := top_hi fs
    by_cases h2 : top fs < d
    · have He : Hid (E = 0) := hid (by rw [hE]; exact rankN_none (ofDim_high hC h2))
      clear hE hx hC
      go_enter Try.func101, Try.ntmps101
      go_wp2_with fail
      refine HD.out.mono ?_
      rintro e w1 ⟨rfl, hB1⟩
      have HB1 := hid (hB0.trans (hB1.mono hB0.size))
      clear hB0 hB1
      go_wp2_with fail
      go_ret
      exact ⟨ret_int (by rw [He.out]; rfl), HB1.out⟩
    · have h2' : d ≤ top fs := by omega
      have HX := hid hx
      have HC := hid hC
      have HE := hid hE
      clear hE hx hC h1 h2
      go_enter Try.func101, Try.ntmps101
      go_wp2_with fail
      refine HD.out.mono ?_
      rintro e w1 ⟨rfl, hB1⟩
      have k0 : w1.cell? ⟨w.heap.size, 0, none⟩ = some (.int .i64 V) := (hB1.cell (p := ⟨w.heap.size, 0, none⟩) (by simp)).trans (by simp [go_sem])
      have k1 : w1.cell? ⟨w.heap.size, 1, none⟩ = some (.slice a0 fs.length cap) := (hB1.cell (p := ⟨w.heap.size, 1, none⟩) (by simp)).trans (by simp [go_sem])
      have HB1 := hid (hB0.trans (hB1.mono hB0.size))
      clear hB0 hB1
      go_wp2_with fail
      refine (rowsS_any V a0 cap fs d p w1 (HX.out.later HB1.out HB1.out.size) hl HC.out hp h1' (by omega)).mono ?_
      rintro e w2 ⟨R, ad, cp, rfl, hM, hB2⟩
      have HM := hid hM
      have HB2 := hid (HB1.out.trans (hB2.mono HB1.out.size))
      have hs12 := hB2.size
      have hs1 := HB1.out.size
      have HN := hid (ofDim_len fs d)
      have HN1 := hid (ofDim_len fs (d - 1))
      clear hM hB2 k0 k1
      by_cases hn : (ofDim fs d).length = 0
      · have He : Hid (E = 0) := hid (by rw [HE.out]; exact rankN_none (List.eq_nil_of_length_eq_zero hn))
        rw [hn]
        clear hn
        go_wp2_with fail
        refine (rankS_nil R cp p w2).mono ?_
        rintro e w3 ⟨rfl, rfl⟩
        go_wp2_with fail
        go_ret
        exact ⟨ret_int (by rw [He.out]; rfl), HB2.out⟩
      · have HR := hid (rankS_any w1.heap.size R (ofDim fs d).length (ofDim fs (d - 1)).length cp ad p _ w2 HM.out (bndM_good d hp) hp (by omega) (by have := HN.out; omega) (by have := HN1.out; omega))
        clear hn
        go_wp2_with fail
        refine HR.out.mono ?_
        rintro e w3 ⟨rfl, hB3⟩
        have HB3 := hid (HB2.out.trans (hB3.mono hs1))
        clear hB3
        go_wp2_with fail
        go_ret
        exact ⟨ret_int (by rw [HE.out]; rfl), HB3.out⟩

end Go.Proofs.Ytbhdipljhelddaa

/-! Is a list a chain? The model's two tests. -/
namespace Go.Proofs.Ytbhdipljhelddaa
open Go.RowKit Go.Sort

/-- Element i of a list is a face with as many vertices as the first one, and greater than the one ahead of it. -/
def linkB (fs ch : List Int) (i : Nat) : Bool :=
  decide (ch[i]?.getD 0 ∈ fs) && decide (ones (ch[i]?.getD 0).toNat = ones (ch[0]?.getD 0).toNat) && (decide (i = 0) || decide (ch[i - 1]?.getD 0 < ch[i]?.getD 0))
def linksTo (fs ch : List Int) (k : Nat) : Prop := ∀ i, i < k → linkB fs ch i = true
def chainB (fs ch : List Int) : Bool := (List.range ch.length).all (linkB fs ch)
/-- The code of a complex and a list. -/
noncomputable def chnR (V : Int) (fs ch : List Int) : Int := if isCB V fs then (if chainB fs ch then 0 else 2) else 1

theorem chain_yes {fs ch : List Int} (h : linksTo fs ch ch.length) : chainB fs ch = true := by
  unfold chainB
  rw [List.all_eq_true]
  intro i hi
  exact h i (by simpa using hi)
theorem chain_no {fs ch : List Int} {k : Nat} (hk : k < ch.length) (h : linkB fs ch k = false) : chainB fs ch = false := by
  unfold chainB
  rw [List.all_eq_false]
  exact ⟨k, by simpa using hk, by simp [h]⟩
theorem links_succ {fs ch : List Int} {k : Nat} (h : linksTo fs ch k) (h1 : linkB fs ch k = true) : linksTo fs ch (k + 1) := by
  intro i hi
  by_cases e : i = k
  · subst e; exact h1
  · exact h i (by omega)
theorem links_mem {fs ch : List Int} (h : chainB fs ch = true) : ∀ x ∈ ch, x ∈ fs := by
  intro x hx
  obtain ⟨i, hi, rfl⟩ := List.getElem_of_mem hx
  unfold chainB at h
  rw [List.all_eq_true] at h
  have h2 := h i (by simpa using hi)
  unfold linkB at h2
  simp only [Bool.and_eq_true, decide_eq_true_eq] at h2
  have h3 := h2.1.1
  rw [List.getElem?_eq_getElem hi] at h3
  simpa using h3
theorem chain_len {fs ch : List Int} {V : Int} (hC : IsC V fs) (h : chainB fs ch = true) : (∀ x ∈ ch, 1 ≤ x ∧ x ≤ 63) := fun x hx => hC.range63 x (links_mem h x hx)
theorem link_no_mem {fs ch : List Int} {k : Nat} (h : ch[k]?.getD 0 ∉ fs) : linkB fs ch k = false := by unfold linkB; simp [h]
theorem link_no_ord {fs ch : List Int} {k : Nat} (hk : 0 < k) (h : ch[k]?.getD 0 ≤ ch[k - 1]?.getD 0) : linkB fs ch k = false := by
  unfold linkB
  rw [decide_eq_false (show ¬ k = 0 by omega), decide_eq_false (show ¬ ch[k - 1]?.getD 0 < ch[k]?.getD 0 by omega)]
  simp
theorem link_first {fs ch : List Int} (h : ch[0]?.getD 0 ∈ fs) : linkB fs ch 0 = true := by unfold linkB; simp [h]
theorem link_eq {fs ch : List Int} {k : Nat} (h : ch[k]?.getD 0 ∈ fs) (ho : 0 < k → ch[k - 1]?.getD 0 < ch[k]?.getD 0) : linkB fs ch k = decide (ones (ch[k]?.getD 0).toNat = ones (ch[0]?.getD 0).toNat) := by
  unfold linkB
  rw [decide_eq_true h]
  by_cases hk : k = 0
  · subst hk; simp
  · rw [decide_eq_true (ho (by omega))]; simp
theorem link_head {fs ch : List Int} {k : Nat} (hk : 0 < k) (h : linksTo fs ch k) : ch[0]?.getD 0 ∈ fs := by
  have h2 := h 0 hk
  unfold linkB at h2
  simp only [Bool.and_eq_true, decide_eq_true_eq] at h2
  exact h2.1.1

theorem chn_bad {V : Int} {fs ch : List Int} (h : isCB V fs = false) : chnR V fs ch = 1 := by unfold chnR; rw [h]; rfl
theorem chn_no {V : Int} {fs ch : List Int} (h : isCB V fs = true) (h2 : chainB fs ch = false) : chnR V fs ch = 2 := by unfold chnR; rw [h, h2]; rfl
theorem chn_yes {V : Int} {fs ch : List Int} (h : isCB V fs = true) (h2 : chainB fs ch = true) : chnR V fs ch = 0 := by unfold chnR; rw [h, h2]; rfl


end Go.Proofs.Ytbhdipljhelddaa

/-! isBounding: the program's test whether a chain bounds. -/
namespace Go.Proofs.Ytbhdipljhelddaa
open Go.RowKit Go.Shelf

/-- The dimension of a chain's first face. -/
def dimC (ch : List Int) : Int := (ones (ch[0]?.getD 0).toNat : Int) - 1
/-- The chain as a row, with a column for each number of S. -/
def rowOf (S ch : List Int) : List Int := S.map fun s => if s ∈ ch then 1 else 0
theorem rowOf_len (S ch : List Int) : (rowOf S ch).length = S.length := by simp [rowOf]
theorem rowOf_nil (S : List Int) : rowOf S [] = List.replicate S.length 0 := by
  unfold rowOf
  simp
  exact List.map_const' ..
theorem rowOf_rng (S ch : List Int) : ∀ x ∈ rowOf S ch, 0 ≤ x ∧ x < 2 := by
  intro x hx
  unfold rowOf at hx
  obtain ⟨s, _, rfl⟩ := List.mem_map.1 hx
  split <;> omega
theorem rowOf_snoc {S L : List Int} {x : Int} (hS : S.Pairwise (· < ·)) (hm : x ∈ S) : rowOf S (L ++ [x]) = (rowOf S L).set (S.idxOf x) 1 := by
  have hil := List.idxOf_lt_length_of_mem hm
  have hat : S[S.idxOf x] = x := List.getElem_idxOf hil
  apply List.ext_getElem
  · simp [rowOf]
  · intro i h1 h2
    have hi : i < S.length := by simpa [rowOf] using h1
    rw [List.getElem_set]
    simp only [rowOf, List.getElem_map]
    by_cases e : S.idxOf x = i
    · subst e
      rw [if_pos rfl, if_pos (by rw [hat]; simp)]
    · rw [if_neg e]
      have hne : S[i] ≠ x := fun h => e (asc_inj hS hil hi (by rw [hat, h]))
      simp [hne]
/-- Does a chain bound? -/
def boundsB (fs ch : List Int) : Bool :=
  decide (ch = []) || decide (elimR 2 (ofDim fs (dimC ch)).length 0 0 (bndM fs (dimC ch + 1) 2 ++ [rowOf (ofDim fs (dimC ch)) ch]) = rankN fs (dimC ch + 1) 2)

theorem chain_dim {fs ch : List Int} (h : chainB fs ch = true) : ∀ x ∈ ch, x ∈ ofDim fs (dimC ch) := by
  intro x hx
  obtain ⟨i, hi, rfl⟩ := List.getElem_of_mem hx
  unfold chainB at h
  rw [List.all_eq_true] at h
  have h2 := h i (by simpa using hi)
  unfold linkB at h2
  simp only [Bool.and_eq_true, decide_eq_true_eq] at h2
  rw [List.getElem?_eq_getElem hi] at h2
  simp only [Option.getD_some] at h2
  rw [ofDim_mem]
  refine ⟨h2.1.1, ?_⟩
  unfold dimC
  rw [h2.1.2]
  omega
theorem bndM_up (fs : List Int) (d p : Int) : bndM fs (d + 1) p = (ofDim fs (d + 1)).map fun f => bndRow (ofDim fs d) p (signedF f.toNat) := by
  unfold bndM
  rw [Int.add_sub_cancel]
theorem rank_up (fs : List Int) (d p : Int) : rankN fs (d + 1) p = elimR p (ofDim fs d).length 0 0 (bndM fs (d + 1) p) := by
  unfold rankN
  rw [Int.add_sub_cancel]
theorem bndM_up_good {fs : List Int} (d : Int) {p : Int} (hp : p = 2 ∨ p = 3) : MatG p (ofDim fs (d + 1)).length (ofDim fs d).length (bndM fs (d + 1) p) := by
  have := bndM_good (fs := fs) (d + 1) hp
  rwa [Int.add_sub_cancel] at this
theorem matG_app {p : Int} {n w : Nat} {M : List (List Int)} (h : MatG p n w M) {row : List Int} (hl : row.length = w) (hr : ∀ x ∈ row, 0 ≤ x ∧ x < p) : MatG p (n + 1) w (M ++ [row]) := by
  refine ⟨by simp [h.len], fun r hm => ?_, fun r hm => ?_⟩
  · rcases List.mem_append.1 hm with h1 | h1
    · exact h.wid _ h1
    · simp at h1; rw [h1]; exact hl
  · rcases List.mem_append.1 hm with h1 | h1
    · exact h.rng _ h1
    · simp at h1; rw [h1]; exact hr

set_option maxRecDepth 1000000 in
set_option maxHeartbeats 4000000 in
theorem isBd_any (V : Int) (a0 : Option Addr) (cap : Nat) (fs : List Int) (a1 : Option Addr) (cap1 : Nat) (ch : List Int) (w : World) (hx : SlI w w.heap.size a0 fs) (hx1 : SlI w w.heap.size a1 ch) (hl : fs.length ≤ 1048576) (hg : ch.length ≤ 1048576) (hC : IsC V fs) (hch : ∀ x ∈ ch, x ∈ ofDim fs (dimC ch)) :
    Calls Try.prog 109 #[.agg #[.int .i64 V, .slice a0 fs.length cap], .slice a1 ch.length cap1] w fun e w' => e = .returned (.bool (boundsB fs ch)) ∧ Below w.heap.size w w' := by
  have hB0 : Below w.heap.size w (w.alloc (.cells #[.int .i64 V, .slice a0 fs.length cap] 28)) := (Below.refl _ w).alloc (Nat.le_refl _) _
  by_cases h0 : ch = []
  · have He : Hid (boundsB fs ch = true) := hid (by unfold boundsB; rw [decide_eq_true h0]; rfl)
    have hlen : ch.length = 0 := by rw [h0]; rfl
    rw [hlen]
    have HB0 := hid hB0
    clear h0 hlen hx hx1 hC hch hB0
    go_enter Try.func109, Try.ntmps109
    go_wp2_with fail
    go_ret
    exact ⟨ret_bool He.out.symm, HB0.out⟩
  · have hlen : 0 < ch.length := List.length_pos_iff.2 h0
    obtain ⟨b1, o1, hb1, rfl, hc1⟩ : ∃ b off, b < w.heap.size ∧ a1 = some ⟨b, off, none⟩ ∧ ∀ i, i < ch.length → w.cell? ⟨b, off + i, none⟩ = some (.int .i64 (ch[i]?.getD 0)) := by
      rcases hx1 with h | h
      · exact absurd h h0
      · exact h
    obtain ⟨d, hd⟩ : ∃ d, d = dimC ch := ⟨_, rfl⟩
    obtain ⟨x0, hx0⟩ : ∃ x0, x0 = ch[0]?.getD 0 := ⟨_, rfl⟩
    have hx0r := hC.range63 x0 (ofDim_mem.1 (hch x0 (by rw [hx0]; exact getD_mem hlen))).1
    have hck : w.cell? ⟨b1, o1, none⟩ = some (.int .i64 x0) := by rw [hx0]; exact hc1 0 hlen
    obtain ⟨f0, rfl⟩ : ∃ f : Nat, x0 = f := ⟨x0.toNat, by omega⟩
    have hf0 : f0 < 64 := by omega
    have hol := ones_le f0
    have hdd : (ones f0 : Int) - 1 = d := by rw [hd]; unfold dimC; rw [← hx0, Int.toNat_natCast]
    have hd0 : -1 ≤ d := by omega
    have hd1 : d ≤ 100 := by omega
    rw [← hd] at hch
    have He : Hid (boundsB fs ch = decide (elimR 2 (ofDim fs d).length 0 0 (bndM fs (d + 1) 2 ++ [rowOf (ofDim fs d) ch]) = rankN fs (d + 1) 2)) := hid (by unfold boundsB; rw [decide_eq_false h0, ← hd]; rfl)
    have h63 := hC.len63
    have hF63 := ofDim_len fs (d + 1)
    have hS63 := ofDim_len fs d
    have HDm := hid (fun W => dim_any f0 W hf0)
    rw [hdd] at HDm
    have hadd : IntKind.i64.wrap (d + 1) = d + 1 := IntWalk.i64_in _ (by omega)
    have hBd := below_drewN hB0 1
    have HF := hid (fun dd w' (hw : Below w.heap.size w w') => fod_any V a0 cap fs dd w' (hx.later hw hw.size) hl hC.range63)
    have HBd := hid hBd
    have HC := hid hC
    have Hch := hid hch
    have Hc1 := hid hc1
    have Hb1 := hid hb1
    have hi0 : (0 : Int) < (ch.length : Int) := by omega
    clear hx hB0 hBd hC hch hc1 h0 hd hx0 hdd hol hx0r hd0 hd1
    go_enter Try.func109, Try.ntmps109
    go_wp2_with (go_at_call 107; refine (HDm.out _).mono ?_; rintro e w' ⟨rfl, rfl⟩)
    go_cut [6, 7] from 21 to 27 (fun q1 q2 wx => ∃ (a1 a2 : Option Addr) (c1 c2 : Nat), q1 = .slice a1 (ofDim fs (d + 1)).length c1 ∧ q2 = .slice a2 (ofDim fs d).length c2 ∧ SlI wx wx.heap.size a1 (ofDim fs (d + 1)) ∧ SlI wx wx.heap.size a2 (ofDim fs d) ∧ Below w.heap.size w wx)
    case first =>
      go_region_with (first
        | (go_at_call 48; have hz := HB1.out; clear HB1; refine (HF.out _ w1 hz).mono ?_; rintro e w2 ⟨v2, rfl, hr2⟩; obtain ⟨_, a2, c2, rfl, s2⟩ := ownsRow_slI hr2.1; have S2 := hid s2; have HR2 := hid hr2; have HB2 := hid hz; clear s2 hr2 hz n0 n1)
        | (go_at_call 48; refine (HF.out _ _ HBd.out).mono ?_; rintro e w1 ⟨v1, rfl, hr1⟩; have hb1 : Below w.heap.size w w1 := HBd.out.trans (hr1.2.mono HBd.out.size); have n0 : w1.cell? ⟨w.heap.size, 0, none⟩ = some (.int .i64 V) := (hr1.2.cell (p := ⟨w.heap.size, 0, none⟩) (by simp)).trans (by simp [go_sem]); have n1 : w1.cell? ⟨w.heap.size, 1, none⟩ = some (.slice a0 fs.length cap) := (hr1.2.cell (p := ⟨w.heap.size, 1, none⟩) (by simp)).trans (by simp [go_sem]); obtain ⟨_, a1, c1, rfl, s1⟩ := ownsRow_slI hr1.1; have S1 := hid s1; have HB1 := hid hb1; clear hr1 hb1 s1))
      all_goals
        go_wp2_with fail
        go_meet
        case rel =>
          have hb2 := HB2.out.trans (HR2.out.2.mono HB2.out.size)
          have s1' := S1.out.later HR2.out.2 HR2.out.2.size
          first
          | exact ⟨a1, a2, c1, c2, rfl, rfl, s1', S2.out, hb2⟩
          | exact ⟨a2, a1, c2, c1, rfl, rfl, S2.out, s1', hb2⟩
    case rest =>
      obtain ⟨a1, a2, c1, c2, rfl, rfl, s1, s2, hb⟩ := hcut
      obtain ⟨n, hn⟩ : ∃ n, n = (ofDim fs (d + 1)).length := ⟨_, rfl⟩
      obtain ⟨wd, hwd⟩ : ∃ wd, wd = (ofDim fs d).length := ⟨_, rfl⟩
      have hn63 : n ≤ 63 := by omega
      have hw63 : wd ≤ 63 := by omega
      have HG := hid (bndM_up_good (fs := fs) d (p := 2) (.inl rfl))
      have HFr : Hid (∀ x ∈ ofDim fs (d + 1), 1 ≤ x ∧ x ≤ 63) := hid (fun x hx => HC.out.range63 x (ofDim_mem.1 hx).1)
      have HSa := hid (ofDim_asc HC.out.asc d)
      have HS0 : Hid (∀ s ∈ ofDim fs d, 0 ≤ s) := hid (fun x hx => by have := HC.out.range63 x (ofDim_mem.1 hx).1; omega)
      have HSd : Hid (∀ f ∈ ofDim fs (d + 1), ∀ x ∈ signedF f.toNat, ((x.1.val : Nat) : Int) ∈ ofDim fs d) := hid (fun f hf x hx => by have := side_in HC.out hf hx; rwa [Int.add_sub_cancel] at this)
      have HA := hid (bndM_up fs d 2)
      have HRk := hid (rank_up fs d 2)
      obtain ⟨A, hA⟩ : ∃ A, A = bndM fs (d + 1) 2 := ⟨_, rfl⟩
      obtain ⟨F, hF⟩ : ∃ F, F = ofDim fs (d + 1) := ⟨_, rfl⟩
      obtain ⟨S, hS⟩ : ∃ S, S = ofDim fs d := ⟨_, rfl⟩
      obtain ⟨rk, hrk⟩ : ∃ rk, rk = rankN fs (d + 1) 2 := ⟨_, rfl⟩
      rw [← hF] at s1 HG HFr HSd HA hn ⊢
      rw [← hS] at s2 HG HSa HS0 HSd HA He HRk Hch hwd ⊢
      rw [← hA] at HG HA He HRk
      rw [← hrk] at HRk He
      rw [← hn] at HG ⊢
      rw [← hwd] at HG HRk He ⊢
      have hHN := newRows_any (n + 1) wd wc (by omega) (by omega)
      rw [show ((n + 1 : Nat) : Int) = (n : Int) + 1 by simp] at hHN
      have HN := hid hHN
      have Hn := hid hn
      have Hwd := hid hwd
      have S1 := hid s1
      have S2 := hid s2
      have HB := hid hb
      clear s1 s2 hb hF63 hS63 hadd hHN hn hwd hA hF hS hrk HF HDm hck
      go_wp2_with fail
      refine HN.out.mono ?_
      rintro e w3 ⟨R, ad, rfl, hM, hB3⟩
      have HMX : Hid (MatX w3 wc.heap.size R n wd ad (List.replicate n (List.replicate wd 0)) [List.replicate wd 0]) := hid ⟨by rw [← List.replicate_succ']; exact hM, by simp⟩
      obtain ⟨⟨en, cn⟩, _⟩ := hM.hd n (by omega)
      have hnn : (n : Int) < (n : Int) + 1 := by omega
      have hnn2 : (n : Int) ≤ (n : Int) + 1 := by omega
      have HB3 := hid hB3
      clear hM hB3 HN
      go_wp2_with fail
      go_quiet (fail)
      go_wp2_with fail
      have HFi := hid (fill_any wc.heap.size R n wd (n + 1) c1 c2 ad 2 F S [List.replicate wd 0] a1 a2 (w3.drewN nq) (HMX.out.drewN nq) Hn.out.symm Hwd.out.symm (S1.out.below (below_drewN HB3.out nq)) (S2.out.below (below_drewN HB3.out nq)) (below_drewN HB3.out nq).size (.inl rfl) HFr.out HSa.out HS0.out HSd.out (by omega) (by omega))
      rw [← HA.out] at HFi
      refine HFi.out.mono ?_
      rintro e w4 ⟨⟨u, rfl⟩, hM4, hB4⟩
      have HM4 : Hid (MatW w4 wc.heap.size R (n + 1) wd ad (A ++ [rowOf S (ch.take 0)])) := hid (by rw [List.take_zero, rowOf_nil, ← Hwd.out]; exact hM4.it)
      have HB4 := hid ((below_drewN HB3.out nq).trans hB4)
      have hRlt := hM4.head
      have hAl := hM4.len
      clear hM4 hB4 HMX cn hnn hnn2 HFi HB3
      go_wp2_with fail
      go_loopw [49] (fun s49 wx => ∃ k : Nat, s49 = .int .i64 k ∧ k ≤ ch.length ∧ Hid (MatW wx wc.heap.size R (n + 1) wd ad (A ++ [rowOf S (ch.take k)])) ∧ Hid (Below wc.heap.size wc wx)) (fun s49 _ => ch.length - (intOf s49).toNat)
      case atStart => exact ⟨0, rfl, Nat.zero_le _, HM4, HB4⟩
      case round =>
        clear HM4 HB4
        obtain ⟨k, rfl, hk, HM, HBk⟩ := hrel
        by_cases hlt : k < ch.length
        · obtain ⟨x, hx⟩ : ∃ x, x = ch[k]?.getD 0 := ⟨_, rfl⟩
          have hxm : x ∈ S := by rw [hx]; exact Hch.out _ (getD_mem hlt)
          have hck : wr.cell? ⟨b1, o1 + k, none⟩ = some (.int .i64 x) := by
            rw [hx]
            exact ((HB.out.trans (HBk.out.mono HB.out.size)).cell (p := ⟨b1, o1 + k, none⟩) Hb1.out).trans (Hc1.out k hlt)
          have hil := List.idxOf_lt_length_of_mem hxm
          have hIx := HI_of a2 c2 S x wr wc.heap.size (S2.out.below HBk.out) HBk.out.size (by have := Hwd.out; omega) hxm
          have hsn := rowOf_snoc (L := ch.take k) HSa.out hxm
          have htk : ch.take (k + 1) = ch.take k ++ [x] := by rw [take_snoc hlt, hx]
          rw [← htk] at hsn
          rw [← Hwd.out] at hil hIx
          obtain ⟨q, hq⟩ : ∃ q, q = S.idxOf x := ⟨_, rfl⟩
          rw [← hq] at hil hIx hsn
          have hrowA : (A ++ [rowOf S (ch.take k)])[n]?.getD [] = rowOf S (ch.take k) := by
            rw [List.getElem?_append_right (by omega), hAl]
            simp
          obtain ⟨cst, fst_⟩ := HM.out.at (i := n) (j := q) (by omega) hil
          have hset := HM.out.x.set1 (k := n) (j := q) (by omega) hil 1
          have hset2 := hset.w
          rw [hrowA, ← hsn, List.set_append_right _ _ (by omega), hAl, Nat.sub_self, List.set_cons_zero] at hset2
          have Hset := hid hset2
          have HBs := hid (HBk.out.setCell (p := ⟨(adr ad n).1, (adr ad n).2 + q, none⟩) (HM.out.base n (by omega)).1 (.int .i64 1))
          have HIx := hid hIx
          have hi0 : (0 : Int) ≤ (k : Int) := by omega
          have hi1 : (k : Int) < (ch.length : Int) := by omega
          have hq0 : (0 : Int) ≤ (q : Int) := by omega
          have hq1 : (q : Int) < (wd : Int) := by omega
          clear hx hxm hsn htk hq hrowA hset hset2 hIx hil HM HBk
          go_wp2_with (go_at_call 166; refine HIx.out.mono ?_; rintro e w' ⟨rfl, rfl⟩)
          go_roundw
          case rel => exact ⟨k + 1, by go_num, by omega, Hset, HBs⟩
          case measure => simp [intOf]; omega
        · obtain rfl : k = ch.length := by omega
          rw [List.take_length] at HM
          have HX1 : Hid (MatX wr wc.heap.size R n wd ad A [rowOf S ch]) := hid ⟨HM.out, hAl⟩
          have HS1 := hid (steps_more wc.heap.size R n wd (n + 1) ad 2 A [rowOf S ch] wr HX1.out HG.out (.inl rfl) (by omega) (by omega))
          have hGr : ∀ M', MatG 2 n wd M' → MatG 2 (n + 1) wd (M' ++ [rowOf S ch]) := fun M' h => matG_app h (by rw [rowOf_len, ← Hwd.out]) (rowOf_rng S ch)
          have HGr := hid hGr
          clear HM HX1 hGr
          go_wp2_with fail
          refine HS1.out.mono ?_
          rintro e w5 ⟨rfl, hB5, M', ad', hM5, hG5, hE5⟩
          have HS2 := hid (steps_any wc.heap.size R (n + 1) wd (n + 1) ad' 2 (M' ++ [rowOf S ch]) w5 hM5.it (HGr.out _ hG5) (.inl rfl) (by omega) (by omega))
          rw [← rank_span (.inl rfl) (HGr.out _ HG.out) (HGr.out _ hG5) (span_app _ hE5)] at HS2
          have HB5 := hid hB5
          clear hB5 hM5 hG5 hE5
          rw [← HRk.out]
          go_wp2_with fail
          refine HS2.out.mono ?_
          rintro e w6 ⟨rfl, hB6⟩
          have HB6 := hid (HB.out.trans (((HBk.out.trans HB5.out).trans hB6).mono HB.out.size))
          clear hB6
          go_wp2_with fail
          go_ret
          refine ⟨ret_bool ?_, HB6.out⟩
          rw [He.out, Bool.eq_iff_iff]
          simp
          try omega

end Go.Proofs.Ytbhdipljhelddaa

/-! Boundaries modulo 2: parities. -/
namespace Go.Proofs.Ytbhdipljhelddaa
open Go.RowKit Go.Shelf

/-- The number of places at which p stands is odd. -/
def par (p : Int) (L : List Int) : Bool := decide (L.count p % 2 = 1)
/-- All sides of some faces, one after the other. -/
def sidesI (_f : Nat) (pre : List (Fin 64)) : List Int := pre.map fun p => ((p.val : Nat) : Int)
def sidesAll (ch : List Int) : List Int := ch.flatMap fun x => sidesI x.toNat (sidesF x.toNat)
theorem sidesAll_snoc (ch : List Int) (x : Int) : sidesAll (ch ++ [x]) = sidesAll ch ++ sidesI x.toNat (sidesF x.toNat) := by simp [sidesAll]
theorem sidesI_len (f : Nat) (pre : List (Fin 64)) : (sidesI f pre).length = pre.length := by simp [sidesI]
theorem sidesI_snoc (f : Nat) (pre : List (Fin 64)) (p : Fin 64) : sidesI f (pre ++ [p]) = sidesI f pre ++ [((p.val : Nat) : Int)] := by simp [sidesI]
theorem sidesAll_len : ∀ ch : List Int, (sidesAll ch).length ≤ 6 * ch.length
  | [] => by simp [sidesAll]
  | x :: ch => by
    have h1 := sidesAll_len ch
    have h2 : (sidesF x.toNat).length ≤ 6 := sides_len x.toNat 6
    unfold sidesAll at h1 ⊢
    rw [List.flatMap_cons, List.length_append, sidesI_len, List.length_cons]
    omega

/-- The map of parities; the last number met comes first. -/
def togR : List Int → DataW Unit
  | [] => .map []
  | x :: L => (togR L).put (.int .i64 x) (.lit (.bool (!par x L)))
def togD (L : List Int) : DataW Unit := togR L.reverse

theorem par_rev (p : Int) (L : List Int) : par p L.reverse = par p L := by unfold par; rw [List.count_reverse]
theorem togD_snoc (L : List Int) (x : Int) : togD (L ++ [x]) = (togD L).put (.int .i64 x) (.lit (.bool (!par x L))) := by
  unfold togD
  rw [List.reverse_append]
  show togR (x :: L.reverse) = _
  unfold togR
  rw [par_rev]
  cases L.reverse <;> rfl
theorem togR_map : ∀ L : List Int, Maps.IsMap (togR L)
  | [] => Maps.isMap_empty
  | _ :: L => (togR_map L).put _ _
theorem par_cons_self (x : Int) (L : List Int) : par x (x :: L) = !par x L := by
  unfold par
  rw [List.count_cons_self]
  rcases Nat.mod_two_eq_zero_or_one (L.count x) with h | h
  · have : (L.count x + 1) % 2 = 1 := by omega
    simp [h, this]
  · have : ¬ (L.count x + 1) % 2 = 1 := by omega
    simp [h, this]
theorem par_cons_ne {p x : Int} (h : ¬ p = x) (L : List Int) : par p (x :: L) = par p L := by
  unfold par
  rw [List.count_cons_of_ne (fun e => h e.symm)]
theorem togR_at (p : Int) : ∀ L : List Int, (togR L).atKey (.int .i64 p) (.lit (.bool false)) = .lit (.bool (par p L))
  | [] => by simp [togR, par]; rfl
  | x :: L => by
    have ih := togR_at p L
    show ((togR L).put (.int .i64 x) (.lit (.bool (!par x L)))).atKey _ _ = _
    by_cases h : p = x
    · subst h
      rw [Maps.atKey_put_same (togR_map L) (show WideAt.IsKeyLit (.int .i64 p) from trivial), par_cons_self]
    · rw [Maps.atKey_put_other (by simpa using h), ih, par_cons_ne h]
theorem togD_at (p : Int) (L : List Int) : (togD L).atKey (.int .i64 p) (.lit (.bool false)) = .lit (.bool (par p L)) := by
  unfold togD; rw [togR_at, par_rev]

theorem lookup_tog {w : World} {b n : Nat} {L : List Int} (hown : w.ownsMap Try.prog 2 (plainElem (H := Unit) Try.prog 4) b n (togD L)) {p : Int} (hp : (Lit.int .i64 p).wf = true) :
    (Instr.lookup 82 (.map (some b)) (.int .i64 p) false).run Try.prog w = .ok (.bool (par p L)) w := by
  obtain ⟨v, ps, hrun, hv⟩ := hown.lookup (Maps.int_keyed Try.underlying2) Try.underlying82 (zero_bool w) (plainElem_bool Try.underlying4 false) (Maps.keyOf_int_mk Try.underlying2 hp)
  rw [togD_at] at hv
  rw [bool_inv hv] at hrun
  exact hrun

/-- 'odd[p]', at the operation. -/
theorem at_tog {F : Fence} {nF : Nat} {w : World} {ops : Array Oper} {rest : List Oper} {o : Oper} {a : Act} {Q : Exit → Act → World → Prop} (hg : o.guard = none) {m x : Operand} (hop : o.op = Op.lookup 82 m x false)
    {b n : Nat} {L : List Int} (hown : w.ownsMap Try.prog 2 (plainElem (H := Unit) Try.prog 4) b n (togD L)) {p : Int} (hp : (Lit.int .i64 p).wf = true)
    (hm : a.eval m = .map (some b)) (hx : a.eval x = .int .i64 p) (hK : wpListIn F nF Try.prog ops Q rest (a.put o.dst (.bool (par p L))) w) :
    wpListIn F nF Try.prog ops Q (o :: rest) a w := by
  refine wpListIn_plain hg fun K' hK' => ?_
  have hrun := lookup_tog hown hp
  unfold Oper.wpIn
  refine ⟨by simp [Oper.about, hop], ?_⟩
  rw [Oper.semAt_plain F _ _ (by rw [hop]; intro c hc'; cases hc')]
  simp [execOp, hop, hm, hx, hrun, Result.andThen]
  exact hK' _ _ hK

/-- The boundary of a chain: the faces with an odd number of places among the sides. -/
def bdL (fs ch : List Int) : List Int := fs.filter fun p => par p (sidesAll ch)

end Go.Proofs.Ytbhdipljhelddaa

/-! Boundaries modulo 2: sums of ascending lists. -/
namespace Go.Proofs.Ytbhdipljhelddaa
open Go.RowKit

/-- What stands in just one of two ascending lists. -/
def sumL : List Int → List Int → List Int
  | [], ys => ys
  | a :: xs, [] => a :: xs
  | a :: xs, b :: ys => if a < b then a :: sumL xs (b :: ys) else if b < a then b :: sumL (a :: xs) ys else sumL xs ys
termination_by x y => x.length + y.length

theorem sumL_nil (ys : List Int) : sumL [] ys = ys := by unfold sumL; rfl
theorem sumL_nil' (xs : List Int) : sumL xs [] = xs := by cases xs <;> (unfold sumL; rfl)
theorem sumL_lt {a b : Int} (xs ys : List Int) (h : a < b) : sumL (a :: xs) (b :: ys) = a :: sumL xs (b :: ys) := by rw [sumL, if_pos h]
theorem sumL_gt {a b : Int} (xs ys : List Int) (h : b < a) : sumL (a :: xs) (b :: ys) = b :: sumL (a :: xs) ys := by rw [sumL, if_neg (by omega), if_pos h]
theorem sumL_eq (a : Int) (xs ys : List Int) : sumL (a :: xs) (a :: ys) = sumL xs ys := by rw [sumL, if_neg (by omega), if_neg (by omega)]

theorem sumL_len (n : Nat) : ∀ xs ys : List Int, xs.length + ys.length ≤ n → (sumL xs ys).length ≤ xs.length + ys.length := by
  induction n with
  | zero => intro xs ys h; obtain rfl : xs = [] := List.length_eq_zero_iff.1 (by omega); rw [sumL_nil]; simp
  | succ n ih =>
    intro xs ys h
    cases xs with
    | nil => rw [sumL_nil]; simp
    | cons a xs =>
      cases ys with
      | nil => rw [sumL_nil']; simp
      | cons b ys =>
        simp only [List.length_cons] at h
        rcases Int.lt_trichotomy a b with h1 | h1 | h1
        · rw [sumL_lt _ _ h1]; have := ih xs (b :: ys) (by simp; omega); simp only [List.length_cons] at *; omega
        · subst h1; rw [sumL_eq]; have := ih xs ys (by omega); simp only [List.length_cons]; omega
        · rw [sumL_gt _ _ h1]; have := ih (a :: xs) ys (by simp; omega); simp only [List.length_cons] at *; omega

theorem sumL_spec (n : Nat) : ∀ xs ys : List Int, xs.length + ys.length ≤ n → xs.Pairwise (· < ·) → ys.Pairwise (· < ·) →
    (∀ x, x ∈ sumL xs ys ↔ ((x ∈ xs ∧ x ∉ ys) ∨ (x ∉ xs ∧ x ∈ ys))) ∧ (sumL xs ys).Pairwise (· < ·) := by
  induction n with
  | zero =>
    intro xs ys h ha hb
    obtain rfl : xs = [] := List.length_eq_zero_iff.1 (by omega)
    rw [sumL_nil]; exact ⟨fun x => by simp, hb⟩
  | succ n ih =>
    intro xs ys h ha hb
    cases xs with
    | nil => rw [sumL_nil]; exact ⟨fun x => by simp, hb⟩
    | cons a xs =>
      cases ys with
      | nil => rw [sumL_nil']; exact ⟨fun x => by simp, ha⟩
      | cons b ys =>
        simp only [List.length_cons] at h
        obtain ⟨ha1, ha2⟩ := List.pairwise_cons.1 ha
        obtain ⟨hb1, hb2⟩ := List.pairwise_cons.1 hb
        rcases Int.lt_trichotomy a b with h1 | h1 | h1
        · rw [sumL_lt _ _ h1]
          obtain ⟨i1, i2⟩ := ih xs (b :: ys) (by simp; omega) ha2 hb
          have hab : a ∉ b :: ys := fun hm => by
            rcases List.mem_cons.1 hm with rfl | hm
            · omega
            · have := hb1 _ hm; omega
          have haa : a ∉ xs := fun hm => by have := ha1 _ hm; omega
          refine ⟨fun x => ?_, List.pairwise_cons.2 ⟨fun y hy => ?_, i2⟩⟩
          · rw [List.mem_cons, i1]
            by_cases hx : x = a
            · subst hx; simp only [true_or, true_iff]; exact .inl ⟨by simp, hab⟩
            · simp only [hx, false_or, List.mem_cons (a := x) (b := a)]
          · rcases (i1 y).1 hy with ⟨hy, _⟩ | ⟨_, hy⟩
            · exact ha1 _ hy
            · rcases List.mem_cons.1 hy with rfl | hy
              · exact h1
              · have := hb1 _ hy; omega
        · subst h1
          rw [sumL_eq]
          obtain ⟨i1, i2⟩ := ih xs ys (by omega) ha2 hb2
          refine ⟨fun x => ?_, i2⟩
          rw [i1]
          by_cases hx : x = a
          · subst hx
            have haa : x ∉ xs := fun hm => by have := ha1 _ hm; omega
            have hbb : x ∉ ys := fun hm => by have := hb1 _ hm; omega
            simp [haa, hbb]
          · simp only [List.mem_cons, hx, false_or]
        · rw [sumL_gt _ _ h1]
          obtain ⟨i1, i2⟩ := ih (a :: xs) ys (by simp; omega) ha hb2
          have hba : b ∉ a :: xs := fun hm => by
            rcases List.mem_cons.1 hm with rfl | hm
            · omega
            · have := ha1 _ hm; omega
          have hbb : b ∉ ys := fun hm => by have := hb1 _ hm; omega
          refine ⟨fun x => ?_, List.pairwise_cons.2 ⟨fun y hy => ?_, i2⟩⟩
          · rw [List.mem_cons, i1]
            by_cases hx : x = b
            · subst hx; simp only [true_or, true_iff]; exact .inr ⟨hba, by simp⟩
            · simp only [hx, false_or, List.mem_cons (a := x) (b := b)]
          · rcases (i1 y).1 hy with ⟨hy, _⟩ | ⟨_, hy⟩
            · rcases List.mem_cons.1 hy with rfl | hy
              · exact h1
              · have := ha1 _ hy; omega
            · exact hb1 _ hy

theorem asc_ext : ∀ {a b : List Int}, a.Pairwise (· < ·) → b.Pairwise (· < ·) → (∀ x, x ∈ a ↔ x ∈ b) → a = b
  | [], [], _, _, _ => rfl
  | [], y :: b, _, _, h => by have := (h y).2 (by simp); simp at this
  | x :: a, [], _, _, h => by have := (h x).1 (by simp); simp at this
  | x :: a, y :: b, ha, hb, h => by
    obtain ⟨ha1, ha2⟩ := List.pairwise_cons.1 ha
    obtain ⟨hb1, hb2⟩ := List.pairwise_cons.1 hb
    have hxy : x = y := by
      rcases List.mem_cons.1 ((h x).1 (by simp)) with e | hx
      · exact e
      · rcases List.mem_cons.1 ((h y).2 (by simp)) with e | hy
        · exact e.symm
        · have h1 := hb1 _ hx; have h2 := ha1 _ hy; omega
    subst hxy
    have : a = b := asc_ext ha2 hb2 (fun z => by
      have hz := h z
      simp only [List.mem_cons] at hz
      constructor
      · intro hm
        rcases hz.1 (.inr hm) with e | hm'
        · subst e; have := ha1 _ hm; omega
        · exact hm'
      · intro hm
        rcases hz.2 (.inr hm) with e | hm'
        · subst e; have := hb1 _ hm; omega
        · exact hm')
    rw [this]

theorem below_sides : ∀ f : Fin 64, belowR f.val 63 = ((sidesF f.val).map fun p => ((p.val : Nat) : Int)).reverse := by decide +kernel
theorem below_asc : ∀ f : Fin 64, (belowR f.val 63).Pairwise (· < ·) := by decide +kernel
theorem sides_nodup : ∀ f : Fin 64, ((sidesF f.val).map fun p => ((p.val : Nat) : Int)).Nodup := by decide +kernel
theorem sides_sub : ∀ f : Fin 64, ∀ p ∈ sidesF f.val, p.val ≠ 0 ∧ p.val &&& f.val = p.val := by decide +kernel

/-- The boundary of a chain, xs the model sums it up. -/
def bdS (ch : List Int) : List Int := ch.foldl (fun o x => sumL o (belowR x.toNat 63)) []
theorem bdS_snoc (ch : List Int) (x : Int) : bdS (ch ++ [x]) = sumL (bdS ch) (belowR x.toNat 63) := by simp [bdS]

theorem par_add {p : Int} (L : List Int) (f : Nat) (hf : f < 64) : par p (L ++ sidesI f (sidesF f)) = (par p L != decide (p ∈ belowR f 63)) := by
  have hb := below_sides ⟨f, hf⟩
  simp only at hb
  have hn := sides_nodup ⟨f, hf⟩
  simp only at hn
  have e : sidesI f (sidesF f) = (sidesF f).map fun p => ((p.val : Nat) : Int) := rfl
  rw [hb, e]
  generalize (sidesF f).map (fun p => ((p.val : Nat) : Int)) = M at *
  unfold par
  rw [List.count_append]
  by_cases hm : p ∈ M
  · have h1 : M.count p = 1 := by rw [List.Nodup.count hn, if_pos hm]
    rw [h1]
    rcases Nat.mod_two_eq_zero_or_one (L.count p) with h | h
    · have : (L.count p + 1) % 2 = 1 := by omega
      simp [h, this, hm]
    · have : ¬ (L.count p + 1) % 2 = 1 := by omega
      simp [h, this, hm]
  · have h0 : M.count p = 0 := List.count_eq_zero.2 hm
    rw [h0]
    simp [hm]

theorem fold_spec : ∀ (ch o L : List Int), (∀ x ∈ ch, 1 ≤ x ∧ x ≤ 63) → (∀ p, p ∈ o ↔ par p L = true) → o.Pairwise (· < ·) →
    (∀ p, p ∈ ch.foldl (fun o x => sumL o (belowR x.toNat 63)) o ↔ par p (L ++ sidesAll ch) = true) ∧ (ch.foldl (fun o x => sumL o (belowR x.toNat 63)) o).Pairwise (· < ·)
  | [], o, L, _, h1, h2 => ⟨fun p => by simpa [sidesAll] using h1 p, h2⟩
  | x :: ch, o, L, h, i1, i2 => by
    have hx := h x (by simp)
    have hf : x.toNat < 64 := by omega
    have ha := below_asc ⟨x.toNat, hf⟩
    simp only at ha
    obtain ⟨s1, s2⟩ := sumL_spec _ o (belowR x.toNat 63) (Nat.le_refl _) i2 ha
    have e : L ++ sidesAll (x :: ch) = (L ++ sidesI x.toNat (sidesF x.toNat)) ++ sidesAll ch := by simp [sidesAll]
    rw [List.foldl_cons, e]
    refine fold_spec ch _ _ (fun y hy => h y (by simp [hy])) (fun p => ?_) s2
    rw [s1, i1, par_add _ _ hf]
    cases par p L <;> by_cases hm : p ∈ belowR x.toNat 63 <;> simp [hm]

theorem bdS_spec (ch : List Int) (h : ∀ x ∈ ch, 1 ≤ x ∧ x ≤ 63) : (∀ p, p ∈ bdS ch ↔ par p (sidesAll ch) = true) ∧ (bdS ch).Pairwise (· < ·) := by
  have := fold_spec ch [] [] h (fun p => by simp [par]) (by simp)
  simpa [bdS] using this

theorem bdS_bdL {V : Int} {fs : List Int} (hC : IsC V fs) {ch : List Int} (hs : ∀ x ∈ ch, x ∈ fs) : bdS ch = bdL fs ch := by
  obtain ⟨h1, h2⟩ := bdS_spec ch (fun x hx => hC.range63 x (hs x hx))
  refine asc_ext h2 (List.Pairwise.sublist List.filter_sublist hC.asc) (fun p => ?_)
  unfold bdL
  rw [h1, List.mem_filter]
  refine ⟨fun hp => ⟨?_, hp⟩, fun hp => hp.2⟩
  have hm : p ∈ sidesAll ch := by
    unfold par at hp
    have := of_decide_eq_true hp
    exact List.count_pos_iff.1 (by omega)
  unfold sidesAll at hm
  obtain ⟨x, hx, hm⟩ := List.mem_flatMap.1 hm
  have hxr := hC.range63 x (hs x hx)
  obtain ⟨q, hq, rfl⟩ := List.mem_map.1 hm
  have := sides_sub ⟨x.toNat, by omega⟩ q hq
  exact hC.closed x (hs x hx) q.val this.1 this.2

end Go.Proofs.Ytbhdipljhelddaa

/-! ShortestCircle: the mathematics of circles: sets of edges in order, rings, the first circle. -/
namespace Go.Proofs.Ytbhdipljhelddaa
open Go.RowKit Go.Shelf

theorem revInd {p : List Int → Prop} (nil : p []) (snoc : ∀ l x, p l → p (l ++ [x])) : ∀ l, p l := by
  have h : ∀ l : List Int, p l.reverse := by
    intro l
    induction l with
    | nil => exact nil
    | cons x l ih => rw [List.reverse_cons]; exact snoc _ _ ih
  intro l
  have := h l.reverse
  rwa [List.reverse_reverse] at this
/-- The exclusive or of a list of faces. -/
def xorL (ch : List Int) : Nat := ch.foldl (fun o x => o ^^^ x.toNat) 0
theorem xorL_snoc (ch : List Int) (x : Int) : xorL (ch ++ [x]) = xorL ch ^^^ x.toNat := by simp [xorL]
theorem xorL_lt : ∀ (ch : List Int), (∀ x ∈ ch, 1 ≤ x ∧ x ≤ 63) → xorL ch < 64 := by
  refine revInd (fun _ => by simp [xorL]) fun ch x ih => ?_
  · intro h
    rw [xorL_snoc]
    have h1 := ih (fun y hy => h y (by simp [hy]))
    have h2 := h x (by simp)
    exact Nat.xor_lt_two_pow (n := 6) (by omega) (by omega)
theorem edge_bits : ∀ f : Fin 64, ones f.val = 2 → ∀ j : Fin 6, decide (((2 ^ j.val : Nat) : Int) ∈ belowR f.val 63) = f.val.testBit j.val := by decide +kernel
theorem edge_only : ∀ f : Fin 64, ones f.val = 2 → ∀ p ∈ belowR f.val 63, ∃ j : Fin 6, p = ((2 ^ j.val : Nat) : Int) := by decide +kernel
theorem ring_bits : ∀ (ch : List Int), (∀ x ∈ ch, 1 ≤ x ∧ x ≤ 63 ∧ ones x.toNat = 2) → (∀ j : Fin 6, par ((2 ^ j.val : Nat) : Int) (sidesAll ch) = (xorL ch).testBit j.val) ∧ (∀ p, par p (sidesAll ch) = true → ∃ j : Fin 6, p = ((2 ^ j.val : Nat) : Int)) := by
  refine revInd (fun _ => ⟨fun j => by simp [par, sidesAll, xorL], fun p hp => by simp [par, sidesAll] at hp⟩) fun ch x ih => ?_
  · intro h
    obtain ⟨h1, h2⟩ := ih (fun y hy => h y (by simp [hy]))
    obtain ⟨x1, x2, x3⟩ := h x (by simp)
    have hx : x.toNat < 64 := by omega
    refine ⟨fun j => ?_, fun p hp => ?_⟩
    · rw [sidesAll_snoc, par_add _ _ hx, xorL_snoc, Nat.testBit_xor, h1 j, edge_bits ⟨x.toNat, hx⟩ x3 j]
    · rw [sidesAll_snoc, par_add _ _ hx] at hp
      by_cases hm : p ∈ belowR x.toNat 63
      · exact edge_only ⟨x.toNat, hx⟩ x3 p hm
      · rw [decide_eq_false hm] at hp
        exact h2 p (by simpa using hp)
/-- Is a chain of edges a cycle? -/
def ringB (ch : List Int) : Bool := decide (xorL ch = 0)
theorem ring_bd {ch : List Int} (h : ∀ x ∈ ch, 1 ≤ x ∧ x ≤ 63 ∧ ones x.toNat = 2) : decide (bdS ch = []) = ringB ch := by
  obtain ⟨h1, h2⟩ := ring_bits ch h
  have hs := (bdS_spec ch (fun x hx => ⟨(h x hx).1, (h x hx).2.1⟩)).1
  have hlt := xorL_lt ch (fun x hx => ⟨(h x hx).1, (h x hx).2.1⟩)
  unfold ringB
  rw [decide_eq_decide]
  refine ⟨fun he => ?_, fun he => ?_⟩
  · refine Nat.eq_of_testBit_eq fun i => ?_
    rw [Nat.zero_testBit]
    by_cases hi : i < 6
    · rw [← h1 ⟨i, hi⟩]
      refine Bool.eq_false_iff.2 fun hc => ?_
      have := (hs _).2 hc
      rw [he] at this
      cases this
    · exact Nat.testBit_lt_two_pow (Nat.lt_of_lt_of_le hlt (Nat.pow_le_pow_right (n := 2) (by omega) (by omega : 6 ≤ i)))
  · refine List.eq_nil_iff_forall_not_mem.2 fun p hp => ?_
    have hq := (hs p).1 hp
    obtain ⟨j, rfl⟩ := h2 p hq
    rw [h1 j, he, Nat.zero_testBit] at hq
    cases hq

/-- The sets of k numbers of a list, in order. -/
def setsL : List Int → Nat → List (List Int)
  | _, 0 => [[]]
  | [], _ + 1 => []
  | x :: l, m + 1 => (setsL l m).map (x :: ·) ++ setsL l (m + 1)
theorem setsL_zero (l : List Int) : setsL l 0 = [[]] := by cases l <;> rfl
theorem setsL_nil (m : Nat) : setsL [] (m + 1) = [] := rfl
theorem setsL_drop {l : List Int} {i : Nat} (hi : i < l.length) (m : Nat) : setsL (l.drop i) (m + 1) = (setsL (l.drop (i + 1)) m).map (l[i]?.getD 0 :: ·) ++ setsL (l.drop (i + 1)) (m + 1) := by
  rw [List.drop_eq_getElem_cons hi, setsL, List.getElem?_eq_getElem hi]
  rfl
theorem setsL_done {l : List Int} {i : Nat} (hi : l.length ≤ i) (m : Nat) : setsL (l.drop i) (m + 1) = [] := by rw [List.drop_eq_nil_of_le hi, setsL_nil]
theorem setsL_count : ∀ (l : List Int) (m : Nat), (setsL l m).length ≤ 2 ^ l.length := by
  intro l
  induction l with
  | nil => intro m; cases m <;> simp [setsL]
  | cons x l ih =>
    intro m
    cases m with
    | zero => simp [setsL]; exact Nat.one_le_two_pow
    | succ m =>
      rw [setsL, List.length_append, List.length_map, List.length_cons, Nat.pow_succ]
      have := ih m
      have := ih (m + 1)
      omega
theorem setsL_mem : ∀ (l : List Int) (m : Nat), ∀ s ∈ setsL l m, s.Sublist l ∧ s.length = m := by
  intro l
  induction l with
  | nil =>
    intro m s hs
    cases m with
    | zero => simp [setsL] at hs; subst hs; simp
    | succ m => cases hs
  | cons x l ih =>
    intro m s hs
    cases m with
    | zero => simp [setsL] at hs; subst hs; simp
    | succ m =>
      rw [setsL, List.mem_append, List.mem_map] at hs
      rcases hs with ⟨t, ht, rfl⟩ | hs
      · obtain ⟨h1, h2⟩ := ih m t ht
        exact ⟨h1.cons_cons x, by simp [h2]⟩
      · obtain ⟨h1, h2⟩ := ih (m + 1) s hs
        exact ⟨h1.cons x, h2⟩
/-- The first set behind b of m numbers of a list that fits. -/
def firstC (P : List Int → Bool) (b l : List Int) (m : Nat) : Option (List Int) := ((setsL l m).map (b ++ ·)).find? P
theorem firstC_zero (P : List Int → Bool) (b l : List Int) : firstC P b l 0 = if P b then some b else none := by
  unfold firstC
  rw [setsL_zero]
  simp only [List.map_cons, List.append_nil, List.map_nil, List.find?_cons, List.find?_nil]
  cases P b <;> rfl
theorem firstC_step (P : List Int → Bool) (b : List Int) {l : List Int} {i : Nat} (hi : i < l.length) (m : Nat) : firstC P b (l.drop i) (m + 1) = (firstC P (b ++ [l[i]?.getD 0]) (l.drop (i + 1)) m).or (firstC P b (l.drop (i + 1)) (m + 1)) := by
  unfold firstC
  rw [setsL_drop hi, List.map_append, List.find?_append, List.map_map]
  congr 2
  refine List.map_congr_left fun s _ => ?_
  simp
theorem firstC_done (P : List Int → Bool) (b : List Int) {l : List Int} {i : Nat} (hi : l.length ≤ i) (m : Nat) : firstC P b (l.drop i) (m + 1) = none := by
  unfold firstC
  rw [setsL_done hi]
  rfl
/-- The first set of fewer than n numbers that fits, the small ones first. -/
def firstTo (P : List Int → Bool) (l : List Int) : Nat → Option (List Int)
  | 0 => none
  | n + 1 => (firstTo P l n).or (firstC P [] l n)
theorem firstC_nil (P : List Int → Bool) (l : List Int) (m : Nat) : firstC P [] l m = (setsL l m).find? P := by
  unfold firstC
  simp
theorem firstC_mem {P : List Int → Bool} {l : List Int} {m : Nat} {s : List Int} (h : firstC P [] l m = some s) : s.Sublist l ∧ s.length = m ∧ P s = true := by
  rw [firstC_nil] at h
  obtain ⟨h1, h2⟩ := setsL_mem l m s (List.mem_of_find?_eq_some h)
  exact ⟨h1, h2, List.find?_some h⟩
theorem firstTo_mem {P : List Int → Bool} {l : List Int} : ∀ {n : Nat} {s : List Int}, firstTo P l n = some s → s.Sublist l ∧ P s = true := by
  intro n
  induction n with
  | zero => intro s h; cases h
  | succ n ih =>
    intro s h
    rw [firstTo, Option.or_eq_some_iff] at h
    rcases h with h | ⟨_, h⟩
    · exact ih h
    · obtain ⟨h1, _, h3⟩ := firstC_mem h
      exact ⟨h1, h3⟩
theorem firstTo_up {P : List Int → Bool} {l s : List Int} {n : Nat} (h : firstTo P l (n + 1) = some s) : ∀ k, n < k → firstTo P l k = some s := by
  intro k
  induction k with
  | zero => intro h; omega
  | succ k ih =>
    intro hk
    by_cases he : n = k
    · subst he; exact h
    · rw [firstTo, ih (by omega)]
      rfl
/-- Is a set of edges a circle? -/
def circB (fs ch : List Int) : Bool := ringB ch && !boundsB fs ch
theorem circ_nil (fs : List Int) : circB fs [] = false := by simp [circB, boundsB]
theorem xor_ne_zero {a b : Nat} (h : a ^^^ b = 0) : a = b := by
  refine Nat.eq_of_testBit_eq fun i => ?_
  have : (a ^^^ b).testBit i = false := by rw [h, Nat.zero_testBit]
  rw [Nat.testBit_xor] at this
  revert this
  cases a.testBit i <;> cases b.testBit i <;> simp
theorem circ_small {fs ch : List Int} (hp : ∀ x ∈ ch, 1 ≤ x) (ha : ch.Pairwise (· < ·)) (hl : ch.length < 3) : circB fs ch = false := by
  match ch, hl with
  | [], _ => exact circ_nil fs
  | [x], _ =>
    have := hp x (by simp)
    have hx : ringB [x] = false := by
      unfold ringB xorL
      simp only [List.foldl_cons, List.foldl_nil, Nat.zero_xor, decide_eq_false_iff_not]
      omega
    simp [circB, hx]
  | [x, y], _ =>
    have h1 := hp x (by simp)
    have h2 := hp y (by simp)
    have h3 : x < y := by simpa using ha
    have hx : ringB [x, y] = false := by
      unfold ringB xorL
      simp only [List.foldl_cons, List.foldl_nil, Nat.zero_xor, decide_eq_false_iff_not]
      intro h
      have := xor_ne_zero h
      omega
    simp [circB, hx]
theorem firstTo_three {fs : List Int} {l : List Int} (hp : ∀ x ∈ l, 1 ≤ x) (ha : l.Pairwise (· < ·)) : firstTo (circB fs) l 3 = none := by
  have h : ∀ m, m < 3 → firstC (circB fs) [] l m = none := by
    intro m hm
    refine Option.eq_none_iff_forall_ne_some.2 fun s hs => ?_
    obtain ⟨h1, h2, h3⟩ := firstC_mem hs
    rw [circ_small (fun x hx => hp x (h1.subset hx)) (ha.sublist h1) (by omega)] at h3
    cases h3
  simp [firstTo, h]
/-- The answer of ShortestCircle. -/
def ansC : Option (List Int) → List Int × Int
  | some ch => (ch, 0)
  | none => ([], 4)
noncomputable def circR (V : Int) (fs : List Int) : List Int × Int :=
  if isCB V fs then ansC (firstTo (circB fs) (ofDim fs 1) (V.toNat + 1)) else ([], 1)
theorem circR_len (V : Int) (fs : List Int) (h : fs.length ≤ 1048576) : (circR V fs).1.length ≤ 1048576 := by
  unfold circR
  split
  · cases hs : firstTo (circB fs) (ofDim fs 1) (V.toNat + 1) with
    | none => simp [ansC]
    | some s =>
      have h1 := (firstTo_mem hs).1.length_le
      have h2 := ofDim_len fs 1
      simp only [ansC]
      omega
  · simp

end Go.Proofs.Ytbhdipljhelddaa

/-! A region that draws its order, whose last operation writes what others read: what is held of the world is asked behind every operation but that one. -/
namespace Go.Proofs.Ytbhdipljhelddaa
open Go.RowKit

section
variable {P : Program} {ops : Array Oper} {Q : Exit → Act → World → Prop} {md : Region.Mode} {S : World → Prop} {m : Nat}

/-- Whatever order is picked; S holds behind every operation but number m. -/
def anyM (P : Program) (md : Region.Mode) (ops : Array Oper) (Q : Exit → Act → World → Prop) (S : World → Prop) (m : Nat) : Nat → Array Bool → Act → World → Prop
  | 0, listed, a, w => Region.ready md ops listed = [] ∧ Q .normal a w
  | fuel + 1, listed, a, w => (Region.ready md ops listed = [] → Q .normal a w) ∧
      ∀ i ∈ Region.ready md ops listed, wpOp P ops Q i (fun a' w' => (i ≠ m → S w') ∧ anyM P md ops Q S m fuel (listed.setIfInBounds i true) a' w') a w

theorem any_of_M : ∀ (fuel : Nat) (listed : Array Bool) (a : Act) (w : World), anyM P md ops Q S m fuel listed a w → wpAny P md ops Q fuel listed a w
  | 0, _, _, _, h => h
  | fuel + 1, _, _, _, h => ⟨h.1, fun i hi => wpOp_mono (fun a' w' h' => any_of_M fuel _ a' w' h'.2) (h.2 i hi)⟩

/-- Each number waits for the one ahead of it. -/
def queueB (md : Region.Mode) (ops : Array Oper) : List Nat → Bool
  | x :: y :: r => (match ops[y]? with | some o => o.after.any (fun e => Region.binds md e && e.on == x) | none => false) && queueB md ops (y :: r)
  | _ => true

theorem queue_unready {listed : Array Bool} : ∀ (cs : List Nat) (i : Nat), queueB md ops (i :: cs) = true → (∀ c ∈ i :: cs, listed.getD c true = false) → ∀ c ∈ cs, c ∉ Region.ready md ops listed
  | [], _, _, _ => fun c hc => by cases hc
  | y :: r, i, h, hu => fun c hc => by
    simp only [queueB, Bool.and_eq_true] at h
    rcases List.mem_cons.1 hc with rfl | hc
    · intro hr
      obtain ⟨_, o, ho, hall⟩ := mem_ready.1 hr
      have h1 := h.1
      rw [ho] at h1
      simp only [Array.any_eq_true', Bool.and_eq_true, beq_iff_eq] at h1
      obtain ⟨e, he, hb, heq⟩ := h1
      have h2 := hall e he hb
      have h0 := hu i (List.mem_cons_self ..)
      rw [heq] at h2
      rcases Nat.lt_or_ge i listed.size with h' | h'
      · simp [h'] at h0 h2; rw [h0] at h2; cases h2
      · simp [Array.getElem?_eq_none h'] at h2
    · exact queue_unready r y h.2 (fun c hc => hu c (List.mem_cons_of_mem _ hc)) c hc

theorem anyM_first {i : Nat} {oi : Oper} {v : Value} (hi : ops[i]? = some oi) (hsel : ∀ (j : Nat) (o : Oper) cs b, ops[j]? = some o → o.op ≠ .select cs b)
    (hQ : ∀ c a w, Q (.panic c) (a.put oi.dst v) w → Q (.panic c) a w) {cs : List Nat} (hcs : queueB md ops (i :: cs) = true) (hm : m ∈ cs) :
    ∀ (fuel : Nat) (listed : Array Bool) (a : Act) (w : World),
      (∀ j oj, ops[j]? = some oj → j ≠ i → listed.getD j true = false → (∀ e ∈ oj.after, Region.binds md e = true → e.on ≠ i) → oi.apart ops oj = true) →
      i ∈ Region.ready md ops listed → (∀ c ∈ i :: cs, listed.getD c true = false) → YieldsIf P ops S oi v a → S w →
      anyM P md ops Q S m fuel (listed.setIfInBounds i true) (a.put oi.dst v) w → anyM P md ops Q S m (fuel + 1) listed a w := by
  intro fuel
  induction fuel with
  | zero =>
    intro listed a w _ hr _ hy hS H
    refine ⟨fun h => (by rw [h] at hr; cases hr), fun j hj => ?_⟩
    by_cases hji : j = i
    · subst hji; exact hy.wpOp hi hS ⟨fun _ => hS, H⟩
    · have := ready_mono hj hji
      rw [H.1] at this
      cases this
  | succ fuel ih =>
    intro listed a w hfree hr hu hy hS H
    refine ⟨fun h => (by rw [h] at hr; cases hr), fun j hj => ?_⟩
    by_cases hji : j = i
    · subst hji; exact hy.wpOp hi hS ⟨fun _ => hS, H⟩
    · have hjcs : j ∉ cs := fun hc => queue_unready cs i hcs hu j hc hj
      have hjm : j ≠ m := fun e => hjcs (e ▸ hm)
      have h1 := H.2 j (ready_mono hj hji)
      obtain ⟨hjun, oj, hoj, hall⟩ := mem_ready.1 hj
      have hnot : ∀ e ∈ oj.after, Region.binds md e = true → e.on ≠ i := fun e he hb heq => by
        have h1 := hall e he hb
        have h0 := (mem_ready.1 hr).1
        rw [heq] at h1
        rcases Nat.lt_or_ge i listed.size with h' | h'
        · simp [h'] at h0 h1; rw [h0] at h1; cases h1
        · simp [Array.getElem?_eq_none h'] at h1
      have h2 := wpOp_putIf hoj (hfree j oj hoj hji hjun hnot) (fun cs b => hsel i oi cs b hi) (fun cs b => hsel j oj cs b hoj) hQ hy h1
      have hfree' : ∀ k ok, ops[k]? = some ok → k ≠ i → (listed.setIfInBounds j true).getD k true = false →
          (∀ e ∈ ok.after, Region.binds md e = true → e.on ≠ i) → oi.apart ops ok = true := fun k ok hk hki hun hno => by
        refine hfree k ok hk hki ?_ hno
        by_cases hjk : j = k
        · subst hjk; exact hjun
        · rw [getD_set_ne true hjk] at hun; exact hun
      have hu' : ∀ c ∈ i :: cs, (listed.setIfInBounds j true).getD c true = false := fun c hc => by
        rw [getD_set_ne true (fun e => ?_)]
        · exact hu c hc
        · rcases List.mem_cons.1 hc with h | h
          · exact hji (e.trans h)
          · exact hjcs (e ▸ h)
      refine wpOp_mono (fun a' w' h3 => ⟨h3.2.1, ih (listed.setIfInBounds j true) a' w' hfree' (ready_mono hr (Ne.symm hji)) hu' h3.1 (h3.2.1 hjm) ?_⟩) h2
      rw [Array.setIfInBounds_comm _ _ hji]
      exact h3.2.2

theorem anyM_take {i : Nat} {oi : Oper} {v : Value} {fuel : Nat} {listed : Array Bool} {a : Act} {w : World} (cs : List Nat) (hi : ops[i]? = some oi)
    (hs : (Region.noSelect ops && queueB md ops (i :: cs) && cs.contains m && (i :: cs).all (fun c => !listed.getD c true) && Region.free md ops listed i && (Region.ready md ops listed).contains i) = true)
    (hQ : ∀ c a w, Q (.panic c) (a.put oi.dst v) w → Q (.panic c) a w) (hy : YieldsIf P ops S oi v a) (hS : S w)
    (h : anyM P md ops Q S m fuel (listed.setIfInBounds i true) (a.put oi.dst v) w) : anyM P md ops Q S m (fuel + 1) listed a w := by
  simp only [Bool.and_eq_true] at hs
  obtain ⟨⟨⟨⟨⟨h1, h2⟩, h3⟩, h4⟩, h5⟩, h6⟩ := hs
  exact anyM_first hi (Region.noSelect_spec h1) hQ h2 (by simpa using h3) fuel listed a w (Region.free_spec hi h5) (by simpa using h6) (fun c hc => by simpa using List.all_eq_true.1 h4 c hc) hy hS h

/-- Each of the operations 'rs' comes up next. -/
def AllM (P : Program) (md : Region.Mode) (ops : Array Oper) (Q : Exit → Act → World → Prop) (S : World → Prop) (m fuel : Nat) (listed : Array Bool) (a : Act) (w : World) (rs : List Nat) : Prop :=
  ∀ i ∈ rs, wpOp P ops Q i (fun a' w' => (i ≠ m → S w') ∧ anyM P md ops Q S m fuel (listed.setIfInBounds i true) a' w') a w
theorem AllM.nil {fuel : Nat} {listed : Array Bool} {a : Act} {w : World} : AllM P md ops Q S m fuel listed a w [] := fun _ h => by cases h
theorem AllM.cons {fuel : Nat} {listed : Array Bool} {a : Act} {w : World} {i : Nat} {o : Oper} {rs : List Nat} (ho : ops[i]? = some o)
    (h : ∀ K' : Act → World → Prop, Go.Shut (∀ a w, (i ≠ m → S w) → anyM P md ops Q S m fuel (listed.setIfInBounds i true) a w → K' a w) → if Region.wanted o (yielded ops a.tmps) = true then Oper.wp P o a w K' Q else K' (a.put o.dst undef) w)
    (hs : AllM P md ops Q S m fuel listed a w rs) : AllM P md ops Q S m fuel listed a w (i :: rs) := fun j hj => by
  rcases List.mem_cons.1 hj with rfl | hj
  · exact wpOp_step ho (fun K' hK => h K' (fun a w hS hW => hK a w ⟨hS, hW⟩))
  · exact hs j hj
theorem anyM_ready {rs : List Nat} {fuel : Nat} {listed : Array Bool} {a : Act} {w : World} (hr : (Region.ready md ops listed == rs) = true) (hne : rs ≠ [])
    (h : AllM P md ops Q S m fuel listed a w rs) : anyM P md ops Q S m (fuel + 1) listed a w :=
  ⟨fun h0 => absurd (eq_of_beq hr ▸ h0) hne, eq_of_beq hr ▸ h⟩
theorem anyM_done {listed : Array Bool} {a : Act} {w : World} (hr : (Region.ready md ops listed).isEmpty = true) (h : Q .normal a w) : ∀ fuel, anyM P md ops Q S m fuel listed a w
  | 0 => ⟨List.isEmpty_iff.1 hr, h⟩
  | _ + 1 => ⟨fun _ => h, by rw [List.isEmpty_iff.1 hr]; simp⟩
/-- The beginning. -/
theorem region_M {id : Nat} {a : Act} {w : World} (m : Nat) (S : World → Prop) (hm : P.follows .mixedOrders = true)
    (h : anyM P .any ops Q S m ops.size (Array.replicate ops.size false) a w.drew) : (Code.region id ops true).wp P Q a w :=
  wp_region_any hm (any_of_M _ _ _ _ h)
end

end Go.Proofs.Ytbhdipljhelddaa
