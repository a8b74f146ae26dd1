import Derived.Test.YthmhdfhjjpfbfaaNextS
/-! Gradient ways, the mathematics: what a search over the steps finds. -/
namespace Go.Proofs.Ythmhdfhjjpfbfaa
open Go.RowKit

/-- A gradient way with at least one step. -/
inductive Way (ps : List Int) (n : Nat) (a : Int) : Int → Prop
  | one {y : Int} : y ∈ nextL ps n a → Way ps n a y
  | more {x y : Int} : Way ps n a x → y ∈ nextL ps n x → Way ps n a y

/-- All high faces are numbers below 64. -/
def HighsB (ps : List Int) (n : Nat) : Prop := ∀ a, 0 ≤ highOf ps n a ∧ highOf ps n a < 64
theorem next_range {ps : List Int} {n : Nat} (h : HighsB ps n) {a y : Int} (hy : y ∈ nextL ps n a) : 0 ≤ y ∧ y < 64 := by
  unfold nextL at hy
  split at hy
  · simp at hy
  · have hm := (List.mem_filter.1 hy).1
    obtain ⟨v, h1, _, h3, h4, h5⟩ := (mem_belowR 63 (Nat.le_refl _)).1 hm
    have h6 : 2 ^ v ≤ (highOf ps n a).toNat := by
      unfold bitN at h3
      simp at h3
      exact Classical.byContradiction fun hn => by
        rw [Nat.div_eq_of_lt (by omega)] at h3
        simp at h3
    have := h a
    have e : ((2 ^ v : Nat) : Int) = (2 : Int) ^ v := by simp
    have hp : 0 < 2 ^ v := Nat.two_pow_pos v
    omega

def metAt (met : List Bool) (y : Int) : Bool := met[y.toNat]?.getD false
/-- A search under way: what has been met, and what waits. -/
structure Srch (ps : List Int) (n : Nat) (a : Int) (met : List Bool) (st : List Int) : Prop where
  len : met.length = 64
  good : ∀ i : Nat, i < 64 → met[i]?.getD false = true → Way ps n a i
  way : ∀ x ∈ st, Way ps n a x
  rng : ∀ x ∈ st, 0 ≤ x ∧ x < 64
  c0 : ∀ y ∈ nextL ps n a, y ∈ st ∨ metAt met y = true
  c1 : ∀ i : Nat, i < 64 → met[i]?.getD false = true → ∀ y ∈ nextL ps n i, y ∈ st ∨ metAt met y = true
  small : st.length + 64 * met.countP (fun b => !b) ≤ 5000

theorem Srch.start {ps : List Int} {n : Nat} (h : HighsB ps n) (a : Int) : Srch ps n a (List.replicate 64 false) (nextL ps n a) := by
  have hz : ∀ i : Nat, (List.replicate 64 false)[i]?.getD false = false := fun i => by
    rw [List.getElem?_replicate]
    split <;> rfl
  refine ⟨by simp, fun i _ hi => ?_, fun x hx => .one hx, fun x hx => next_range h hx, fun y hy => .inl hy, fun i _ hi => ?_, ?_⟩
  · rw [hz] at hi; cases hi
  · rw [hz] at hi; cases hi
  · have := nextL_len ps n a
    have e : (List.replicate 64 false).countP (fun b => !b) = 64 := by decide
    rw [e]; omega
theorem Srch.skip {ps : List Int} {n : Nat} {a x : Int} {met : List Bool} {st : List Int} (h : Srch ps n a met (st ++ [x])) (hx : metAt met x = true) : Srch ps n a met st := by
  have hk : ∀ y, (y ∈ st ++ [x] ∨ metAt met y = true) → (y ∈ st ∨ metAt met y = true) := fun y hy => by
    rcases hy with h1 | h1
    · rcases List.mem_append.1 h1 with h2 | h2
      · exact .inl h2
      · simp at h2; subst h2; exact .inr hx
    · exact .inr h1
  refine ⟨h.len, h.good, fun y hy => h.way y (List.mem_append_left _ hy), fun y hy => h.rng y (List.mem_append_left _ hy), fun y hy => hk y (h.c0 y hy), fun i h1 h2 y hy => hk y (h.c1 i h1 h2 y hy), ?_⟩
  have := h.small
  simp at this
  omega
theorem metAt_set {met : List Bool} {x y : Int} (hl : met.length = 64) (hx : 0 ≤ x ∧ x < 64) (hy : metAt met y = true ∨ y = x) : metAt (met.set x.toNat true) y = true := by
  unfold metAt at *
  by_cases e : x.toNat = y.toNat
  · rw [← e, List.getElem?_set_self (by omega)]; rfl
  · rw [List.getElem?_set_ne e]
    rcases hy with h | h
    · exact h
    · exact absurd (by rw [h]) e
theorem Srch.step {ps : List Int} {n : Nat} (hh : HighsB ps n) {a x : Int} {met : List Bool} {st : List Int} (h : Srch ps n a met (st ++ [x])) (hx : metAt met x = false) : Srch ps n a (met.set x.toNat true) (st ++ nextL ps n x) := by
  have hr := h.rng x (by simp)
  have hw := h.way x (by simp)
  have hxe : ((x.toNat : Nat) : Int) = x := by omega
  have hk : ∀ y, (y ∈ st ++ [x] ∨ metAt met y = true) → (y ∈ st ++ nextL ps n x ∨ metAt (met.set x.toNat true) y = true) := fun y hy => by
    rcases hy with h1 | h1
    · rcases List.mem_append.1 h1 with h2 | h2
      · exact .inl (List.mem_append_left _ h2)
      · simp at h2; exact .inr (metAt_set h.len hr (.inr h2))
    · exact .inr (metAt_set h.len hr (.inl h1))
  have hg : ∀ i : Nat, (met.set x.toNat true)[i]?.getD false = true → i = x.toNat ∨ met[i]?.getD false = true := fun i hi => by
    by_cases e : x.toNat = i
    · exact .inl e.symm
    · rw [List.getElem?_set_ne e] at hi; exact .inr hi
  refine ⟨by simp [h.len], fun i hi hm => ?_, fun y hy => ?_, fun y hy => ?_, fun y hy => hk y (h.c0 y hy), fun i hi hm y hy => ?_, ?_⟩
  · rcases hg i hm with e | e
    · rw [e, hxe]; exact hw
    · exact h.good i hi e
  · rcases List.mem_append.1 hy with h1 | h1
    · exact h.way y (List.mem_append_left _ h1)
    · exact .more hw h1
  · rcases List.mem_append.1 hy with h1 | h1
    · exact h.rng y (List.mem_append_left _ h1)
    · exact next_range hh h1
  · rcases hg i hm with e | e
    · rw [e, hxe] at hy; exact .inl (List.mem_append_right _ hy)
    · exact hk y (h.c1 i hi e y hy)
  · have hs := h.small
    have hn := nextL_len ps n x
    have hxl : x.toNat < met.length := by rw [h.len]; omega
    have hf : met[x.toNat] = false := by
      unfold metAt at hx
      rw [List.getElem?_eq_getElem hxl] at hx
      simpa using hx
    have hc := List.countP_set (p := fun b : Bool => !b) (a := true) hxl
    rw [hf] at hc
    simp at hc
    have hp : 0 < met.countP (fun b => !b) := List.countP_pos_iff.2 ⟨_, List.getElem_mem hxl, by simp [hf]⟩
    simp at hs ⊢
    omega
/-- The measure falls. -/
theorem Srch.less {ps : List Int} {n : Nat} {a x : Int} {met : List Bool} {st : List Int} (h : Srch ps n a met (st ++ [x])) (hx : metAt met x = false) :
    (st ++ nextL ps n x).length + 64 * (met.set x.toNat true).countP (fun b => !b) < (st ++ [x]).length + 64 * met.countP (fun b => !b) := by
  have hr := h.rng x (by simp)
  have hn := nextL_len ps n x
  have hxl : x.toNat < met.length := by rw [h.len]; omega
  have hf : met[x.toNat] = false := by
    unfold metAt at hx
    rw [List.getElem?_eq_getElem hxl] at hx
    simpa using hx
  have hc := List.countP_set (p := fun b : Bool => !b) (a := true) hxl
  rw [hf] at hc
  simp at hc
  have hp : 0 < met.countP (fun b => !b) := List.countP_pos_iff.2 ⟨_, List.getElem_mem hxl, by simp [hf]⟩
  simp
  omega
theorem Srch.done {ps : List Int} {n : Nat} (hh : HighsB ps n) {a : Int} {met : List Bool} (h : Srch ps n a met []) {y : Int} (hy : Way ps n a y) : metAt met y = true := by
  induction hy with
  | one h1 => exact (h.c0 _ h1).resolve_left (by simp)
  | @more x y h1 h2 ih =>
    have hr : 0 ≤ x ∧ x < 64 := by
      cases h1 with
      | one h3 => exact next_range hh h3
      | more _ h3 => exact next_range hh h3
    have hxe : ((x.toNat : Nat) : Int) = x := by omega
    exact (h.c1 x.toNat (by omega) ih y (by rw [hxe]; exact h2)).resolve_left (by simp)

end Go.Proofs.Ythmhdfhjjpfbfaa
