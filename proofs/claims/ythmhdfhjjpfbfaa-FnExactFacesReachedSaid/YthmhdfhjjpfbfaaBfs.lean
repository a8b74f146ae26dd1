import Derived.Test.YthmhdfhjjpfbfaaReachM
import Derived.Test.YthmhdfhjjpfbfaaStepsF
/-! The program's search, the mathematics: a queue, and what has been met. -/
namespace Go.Proofs.Ythmhdfhjjpfbfaa
open Go.RowKit

/-- A number comes up: if it is new, it is met and waits. -/
def visit (s : List Int × List Int) (y : Int) : List Int × List Int := if y ∈ s.1 then s else (s.1 ++ [y], s.2 ++ [y])
def visits (s : List Int × List Int) (l : List (Fin 64)) : List Int × List Int := l.foldl (fun s x => visit s (x.val : Int)) s
theorem visits_snoc (s : List Int × List Int) (l : List (Fin 64)) (x : Fin 64) : visits s (l ++ [x]) = visit (visits s l) (x.val : Int) := by simp [visits]

/-- How many numbers below 64 have not been met. -/
def unmet (met : List Int) : Nat := (List.range 64).countP fun i : Nat => decide ((i : Int) ∉ met)
theorem countP_lt {l : List Nat} {p q : Nat → Bool} (h : ∀ x ∈ l, q x = true → p x = true) {y : Nat} (hy : y ∈ l) (hp : p y = true) (hq : q y = false) : l.countP q < l.countP p := by
  induction l with
  | nil => simp at hy
  | cons x l ih =>
    have hle : l.countP q ≤ l.countP p := List.countP_mono_left (fun z hz hqz => h z (List.mem_cons_of_mem _ hz) hqz)
    rw [List.countP_cons, List.countP_cons]
    by_cases e : y = x
    · subst e
      rw [hp, hq]
      simp
      omega
    · have hyl : y ∈ l := by
        rcases List.mem_cons.1 hy with h1 | h1
        · exact absurd h1 e
        · exact h1
      have := ih (fun z hz => h z (List.mem_cons_of_mem _ hz)) hyl
      by_cases hqx : q x = true
      · rw [hqx, h x (by simp) hqx]; omega
      · have hqx' : q x = false := by simpa using hqx
        rw [hqx']
        simp
        omega
theorem unmet_le (met : List Int) : unmet met ≤ 64 := by unfold unmet; exact Nat.le_trans List.countP_le_length (by simp)
theorem unmet_snoc {met : List Int} {y : Int} (h0 : 0 ≤ y) (h64 : y < 64) (hn : y ∉ met) : unmet (met ++ [y]) < unmet met := by
  unfold unmet
  refine countP_lt (y := y.toNat) (fun x _ hx => ?_) (by simp; omega) ?_ ?_
  · simp at hx ⊢
    exact hx.1
  · rw [show ((y.toNat : Nat) : Int) = y by omega]; simpa using hn
  · rw [show ((y.toNat : Nat) : Int) = y by omega]; simp

/-- The search's state. -/
structure Bfs (ps : List Int) (n : Nat) (a : Int) (met qs : List Int) : Prop where
  start : a ∈ met
  way : ∀ x ∈ met, x = a ∨ Way ps n a x
  sub : ∀ x ∈ qs, x ∈ met
  clos : ∀ x ∈ met, x ∈ qs ∨ ∀ y ∈ nextL ps n x, y ∈ met
  small : met.length + unmet met ≤ 65
  few : 2 * unmet met + qs.length ≤ 129
theorem Bfs.begin (ps : List Int) (n : Nat) (a : Int) : Bfs ps n a [a] [a] :=
  ⟨by simp, fun x hx => .inl (by simpa using hx), fun x hx => hx, fun x hx => .inl hx, by have := unmet_le [a]; simp; omega, by have := unmet_le [a]; simp; omega⟩

theorem visits_spec : ∀ (l : List (Fin 64)) (met qs : List Int), (∀ x ∈ qs, x ∈ met) →
    (∀ z, z ∈ (visits (met, qs) l).1 ↔ z ∈ met ∨ ∃ y ∈ l, z = (y.val : Int)) ∧ (∀ z ∈ (visits (met, qs) l).2, z ∈ (visits (met, qs) l).1) ∧ (∀ z ∈ (visits (met, qs) l).1, z ∈ met ∨ z ∈ (visits (met, qs) l).2) ∧ (∀ z ∈ qs, z ∈ (visits (met, qs) l).2) ∧
      2 * unmet (visits (met, qs) l).1 + (visits (met, qs) l).2.length ≤ 2 * unmet met + qs.length ∧ (visits (met, qs) l).1.length + unmet (visits (met, qs) l).1 ≤ met.length + unmet met
  | [], met, qs, hsub => ⟨fun z => by simp [visits], hsub, fun z hz => .inl hz, fun z hz => hz, Nat.le_refl _, Nat.le_refl _⟩
  | y :: l, met, qs, hsub => by
    have hv : visits (met, qs) (y :: l) = visits (visit (met, qs) (y.val : Int)) l := rfl
    rw [hv]
    by_cases hm : (y.val : Int) ∈ met
    · have e : visit (met, qs) (y.val : Int) = (met, qs) := by unfold visit; rw [if_pos hm]
      rw [e]
      obtain ⟨h1, h2, h3, h4, h5, h6⟩ := visits_spec l met qs hsub
      refine ⟨fun z => ?_, h2, h3, h4, h5, h6⟩
      rw [h1 z]
      constructor
      · rintro (h | ⟨u, hu, ez⟩)
        · exact .inl h
        · exact .inr ⟨u, List.mem_cons_of_mem _ hu, ez⟩
      · rintro (h | ⟨u, hu, ez⟩)
        · exact .inl h
        · rcases List.mem_cons.1 hu with rfl | hu
          · exact .inl (by rw [ez]; exact hm)
          · exact .inr ⟨u, hu, ez⟩
    · have e : visit (met, qs) (y.val : Int) = (met ++ [(y.val : Int)], qs ++ [(y.val : Int)]) := by unfold visit; rw [if_neg hm]
      rw [e]
      have hsub' : ∀ x ∈ qs ++ [(y.val : Int)], x ∈ met ++ [(y.val : Int)] := fun x hx => by
        rcases List.mem_append.1 hx with h | h
        · exact List.mem_append_left _ (hsub x h)
        · exact List.mem_append_right _ h
      obtain ⟨h1, h2, h3, h4, h5, h6⟩ := visits_spec l _ _ hsub'
      have hu := unmet_snoc (met := met) (y := (y.val : Int)) (by omega) (by have := y.isLt; omega) hm
      refine ⟨fun z => ?_, h2, fun z hz => ?_, fun z hz => h4 z (List.mem_append_left _ hz), ?_, ?_⟩
      · rw [h1 z]
        constructor
        · rintro (h | ⟨u, hu, ez⟩)
          · rcases List.mem_append.1 h with h | h
            · exact .inl h
            · exact .inr ⟨y, by simp, by simpa using h⟩
          · exact .inr ⟨u, List.mem_cons_of_mem _ hu, ez⟩
        · rintro (h | ⟨u, hu, ez⟩)
          · exact .inl (List.mem_append_left _ h)
          · rcases List.mem_cons.1 hu with rfl | hu
            · exact .inl (by rw [ez]; simp)
            · exact .inr ⟨u, hu, ez⟩
      · rcases h3 z hz with h | h
        · rcases List.mem_append.1 h with h | h
          · exact .inl h
          · exact .inr (h4 z (List.mem_append_right _ h))
        · exact .inr h
      · simp at h5; omega
      · simp at h6; omega

theorem sides_below : ∀ f : Fin 64, (sidesF f.val).map (fun x => (x.val : Int)) = (belowR f.val 63).reverse := by decide +kernel
theorem mem_stepsF {ps : List Int} {n : Nat} (hh : HighsB ps n) (a z : Int) : (∃ y ∈ stepsF ps n a, z = (y.val : Int)) ↔ z ∈ nextL ps n a := by
  unfold stepsF nextL
  split
  · simp
  · have h := hh a
    have e := sides_below ⟨(highOf ps n a).toNat, by omega⟩
    simp only at e
    have hz : ∀ z : Int, z ∈ belowR (highOf ps n a).toNat 63 ↔ ∃ y ∈ sidesF (highOf ps n a).toNat, (y.val : Int) = z := fun z => by
      rw [← List.mem_reverse, ← e, List.mem_map]
    unfold otherF
    simp only [List.mem_filter, hz, decide_eq_true_eq]
    constructor
    · rintro ⟨y, ⟨h1, h2⟩, rfl⟩
      exact ⟨⟨y, h1, rfl⟩, h2⟩
    · rintro ⟨⟨y, h1, rfl⟩, h2⟩
      exact ⟨y, ⟨h1, h2⟩, rfl⟩

/-- A round: the first that waits is gone through. -/
theorem Bfs.round {ps : List Int} {n : Nat} (hh : HighsB ps n) {a x : Int} {met qs : List Int} (h : Bfs ps n a met (x :: qs)) : Bfs ps n a (visits (met, qs) (stepsF ps n x)).1 (visits (met, qs) (stepsF ps n x)).2 := by
  have hxm := h.sub x (by simp)
  obtain ⟨h1, h2, h3, h4, h5, h6⟩ := visits_spec (stepsF ps n x) met qs (fun z hz => h.sub z (List.mem_cons_of_mem _ hz))
  refine ⟨(h1 a).2 (.inl h.start), fun z hz => ?_, h2, fun z hz => ?_, Nat.le_trans h6 h.small, ?_⟩
  · rcases (h1 z).1 hz with hz | hz
    · exact h.way z hz
    · have hn := (mem_stepsF hh x z).1 hz
      rcases h.way x hxm with rfl | hw
      · exact .inr (.one hn)
      · exact .inr (.more hw hn)
  · rcases h3 z hz with hz | hz
    · rcases h.clos z hz with hq | hc
      · rcases List.mem_cons.1 hq with rfl | hq
        · exact .inr (fun y hy => (h1 y).2 (.inr ((mem_stepsF hh z y).2 hy)))
        · exact .inl (h4 z hq)
      · exact .inr (fun y hy => (h1 y).2 (.inl (hc y hy)))
    · exact .inl hz
  · have := h.few
    simp at this
    omega
theorem Bfs.less {ps : List Int} {n : Nat} {a x : Int} {met qs : List Int} (h : Bfs ps n a met (x :: qs)) : 2 * unmet (visits (met, qs) (stepsF ps n x)).1 + (visits (met, qs) (stepsF ps n x)).2.length < 2 * unmet met + (x :: qs).length := by
  obtain ⟨_, _, _, _, h5, _⟩ := visits_spec (stepsF ps n x) met qs (fun z hz => h.sub z (List.mem_cons_of_mem _ hz))
  simp
  omega
/-- Nothing waits: what has been met is what is reached. -/
theorem Bfs.done {ps : List Int} {n : Nat} {a : Int} {met : List Int} (h : Bfs ps n a met []) (z : Int) : z ∈ met ↔ z = a ∨ Way ps n a z := by
  have hc : ∀ x ∈ met, ∀ y ∈ nextL ps n x, y ∈ met := fun x hx => (h.clos x hx).resolve_left (by simp)
  constructor
  · exact h.way z
  · rintro (rfl | hw)
    · exact h.start
    · induction hw with
      | one h1 => exact hc a h.start _ h1
      | more _ h2 ih => exact hc _ ih _ h2

end Go.Proofs.Ythmhdfhjjpfbfaa
