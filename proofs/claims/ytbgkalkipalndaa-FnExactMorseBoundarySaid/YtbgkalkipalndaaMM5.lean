import Derived.ArgAppend
import Derived.Deep.LoopGhost
import Derived.Maps.OwnIn
import Derived.Test.YtbgkalkipalndaaMM1
import Derived.Test.YtbgkalkipalndaaMM2
import Derived.Test.YtbgkalkipalndaaMM3
import Derived.Test.YtbgkalkipalndaaMM4
/-! The program's search, the mathematics: a queue, and what has been met. -/
namespace Go.Proofs.Ytbgkalkipalndaa
open Go.RowKit

/-- A number comes up: if it is new, it is met and waits. -/
def visit (s : List Int × List Int) (y : Int) : List Int × List Int := if y ∈ s.1 then s else (s.1 ++ [y], s.2 ++ [y])
def visits (s : List Int × List Int) (l : List (Fin 64)) : List Int × List Int := l.foldl (fun s x => visit s (x.val : Int)) s
theorem visits_snoc (s : List Int × List Int) (l : List (Fin 64)) (x : Fin 64) : visits s (l ++ [x]) = visit (visits s l) (x.val : Int) := by simp [visits]

/-- How many numbers below 64 have not been met. -/
def unmet (met : List Int) : Nat := (List.range 64).countP fun i : Nat => decide ((i : Int) ∉ met)
theorem countP_lt {l : List Nat} {p q : Nat → Bool} (h : ∀ x ∈ l, q x = true → p x = true) {y : Nat} (hy : y ∈ l) (hp : p y = true) (hq : q y = false) : l.countP q < l.countP p := by
  induction l with
  | nil => simp at hy
  | cons x l ih =>
    have hle : l.countP q ≤ l.countP p := List.countP_mono_left (fun z hz hqz => h z (List.mem_cons_of_mem _ hz) hqz)
    rw [List.countP_cons, List.countP_cons]
    by_cases e : y = x
    · subst e
      rw [hp, hq]
      simp
      omega
    · have hyl : y ∈ l := by
        rcases List.mem_cons.1 hy with h1 | h1
        · exact absurd h1 e
        · exact h1
      have := ih (fun z hz => h z (List.mem_cons_of_mem _ hz)) hyl
      by_cases hqx : q x = true
      · rw [hqx, h x (by simp) hqx]; omega
      · have hqx' : q x = false := by simpa using hqx
        rw [hqx']
        simp
        omega
theorem unmet_le (met : List Int) : unmet met ≤ 64 := by unfold unmet; exact Nat.le_trans List.countP_le_length (by simp)
theorem unmet_snoc {met : List Int} {y : Int} (h0 : 0 ≤ y) (h64 : y < 64) (hn : y ∉ met) : unmet (met ++ [y]) < unmet met := by
  unfold unmet
  refine countP_lt (y := y.toNat) (fun x _ hx => ?_) (by simp; omega) ?_ ?_
  · simp at hx ⊢
    exact hx.1
  · rw [show ((y.toNat : Nat) : Int) = y by omega]; simpa using hn
  · rw [show ((y.toNat : Nat) : Int) = y by omega]; simp

/-- The search's state. -/
structure Bfs (ps : List Int) (n : Nat) (a : Int) (met qs : List Int) : Prop where
  start : a ∈ met
  way : ∀ x ∈ met, x = a ∨ Way ps n a x
  sub : ∀ x ∈ qs, x ∈ met
  clos : ∀ x ∈ met, x ∈ qs ∨ ∀ y ∈ nextL ps n x, y ∈ met
  small : met.length + unmet met ≤ 65
  few : 2 * unmet met + qs.length ≤ 129
theorem Bfs.begin (ps : List Int) (n : Nat) (a : Int) : Bfs ps n a [a] [a] :=
  ⟨by simp, fun x hx => .inl (by simpa using hx), fun x hx => hx, fun x hx => .inl hx, by have := unmet_le [a]; simp; omega, by have := unmet_le [a]; simp; omega⟩

theorem visits_spec : ∀ (l : List (Fin 64)) (met qs : List Int), (∀ x ∈ qs, x ∈ met) →
    (∀ z, z ∈ (visits (met, qs) l).1 ↔ z ∈ met ∨ ∃ y ∈ l, z = (y.val : Int)) ∧ (∀ z ∈ (visits (met, qs) l).2, z ∈ (visits (met, qs) l).1) ∧ (∀ z ∈ (visits (met, qs) l).1, z ∈ met ∨ z ∈ (visits (met, qs) l).2) ∧ (∀ z ∈ qs, z ∈ (visits (met, qs) l).2) ∧
      2 * unmet (visits (met, qs) l).1 + (visits (met, qs) l).2.length ≤ 2 * unmet met + qs.length ∧ (visits (met, qs) l).1.length + unmet (visits (met, qs) l).1 ≤ met.length + unmet met
  | [], met, qs, hsub => ⟨fun z => by simp [visits], hsub, fun z hz => .inl hz, fun z hz => hz, Nat.le_refl _, Nat.le_refl _⟩
  | y :: l, met, qs, hsub => by
    have hv : visits (met, qs) (y :: l) = visits (visit (met, qs) (y.val : Int)) l := rfl
    rw [hv]
    by_cases hm : (y.val : Int) ∈ met
    · have e : visit (met, qs) (y.val : Int) = (met, qs) := by unfold visit; rw [if_pos hm]
      rw [e]
      obtain ⟨h1, h2, h3, h4, h5, h6⟩ := visits_spec l met qs hsub
      refine ⟨fun z => ?_, h2, h3, h4, h5, h6⟩
      rw [h1 z]
      constructor
      · rintro (h | ⟨u, hu, ez⟩)
        · exact .inl h
        · exact .inr ⟨u, List.mem_cons_of_mem _ hu, ez⟩
      · rintro (h | ⟨u, hu, ez⟩)
        · exact .inl h
        · rcases List.mem_cons.1 hu with rfl | hu
          · exact .inl (by rw [ez]; exact hm)
          · exact .inr ⟨u, hu, ez⟩
    · have e : visit (met, qs) (y.val : Int) = (met ++ [(y.val : Int)], qs ++ [(y.val : Int)]) := by unfold visit; rw [if_neg hm]
      rw [e]
      have hsub' : ∀ x ∈ qs ++ [(y.val : Int)], x ∈ met ++ [(y.val : Int)] := fun x hx => by
        rcases List.mem_append.1 hx with h | h
        · exact List.mem_append_left _ (hsub x h)
        · exact List.mem_append_right _ h
      obtain ⟨h1, h2, h3, h4, h5, h6⟩ := visits_spec l _ _ hsub'
      have hu := unmet_snoc (met := met) (y := (y.val : Int)) (by omega) (by have := y.isLt; omega) hm
      refine ⟨fun z => ?_, h2, fun z hz => ?_, fun z hz => h4 z (List.mem_append_left _ hz), ?_, ?_⟩
      · rw [h1 z]
        constructor
        · rintro (h | ⟨u, hu, ez⟩)
          · rcases List.mem_append.1 h with h | h
            · exact .inl h
            · exact .inr ⟨y, by simp, by simpa using h⟩
          · exact .inr ⟨u, List.mem_cons_of_mem _ hu, ez⟩
        · rintro (h | ⟨u, hu, ez⟩)
          · exact .inl (List.mem_append_left _ h)
          · rcases List.mem_cons.1 hu with rfl | hu
            · exact .inl (by rw [ez]; simp)
            · exact .inr ⟨u, hu, ez⟩
      · rcases h3 z hz with h | h
        · rcases List.mem_append.1 h with h | h
          · exact .inl h
          · exact .inr (h4 z (List.mem_append_right _ h))
        · exact .inr h
      · simp at h5; omega
      · simp at h6; omega

theorem sides_below : ∀ f : Fin 64, (sidesF f.val).map (fun x => (x.val : Int)) = (belowR f.val 63).reverse := by decide +kernel
theorem mem_stepsF {ps : List Int} {n : Nat} (hh : HighsB ps n) (a z : Int) : (∃ y ∈ stepsF ps n a, z = (y.val : Int)) ↔ z ∈ nextL ps n a := by
  unfold stepsF nextL
  split
  · simp
  · have h := hh a
    have e := sides_below ⟨(highOf ps n a).toNat, by omega⟩
    simp only at e
    have hz : ∀ z : Int, z ∈ belowR (highOf ps n a).toNat 63 ↔ ∃ y ∈ sidesF (highOf ps n a).toNat, (y.val : Int) = z := fun z => by
      rw [← List.mem_reverse, ← e, List.mem_map]
    unfold otherF
    simp only [List.mem_filter, hz, decide_eq_true_eq]
    constructor
    · rintro ⟨y, ⟨h1, h2⟩, rfl⟩
      exact ⟨⟨y, h1, rfl⟩, h2⟩
    · rintro ⟨⟨y, h1, rfl⟩, h2⟩
      exact ⟨y, ⟨h1, h2⟩, rfl⟩

/-- A round: the first that waits is gone through. -/
theorem Bfs.round {ps : List Int} {n : Nat} (hh : HighsB ps n) {a x : Int} {met qs : List Int} (h : Bfs ps n a met (x :: qs)) : Bfs ps n a (visits (met, qs) (stepsF ps n x)).1 (visits (met, qs) (stepsF ps n x)).2 := by
  have hxm := h.sub x (by simp)
  obtain ⟨h1, h2, h3, h4, h5, h6⟩ := visits_spec (stepsF ps n x) met qs (fun z hz => h.sub z (List.mem_cons_of_mem _ hz))
  refine ⟨(h1 a).2 (.inl h.start), fun z hz => ?_, h2, fun z hz => ?_, Nat.le_trans h6 h.small, ?_⟩
  · rcases (h1 z).1 hz with hz | hz
    · exact h.way z hz
    · have hn := (mem_stepsF hh x z).1 hz
      rcases h.way x hxm with rfl | hw
      · exact .inr (.one hn)
      · exact .inr (.more hw hn)
  · rcases h3 z hz with hz | hz
    · rcases h.clos z hz with hq | hc
      · rcases List.mem_cons.1 hq with rfl | hq
        · exact .inr (fun y hy => (h1 y).2 (.inr ((mem_stepsF hh z y).2 hy)))
        · exact .inl (h4 z hq)
      · exact .inr (fun y hy => (h1 y).2 (.inl (hc y hy)))
    · exact .inl hz
  · have := h.few
    simp at this
    omega
theorem Bfs.less {ps : List Int} {n : Nat} {a x : Int} {met qs : List Int} (h : Bfs ps n a met (x :: qs)) : 2 * unmet (visits (met, qs) (stepsF ps n x)).1 + (visits (met, qs) (stepsF ps n x)).2.length < 2 * unmet met + (x :: qs).length := by
  obtain ⟨_, _, _, _, h5, _⟩ := visits_spec (stepsF ps n x) met qs (fun z hz => h.sub z (List.mem_cons_of_mem _ hz))
  simp
  omega
/-- Nothing waits: what has been met is what is reached. -/
theorem Bfs.done {ps : List Int} {n : Nat} {a : Int} {met : List Int} (h : Bfs ps n a met []) (z : Int) : z ∈ met ↔ z = a ∨ Way ps n a z := by
  have hc : ∀ x ∈ met, ∀ y ∈ nextL ps n x, y ∈ met := fun x hx => (h.clos x hx).resolve_left (by simp)
  constructor
  · exact h.way z
  · rintro (rfl | hw)
    · exact h.start
    · induction hw with
      | one h1 => exact hc a h.start _ h1
      | more _ h2 ih => exact hc _ ih _ h2

end Go.Proofs.Ytbgkalkipalndaa

/-! settledPairs, the mathematics: pairs that settle one behind the other. -/
namespace Go.Proofs.Ytbgkalkipalndaa
open Go.RowKit

/-- A step leads from the low face of pair i to that of pair j. -/
def StepP (ps : List Int) (n i j : Nat) : Prop := at0 ps (j * 2) ∈ nextL ps n (at0 ps (i * 2))
/-- Each pair of the list has all pairs to which its steps lead ahead of it. -/
def Ordered (ps : List Int) (n : Nat) (L : List Nat) : Prop := ∀ pre i post, L = pre ++ i :: post → ∀ j, j < n → StepP ps n i j → j ∈ pre
theorem Ordered.nil (ps : List Int) (n : Nat) : Ordered ps n [] := fun pre i post h => by
  have := congrArg List.length h
  simp at this
theorem Ordered.snoc {ps : List Int} {n : Nat} {L : List Nat} (h : Ordered ps n L) {i : Nat} (hi : ∀ j, j < n → StepP ps n i j → j ∈ L) : Ordered ps n (L ++ [i]) := by
  intro pre k post he j hj hs
  rcases List.eq_nil_or_concat post with hp | ⟨post', z, hp⟩
  · subst hp
    have h1 := List.append_inj' he rfl
    have h2 : i = k := by simpa using h1.2
    rw [← h1.1]
    exact hi j hj (by rw [h2]; exact hs)
  · rw [List.concat_eq_append] at hp
    subst hp
    have he' : L ++ [i] = (pre ++ k :: post') ++ [z] := by rw [he]; simp
    have h1 := List.append_inj' he' rfl
    exact h pre k post' h1.1 j hj hs

/-- A number that has steps is the low face of a pair. -/
theorem next_low {ps : List Int} {n : Nat} {x y : Int} (h : y ∈ nextL ps n x) : ∃ i, i < n ∧ at0 ps (i * 2) = x := by
  refine Classical.byContradiction fun hn => ?_
  have : highOf ps n x = 0 := highOf_none (fun i hi e => hn ⟨i, hi, e⟩)
  unfold nextL at h
  rw [if_pos this] at h
  simp at h

/-- Along a way the pairs stand ever further ahead. -/
theorem way_ahead {ps : List Int} {n : Nat} {L : List Nat} (hO : Ordered ps n L) {i : Nat} {y : Int} (hw : Way ps n (at0 ps (i * 2)) y) :
    ∀ pre post, L = pre ++ i :: post → ∀ j, j < n → at0 ps (j * 2) = y → j ∈ pre := by
  induction hw with
  | one h1 =>
    intro pre post he j hj hy
    exact hO pre i post he j hj (by unfold StepP; rw [hy]; exact h1)
  | @more x y _ h2 ih =>
    intro pre post he j hj hy
    obtain ⟨k, hk, hkx⟩ := next_low h2
    have hkp := ih pre post he k hk hkx
    obtain ⟨p1, p2, hp⟩ := List.append_of_mem hkp
    have hj1 := hO p1 k (p2 ++ i :: post) (by rw [he, hp]; simp) j hj (by unfold StepP; rw [hy, hkx]; exact h2)
    rw [hp]
    exact List.mem_append_left _ hj1
/-- All settled: no cycle. -/
theorem settled_acyclic {ps : List Int} {n : Nat} {L : List Nat} (hO : Ordered ps n L) (hall : ∀ i, i < n → i ∈ L) : NoCycle ps n := by
  intro i hi hw
  obtain ⟨pre, post, he, hn⟩ : ∃ pre post, L = pre ++ i :: post ∧ i ∉ pre := by
    have := List.eq_append_cons_of_mem (hall i hi)
    obtain ⟨pre, post, h1, h2⟩ := this
    exact ⟨pre, post, h1, h2⟩
  exact hn (way_ahead hO hw pre post he i hi rfl)

theorem way_trans {ps : List Int} {n : Nat} {a b c : Int} (h1 : Way ps n a b) (h2 : Way ps n b c) : Way ps n a c := by
  induction h2 with
  | one h => exact .more h1 h
  | more _ h ih => exact .more ih h
/-- Nothing more can settle, and there is no cycle: all are settled. -/
theorem acyclic_settled {ps : List Int} {n : Nat} {L : List Nat} (hc : NoCycle ps n) (hs : ∀ i, i < n → i ∉ L → ∃ j, j < n ∧ StepP ps n i j ∧ j ∉ L) : ∀ i, i < n → i ∈ L := by
  have key : ∀ (m i : Nat), (List.range n).countP (fun j => wayB ps n (at0 ps (i * 2)) (at0 ps (j * 2))) = m → i < n → i ∈ L := by
    intro m
    induction m using Nat.strongRecOn with
    | _ m ih =>
      intro i hm hi
      refine Classical.byContradiction fun hn => ?_
      obtain ⟨j, hj, hst, hjn⟩ := hs i hi hn
      have hw : Way ps n (at0 ps (i * 2)) (at0 ps (j * 2)) := .one hst
      have hlt : (List.range n).countP (fun k => wayB ps n (at0 ps (j * 2)) (at0 ps (k * 2))) < (List.range n).countP (fun k => wayB ps n (at0 ps (i * 2)) (at0 ps (k * 2))) := by
        refine countP_lt (y := j) (fun k _ hk => ?_) (by simpa using hj) (wayB_true hw) (wayB_false (hc j hj))
        by_cases hw2 : Way ps n (at0 ps (j * 2)) (at0 ps (k * 2))
        · exact wayB_true (way_trans hw hw2)
        · rw [wayB_false hw2] at hk; cases hk
      exact hjn (ih _ (by omega) j rfl hj)
  exact fun i hi => key _ i rfl hi

end Go.Proofs.Ytbgkalkipalndaa

/-! The number of gradient ways, the mathematics. -/
namespace Go.Proofs.Ytbgkalkipalndaa
open Go.RowKit

/-- The number of ways from a to b with less than f steps. -/
def gwN (ps : List Int) (n : Nat) (b : Int) : Nat → Int → Int
  | 0, _ => 0
  | f + 1, a => (if a = b then 1 else 0) + ((nextL ps n a).map (gwN ps n b f)).sum
/-- The number of gradient ways from a to b, for an acyclic pairing. -/
def gw (ps : List Int) (n : Nat) (b a : Int) : Int := gwN ps n b (n + 2) a

theorem nextL_nil {ps : List Int} {n : Nat} {x : Int} (h : ∀ i, i < n → at0 ps (i * 2) ≠ x) : nextL ps n x = [] := by
  have := highOf_none (ps := ps) (n := n) (a := x) (fun i hi => h i hi)
  unfold nextL
  rw [if_pos this]

/-- How many pairs are reached from the low face of a pair. -/
noncomputable def rkP (ps : List Int) (n : Nat) (i : Nat) : Nat := (List.range n).countP fun k => wayB ps n (at0 ps (i * 2)) (at0 ps (k * 2))
theorem rkP_le (ps : List Int) (n i : Nat) : rkP ps n i ≤ n := by
  have := List.countP_le_length (p := fun k => wayB ps n (at0 ps (i * 2)) (at0 ps (k * 2))) (l := List.range n)
  simpa [rkP] using this
theorem rkP_lt {ps : List Int} {n : Nat} (hc : NoCycle ps n) {i j : Nat} (hj : j < n) (hs : StepP ps n i j) : rkP ps n j < rkP ps n i := by
  have hw : Way ps n (at0 ps (i * 2)) (at0 ps (j * 2)) := .one hs
  refine countP_lt (y := j) (fun k _ hk => ?_) (by simpa using hj) (wayB_true hw) (wayB_false (hc j hj))
  by_cases hw2 : Way ps n (at0 ps (j * 2)) (at0 ps (k * 2))
  · exact wayB_true (way_trans hw hw2)
  · rw [wayB_false hw2] at hk; cases hk

theorem gwN_low {ps : List Int} {n : Nat} (hc : NoCycle ps n) (b : Int) : ∀ (m i f g : Nat), rkP ps n i ≤ m → i < n → m + 2 ≤ f → m + 2 ≤ g → gwN ps n b f (at0 ps (i * 2)) = gwN ps n b g (at0 ps (i * 2)) := by
  intro m
  induction m using Nat.strongRecOn with
  | _ m ih =>
    intro i f g hm hi hf hg
    obtain ⟨f', rfl⟩ : ∃ f', f = f' + 1 := ⟨f - 1, by omega⟩
    obtain ⟨g', rfl⟩ : ∃ g', g = g' + 1 := ⟨g - 1, by omega⟩
    unfold gwN
    congr 2
    refine List.map_congr_left (fun y hy => ?_)
    by_cases hex : ∃ j, j < n ∧ at0 ps (j * 2) = y
    · obtain ⟨j, hj, rfl⟩ := hex
      have hlt := rkP_lt hc hj (show StepP ps n i j from hy)
      exact ih (rkP ps n j) (by omega) j f' g' (Nat.le_refl _) hj (by omega) (by omega)
    · obtain ⟨f'', rfl⟩ : ∃ f'', f' = f'' + 1 := ⟨f' - 1, by omega⟩
      obtain ⟨g'', rfl⟩ : ∃ g'', g' = g'' + 1 := ⟨g' - 1, by omega⟩
      have hnil := nextL_nil (fun i hi e => hex ⟨i, hi, e⟩)
      unfold gwN
      rw [hnil]
      rfl
theorem gwN_any {ps : List Int} {n : Nat} (hc : NoCycle ps n) (b : Int) (f : Nat) (hf : n + 2 ≤ f) (a : Int) : gwN ps n b f a = gw ps n b a := by
  unfold gw
  by_cases hex : ∃ j, j < n ∧ at0 ps (j * 2) = a
  · obtain ⟨j, hj, rfl⟩ := hex
    exact gwN_low hc b n j f (n + 2) (rkP_le ps n j) hj hf (Nat.le_refl _)
  · obtain ⟨f', rfl⟩ : ∃ f', f = f' + 1 := ⟨f - 1, by omega⟩
    have hnil := nextL_nil (fun i hi e => hex ⟨i, hi, e⟩)
    unfold gwN
    rw [hnil]
    rfl
/-- By a first step. -/
theorem gw_step {ps : List Int} {n : Nat} (hc : NoCycle ps n) (b a : Int) : gw ps n b a = (if a = b then 1 else 0) + ((nextL ps n a).map (gw ps n b)).sum := by
  rw [← gwN_any hc b (n + 2 + 1) (by omega) a]
  show (if a = b then 1 else 0) + ((nextL ps n a).map (gwN ps n b (n + 2))).sum = _
  rfl
theorem gw_none {ps : List Int} {n : Nat} {b x : Int} (h : ∀ i, i < n → at0 ps (i * 2) ≠ x) : gw ps n b x = if x = b then 1 else 0 := by
  unfold gw gwN
  rw [nextL_nil h]
  simp

theorem nextL_ne {ps : List Int} {n : Nat} {x y : Int} (h : y ∈ nextL ps n x) : y ≠ x := by
  unfold nextL at h
  split at h
  · simp at h
  · have := List.mem_filter.1 h
    simpa using this.2
theorem int_sum_reverse (l : List Int) : l.reverse.sum = l.sum := by
  induction l with
  | nil => rfl
  | cons x l ih => simp [ih, Int.add_comm]
/-- The steps in the program's order. -/
theorem gw_steps {ps : List Int} {n : Nat} (hh : HighsB ps n) (a : Int) (g : Int → Int) : ((stepsF ps n a).map fun z => g (z.val : Int)).sum = ((nextL ps n a).map g).sum := by
  unfold stepsF nextL
  split
  · rfl
  · have h := hh a
    have e := sides_below ⟨(highOf ps n a).toNat, by omega⟩
    simp only at e
    have e2 : (otherF a (sidesF (highOf ps n a).toNat)).map (fun z => (z.val : Int)) = ((belowR (highOf ps n a).toNat 63).filter fun y => decide (y ≠ a)).reverse := by
      rw [← List.filter_reverse, ← e]
      unfold otherF
      rw [List.filter_map]
      rfl
    have e3 : (otherF a (sidesF (highOf ps n a).toNat)).map (fun z => g (z.val : Int)) = (((belowR (highOf ps n a).toNat 63).filter fun y => decide (y ≠ a)).map g).reverse := by
      rw [← List.map_reverse, ← e2, List.map_map]
      rfl
    rw [e3, int_sum_reverse]

theorem wrap64_add (a b : Int) : wrap64 (wrap64 a + wrap64 b) = wrap64 (a + b) := by unfold wrap64; omega
theorem wrap64_wrap (a : Int) : wrap64 (wrap64 a) = wrap64 a := by unfold wrap64; omega

end Go.Proofs.Ytbgkalkipalndaa

/-! l02Ways: the model's number of ways. -/
namespace Go.Proofs.Ytbgkalkipalndaa
open Go.RowKit

/-- The first k steps' ways, and the one without steps. -/
def gwPart (ps : List Int) (n : Nat) (b a : Int) (k : Nat) : Int := (if a = b then 1 else 0) + (((nextL ps n a).take k).map (gw ps n b)).sum
theorem gwPart_zero (ps : List Int) (n : Nat) (b a : Int) : gwPart ps n b a 0 = if a = b then 1 else 0 := by simp [gwPart]
theorem gwPart_succ {ps : List Int} {n : Nat} {b a : Int} {k : Nat} (hk : k < (nextL ps n a).length) : gwPart ps n b a (k + 1) = gwPart ps n b a k + gw ps n b ((nextL ps n a)[k]?.getD 0) := by
  unfold gwPart
  rw [List.take_add_one, List.getElem?_eq_getElem hk]
  simp only [Option.toList_some, List.map_append, List.map_cons, List.map_nil, List.sum_append, List.sum_cons, List.sum_nil, Option.getD_some, Int.add_zero, Int.add_assoc]
theorem gwPart_all {ps : List Int} {n : Nat} (hc : NoCycle ps n) (b a : Int) : gwPart ps n b a (nextL ps n a).length = gw ps n b a := by
  rw [gw_step hc, gwPart, List.take_length]

set_option maxRecDepth 1000000 in
set_option maxHeartbeats 2000000 in
theorem ways_round (a1 : Option Addr) (n cap : Nat) (ps : List Int) (b a : Int) (w : World) (hx : SlI w w.heap.size a1 ps) (hp : ps.length = 2 * n) (hl : n ≤ 1048576) (hh : HighsB ps n) (hc : NoCycle ps n)
    (H : ∀ y ∈ nextL ps n a, ∀ w', Below w.heap.size w w' → Calls Try.prog 65 #[.slice a1 n cap, .int .i64 y, .int .i64 b] w' fun e w'' => e = .returned (.int .i64 (wrap64 (gw ps n b y))) ∧ Below w'.heap.size w' w'') :
    Calls Try.prog 65 #[.slice a1 n cap, .int .i64 a, .int .i64 b] w fun e w' => e = .returned (.int .i64 (wrap64 (gw ps n b a))) ∧ Below w.heap.size w w' := by
  have HN := hid (next_any a1 n cap ps a w hx hp hl (hh a))
  obtain ⟨E, hE⟩ : ∃ E, E = gw ps n b a := ⟨_, rfl⟩
  rw [← hE]
  have HE := hid (hE.trans (gwPart_all hc b a).symm)
  obtain ⟨d, hd⟩ : ∃ d, (a == b) = d := ⟨_, rfl⟩
  have hst : Hid ((if d then 1 else 0 : Int) = wrap64 (gwPart ps n b a 0)) := hid (by
    rw [gwPart_zero, ← hd]
    by_cases e : a = b
    · simp [e, wrap64]
    · simp [e, wrap64])
  obtain ⟨m, hm⟩ : ∃ m, m = (nextL ps n a).length := ⟨_, rfl⟩
  have hml : m ≤ 63 := by rw [hm]; exact nextL_len ps n a
  have HH := hid H
  have Hm := hid hm
  rw [← hm] at HN HE
  clear hx hp hh hc H hE hm
  cases d
  · go_enter Try.func65, Try.ntmps65
    go_wp2_with fail
    refine HN.out.mono ?_
    rintro e w1 ⟨g, c, rfl, hR⟩
    obtain ⟨hgb, av, cv, hve, hs⟩ := ownsRow_slI hR.1
    injection hve with hve1 hve2 hve3
    clear hve2 hve3
    subst hve1
    have HS := hid hs
    have HB1 := hid hR.2
    clear hR hs hgb
    go_wp2_with fail
    go_loopw [7, 9] (fun t i wr => ∃ k : Nat, k ≤ m ∧ i = .int .i64 k ∧ t = .int .i64 (wrap64 (gwPart ps n b a k)) ∧ Below w1.heap.size w1 wr) (fun _ i _ => m - (intOf i).toNat)
    case atStart => exact ⟨0, Nat.zero_le _, rfl, by rw [← hst.out]; rfl, Below.refl _ _⟩
    case round =>
      obtain ⟨k, hk, rfl, rfl, hB⟩ := hrel
      by_cases hlt : k < m
      · obtain ⟨y, hy⟩ : ∃ y, y = (nextL ps n a)[k]?.getD 0 := ⟨_, rfl⟩
        obtain ⟨hgb, hcell⟩ : g < w1.heap.size ∧ wr.cell? ⟨g, k, none⟩ = some (.int .i64 y) := by
          rw [show k = 0 + k by omega]
          rcases HS.out with h | ⟨b', o', hb', e', h'⟩
          · have := Hm.out; rw [h] at this; simp at this; omega
          · injection e' with e'
            injection e' with e1 e2
            subst e1
            subst e2
            have h2 := h' k (by have := Hm.out; omega)
            rw [← hy] at h2
            exact ⟨hb', (hB.cell (p := ⟨g, 0 + k, none⟩) hb').trans h2⟩
        have hym : y ∈ nextL ps n a := by rw [hy]; exact getD_mem (by have := Hm.out; omega)
        have HC := hid (HH.out y hym wr (HB1.out.trans (hB.mono HB1.out.size)))
        have hsum : Hid (wrap64 (wrap64 (gwPart ps n b a k) + wrap64 (gw ps n b y)) = wrap64 (gwPart ps n b a (k + 1))) := hid (by rw [wrap64_add, gwPart_succ (by have := Hm.out; omega), ← hy])
        have hi0 : (0 : Int) ≤ (k : Int) := by omega
        have hi1 : (k : Int) < (m : Int) := by omega
        have HB := hid hB
        clear hy hym hB
        go_wp2_with fail
        refine HC.out.mono ?_
        rintro e w2 ⟨rfl, hB2⟩
        have HB2 := hid (HB.out.trans (hB2.mono HB.out.size))
        clear hB2
        go_wp2_with fail
        go_roundw
        case rel => exact ⟨k + 1, by omega, by go_num, by first | exact congrArg (Value.int .i64) hsum.out | (rw [← hsum.out]; done), HB2.out⟩
        case measure => simp [intOf]; omega
      · obtain rfl : k = m := by omega
        go_wp2_with fail
        go_ret
        exact ⟨ret_int (by rw [HE.out]), HB1.out.trans (hB.mono HB1.out.size)⟩
  · go_enter Try.func65, Try.ntmps65
    go_wp2_with fail
    refine HN.out.mono ?_
    rintro e w1 ⟨g, c, rfl, hR⟩
    obtain ⟨hgb, av, cv, hve, hs⟩ := ownsRow_slI hR.1
    injection hve with hve1 hve2 hve3
    clear hve2 hve3
    subst hve1
    have HS := hid hs
    have HB1 := hid hR.2
    clear hR hs hgb
    go_wp2_with fail
    go_loopw [7, 9] (fun t i wr => ∃ k : Nat, k ≤ m ∧ i = .int .i64 k ∧ t = .int .i64 (wrap64 (gwPart ps n b a k)) ∧ Below w1.heap.size w1 wr) (fun _ i _ => m - (intOf i).toNat)
    case atStart => exact ⟨0, Nat.zero_le _, rfl, by rw [← hst.out]; rfl, Below.refl _ _⟩
    case round =>
      obtain ⟨k, hk, rfl, rfl, hB⟩ := hrel
      by_cases hlt : k < m
      · obtain ⟨y, hy⟩ : ∃ y, y = (nextL ps n a)[k]?.getD 0 := ⟨_, rfl⟩
        obtain ⟨hgb, hcell⟩ : g < w1.heap.size ∧ wr.cell? ⟨g, k, none⟩ = some (.int .i64 y) := by
          rw [show k = 0 + k by omega]
          rcases HS.out with h | ⟨b', o', hb', e', h'⟩
          · have := Hm.out; rw [h] at this; simp at this; omega
          · injection e' with e'
            injection e' with e1 e2
            subst e1
            subst e2
            have h2 := h' k (by have := Hm.out; omega)
            rw [← hy] at h2
            exact ⟨hb', (hB.cell (p := ⟨g, 0 + k, none⟩) hb').trans h2⟩
        have hym : y ∈ nextL ps n a := by rw [hy]; exact getD_mem (by have := Hm.out; omega)
        have HC := hid (HH.out y hym wr (HB1.out.trans (hB.mono HB1.out.size)))
        have hsum : Hid (wrap64 (wrap64 (gwPart ps n b a k) + wrap64 (gw ps n b y)) = wrap64 (gwPart ps n b a (k + 1))) := hid (by rw [wrap64_add, gwPart_succ (by have := Hm.out; omega), ← hy])
        have hi0 : (0 : Int) ≤ (k : Int) := by omega
        have hi1 : (k : Int) < (m : Int) := by omega
        have HB := hid hB
        clear hy hym hB
        go_wp2_with fail
        refine HC.out.mono ?_
        rintro e w2 ⟨rfl, hB2⟩
        have HB2 := hid (HB.out.trans (hB2.mono HB.out.size))
        clear hB2
        go_wp2_with fail
        go_roundw
        case rel => exact ⟨k + 1, by omega, by go_num, by first | exact congrArg (Value.int .i64) hsum.out | (rw [← hsum.out]; done), HB2.out⟩
        case measure => simp [intOf]; omega
      · obtain rfl : k = m := by omega
        go_wp2_with fail
        go_ret
        exact ⟨ret_int (by rw [HE.out]), HB1.out.trans (hB.mono HB1.out.size)⟩

theorem ways_upto (a1 : Option Addr) (n cap : Nat) (ps : List Int) (b : Int) (hp : ps.length = 2 * n) (hl : n ≤ 1048576) (hh : HighsB ps n) (hc : NoCycle ps n) : ∀ (m : Nat) (a : Int) (w : World), SlI w w.heap.size a1 ps → (∀ i, i < n → at0 ps (i * 2) = a → rkP ps n i < m) →
    Calls Try.prog 65 #[.slice a1 n cap, .int .i64 a, .int .i64 b] w fun e w' => e = .returned (.int .i64 (wrap64 (gw ps n b a))) ∧ Below w.heap.size w w'
  | 0, a, w, hx, hr => ways_round a1 n cap ps b a w hx hp hl hh hc (fun y hy => by
    obtain ⟨i, hi, e⟩ := next_low hy
    exact absurd (hr i hi e) (Nat.not_lt_zero _))
  | m + 1, a, w, hx, hr => ways_round a1 n cap ps b a w hx hp hl hh hc (fun y hy w' hb => ways_upto a1 n cap ps b hp hl hh hc m y w' (hx.later hb hb.size) (fun j hj e => by
    obtain ⟨i, hi, e2⟩ := next_low hy
    have h1 := hr i hi e2
    have h2 := rkP_lt hc hj (show StepP ps n i j by unfold StepP; rw [e, e2]; exact hy)
    omega))
/-- The model's number of ways. -/
theorem ways_any (a1 : Option Addr) (n cap : Nat) (ps : List Int) (b a : Int) (w : World) (hx : SlI w w.heap.size a1 ps) (hp : ps.length = 2 * n) (hl : n ≤ 1048576) (hh : HighsB ps n) (hc : NoCycle ps n) :
    Calls Try.prog 65 #[.slice a1 n cap, .int .i64 a, .int .i64 b] w fun e w' => e = .returned (.int .i64 (wrap64 (gw ps n b a))) ∧ Below w.heap.size w w' :=
  ways_upto a1 n cap ps b hp hl hh hc (n + 1) a w hx (fun i _ _ => by have := rkP_le ps n i; omega)

end Go.Proofs.Ytbgkalkipalndaa

/-! IsAcyclicPairing, the model's door. -/
namespace Go.Proofs.Ytbgkalkipalndaa
open Go.RowKit

noncomputable def isAcyclicR (V : Int) (fs : List Int) (n : Nat) (ps : List Int) : Bool × Int := if pcodeR V fs n ps = 0 then (acyB ps n, 0) else (false, pcodeR V fs n ps)
theorem okTo_lows {V : Int} {fs ps : List Int} {n : Nat} (hC : IsC V fs) (h : OkTo fs ps n) : ∀ i, i < n → 0 ≤ at0 ps (i * 2) ∧ at0 ps (i * 2) < 64 := by
  intro i hi
  have hp := (h i hi).1
  unfold pairB at hp
  simp at hp
  have := hC.range63 _ hp.1.1.1
  omega
theorem bool_mono2 {fn : FuncId} {args : Array Value} {w : World} {B : Nat} {P : Program} {R : Bool × Int} {b : Bool} {c : Int} (hR : R = (b, c))
    (h : Calls P fn args w fun e w' => e = .returned (.tuple #[.bool b, .int .i64 c]) ∧ Below B w w') :
    Calls P fn args w fun e w' => e = .returned (.tuple #[.bool R.1, .int .i64 R.2]) ∧ Below B w w' := by
  subst hR
  exact h


end Go.Proofs.Ytbgkalkipalndaa

/-! CountGradientWays: the model's doors. -/
namespace Go.Proofs.Ytbgkalkipalndaa
open Go.RowKit

noncomputable def code2R (V : Int) (fs : List Int) (n : Nat) (ps : List Int) (a b : Int) : Int := if pcodeR V fs n ps = 0 then (if a ∈ fs ∧ b ∈ fs then 0 else 2) else pcodeR V fs n ps
noncomputable def countWaysR (V : Int) (fs : List Int) (n : Nat) (ps : List Int) (a b : Int) : Int × Int := if code2R V fs n ps a b = 0 then (if acyB ps n then (wrap64 (gw ps n b a), 0) else (0, 5)) else (0, code2R V fs n ps a b)

set_option maxRecDepth 1000000 in
set_option maxHeartbeats 2000000 in
theorem code2_spec (V : Int) (a0 : Option Addr) (cap : Nat) (fs : List Int) (a1 : Option Addr) (n cap1 : Nat) (ps : List Int) (a b : Int) (bf : Nat) (w : World) (hx : SlI w w.heap.size a0 fs) (hx1 : SlI w w.heap.size a1 ps) (hl : fs.length ≤ 1048576) (hp : ps.length = 2 * n) (hn : n ≤ 1048576)
    (hbf : bf < w.heap.size) (hcf : w.cell? ⟨bf, 0, none⟩ = some (.int .i64 a)) (hcg : w.cell? ⟨bf, 1, none⟩ = some (.int .i64 b)) :
    Calls Try.prog 50 #[.agg #[.int .i64 V, .slice a0 fs.length cap], .slice a1 n cap1, .slice (some ⟨bf, 0, none⟩) 2 2] w fun e w' => e = .returned (.int .i64 (code2R V fs n ps a b)) ∧ Below w.heap.size w w' := by
  have hB0 : Below w.heap.size w (w.alloc (.cells #[.int .i64 V, .slice a0 fs.length cap] 30)) := (Below.refl _ w).alloc (Nat.le_refl _) _
  have Hx := hid (hx.later hB0 hB0.size)
  have Hx0 := hid hx
  have Hy := hid hx1
  clear hx hx1
  obtain ⟨E, hE⟩ : ∃ E, E = code2R V fs n ps a b := ⟨_, rfl⟩
  rw [← hE]
  rcases pcode_cases V fs n ps with ⟨hC, _, h0, _, h1⟩ | ⟨hC, _, h0, _, h1⟩ | ⟨hC, h0, _⟩
  · have HC := hid hC
    have hE1 : E = if a ∈ fs ∧ b ∈ fs then 0 else 2 := by rw [hE, code2R, if_pos h0]
    clear hC h0 hE
    go_enter Try.func50, Try.ntmps50
    go_wp2_with fail
    refine (is_yes V a0 cap fs _ Hx.out hl HC.out).mono ?_
    rintro e w1 ⟨rfl, hB1⟩
    have HB1 := hid (hB0.trans (hB1.mono (by simp)))
    have k0 : w1.cell? ⟨w.heap.size, 0, none⟩ = some (.int .i64 V) := (hB1.cell (p := ⟨w.heap.size, 0, none⟩) (by simp)).trans (by simp [go_sem])
    have k1 : w1.cell? ⟨w.heap.size, 1, none⟩ = some (.slice a0 fs.length cap) := (hB1.cell (p := ⟨w.heap.size, 1, none⟩) (by simp)).trans (by simp [go_sem])
    have hs1 : w.heap.size < w1.heap.size := by have := hB1.size; simp at this; omega
    have HI := hid (pis_any V a0 cap fs a1 n cap1 ps w1 (Hx0.out.later HB1.out HB1.out.size) (Hy.out.later HB1.out HB1.out.size) hl HC.out.range63 hp hn)
    rw [h1] at HI
    clear hB0 hB1 h1 hp
    go_wp2_with fail
    refine HI.out.mono ?_
    rintro e w2 ⟨rfl, hB2⟩
    have n0 : w2.cell? ⟨w.heap.size, 0, none⟩ = some (.int .i64 V) := (hB2.cell (p := ⟨w.heap.size, 0, none⟩) hs1).trans k0
    have n1 : w2.cell? ⟨w.heap.size, 1, none⟩ = some (.slice a0 fs.length cap) := (hB2.cell (p := ⟨w.heap.size, 1, none⟩) hs1).trans k1
    have HB2 := hid (HB1.out.trans (hB2.mono HB1.out.size))
    have n2 : w2.cell? ⟨bf, 0, none⟩ = some (.int .i64 a) := (HB2.out.cell (p := ⟨bf, 0, none⟩) hbf).trans hcf
    have n3 : w2.cell? ⟨bf, 1, none⟩ = some (.int .i64 b) := (HB2.out.cell (p := ⟨bf, 1, none⟩) hbf).trans hcg
    have hs2 : w.heap.size < w2.heap.size := Nat.lt_of_lt_of_le hs1 hB2.size
    have HB2d : Hid (Below w.heap.size w w2.drew) := hid (HB2.out.trans ⟨rfl, rfl, rfl, Nat.le_refl _, fun _ _ => rfl⟩)
    clear hB2 k0 k1 hcf hcg
    have hbf2 := hbf
    by_cases ha : a ∈ fs
    · have HA := hid (has_yes V a a0 cap fs w2.drew (Hx0.out.later HB2d.out HB2d.out.size) hl ha)
      by_cases hb : b ∈ fs
      · have He : Hid (E = 0) := hid (by rw [hE1, if_pos ⟨ha, hb⟩])
        have HBb := hid (fun w' (h : Below w.heap.size w w') => has_yes V b a0 cap fs w' (Hx0.out.later h h.size) hl hb)
        clear hE1 ha hb
        go_wp2_with fail
        refine wp_loop_rounds 3 ?_
        rw [rounds_succ]
        go_wp2_with fail
        go_region_held3 (fun w' => w'.cell? ⟨w.heap.size, 0, none⟩ = some (.int .i64 V) ∧ w'.cell? ⟨w.heap.size, 1, none⟩ = some (.slice a0 fs.length cap) ∧ w'.cell? ⟨bf, 0, none⟩ = some (.int .i64 a) ∧ w'.cell? ⟨bf, 1, none⟩ = some (.int .i64 b)) (go_keep) (first
          | (go_at_call 76; refine HA.out.mono ?_; rintro e w3 ⟨rfl, hBw3⟩; have mw30 := (hBw3.cell (p := ⟨w.heap.size, 0, none⟩) hs2).trans n0; have mw31 := (hBw3.cell (p := ⟨w.heap.size, 1, none⟩) hs2).trans n1; have mw32 := (hBw3.cell (p := ⟨bf, 0, none⟩) (Nat.lt_trans hbf2 hs2)).trans n2; have mw33 := (hBw3.cell (p := ⟨bf, 1, none⟩) (Nat.lt_trans hbf2 hs2)).trans n3; have HBw3 := hid hBw3; clear hBw3))
        all_goals
          have HB4 := hid (HB2d.out.trans (HBw3.out.mono HB2d.out.size))
          have HA4 := hid (HBb.out w3.drew (HB4.out.trans ⟨rfl, rfl, rfl, Nat.le_refl _, fun _ _ => rfl⟩))
          have HB4d : Hid (Below w.heap.size w w3.drew) := hid (HB4.out.trans ⟨rfl, rfl, rfl, Nat.le_refl _, fun _ _ => rfl⟩)
          have hs3 : w.heap.size < w3.heap.size := Nat.lt_of_lt_of_le hs2 HBw3.out.size
          clear HBw3 HBb HA
          go_wp2_with fail
          rw [rounds_succ]
          go_wp2_with fail
          go_region_held3 (fun w' => w'.cell? ⟨w.heap.size, 0, none⟩ = some (.int .i64 V) ∧ w'.cell? ⟨w.heap.size, 1, none⟩ = some (.slice a0 fs.length cap) ∧ w'.cell? ⟨bf, 0, none⟩ = some (.int .i64 a) ∧ w'.cell? ⟨bf, 1, none⟩ = some (.int .i64 b)) (go_keep) (first
            | (go_at_call 76; refine HA4.out.mono ?_; rintro e w4 ⟨rfl, hBw4⟩; have mw40 := (hBw4.cell (p := ⟨w.heap.size, 0, none⟩) hs3).trans mw30; have mw41 := (hBw4.cell (p := ⟨w.heap.size, 1, none⟩) hs3).trans mw31; have mw42 := (hBw4.cell (p := ⟨bf, 0, none⟩) (Nat.lt_trans hbf2 hs3)).trans mw32; have mw43 := (hBw4.cell (p := ⟨bf, 1, none⟩) (Nat.lt_trans hbf2 hs3)).trans mw33; have HBw4 := hid hBw4; clear hBw4))
          all_goals
            have HB5 := hid (HB4d.out.trans (HBw4.out.mono HB4d.out.size))
            go_wp2_with fail
            rw [rounds_succ]
            go_wp2_with fail
            go_ret
            exact ⟨ret_int (by rw [He.out]), HB5.out⟩
      · have He : Hid (E = 2) := hid (by rw [hE1, if_neg (fun h => hb h.2)])
        have HBb := hid (fun w' (h : Below w.heap.size w w') => has_no V b a0 cap fs w' (Hx0.out.later h h.size) hl hb)
        clear hE1 ha hb
        go_wp2_with fail
        refine wp_loop_rounds 3 ?_
        rw [rounds_succ]
        go_wp2_with fail
        go_region_held3 (fun w' => w'.cell? ⟨w.heap.size, 0, none⟩ = some (.int .i64 V) ∧ w'.cell? ⟨w.heap.size, 1, none⟩ = some (.slice a0 fs.length cap) ∧ w'.cell? ⟨bf, 0, none⟩ = some (.int .i64 a) ∧ w'.cell? ⟨bf, 1, none⟩ = some (.int .i64 b)) (go_keep) (first
          | (go_at_call 76; refine HA.out.mono ?_; rintro e w3 ⟨rfl, hBw3⟩; have mw30 := (hBw3.cell (p := ⟨w.heap.size, 0, none⟩) hs2).trans n0; have mw31 := (hBw3.cell (p := ⟨w.heap.size, 1, none⟩) hs2).trans n1; have mw32 := (hBw3.cell (p := ⟨bf, 0, none⟩) (Nat.lt_trans hbf2 hs2)).trans n2; have mw33 := (hBw3.cell (p := ⟨bf, 1, none⟩) (Nat.lt_trans hbf2 hs2)).trans n3; have HBw3 := hid hBw3; clear hBw3))
        all_goals
          have HB4 := hid (HB2d.out.trans (HBw3.out.mono HB2d.out.size))
          have HA4 := hid (HBb.out w3.drew (HB4.out.trans ⟨rfl, rfl, rfl, Nat.le_refl _, fun _ _ => rfl⟩))
          have HB4d : Hid (Below w.heap.size w w3.drew) := hid (HB4.out.trans ⟨rfl, rfl, rfl, Nat.le_refl _, fun _ _ => rfl⟩)
          have hs3 : w.heap.size < w3.heap.size := Nat.lt_of_lt_of_le hs2 HBw3.out.size
          clear HBw3 HBb HA
          go_wp2_with fail
          rw [rounds_succ]
          go_wp2_with fail
          go_region_held3 (fun w' => w'.cell? ⟨w.heap.size, 0, none⟩ = some (.int .i64 V) ∧ w'.cell? ⟨w.heap.size, 1, none⟩ = some (.slice a0 fs.length cap) ∧ w'.cell? ⟨bf, 0, none⟩ = some (.int .i64 a) ∧ w'.cell? ⟨bf, 1, none⟩ = some (.int .i64 b)) (go_keep) (first
            | (go_at_call 76; refine HA4.out.mono ?_; rintro e w4 ⟨rfl, hBw4⟩; have mw40 := (hBw4.cell (p := ⟨w.heap.size, 0, none⟩) hs3).trans mw30; have mw41 := (hBw4.cell (p := ⟨w.heap.size, 1, none⟩) hs3).trans mw31; have mw42 := (hBw4.cell (p := ⟨bf, 0, none⟩) (Nat.lt_trans hbf2 hs3)).trans mw32; have mw43 := (hBw4.cell (p := ⟨bf, 1, none⟩) (Nat.lt_trans hbf2 hs3)).trans mw33; have HBw4 := hid hBw4; clear hBw4))
          all_goals
            have HB5 := hid (HB4d.out.trans (HBw4.out.mono HB4d.out.size))
            go_wp2_with fail
            go_ret
            exact ⟨ret_int (by rw [He.out]), HB5.out⟩
    · have He : Hid (E = 2) := hid (by rw [hE1, if_neg (fun h => ha h.1)])
      have HA := hid (has_no V a a0 cap fs w2.drew (Hx0.out.later HB2d.out HB2d.out.size) hl ha)
      clear hE1 ha
      go_wp2_with fail
      refine wp_loop_rounds 3 ?_
      rw [rounds_succ]
      go_wp2_with fail
      go_region_held3 (fun w' => w'.cell? ⟨w.heap.size, 0, none⟩ = some (.int .i64 V) ∧ w'.cell? ⟨w.heap.size, 1, none⟩ = some (.slice a0 fs.length cap) ∧ w'.cell? ⟨bf, 0, none⟩ = some (.int .i64 a) ∧ w'.cell? ⟨bf, 1, none⟩ = some (.int .i64 b)) (go_keep) (first
        | (go_at_call 76; refine HA.out.mono ?_; rintro e w3 ⟨rfl, hBw3⟩; have mw30 := (hBw3.cell (p := ⟨w.heap.size, 0, none⟩) hs2).trans n0; have mw31 := (hBw3.cell (p := ⟨w.heap.size, 1, none⟩) hs2).trans n1; have mw32 := (hBw3.cell (p := ⟨bf, 0, none⟩) (Nat.lt_trans hbf2 hs2)).trans n2; have mw33 := (hBw3.cell (p := ⟨bf, 1, none⟩) (Nat.lt_trans hbf2 hs2)).trans n3; have HBw3 := hid hBw3; clear hBw3))
      all_goals
        have HB4 := hid (HB2d.out.trans (HBw3.out.mono HB2d.out.size))
        go_wp2_with fail
        go_ret
        exact ⟨ret_int (by rw [He.out]), HB4.out⟩
  · have He : Hid (E = 2) := hid (by rw [hE, code2R, if_neg (by rw [h0]; decide), h0])
    have HC := hid hC
    clear hC h0 hE
    go_enter Try.func50, Try.ntmps50
    go_wp2_with fail
    refine (is_yes V a0 cap fs _ Hx.out hl HC.out).mono ?_
    rintro e w1 ⟨rfl, hB1⟩
    have HB1 := hid (hB0.trans (hB1.mono (by simp)))
    have k0 : w1.cell? ⟨w.heap.size, 0, none⟩ = some (.int .i64 V) := (hB1.cell (p := ⟨w.heap.size, 0, none⟩) (by simp)).trans (by simp [go_sem])
    have k1 : w1.cell? ⟨w.heap.size, 1, none⟩ = some (.slice a0 fs.length cap) := (hB1.cell (p := ⟨w.heap.size, 1, none⟩) (by simp)).trans (by simp [go_sem])
    have HI := hid (pis_any V a0 cap fs a1 n cap1 ps w1 (Hx0.out.later HB1.out HB1.out.size) (Hy.out.later HB1.out HB1.out.size) hl HC.out.range63 hp hn)
    rw [h1] at HI
    clear hB0 hB1 h1 hp
    go_wp2_with fail
    refine HI.out.mono ?_
    rintro e w2 ⟨rfl, hB2⟩
    go_wp2_with fail
    go_ret
    exact ⟨ret_int (by rw [He.out]), HB1.out.trans (hB2.mono HB1.out.size)⟩
  · have He : Hid (E = 1) := hid (by rw [hE, code2R, if_neg (by rw [h0]; decide), h0])
    clear h0 hE
    go_enter Try.func50, Try.ntmps50
    go_wp2_with fail
    refine (is_no V a0 cap fs _ Hx.out hl hC).mono ?_
    rintro e w1 ⟨rfl, hB1⟩
    go_wp2_with fail
    go_ret
    exact ⟨ret_int (by rw [He.out]), hB0.trans (hB1.mono (by simp))⟩

theorem num_mono3 {fn : FuncId} {args : Array Value} {w : World} {B : Nat} {P : Program} {R : Int × Int} {b c : Int} (hR : R = (b, c))
    (h : Calls P fn args w fun e w' => e = .returned (.tuple #[.int .i64 b, .int .i64 c]) ∧ Below B w w') :
    Calls P fn args w fun e w' => e = .returned (.tuple #[.int .i64 R.1, .int .i64 R.2]) ∧ Below B w w' := by
  rw [hR]; exact h


end Go.Proofs.Ytbgkalkipalndaa

/-! A queue: a row of int64 that is cut at its front and grows at its end. -/
namespace Go.Proofs.Ytbgkalkipalndaa
open Go.RowKit

structure QAt (W : World) (base g off cap : Nat) (cur : Array Value) (xs : List Int) : Prop where
  base : base ≤ g
  heap : W.heap[g]? = some (.cells cur 2 (0, 0))
  len : xs.length ≤ cap
  size : off + cap ≤ cur.size
  at_ : ∀ i, i < xs.length → cur[off + i]? = some (.int .i64 (xs[i]?.getD 0))
def OwnsQ (W : World) (base : Nat) (v : Value) (xs : List Int) : Prop := ∃ g off cap cur, v = .slice (some ⟨g, off, none⟩) xs.length cap ∧ QAt W base g off cap cur xs

theorem QAt.cell {W : World} {base g off cap : Nat} {cur : Array Value} {xs : List Int} (h : QAt W base g off cap cur xs) {i : Nat} (hi : i < xs.length) : W.cell? ⟨g, off + i, none⟩ = some (.int .i64 (xs[i]?.getD 0)) := by
  rw [cell_of_row W g (off + i) cur _ (0, 0) h.heap]
  exact h.at_ i hi
theorem QAt.lt {W : World} {base g off cap : Nat} {cur : Array Value} {xs : List Int} (h : QAt W base g off cap cur xs) : g < W.heap.size := (Array.getElem?_eq_some_iff.1 h.heap).1
theorem OwnsQ.kept {W W' : World} {base : Nat} {v : Value} {xs : List Int} {row : Option Nat} (h : OwnsQ W base v xs) (hg : W.grownBy W' row) (hne : v.ownBlock ≠ row) : OwnsQ W' base v xs := by
  obtain ⟨g, off, cap, cur, rfl, q⟩ := h
  exact ⟨g, off, cap, cur, rfl, q.base, (hg.block g q.lt (by simpa [Value.ownBlock] using hne)).trans q.heap, q.len, q.size, q.at_⟩
theorem OwnsQ.lt {W : World} {base : Nat} {v : Value} {xs : List Int} (h : OwnsQ W base v xs) : ∃ g, v.ownBlock = some g ∧ base ≤ g ∧ g < W.heap.size := by
  obtain ⟨g, off, cap, cur, rfl, q⟩ := h
  exact ⟨g, rfl, q.base, q.lt⟩

theorem OwnsQ.form {W : World} {base : Nat} {v : Value} {xs : List Int} (h : OwnsQ W base v xs) : ∃ g off cap, v = .slice (some ⟨g, off, none⟩) xs.length cap := by
  obtain ⟨g, off, cap, _, e, _⟩ := h
  exact ⟨g, off, cap, e⟩

/-- 'append(queue, x)', as the run of the operation. -/
theorem OwnsQ.push {W : World} {base : Nat} {v : Value} {xs : List Int} (h : OwnsQ W base v xs) (hb : base ≤ W.heap.size) (hl : xs.length ≤ 1048576) (ty : TypeId) (ad : Addr) (c : Nat) (x : Int) (hx : W.cell? (ad.add 0) = some (.int .i64 x)) :
    ∃ v' W', (Builtin.append_ #[22, 22] ty #[v, .slice (some ad) 1 c]).run Try.prog W = .ok v' W' ∧ OwnsQ W' base v' (xs ++ [x]) ∧ W.grownBy W' v.ownBlock ∧ (v'.ownBlock = v.ownBlock ∨ ∃ k, v'.ownBlock = some k ∧ W.heap.size ≤ k) := by
  obtain ⟨i0, hi, hz0, hz1, hz2⟩ := info_parts info_i64
  obtain ⟨g, off, cap, cur, rfl, q⟩ := h
  have hnews : ∀ j u, [Value.int .i64 x][j]? = some u → W.cell? (ad.add j) = some u := by
    intro j u hj
    match j, hj with
    | 0, hj => simp at hj; subst hj; exact hx
  by_cases hroom : xs.length + 1 ≤ cap
  · have hcl : W.cell? ⟨g, off + xs.length, none⟩ = cur[off + xs.length]? := cell_of_row W g (off + xs.length) cur _ (0, 0) q.heap
    have hlt : off + xs.length < cur.size := by have := q.size; omega
    have hr := run_append_room_cells (P := Try.prog) W 22 ty 2 i0 Try.underlying22 hi g off xs.length cap ad 1 c [.int .i64 x] (by rw [hz1]; rfl) hnews (by simp [Value.oneCell']) hroom
      (fun j hj => by
        have : j = 0 := by simpa using hj
        subst this
        rw [hz1, Nat.mul_one, Nat.add_zero, hcl, Array.getElem?_eq_getElem hlt]; rfl)
      (fun j hj => by simp [World.frozen?, q.heap])
    rw [hz1, Nat.mul_one] at hr
    have hh : (W.setCell ⟨g, off + xs.length, none⟩ (.int .i64 x)).heap[g]? = some (.cells (cur.setIfInBounds (off + xs.length) (.int .i64 x)) 2 (0, 0)) := by
      simp only [World.setCell, Array.getElem?_modify, q.heap]
      simp
    refine ⟨_, _, hr, ⟨g, off, cap, cur.setIfInBounds (off + xs.length) (.int .i64 x), by simp, q.base, hh, by simp; omega, by simp; exact q.size, fun i hi => ?_⟩, grownBy_set W ⟨g, off + xs.length, none⟩ _, .inl rfl⟩
    by_cases e : i = xs.length
    · subst e
      simp [hlt]
    · have hil : i < xs.length := by simp at hi; omega
      rw [Array.getElem?_setIfInBounds_ne (by omega), q.at_ i hil, List.getElem?_append_left hil]
  · have hcap : cap = xs.length := by have := q.len; omega
    obtain ⟨v', W', hr, hown, hg⟩ := run_append_arg_grows (P := Try.prog) W 22 ty 2 i0 (.int .i64 0) 1 8 Try.underlying22 hi hz0 hz1 hz2 rfl (by decide) ⟨g, off, none⟩ xs.length cap (xs.map (Value.int .i64)) (by simp)
      (fun j u hj => by
        have hjl : j < xs.length := by have := (List.getElem?_eq_some_iff.1 hj).1; simpa using this
        have hadd : (⟨g, off, none⟩ : Addr).add j = ⟨g, off + j, none⟩ := by unfold Addr.add; split <;> simp_all
        rw [hadd, q.cell hjl]
        rw [List.getElem?_map, List.getElem?_eq_getElem hjl] at hj
        rw [List.getElem?_eq_getElem hjl]
        simpa using hj)
      ad 1 c [.int .i64 x] (by simp) hnews (by omega) (by unfold maxLen; omega) (by omega)
    rcases hown.2 with ⟨_, h0⟩ | ⟨g', cap', cur', rfl, hg', hh', h1, _, h3, h4⟩
    · omega
    · refine ⟨_, W', hr, ⟨g', 0, cap', cur', by simp, Nat.le_trans hb hg', hh', by simpa using h1, by omega, fun i hi => ?_⟩, ⟨hg.os, hg.tape, hg.output, hg.size, fun k hk _ => hg.block k hk (by simp)⟩, .inr ⟨g', rfl, hg'⟩⟩
      · have h5 : (cur'.toList.take ((xs.length + 1) * 1))[i]? = (xs.map (Value.int .i64) ++ [.int .i64 x])[i]? := by rw [h4]
        have hi' : i < xs.length + 1 := by simpa using hi
        rw [List.getElem?_take, if_pos (by omega)] at h5
        rw [Nat.zero_add, ← Array.getElem?_toList, h5]
        by_cases e : i = xs.length
        · subst e; simp
        · have hil : i < xs.length := by omega
          rw [List.getElem?_append_left (by simpa using hil), List.getElem?_append_left hil, List.getElem?_map, List.getElem?_eq_getElem hil]
          rfl

/-- 'queue[0]' and 'queue[1:]'. -/
theorem OwnsQ.pop {W : World} {base : Nat} {v : Value} {x : Int} {xs : List Int} (h : OwnsQ W base v (x :: xs)) :
    ∃ g off cap, v = .slice (some ⟨g, off, none⟩) (xs.length + 1) cap ∧ xs.length + 1 ≤ cap ∧ W.cell? ⟨g, off, none⟩ = some (.int .i64 x) ∧
      (cap ≠ 1 → OwnsQ W base (.slice (some ⟨g, off + 1, none⟩) xs.length (cap - 1)) xs) ∧ (cap = 1 → OwnsQ W base (.slice (some ⟨g, off, none⟩) xs.length 0) xs) := by
  obtain ⟨g, off, cap, cur, rfl, q⟩ := h
  have hl := q.len
  have hs := q.size
  simp only [List.length_cons] at hl
  refine ⟨g, off, cap, by simp, hl, by have := q.cell (i := 0) (by simp); simpa using this, fun hc => ⟨g, off + 1, cap - 1, cur, rfl, q.base, q.heap, by omega, by omega, fun i hi => ?_⟩, fun hc => ⟨g, off, 0, cur, rfl, q.base, q.heap, by omega, by omega, fun i hi => absurd hi (by omega)⟩⟩
  have := q.at_ (i + 1) (by simp; omega)
  rw [show off + 1 + i = off + (i + 1) by omega, this]
  simp
/-- '[]int64{a}'. -/
theorem OwnsQ.one {W : World} {base : Nat} (hb : base ≤ W.heap.size) (a : Int) : OwnsQ (W.alloc (.cells #[.int .i64 a] 2)) base (.slice (some ⟨W.heap.size, 0, none⟩) 1 1) [a] :=
  ⟨W.heap.size, 0, 1, #[.int .i64 a], rfl, hb, heap_alloc_new W _, by simp, by simp, fun i hi => by
    have : i = 0 := by simpa using hi
    subst this
    rfl⟩

end Go.Proofs.Ytbgkalkipalndaa

/-! reachedFrom: the program's search. -/
namespace Go.Proofs.Ytbgkalkipalndaa
open Go.RowKit Go.Shelf Go.ChangeMaps

attribute [local go_sem] Oper.semAt_some

/-- 'append(queue, x)', at the operation. -/
theorem wpListIn_append_q {F : Fence} {nF : Nat} {w : World} {ops : Array Oper} {rest : List Oper} {o : Oper} {a : Act} {Q : Exit → Act → World → Prop} (hgd : o.guard = none) {s y : Operand}
    (ho : o.op = .call { callee := .builtin .append, args := #[s, y], argTypes := #[22, 22] })
    {base : Nat} {v : Value} {xs : List Int} {x : Int} (hq : OwnsQ w base v xs) (hb : base ≤ w.heap.size) (hl : xs.length ≤ 1048576)
    (hs : a.eval s = v) (hy : a.eval y = .slice (some ⟨w.heap.size, 0, none⟩) 1 1)
    (hK : ∀ v' w', OwnsQ w' base v' (xs ++ [x]) → w.grownBy w' v.ownBlock → (v'.ownBlock = v.ownBlock ∨ ∃ k, v'.ownBlock = some k ∧ w.heap.size < k) → wpListIn F nF Try.prog ops Q rest (a.put o.dst v') w') :
    wpListIn F nF Try.prog ops Q (o :: rest) a (w.alloc (.cells #[.int .i64 x] 2)) := by
  refine wpListIn_plain hgd fun K hK' => ?_
  have hq1 : OwnsQ (w.alloc (.cells #[.int .i64 x] 2)) base v xs := hq.kept (World.grownBy_alloc w _ none) (by obtain ⟨g, e, _⟩ := hq.lt; rw [e]; simp)
  obtain ⟨v', w', hr, h1, h2, h3⟩ := hq1.push (by simp; omega) hl o.type ⟨w.heap.size, 0, none⟩ 1 x (by simp [go_sem, Addr.add])
  unfold Oper.wpIn
  refine ⟨by simp [Oper.about, ho, resolve, Target.leads, Sem.run_pure], ?_⟩
  rw [Oper.semAt_plain F _ _ (by rw [ho]; intro c hc'; cases hc')]
  simp [execOp, ho, resolve, invoke, builtin, hs, hy, hr, Result.andThen]
  refine hK' _ _ (hK v' w' h1 ((World.grownBy_alloc w _ _).trans h2) ?_)
  rcases h3 with h | ⟨k, h, hk⟩
  · exact .inl h
  · exact .inr ⟨k, h, by simp at hk; omega⟩

/-- What the search keeps of the world. -/
structure RfW (w W : World) (met qs : List Int) (v : Value) (Ds : List Nat) : Prop where
  below : Below w.heap.size w W
  own : W.ownsMap Try.prog 2 (plainElem (H := Unit) Try.prog 4) w.heap.size met.length (knownD met)
  b5 : W.heap[w.heap.size + 1]? = some (.cells #[.map (some w.heap.size)] 107 (0, 0))
  b6 : W.heap[w.heap.size + 3]? = some (.cells #[v] 22 (0, 0))
  q : OwnsQ W w.heap.size v qs
  ne : ∀ g, v.ownBlock = some g → g = w.heap.size + 2 ∨ w.heap.size + 4 ≤ g
  off : ∀ D ∈ Ds, v.ownBlock ≠ some D
  nodup : Ds.Nodup
  marks : ∀ D ∈ Ds, w.heap.size + 4 ≤ D ∧ W.heap[D]? = some (.deferred (some []))
theorem RfW.size {w W : World} {met qs : List Int} {v : Value} {Ds : List Nat} (h : RfW w W met qs v Ds) : w.heap.size + 4 ≤ W.heap.size := by
  have := lt_of_get h.b6; omega
/-- A turn of what lies beyond. -/
theorem RfW.turn {w W W' : World} {met qs : List Int} {v : Value} {Ds : List Nat} (h : RfW w W met qs v Ds) {row : Option Nat} (hg : W.grownBy W' row) (hr : ∀ r, row = some r → w.heap.size + 4 ≤ r ∧ r ∉ Ds ∧ v.ownBlock ≠ some r) : RfW w W' met qs v Ds where
  below := h.below.grown hg (by have := h.size; omega) (fun k e => by have := (hr k e).1; omega)
  own := h.own.kept hg (fun e => by have := (hr _ e.symm).1; omega)
  b5 := (hg.block _ (lt_of_get h.b5) (fun e => by have := (hr _ e.symm).1; omega)).trans h.b5
  b6 := (hg.block _ (lt_of_get h.b6) (fun e => by have := (hr _ e.symm).1; omega)).trans h.b6
  q := h.q.kept hg (fun e => by
    obtain ⟨g, e1, _⟩ := h.q.lt
    rw [e1] at e
    exact (hr g e.symm).2.2 e1)
  ne := h.ne
  off := h.off
  nodup := h.nodup
  marks := fun D hD => ⟨(h.marks D hD).1, (hg.block _ (lt_of_get (h.marks D hD).2) (fun e => (hr _ e.symm).2.1 hD)).trans (h.marks D hD).2⟩
/-- A number is met. -/
theorem RfW.meet {w W W' : World} {met qs : List Int} {v : Value} {Ds : List Nat} (h : RfW w W met qs v Ds) {y : Int} (hown : W'.ownsMap Try.prog 2 (plainElem (H := Unit) Try.prog 4) w.heap.size (met.length + 1) ((knownD met).put (.int .i64 y) (.lit (.bool true)))) (hg : W.grownBy W' (some w.heap.size)) :
    RfW w W' (met ++ [y]) qs v Ds where
  below := h.below.grown hg (by have := h.size; omega) (fun k e => by cases e; exact Nat.le_refl _)
  own := by rw [knownD_snoc]; simpa using hown
  b5 := (hg.block _ (lt_of_get h.b5) (fun e => by injection e with e; omega)).trans h.b5
  b6 := (hg.block _ (lt_of_get h.b6) (fun e => by injection e with e; omega)).trans h.b6
  q := h.q.kept hg (fun e => by have := h.ne _ e; omega)
  ne := h.ne
  off := h.off
  nodup := h.nodup
  marks := fun D hD => ⟨(h.marks D hD).1, (hg.block _ (lt_of_get (h.marks D hD).2) (fun e => by injection e with e; have := (h.marks D hD).1; omega)).trans (h.marks D hD).2⟩
/-- The queue is another one, and its variable holds it. -/
theorem RfW.queue {w W W' : World} {met qs qs' : List Int} {v v' : Value} {Ds : List Nat} (h : RfW w W met qs v Ds) (hq : OwnsQ W' w.heap.size v' qs') (hg : W.grownBy W' v.ownBlock) (hat : v'.ownBlock = v.ownBlock ∨ ∃ k, v'.ownBlock = some k ∧ W.heap.size ≤ k) :
    RfW w (W'.setCell ⟨w.heap.size + 3, 0, none⟩ v') met qs' v' Ds := by
  obtain ⟨g, eg, hg1, hg2⟩ := h.q.lt
  have hgn := h.ne g eg
  have hsz := h.size
  rw [eg] at hg hat
  have hne' : ∀ k, v'.ownBlock = some k → k = w.heap.size + 2 ∨ w.heap.size + 4 ≤ k := fun k hk => by
    rcases hat with e | ⟨j, e, hj⟩
    · rw [e] at hk; injection hk with hk; omega
    · rw [e] at hk; injection hk with hk; omega
  have b6' : W'.heap[w.heap.size + 3]? = some (.cells #[v] 22 (0, 0)) := (hg.block _ (lt_of_get h.b6) (fun e => by injection e with e; omega)).trans h.b6
  have hgs := grownBy_set W' ⟨w.heap.size + 3, 0, none⟩ v'
  refine ⟨?_, ?_, ?_, ?_, hq.kept hgs (fun e => by have := hne' _ e; simp only at this; omega), hne', fun D hD e => ?_, h.nodup, fun D hD => ⟨(h.marks D hD).1, ?_⟩⟩
  · have hb := h.below.grown hg (by omega) (fun k e => by cases e; omega)
    exact hb.grown hgs (by have := hb.size; omega) (fun k e => by cases e; simp only; omega)
  · exact (h.own.kept hg (fun e => by injection e with e; omega)).kept hgs (fun e => by injection e with e; simp only at e; omega)
  · exact (Below.heap_setCell _ _ _ _ (by simp only; omega)).trans ((hg.block _ (lt_of_get h.b5) (fun e => by injection e with e; omega)).trans h.b5)
  · simp only [World.setCell, Array.getElem?_modify, b6']
    simp
  · rcases hat with e1 | ⟨j, e1, hj⟩
    · exact h.off D hD (by rw [eg, ← e1]; exact e)
    · rw [e1] at e
      injection e with e
      have := lt_of_get (h.marks D hD).2
      omega
  · exact (Below.heap_setCell _ _ _ _ (by have := (h.marks D hD).1; simp only; omega)).trans ((hg.block _ (lt_of_get (h.marks D hD).2) (fun e => by injection e with e; exact h.off D hD (by rw [eg, ← e]))).trans (h.marks D hD).2)

theorem RfW.mark {w W : World} {met qs : List Int} {v : Value} {Ds : List Nat} (h : RfW w W met qs v Ds) {D : Nat} (hD : W.heap[D]? = some (.deferred (some []))) (hb : w.heap.size + 4 ≤ D) (hn : D ∉ Ds) (hv : v.ownBlock ≠ some D) : RfW w W met qs v (D :: Ds) where
  below := h.below
  own := h.own
  b5 := h.b5
  b6 := h.b6
  q := h.q
  ne := h.ne
  off := fun E hE => by
    rcases List.mem_cons.1 hE with rfl | hE
    · exact hv
    · exact h.off E hE
  nodup := List.nodup_cons.2 ⟨hn, h.nodup⟩
  marks := fun E hE => by
    rcases List.mem_cons.1 hE with rfl | hE
    · exact ⟨hb, hD⟩
    · exact h.marks E hE
theorem rf_ownIn {w : World} {Ds : List Nat} {lo k : Nat} (g : List (Fin 64) → List Int × List Int) (hlo : w.heap.size + 4 ≤ lo) (hD : ∀ D ∈ Ds, D < lo) :
    OwnIn lo k (fun pre W' => ∃ v, RfW w W' (g pre).1 (g pre).2 v Ds ∧ ∀ j, v.ownBlock = some j → j < lo ∨ lo + k ≤ j) := by
  rintro s A B row ⟨v, h, hb⟩ hg hr
  refine ⟨v, h.turn hg (fun r e => ?_), hb⟩
  obtain ⟨h1, h2⟩ := hr r e
  refine ⟨by omega, fun hm => by have := hD r hm; omega, fun ev => ?_⟩
  rcases hb r ev with h3 | h3
  · omega
  · rcases h2 with h2 | ⟨o, ho, hc⟩
    · omega
    · obtain ⟨g', off', cap', cur', rfl, q'⟩ := h.q
      simp [Value.ownBlock] at ev
      subst ev
      rw [q'.heap] at ho
      injection ho with ho
      rw [← ho] at hc
      simp [Obj.isCells] at hc

theorem wpIn_loop_ghost {F : Fence} {nF : Nat} {P : Program} {Q : Exit → Act → World → Prop} {a : Act} {w : World} {c : Code} (I : Nat → Act → World → Prop) (n₀ : Nat) (h₀ : I n₀ a w)
    (round : ∀ g a w, I g a w → c.wpIn F nF P (Exit.then (fun a' w' => ∃ g', g' < g ∧ I g' a' w') Q) a w) : (Code.loop c).wpIn F nF P Q a w := by
  refine wpIn_loop (fun a w => ∃ g, I g a w) (fun a w => Go.leastOf (fun g => I g a w)) ⟨n₀, h₀⟩ ?_
  intro a w hI
  refine wpIn_mono (round _ a w (Go.leastOf_spec hI).1) ?_
  intro e a' w' hq
  cases e with
  | normal =>
    obtain ⟨g', hlt, hI'⟩ := hq
    exact show (∃ g, I g a' w') ∧ Go.leastOf (fun g => I g a' w') < Go.leastOf (fun g => I g a w) from ⟨⟨g', hI'⟩, Nat.lt_of_le_of_lt ((Go.leastOf_spec ⟨g', hI'⟩).2 g' hI') hlt⟩
  | exit id => exact hq
  | goto l => exact hq
  | ret => exact hq
  | panic ch => exact hq
  | outgrown => exact hq

theorem Bfs.range {ps : List Int} {n : Nat} (hh : HighsB ps n) {a x : Int} (h : x = a ∨ Way ps n a x) : x = a ∨ (0 ≤ x ∧ x < 64) := by
  rcases h with h | h
  · exact .inl h
  · cases h with
    | one h1 => exact .inr (next_range hh h1)
    | more _ h1 => exact .inr (next_range hh h1)

/-- The loop's state ahead of a round. -/
def RfInv (w : World) (M n : Nat) (ps : List Int) (a : Int) (g : Nat) (a' : Act) (W : World) : Prop :=
  ∃ (met qs : List Int) (v : Value) (Ds : List Nat) (us : Nat → Value), a' = { tmps := #[.map (some M), .int .i64 a, undef, undef, .map none, .pointer (some ⟨w.heap.size + 1, 0, none⟩), .pointer (some ⟨w.heap.size + 1 + 1 + 1, 0, none⟩), us 7, us 8, .map (some w.heap.size), .int .i64 a, .map (some w.heap.size), .int .i64 a, .slice (some ⟨w.heap.size + 1 + 1, 0, none⟩) 1 1, us 14, us 15, us 16, us 17, us 18, us 19, us 20, us 21, us 22, us 23, us 24, us 25, us 26, us 27, us 28, us 29, us 30, us 31, us 32, us 33, us 34, us 35, us 36], defers := marks Ds } ∧ Hid (RfW w W met qs v Ds) ∧ Hid (Bfs ps n a met qs) ∧ 2 * unmet met + qs.length ≤ g
theorem rfInv_of {w W : World} {M n : Nat} {ps : List Int} {a : Int} {g : Nat} {met qs : List Int} {v : Value} {Ds : List Nat} (tm : Array Value) (ds : List Deferred) (hds : ds = marks Ds) (h : tm = #[.map (some M), .int .i64 a, undef, undef, .map none, .pointer (some ⟨w.heap.size + 1, 0, none⟩), .pointer (some ⟨w.heap.size + 1 + 1 + 1, 0, none⟩), tm.getD 7 undef, tm.getD 8 undef, .map (some w.heap.size), .int .i64 a, .map (some w.heap.size), .int .i64 a, .slice (some ⟨w.heap.size + 1 + 1, 0, none⟩) 1 1, tm.getD 14 undef, tm.getD 15 undef, tm.getD 16 undef, tm.getD 17 undef, tm.getD 18 undef, tm.getD 19 undef, tm.getD 20 undef, tm.getD 21 undef, tm.getD 22 undef, tm.getD 23 undef, tm.getD 24 undef, tm.getD 25 undef, tm.getD 26 undef, tm.getD 27 undef, tm.getD 28 undef, tm.getD 29 undef, tm.getD 30 undef, tm.getD 31 undef, tm.getD 32 undef, tm.getD 33 undef, tm.getD 34 undef, tm.getD 35 undef, tm.getD 36 undef]) (HW : Hid (RfW w W met qs v Ds)) (HB : Hid (Bfs ps n a met qs)) (hg : 2 * unmet met + qs.length ≤ g) :
    RfInv w M n ps a g { tmps := tm, defers := ds } W :=
  ⟨met, qs, v, Ds, fun i => tm.getD i undef, by rw [hds]; exact congrArg (fun t => ({ tmps := t, defers := marks Ds } : Act)) h, HW, HB, hg⟩

set_option maxRecDepth 1000000 in
set_option maxHeartbeats 4000000 in
theorem reachedF_in (M N n : Nat) (ps : List Int) (a : Int) (w : World) (hown : w.ownsMap Try.prog 2 pairElem M N (lowsD ps n)) (hd : LowsApart ps n) (hh : HighsB ps n) (ha : (Lit.int .i64 a).wf = true) :
    CallsIn Fence.wide 10 Try.prog 129 #[.map (some M), .int .i64 a] w fun e w' => ∃ met, e = .returned (.map (some w.heap.size)) ∧ w'.ownsMap Try.prog 2 (plainElem (H := Unit) Try.prog 4) w.heap.size met.length (knownD met) ∧ Hid (Bfs ps n a met []) ∧ Below w.heap.size w w' := by
  have hmm := @run_makeMap Try.prog
  have hm0 := World.ownsMap_made w Try.prog 2 (plainElem (H := Unit) Try.prog 4)
  obtain ⟨wa, hrun1, hwa, ht⟩ := World.ownsMap.store hm0 (Maps.int_keyed Try.underlying2) Try.underlying107 (show 0 < maxLen by decide) (Maps.keyOf_int_mk Try.underlying2 ha) (plainElem_bool Try.underlying4 true)
  have hsa : wa.heap.size = w.heap.size + 1 := by
    obtain ⟨es, c, es', c', hb, rfl⟩ := ht
    simp [setBlock]
  have hga : (w.alloc (.map #[] 0)).grownBy wa (some w.heap.size) := by
    obtain ⟨es, c, es', c', hb, rfl⟩ := ht
    exact ⟨rfl, rfl, rfl, by simp [setBlock], fun i _ hi => heap_setBlock_other hb _ (fun e => hi (by rw [e]))⟩
  have hba : Below w.heap.size w wa := ((Below.refl _ w).alloc (Nat.le_refl _) _).grown hga (by simp) (fun r e => by cases e; exact Nat.le_refl _)
  have H0 : Hid (RfW w (((wa.alloc (.cells #[.map (some w.heap.size)] 107)).alloc (.cells #[.int .i64 a] 2)).alloc (.cells #[.slice (some ⟨w.heap.size + 2, 0, none⟩) 1 1] 22)) [a] [a] (.slice (some ⟨w.heap.size + 2, 0, none⟩) 1 1) []) := by
    have e3 := heap_alloc_new ((wa.alloc (.cells #[.map (some w.heap.size)] 107)).alloc (.cells #[.int .i64 a] 2)) (.cells #[.slice (some ⟨w.heap.size + 2, 0, none⟩) 1 1] 22)
    rw [World.size_alloc, World.size_alloc, hsa] at e3
    have e1 := heap_alloc_new wa (.cells #[.map (some w.heap.size)] 107)
    rw [hsa] at e1
    have q1 := OwnsQ.one (W := wa.alloc (.cells #[.map (some w.heap.size)] 107)) (base := w.heap.size) (by simp; omega) a
    rw [World.size_alloc, hsa] at q1
    exact hid {
      below := ((hba.alloc (by omega) _).alloc (by simp; omega) _).alloc (by simp; omega) _
      own := ((hwa.alloc _).alloc _).alloc _
      b5 := (Below.heap_alloc _ _ _ (by simp; omega)).trans ((Below.heap_alloc _ _ _ (by simp; omega)).trans e1)
      b6 := e3
      q := q1.kept (World.grownBy_alloc _ _ none) (by simp [Value.ownBlock])
      ne := fun g e => by simp [Value.ownBlock] at e; exact .inl e.symm
      off := by simp
      nodup := by simp
      marks := by simp }
  clear hm0 hwa ht hga hba
  have HL : Hid (∀ W, Below w.heap.size w W → W.ownsMap Try.prog 2 pairElem M N (lowsD ps n)) := hid (fun W hW => by
    have hlt := hown.lt
    obtain ⟨es, clock, hb, F, hs, hD⟩ := hown
    exact ⟨es, clock, (hW.block M hlt).trans hb, F, hs, hD⟩)
  have HH := hid hh
  have HD := hid hd
  have Ha := hid ha
  clear hown hh hd
  refine callsIn_of_wp_marks Try.func129 rfl trivial ?_ rfl
  simp only [Try.ntmps129, List.size_toArray, List.length_cons, List.length_nil, Nat.reduceAdd, Nat.reduceSub, Array.replicate_succ, Array.replicate_zero, List.push_toArray, List.append_toArray, List.nil_append, List.cons_append]
  gi_wp2
  clear hmm hrun1
  refine wpIn_loop_ghost (RfInv w M n ps a) 129 ?start ?round
  case start => exact rfInv_of (met := [a]) (qs := [a]) (Ds := []) _ _ rfl rfl H0 (hid (Bfs.begin ps n a)) (Bfs.begin ps n a).few
  case round =>
    rintro gg a' Wk ⟨met, qs, v, Ds, us, rfl, HW, HB, hgg⟩
    clear H0
    have hsz := HW.out.size
    cases qs with
    | nil =>
      obtain ⟨g, off, cap, cur, rfl, hq⟩ := HW.out.q
      obtain ⟨c6, _⟩ := box_cell HW.out.b6
      obtain ⟨c5, _⟩ := box_cell HW.out.b5
      have e6 : w.heap.size + 1 + 1 + 1 = w.heap.size + 3 := rfl
      clear hq
      gi_wp2
      refine leaves_marks (by simp) Ds _ HW.out.nodup (fun D hD => (HW.out.marks D hD).2) (fun w' hw' => ?_)
      have hno : w.heap.size ∉ Ds := fun hm => by have := (HW.out.marks _ hm).1; omega
      refine ⟨_, results_tmp rfl _ _ _, rfl, met, ?_, HB, HW.out.below.trans (hw'.below (fun D hD => by have := (HW.out.marks D hD).1; omega))⟩
      obtain ⟨es, clock, hb, F, hs, hD⟩ := HW.out.own
      exact ⟨es, clock, (hw'.block _ hno).trans hb, F, hs, hD⟩
    | cons x qs =>
      obtain ⟨g, off, cap, rfl, hcap, hcx, hp1, hp2⟩ := HW.out.q.pop
      obtain ⟨c6, f6⟩ := box_cell HW.out.b6
      obtain ⟨m, hm⟩ : ∃ m, m = qs.length := ⟨_, rfl⟩
      rw [← hm] at hcap hp1 hp2 c6
      have Hm := hid hm
      have hl0 : (0 : Int) < (m : Int) + 1 := by omega
      have hl1 : (1 : Int) ≤ (m : Int) + 1 := by omega
      have HP1 := hid hp1
      have HP2 := hid hp2
      have Hcap := hid hcap
      have e6 : w.heap.size + 1 + 1 + 1 = w.heap.size + 3 := rfl
      have hxw : (Lit.int .i64 x).wf = true := by
        rcases Bfs.range HH.out (HB.out.way x (HB.out.sub x (by simp))) with h | h
        · rw [h]; exact Ha.out
        · exact WalkArith.wf_i64 (by omega)
      have Hxw := hid hxw
      clear hm hp1 hp2 hxw
      gi_wp2_with (first
        | (refine ⟨trivial, ?_⟩; gi_at_call 130; refine (stepsFrom_in _ M x _).mono ?_; rintro e w' ⟨rfl, rfl⟩))
      case inl =>
        obtain ⟨v1, hv1⟩ : ∃ v1, v1 = Value.slice (some ⟨g, off, none⟩) m 0 := ⟨_, rfl⟩
        have HQ1 : Hid (OwnsQ Wk w.heap.size v1 qs) := hid (by rw [hv1]; exact HP2.out (by first | assumption | omega))
        have hvb : v1.ownBlock = some g := by rw [hv1]; rfl
        rw [← hv1]
        have hR1 : RfW w (Wk.setCell ⟨w.heap.size + 3, 0, none⟩ v1) met qs v1 Ds := HW.out.queue HQ1.out ⟨rfl, rfl, rfl, Nat.le_refl _, fun _ _ _ => rfl⟩ (.inl hvb)
        have hgk : g < Wk.heap.size := by obtain ⟨g', e1, _, h2⟩ := HW.out.q.lt; simp [Value.ownBlock] at e1; omega
        have hDs : ∀ D ∈ Ds, D < Wk.heap.size := fun D hD => lt_of_get (HW.out.marks D hD).2
        obtain ⟨W1, hW1⟩ : ∃ W1, W1 = Wk.setCell ⟨w.heap.size + 3, 0, none⟩ v1 := ⟨_, rfl⟩
        have hs1 : W1.heap.size = Wk.heap.size := by rw [hW1]; simp [World.setCell]
        rw [← hW1] at hR1 ⊢
        obtain ⟨W2, hW2⟩ : ∃ W2, W2 = (W1.alloc (.cells #[.map (some M)] 151)).alloc (.cells #[.int .i64 x] 2) := ⟨_, rfl⟩
        have hbm : W2.heap[Wk.heap.size]? = some (.cells #[.map (some M)] 151 (0, 0)) := by rw [hW2, ← hs1]; exact (Below.heap_alloc _ _ _ (by simp)).trans (heap_alloc_new _ _)
        have hbx : W2.heap[Wk.heap.size + 1]? = some (.cells #[.int .i64 x] 2 (0, 0)) := by rw [hW2, ← hs1]; have := heap_alloc_new (W1.alloc (.cells #[.map (some M)] 151)) (.cells #[.int .i64 x] 2); rwa [World.size_alloc] at this
        have hs2 : W2.heap.size = Wk.heap.size + 2 := by rw [hW2]; simp [hs1]
        have hR2 : RfW w W2 met qs v1 Ds := by
          rw [hW2]
          exact (hR1.turn (World.grownBy_alloc W1 _ none) (fun r e => by cases e)).turn (World.grownBy_alloc _ _ none) (fun r e => by cases e)
        have HLo := HL.out W2 hR2.below
        rw [← hW2]
        clear hW2 hW1 hR1 hcx c6 f6 hv1 HP1 HP2
        have HR2 := hid hR2
        have HDs := hid hDs
        clear hR2 hDs
        refine wpIn_rangeFunc_P rfl (by decide) (gf := 179) (lb := #[.pointer (some ⟨Wk.heap.size, 0, none⟩), .pointer (some ⟨Wk.heap.size + 1, 0, none⟩)]) rfl trivial (enters_of Try.func179 (by kernel_rfl) rfl)
          (steps_P 9 (by decide) Wk.heap.size (Wk.heap.size + 1) M N n ps x W2 hbm hbx HLo HD.out HH.out Hxw.out) (by simp) (Below.refl _ _) (fun _ => rfl)
          (fun pre W' => ∃ v, RfW w W' (visits (met, qs) pre).1 (visits (met, qs) pre).2 v Ds ∧ ∀ j, v.ownBlock = some j → j < W2.heap.size ∨ W2.heap.size + (2 + 5) ≤ j)
          (fun _ _ _ => False)
          (rf_ownIn (visits (met, qs)) (by omega) (fun D hD => by have := HDs.out D hD; omega))
          (fun _ => ownIn_pure _ _ _)
          ⟨v1, HR2.out, fun j e => by rw [hvb] at e; injection e with e; omega⟩
          (fun y => { tmps := #[.map (some M), .int .i64 a, undef, undef, .map none, .pointer (some ⟨w.heap.size + 1, 0, none⟩), .pointer (some ⟨w.heap.size + 3, 0, none⟩), .int .i64 x, .int .i64 (y.val : Int), .map (some w.heap.size), .int .i64 a, .map (some w.heap.size), .int .i64 a, .slice (some ⟨w.heap.size + 1 + 1, 0, none⟩) 1 1, .slice (some ⟨g, off, none⟩) (m + 1) 1, .int .i64 ((m : Int) + 1), .bool true, .slice (some ⟨g, off, none⟩) (m + 1) 1, .pointer (some ⟨g, off, none⟩), .int .i64 x, .slice (some ⟨g, off, none⟩) (m + 1) 1, v1, .map (some M), .int .i64 x, .func (.func 179) #[] #[.pointer (some ⟨Wk.heap.size, 0, none⟩), .pointer (some ⟨Wk.heap.size + 1, 0, none⟩)], .int .i64 (y.val : Int), us 26, us 27, us 28, us 29, us 30, us 31, us 32, us 33, us 34, us 35, us 36], defers := [] }) ?assign ?body ?done ?stop
        case assign =>
          intro l y W3 K hK
          gi_wp2
          exact hK
        case body =>
          rintro l pre y W3 hpre hsz3 ⟨v, hR, hb⟩
          obtain ⟨s, hs⟩ : ∃ s, s = visits (met, qs) pre := ⟨_, rfl⟩
          have Hsn : Hid (visits (met, qs) (pre ++ [y]) = visit s (y.val : Int)) := hid (by rw [visits_snoc, ← hs])
          rw [← hs] at hR
          have hyw : (Lit.int .i64 (y.val : Int)).wf = true := WalkArith.wf_i64 (by have := y.isLt; omega)
          obtain ⟨c5, _⟩ := box_cell hR.b5
          obtain ⟨c6, f6⟩ := box_cell hR.b6
          have hlk := lookup_known hR.own hyw
          have hsp := visits_spec pre met qs (fun z hz => HB.out.sub z (List.mem_cons_of_mem _ hz))
          rw [← hs] at hsp
          have hlen1 : s.1.length ≤ 65 := by have := hsp.2.2.2.2.2; have := HB.out.small; omega
          have hlen2 : s.2.length ≤ 129 := by have := hsp.2.2.2.2.1; have := HB.out.few; simp at this; omega
          clear hs hsp
          have HR := hid hR
          have Hb := hid hb
          by_cases hy : (y.val : Int) ∈ s.1
          · rw [decide_eq_true hy] at hlk
            have Hv : Hid (visits (met, qs) (pre ++ [y]) = s) := hid (by rw [Hsn.out]; unfold visit; rw [if_pos hy])
            clear hy hR hb hyw
            gi_wp2
            exact ⟨KeepP.refl _ _ _ _, v, by rw [Hv.out]; exact HR.out, Hb.out⟩
          · rw [decide_eq_false hy] at hlk
            have Hv : Hid (visits (met, qs) (pre ++ [y]) = (s.1 ++ [(y.val : Int)], s.2 ++ [(y.val : Int)])) := hid (by rw [Hsn.out]; unfold visit; rw [if_neg hy])
            obtain ⟨w4, hrun4, hown4, hg4⟩ := World.ownsMap.update hR.own (Maps.int_keyed Try.underlying2) Try.underlying107 (show s.1.length < maxLen by unfold maxLen; omega) (Maps.keyOf_int_mk Try.underlying2 hyw) (plainElem_bool Try.underlying4 true)
            have HR4 := hid (hR.meet hown4 hg4)
            obtain ⟨c64, f64⟩ := box_cell HR4.out.b6
            have Hg4 := hid hg4
            have hsz4 := HR4.out.size
            clear hy hR hb hyw hown4 hg4
            gi_wp2_with (gi_at_builtin; refine wpListIn_append_q rfl rfl HR4.out.q (by omega) (by omega) rfl rfl ?_; intro v' w5 hq5 hg5 hat5; obtain ⟨g5, o5, p5, hv5⟩ := hq5.form; subst hv5; have b65 : w5.heap[w.heap.size + 3]? = some (.cells #[v] 22 (0, 0)) := (hg5.block _ (lt_of_get HR4.out.b6) (fun e => by have := HR4.out.ne _ e.symm; omega)).trans HR4.out.b6; obtain ⟨c65, f65⟩ := box_cell b65; have Hq5 := hid hq5; have Hg5 := hid hg5; have Hat5 := hid hat5; clear hq5 hg5 hat5 b65)
            have hs34 : W3.heap.size ≤ w4.heap.size := Hg4.out.size
            have hs45 : w4.heap.size ≤ w5.heap.size := Hg5.out.size
            have el : (s.2 ++ [(y.val : Int)]).length = s.2.length + 1 := by simp
            rw [el] at Hq5 Hat5
            refine ⟨⟨by simp [World.setCell]; omega, fun r hr => ?_⟩, .slice (some ⟨g5, o5, none⟩) (s.2.length + 1) p5, ?_, ?_⟩
            · have hrr : W2.heap.size ≤ r ∧ r < W2.heap.size + (2 + 5) := by
                rcases hr with h | h
                · simp at h
                · exact h
              refine (Below.heap_setCell _ _ _ _ (by simp only; omega)).trans ((Hg5.out.block r (by omega) (fun e => ?_)).trans (Hg4.out.block r (by omega) (fun e => by injection e with e; omega)))
              rcases Hb.out r e.symm with h | h <;> omega
            · rw [Hv.out]
              refine HR4.out.queue Hq5.out Hg5.out ?_
              rcases Hat5.out with h | ⟨j, h, hj⟩
              · exact .inl h
              · exact .inr ⟨j, h, by omega⟩
            · intro j hj
              rcases Hat5.out with h | ⟨i, h, hi⟩
              · exact Hb.out j (by rw [← h]; exact hj)
              · rw [h] at hj
                injection hj with hj
                right
                omega
        case done =>
          rintro W3 ⟨v, hR, hb⟩ hD
          have hRm := hR.mark hD (by omega) (fun hm => by have := HDs.out _ hm; omega) (fun e => by rcases hb _ e with h | h <;> omega)
          have HRm := hid hRm
          have HB' := hid (HB.out.round HH.out)
          have hls := HB.out.less
          clear hR hb hD hRm
          gi_wp2
          exact ⟨_, Nat.lt_of_lt_of_le hls hgg, rfInv_of (Ds := W2.heap.size :: Ds) _ _ rfl rfl HRm HB' (Nat.le_refl _)⟩
        case stop =>
          rintro c pre W3 hpre hF hD
          exact hF.elim
      case inr =>
        obtain ⟨v1, hv1⟩ : ∃ v1, v1 = Value.slice (some ⟨g, off + 1, none⟩) m (cap - 1) := ⟨_, rfl⟩
        have HQ1 : Hid (OwnsQ Wk w.heap.size v1 qs) := hid (by rw [hv1]; exact HP1.out (by omega))
        have hvb : v1.ownBlock = some g := by rw [hv1]; rfl
        rw [← hv1]
        have hR1 : RfW w (Wk.setCell ⟨w.heap.size + 3, 0, none⟩ v1) met qs v1 Ds := HW.out.queue HQ1.out ⟨rfl, rfl, rfl, Nat.le_refl _, fun _ _ _ => rfl⟩ (.inl hvb)
        have hgk : g < Wk.heap.size := by obtain ⟨g', e1, _, h2⟩ := HW.out.q.lt; simp [Value.ownBlock] at e1; omega
        have hDs : ∀ D ∈ Ds, D < Wk.heap.size := fun D hD => lt_of_get (HW.out.marks D hD).2
        obtain ⟨W1, hW1⟩ : ∃ W1, W1 = Wk.setCell ⟨w.heap.size + 3, 0, none⟩ v1 := ⟨_, rfl⟩
        have hs1 : W1.heap.size = Wk.heap.size := by rw [hW1]; simp [World.setCell]
        rw [← hW1] at hR1 ⊢
        obtain ⟨W2, hW2⟩ : ∃ W2, W2 = (W1.alloc (.cells #[.map (some M)] 151)).alloc (.cells #[.int .i64 x] 2) := ⟨_, rfl⟩
        have hbm : W2.heap[Wk.heap.size]? = some (.cells #[.map (some M)] 151 (0, 0)) := by rw [hW2, ← hs1]; exact (Below.heap_alloc _ _ _ (by simp)).trans (heap_alloc_new _ _)
        have hbx : W2.heap[Wk.heap.size + 1]? = some (.cells #[.int .i64 x] 2 (0, 0)) := by rw [hW2, ← hs1]; have := heap_alloc_new (W1.alloc (.cells #[.map (some M)] 151)) (.cells #[.int .i64 x] 2); rwa [World.size_alloc] at this
        have hs2 : W2.heap.size = Wk.heap.size + 2 := by rw [hW2]; simp [hs1]
        have hR2 : RfW w W2 met qs v1 Ds := by
          rw [hW2]
          exact (hR1.turn (World.grownBy_alloc W1 _ none) (fun r e => by cases e)).turn (World.grownBy_alloc _ _ none) (fun r e => by cases e)
        have HLo := HL.out W2 hR2.below
        rw [← hW2]
        clear hW2 hW1 hR1 hcx c6 f6 hv1 HP1 HP2
        have HR2 := hid hR2
        have HDs := hid hDs
        clear hR2 hDs
        refine wpIn_rangeFunc_P rfl (by decide) (gf := 179) (lb := #[.pointer (some ⟨Wk.heap.size, 0, none⟩), .pointer (some ⟨Wk.heap.size + 1, 0, none⟩)]) rfl trivial (enters_of Try.func179 (by kernel_rfl) rfl)
          (steps_P 9 (by decide) Wk.heap.size (Wk.heap.size + 1) M N n ps x W2 hbm hbx HLo HD.out HH.out Hxw.out) (by simp) (Below.refl _ _) (fun _ => rfl)
          (fun pre W' => ∃ v, RfW w W' (visits (met, qs) pre).1 (visits (met, qs) pre).2 v Ds ∧ ∀ j, v.ownBlock = some j → j < W2.heap.size ∨ W2.heap.size + (2 + 5) ≤ j)
          (fun _ _ _ => False)
          (rf_ownIn (visits (met, qs)) (by omega) (fun D hD => by have := HDs.out D hD; omega))
          (fun _ => ownIn_pure _ _ _)
          ⟨v1, HR2.out, fun j e => by rw [hvb] at e; injection e with e; omega⟩
          (fun y => { tmps := #[.map (some M), .int .i64 a, undef, undef, .map none, .pointer (some ⟨w.heap.size + 1, 0, none⟩), .pointer (some ⟨w.heap.size + 3, 0, none⟩), .int .i64 x, .int .i64 (y.val : Int), .map (some w.heap.size), .int .i64 a, .map (some w.heap.size), .int .i64 a, .slice (some ⟨w.heap.size + 1 + 1, 0, none⟩) 1 1, .slice (some ⟨g, off, none⟩) (m + 1) cap, .int .i64 ((m : Int) + 1), .bool true, .slice (some ⟨g, off, none⟩) (m + 1) cap, .pointer (some ⟨g, off, none⟩), .int .i64 x, .slice (some ⟨g, off, none⟩) (m + 1) cap, v1, .map (some M), .int .i64 x, .func (.func 179) #[] #[.pointer (some ⟨Wk.heap.size, 0, none⟩), .pointer (some ⟨Wk.heap.size + 1, 0, none⟩)], .int .i64 (y.val : Int), us 26, us 27, us 28, us 29, us 30, us 31, us 32, us 33, us 34, us 35, us 36], defers := [] }) ?assign ?body ?done ?stop
        case assign =>
          intro l y W3 K hK
          gi_wp2
          exact hK
        case body =>
          rintro l pre y W3 hpre hsz3 ⟨v, hR, hb⟩
          obtain ⟨s, hs⟩ : ∃ s, s = visits (met, qs) pre := ⟨_, rfl⟩
          have Hsn : Hid (visits (met, qs) (pre ++ [y]) = visit s (y.val : Int)) := hid (by rw [visits_snoc, ← hs])
          rw [← hs] at hR
          have hyw : (Lit.int .i64 (y.val : Int)).wf = true := WalkArith.wf_i64 (by have := y.isLt; omega)
          obtain ⟨c5, _⟩ := box_cell hR.b5
          obtain ⟨c6, f6⟩ := box_cell hR.b6
          have hlk := lookup_known hR.own hyw
          have hsp := visits_spec pre met qs (fun z hz => HB.out.sub z (List.mem_cons_of_mem _ hz))
          rw [← hs] at hsp
          have hlen1 : s.1.length ≤ 65 := by have := hsp.2.2.2.2.2; have := HB.out.small; omega
          have hlen2 : s.2.length ≤ 129 := by have := hsp.2.2.2.2.1; have := HB.out.few; simp at this; omega
          clear hs hsp
          have HR := hid hR
          have Hb := hid hb
          by_cases hy : (y.val : Int) ∈ s.1
          · rw [decide_eq_true hy] at hlk
            have Hv : Hid (visits (met, qs) (pre ++ [y]) = s) := hid (by rw [Hsn.out]; unfold visit; rw [if_pos hy])
            clear hy hR hb hyw
            gi_wp2
            exact ⟨KeepP.refl _ _ _ _, v, by rw [Hv.out]; exact HR.out, Hb.out⟩
          · rw [decide_eq_false hy] at hlk
            have Hv : Hid (visits (met, qs) (pre ++ [y]) = (s.1 ++ [(y.val : Int)], s.2 ++ [(y.val : Int)])) := hid (by rw [Hsn.out]; unfold visit; rw [if_neg hy])
            obtain ⟨w4, hrun4, hown4, hg4⟩ := World.ownsMap.update hR.own (Maps.int_keyed Try.underlying2) Try.underlying107 (show s.1.length < maxLen by unfold maxLen; omega) (Maps.keyOf_int_mk Try.underlying2 hyw) (plainElem_bool Try.underlying4 true)
            have HR4 := hid (hR.meet hown4 hg4)
            obtain ⟨c64, f64⟩ := box_cell HR4.out.b6
            have Hg4 := hid hg4
            have hsz4 := HR4.out.size
            clear hy hR hb hyw hown4 hg4
            gi_wp2_with (gi_at_builtin; refine wpListIn_append_q rfl rfl HR4.out.q (by omega) (by omega) rfl rfl ?_; intro v' w5 hq5 hg5 hat5; obtain ⟨g5, o5, p5, hv5⟩ := hq5.form; subst hv5; have b65 : w5.heap[w.heap.size + 3]? = some (.cells #[v] 22 (0, 0)) := (hg5.block _ (lt_of_get HR4.out.b6) (fun e => by have := HR4.out.ne _ e.symm; omega)).trans HR4.out.b6; obtain ⟨c65, f65⟩ := box_cell b65; have Hq5 := hid hq5; have Hg5 := hid hg5; have Hat5 := hid hat5; clear hq5 hg5 hat5 b65)
            have hs34 : W3.heap.size ≤ w4.heap.size := Hg4.out.size
            have hs45 : w4.heap.size ≤ w5.heap.size := Hg5.out.size
            have el : (s.2 ++ [(y.val : Int)]).length = s.2.length + 1 := by simp
            rw [el] at Hq5 Hat5
            refine ⟨⟨by simp [World.setCell]; omega, fun r hr => ?_⟩, .slice (some ⟨g5, o5, none⟩) (s.2.length + 1) p5, ?_, ?_⟩
            · have hrr : W2.heap.size ≤ r ∧ r < W2.heap.size + (2 + 5) := by
                rcases hr with h | h
                · simp at h
                · exact h
              refine (Below.heap_setCell _ _ _ _ (by simp only; omega)).trans ((Hg5.out.block r (by omega) (fun e => ?_)).trans (Hg4.out.block r (by omega) (fun e => by injection e with e; omega)))
              rcases Hb.out r e.symm with h | h <;> omega
            · rw [Hv.out]
              refine HR4.out.queue Hq5.out Hg5.out ?_
              rcases Hat5.out with h | ⟨j, h, hj⟩
              · exact .inl h
              · exact .inr ⟨j, h, by omega⟩
            · intro j hj
              rcases Hat5.out with h | ⟨i, h, hi⟩
              · exact Hb.out j (by rw [← h]; exact hj)
              · rw [h] at hj
                injection hj with hj
                right
                omega
        case done =>
          rintro W3 ⟨v, hR, hb⟩ hD
          have hRm := hR.mark hD (by omega) (fun hm => by have := HDs.out _ hm; omega) (fun e => by rcases hb _ e with h | h <;> omega)
          have HRm := hid hRm
          have HB' := hid (HB.out.round HH.out)
          have hls := HB.out.less
          clear hR hb hD hRm
          gi_wp2
          exact ⟨_, Nat.lt_of_lt_of_le hls hgg, rfInv_of (Ds := W2.heap.size :: Ds) _ _ rfl rfl HRm HB' (Nat.le_refl _)⟩
        case stop =>
          rintro c pre W3 hpre hF hD
          exact hF.elim

end Go.Proofs.Ytbgkalkipalndaa

/-! What a law keeps of the world, for rows of any type that are read as integers (a list of n pairs: 2 * n integers). -/
namespace Go.Proofs.Ytbgkalkipalndaa
open Go.RowKit

/-- A row that lies in blocks from lo to hi: n elements of a type and size, read as integers. -/
structure Bk where
  lo : Nat
  hi : Nat
  ty : TypeId
  sz : Nat
  n : Nat
  v : Value
  xs : List Int

structure OwnB (w : World) (p : Bk) : Prop where
  own : w.ownsRow p.lo p.ty p.sz p.v p.n (p.xs.map (Value.int .i64))
  lt : ∀ g, p.v.ownBlock = some g → g < p.hi
  le : p.hi ≤ w.heap.size

/-- What is owned reads as integers. -/
theorem flat_slI {w : World} {base e sz : Nat} {a : Option Addr} {n m cap : Nat} {xs : List Int} (h : w.ownsRow base e sz (.slice a m cap) n (xs.map (Value.int .i64))) : SlI w w.heap.size a xs := by
  have hl := h.1
  rcases h.2 with ⟨hv, hn⟩ | ⟨g, cap', cur, hv, _, hg, _⟩
  · subst hn
    exact .inl (List.eq_nil_of_length_eq_zero (by simpa using hl))
  · cases hv
    refine .inr ⟨g, 0, (Array.getElem?_eq_some_iff.1 hg).1, rfl, fun i hi => ?_⟩
    have := h.cells (g := g) rfl i (.int .i64 (xs[i]?.getD 0)) (by simp [hi])
    have hadd : (⟨g, 0, none⟩ : Addr).add i = ⟨g, i, none⟩ := by unfold Addr.add; split <;> simp_all
    rw [hadd] at this
    simpa using this

structure Book (w0 : World) (w : World) (A : List (Option Addr × List Int)) (bs : List (Nat × Obj)) (L : List Bk) : Prop where
  from0 : Below w0.heap.size w0 w
  args : ∀ q ∈ A, SlI w w0.heap.size q.1 q.2
  blocks : ∀ b ∈ bs, w.heap[b.1]? = some b.2
  rows : ∀ p ∈ L, OwnB w p

section
variable {w0 w w' : World} {A : List (Option Addr × List Int)} {bs : List (Nat × Obj)} {L : List Bk}

theorem Book.ge (h : Book w0 w A bs L) : w0.heap.size ≤ w.heap.size := h.from0.size

theorem Book.below (h : Book w0 w A bs L) (hb : Below w.heap.size w w') : Book w0 w' A bs L where
  from0 := h.from0.trans (hb.mono h.ge)
  args := fun q hq => (h.args q hq).below (hb.mono h.ge)
  blocks := fun b hbm => (hb.block b.1 (Array.getElem?_eq_some_iff.1 (h.blocks b hbm)).1).trans (h.blocks b hbm)
  rows := fun p hp => ⟨ownsRow_below (h.rows p hp).own hb (fun g hg => Nat.lt_of_lt_of_le ((h.rows p hp).lt g hg) (h.rows p hp).le), (h.rows p hp).lt, Nat.le_trans (h.rows p hp).le hb.size⟩

theorem Book.drew (h : Book w0 w A bs L) : Book w0 w.drew A bs L := h.below (Below.refl _ _).drew
theorem Book.drewN (h : Book w0 w A bs L) (n : Nat) : Book w0 (w.drewN n) A bs L := h.below ⟨rfl, rfl, rfl, Nat.le_refl _, fun _ _ => rfl⟩

theorem Book.arg (h : Book w0 w A bs L) {q : Option Addr × List Int} (hq : q ∈ A) : SlI w w.heap.size q.1 q.2 := (h.args q hq).mono h.ge

theorem Book.alloc (h : Book w0 w A bs L) (o : Obj) : Book w0 (w.alloc o) A ((w.heap.size, o) :: bs) L where
  from0 := h.from0.alloc h.ge o
  args := fun q hq => (h.args q hq).below ((Below.refl _ w).alloc h.ge _)
  blocks := fun b hb => by
    rcases List.mem_cons.1 hb with rfl | hb
    · exact heap_alloc_new w o
    · exact (Below.heap_alloc w o _ (Array.getElem?_eq_some_iff.1 (h.blocks b hb)).1).trans (h.blocks b hb)
  rows := fun p hp => ⟨(h.rows p hp).own.alloc o, (h.rows p hp).lt, by have := (h.rows p hp).le; simp; omega⟩

/-- A new row, out of a call. -/
theorem Book.row (h : Book w0 w A bs L) {ty : TypeId} {sz n : Nat} {v : Value} {xs : List Int}
    (hown : w'.ownsRow w.heap.size ty sz v n (xs.map (Value.int .i64))) (hb : Below w.heap.size w w') : Book w0 w' A bs (⟨w.heap.size, w'.heap.size, ty, sz, n, v, xs⟩ :: L) :=
  { h.below hb with
    rows := fun p hp => by
      rcases List.mem_cons.1 hp with rfl | hp
      · exact ⟨hown, fun g hg => (hown.lt g hg).2, Nat.le_refl _⟩
      · exact (h.below hb).rows p hp }

/-- A row is marked: the others stay. -/
theorem Book.mark {L' : List Bk} (h : Book w0 w A bs L) {p : Bk} {ys : List Int} (hp : p ∈ L)
    (hown : w'.ownsRow p.lo p.ty p.sz p.v p.n (ys.map (Value.int .i64))) (hg : w.grownBy w' p.v.ownBlock)
    (hB : w0.heap.size ≤ p.lo) (hbs : ∀ b ∈ bs, b.1 < p.lo ∨ p.hi ≤ b.1) (hL : ∀ q ∈ L', q = { p with xs := ys } ∨ (q ∈ L ∧ (q.hi ≤ p.lo ∨ p.hi ≤ q.lo))) : Book w0 w' A bs L' where
  from0 := h.from0.grown hg h.ge (fun k e => Nat.le_trans hB ((h.rows p hp).own.lt k e).1)
  args := fun q hq => (h.args q hq).below ((Below.refl _ w).grown hg h.ge (fun k e => Nat.le_trans hB ((h.rows p hp).own.lt k e).1))
  blocks := fun b hb => (hg.block b.1 (Array.getElem?_eq_some_iff.1 (h.blocks b hb)).1 (fun e => by
    have h1 := ((h.rows p hp).own.lt _ e.symm).1
    have h2 := (h.rows p hp).lt _ e.symm
    rcases hbs b hb with h3 | h3 <;> omega)).trans (h.blocks b hb)
  rows := fun q hq => by
    rcases hL q hq with rfl | ⟨hqm, hap⟩
    · exact ⟨hown, (h.rows p hp).lt, Nat.le_trans (h.rows p hp).le hg.size⟩
    · refine ⟨(h.rows q hqm).own.kept hg ?_, (h.rows q hqm).lt, Nat.le_trans (h.rows q hqm).le hg.size⟩
      cases hv : q.v.ownBlock with
      | none => exact .inl rfl
      | some g =>
        refine .inr (fun e => ?_)
        have h1 := ((h.rows p hp).own.lt _ e.symm).1
        have h2 := (h.rows p hp).lt _ e.symm
        have h3 := ((h.rows q hqm).own.lt _ hv).1
        have h4 := (h.rows q hqm).lt _ hv
        rcases hap with h5 | h5 <;> omega

/-- Some of it. -/
theorem Book.only {bs' : List (Nat × Obj)} {L' : List Bk} (h : Book w0 w A bs L) (hb : ∀ b ∈ bs', b ∈ bs) (hL : ∀ p ∈ L', p ∈ L) : Book w0 w A bs' L' :=
  ⟨h.from0, h.args, fun b hbm => h.blocks b (hb b hbm), fun p hp => h.rows p (hL p hp)⟩

/-- A block of another type is written. -/
theorem Book.set2 {b t : Nat} {x y u v : Value} (h : Book w0 w A ((b, .cells #[x, y] t (0, 0)) :: bs) L) (hw : w0.heap.size ≤ b) (hb : ∀ q ∈ bs, q.1 ≠ b) (hty : ∀ p ∈ L, p.ty ≠ t) :
    Book w0 ((w.setCell ⟨b, 0, none⟩ u).setCell ⟨b, 1, none⟩ v) A ((b, .cells #[u, v] t (0, 0)) :: bs) L where
  from0 := (h.from0.setCell (p := ⟨b, 0, none⟩) hw _).setCell (p := ⟨b, 1, none⟩) hw _
  args := fun q hq => (h.args q hq).below (((Below.refl _ w).setCell (p := ⟨b, 0, none⟩) hw _).setCell (p := ⟨b, 1, none⟩) hw _)
  blocks := fun q hq => by
    rcases List.mem_cons.1 hq with rfl | hq
    · have hbk := h.blocks _ (List.mem_cons_self ..)
      simp only at hbk
      simp only [World.setCell, Array.getElem?_modify, hbk]
      simp
    · exact (Below.heap_setCell _ _ _ _ (hb q hq)).trans ((Below.heap_setCell _ _ _ _ (hb q hq)).trans (h.blocks q (List.mem_cons_of_mem _ hq)))
  rows := fun p hp => by
    have hbk := h.blocks _ (List.mem_cons_self ..)
    have hn : p.v.ownBlock ≠ some b := by
      intro e
      have ho := (h.rows p hp).own
      rcases ho.2 with ⟨hv, _⟩ | ⟨g, cap, cur, hv, _, hg, _⟩
      · rw [hv] at e; simp [Value.ownBlock] at e
      · rw [hv] at e
        simp [Value.ownBlock] at e
        subst e
        rw [hg] at hbk
        simp at hbk
        exact hty p hp hbk.2
    exact ⟨ownsRow_set (ownsRow_set (h.rows p hp).own hn _) hn _, (h.rows p hp).lt, by have := (h.rows p hp).le; simpa [World.setCell] using this⟩

theorem Book.slI (h : Book w0 w A bs L) {lo hi : Nat} {ty : TypeId} {sz n : Nat} {a : Option Addr} {m cap : Nat} {xs : List Int} (hp : (⟨lo, hi, ty, sz, n, .slice a m cap, xs⟩ : Bk) ∈ L) : SlI w w.heap.size a xs :=
  flat_slI (h.rows _ hp).own

theorem Book.own (h : Book w0 w A bs L) {lo hi : Nat} {ty : TypeId} {sz n : Nat} {v : Value} {xs : List Int} (hp : (⟨lo, hi, ty, sz, n, v, xs⟩ : Bk) ∈ L) : w.ownsRow lo ty sz v n (xs.map (Value.int .i64)) := (h.rows _ hp).own

theorem Book.two (h : Book w0 w A bs L) {b t : Nat} {u v : Value} (hb : (b, Obj.cells #[u, v] t (0, 0)) ∈ bs) : w.cell? ⟨b, 0, none⟩ = some u ∧ w.cell? ⟨b, 1, none⟩ = some v := by
  have := h.blocks _ hb
  constructor <;> simp [World.cell?, this]

end

end Go.Proofs.Ytbgkalkipalndaa

/-! Results of several parts: rows in intervals of blocks that do not meet. -/
namespace Go.Proofs.Ytbgkalkipalndaa
open Go.RowKit

/-- A result: a slice of pairs in new memory. -/
def ResP (w w' : World) (v : Value) (L : List (Int × Int)) : Prop := w'.ownsRow w.heap.size 77 2 v L.length ((flatP L).map (Value.int .i64)) ∧ Below w.heap.size w w'

theorem ResP.later {w0 w w' : World} {v : Value} {L : List (Int × Int)} (h : ResP w w' v L) (h0 : Below w0.heap.size w0 w) : ResP w0 w' v L :=
  ⟨ownsRow_base h.1 h0.size, h0.trans (h.2.mono h0.size)⟩
theorem resP_nil (w w' : World) (h : Below w.heap.size w w') : ResP w w' (.slice none 0 0) [] := ⟨World.ownsRow_nil _ _ _ _, h⟩

structure PartB (w w' : World) (p : Bk) : Prop where
  own : w'.ownsRow p.lo p.ty p.sz p.v p.n (p.xs.map (Value.int .i64))
  lt : ∀ g, p.v.ownBlock = some g → g < p.hi
  le : p.hi ≤ w'.heap.size
  ge : w.heap.size ≤ p.lo

theorem part_ints {w w' : World} {v : Value} {xs : List Int} (h : Res w w' v xs) : PartB w w' ⟨w.heap.size, w'.heap.size, 2, 1, xs.length, v, xs⟩ :=
  ⟨h.1, fun g hg => (h.1.lt g hg).2, Nat.le_refl _, Nat.le_refl _⟩
theorem part_pairs {w w' : World} {v : Value} {L : List (Int × Int)} (h : ResP w w' v L) : PartB w w' ⟨w.heap.size, w'.heap.size, 77, 2, L.length, v, flatP L⟩ :=
  ⟨h.1, fun g hg => (h.1.lt g hg).2, Nat.le_refl _, Nat.le_refl _⟩

/-- Two rows in blocks of their own. -/
def Apart (v q : Value) : Prop := ∀ g, v.ownBlock = some g → q.ownBlock ≠ some g

theorem apart_ty {w : World} {b1 e1 s1 n1 b2 e2 s2 n2 : Nat} {v q : Value} {xs ys : List Value} (h1 : w.ownsRow b1 e1 s1 v n1 xs) (h2 : w.ownsRow b2 e2 s2 q n2 ys) (hne : e1 ≠ e2) : Apart v q := by
  intro g hv hq
  rcases h1.2 with ⟨rfl, _⟩ | ⟨g1, _, _, rfl, _, hg1, _⟩
  · simp [Value.ownBlock] at hv
  rcases h2.2 with ⟨rfl, _⟩ | ⟨g2, _, _, rfl, _, hg2, _⟩
  · simp [Value.ownBlock] at hq
  simp [Value.ownBlock] at hv hq
  subst hv hq
  rw [hg1] at hg2
  simp at hg2
  exact hne hg2.2

theorem row_at {w : World} {b e s n : Nat} {v : Value} {xs : List Value} (h : w.ownsRow b e s v n xs) : (v.ownBlock = none ∧ ∀ b', w.ownsRow b' e s v n xs) ∨ ∃ g, v.ownBlock = some g ∧ b ≤ g ∧ g < w.heap.size ∧ w.ownsRow g e s v n xs := by
  rcases h.2 with ⟨rfl, hn⟩ | ⟨g, cp, cur, rfl, hb, hg, rest⟩
  · exact .inl ⟨rfl, fun b' => ⟨h.1, .inl ⟨rfl, hn⟩⟩⟩
  · exact .inr ⟨g, rfl, hb, (Array.getElem?_eq_some_iff.1 hg).1, h.1, .inr ⟨g, cp, cur, rfl, Nat.le_refl _, hg, rest⟩⟩

theorem two_parts {w w' : World} {e1 s1 n1 e2 s2 n2 : Nat} {v q : Value} {xs ys : List Int} (h1 : w'.ownsRow w.heap.size e1 s1 v n1 (xs.map (Value.int .i64))) (h2 : w'.ownsRow w.heap.size e2 s2 q n2 (ys.map (Value.int .i64))) (ha : Apart v q) (hB : Below w.heap.size w w') :
    ∃ l1 r1 l2 r2, PartB w w' ⟨l1, r1, e1, s1, n1, v, xs⟩ ∧ PartB w w' ⟨l2, r2, e2, s2, n2, q, ys⟩ ∧ (r1 ≤ l2 ∨ r2 ≤ l1) := by
  have hs := hB.size
  rcases row_at h1 with ⟨hv, h1'⟩ | ⟨g1, hv, hb1, hl1, h1'⟩
  · rcases row_at h2 with ⟨hq, h2'⟩ | ⟨g2, hq, hb2, hl2, h2'⟩
    · exact ⟨_, _, _, _, ⟨h1' w.heap.size, fun g hg => (by simp only at hg; rw [hv] at hg; cases hg), hs, Nat.le_refl _⟩, ⟨h2' w.heap.size, fun g hg => (by simp only at hg; rw [hq] at hg; cases hg), hs, Nat.le_refl _⟩, .inl (Nat.le_refl _)⟩
    · exact ⟨_, w.heap.size, _, g2 + 1, ⟨h1' w.heap.size, fun g hg => (by simp only at hg; rw [hv] at hg; cases hg), hs, Nat.le_refl _⟩, ⟨h2', fun g hg => (by simp only at hg; rw [hq] at hg; cases hg; simp only; omega), hl2, hb2⟩, .inl hb2⟩
  · rcases row_at h2 with ⟨hq, h2'⟩ | ⟨g2, hq, hb2, hl2, h2'⟩
    · exact ⟨_, g1 + 1, _, w.heap.size, ⟨h1', fun g hg => (by simp only at hg; rw [hv] at hg; cases hg; simp only; omega), hl1, hb1⟩, ⟨h2' w.heap.size, fun g hg => (by simp only at hg; rw [hq] at hg; cases hg), hs, Nat.le_refl _⟩, .inr hb1⟩
    · have hne : g1 ≠ g2 := fun e => ha g1 hv (by rw [hq, e])
      exact ⟨_, g1 + 1, _, g2 + 1, ⟨h1', fun g hg => (by simp only at hg; rw [hv] at hg; cases hg; simp only; omega), hl1, hb1⟩, ⟨h2', fun g hg => (by simp only at hg; rw [hq] at hg; cases hg; simp only; omega), hl2, hb2⟩, (by omega)⟩

theorem pairs_form {w : World} {base e n : Nat} {v : Value} {L : List (Int × Int)} (h : w.ownsRow base e 2 v n ((flatP L).map (Value.int .i64))) : n = L.length ∧ ∃ a cap, v = .slice a L.length cap ∧ True := by
  have hl := h.1
  simp [flatP_len] at hl
  have hn : n = L.length := by omega
  rcases h.2 with ⟨rfl, hn0⟩ | ⟨g, cap, cur, rfl, _⟩
  · refine ⟨hn, none, 0, ?_, trivial⟩
    rw [show L.length = 0 by omega]
  · exact ⟨hn, _, cap, by rw [hn], trivial⟩

theorem Book.add {w0 w w' : World} {A : List (Option Addr × List Int)} {bs : List (Nat × Obj)} {L : List Bk} {p : Bk} (h : Book w0 w' A bs L) (hp : PartB w w' p) : Book w0 w' A bs (p :: L) :=
  ⟨h.from0, h.args, h.blocks, fun q hq => by
    rcases List.mem_cons.1 hq with rfl | hq
    · exact ⟨hp.own, hp.lt, hp.le⟩
    · exact h.rows q hq⟩

end Go.Proofs.Ytbgkalkipalndaa

/-! settledPairs: what it keeps of the world, and what a pass does. -/
namespace Go.Proofs.Ytbgkalkipalndaa
open Go.RowKit Go.Shelf

attribute [local go_sem] Oper.semAt_some

def pairAt (ps : List Int) (i : Nat) : Int × Int := (at0 ps (i * 2), at0 ps (i * 2 + 1))
def setP (ps : List Int) (L : List Nat) : List (Int × Int) := L.map (pairAt ps)
theorem setP_snoc (ps : List Int) (L : List Nat) (i : Nat) : setP ps (L ++ [i]) = setP ps L ++ [pairAt ps i] := by simp [setP]
theorem setP_len (ps : List Int) (L : List Nat) : (setP ps L).length = L.length := by simp [setP]

/-- What has settled. -/
structure Stl (ps : List Int) (n : Nat) (L : List Nat) : Prop where
  ord : Ordered ps n L
  nodup : L.Nodup
  lt : ∀ i ∈ L, i < n
theorem nodup_le : ∀ (n : Nat) (L : List Nat), L.Nodup → (∀ i ∈ L, i < n) → L.length ≤ n
  | 0, L, _, hl => by
    cases L with
    | nil => simp
    | cons x L => exact absurd (hl x (by simp)) (Nat.not_lt_zero _)
  | n + 1, L, hn, hl => by
    have ih := nodup_le n (L.erase n) (hn.erase n) (fun i hi => by
      have h1 := hl i (List.mem_of_mem_erase hi)
      have h2 : i ≠ n := (hn.mem_erase_iff.1 hi).1
      omega)
    have h := @List.length_erase _ _ _ n L
    split at h <;> omega
theorem Stl.len {ps : List Int} {n : Nat} {L : List Nat} (h : Stl ps n L) : L.length ≤ n := nodup_le n L h.nodup h.lt
/-- The first k pairs have settled, or a step leads to one that has not. -/
def SatTo (ps : List Int) (n k : Nat) (L : List Nat) : Prop := ∀ i, i < k → i ∉ L → ∃ j, j < n ∧ StepP ps n i j ∧ j ∉ L
theorem SatTo.zero (ps : List Int) (n : Nat) (L : List Nat) : SatTo ps n 0 L := fun _ hi => absurd hi (Nat.not_lt_zero _)
theorem SatTo.skip {ps : List Int} {n k : Nat} {L : List Nat} (h : SatTo ps n k L) (hk : k ∈ L ∨ ∃ j, j < n ∧ StepP ps n k j ∧ j ∉ L) : SatTo ps n (k + 1) L := by
  intro i hi hn
  by_cases e : i = k
  · subst e
    exact hk.resolve_left hn
  · exact h i (by omega) hn
theorem Stl.snoc {ps : List Int} {n : Nat} {L : List Nat} (h : Stl ps n L) {i : Nat} (hi : i < n) (hL : i ∉ L) (hs : ∀ j, j < n → StepP ps n i j → j ∈ L) : Stl ps n (L ++ [i]) :=
  ⟨h.ord.snoc hs, by
    rw [List.nodup_append]
    exact ⟨h.nodup, by simp, fun a ha b hb => by simp at hb; subst hb; exact fun e => hL (e ▸ ha)⟩, fun j hj => by
    rcases List.mem_append.1 hj with h1 | h1
    · exact h.lt j h1
    · simp at h1; omega⟩
theorem Stl.nil (ps : List Int) (n : Nat) : Stl ps n [] := ⟨Ordered.nil ps n, by simp, by simp⟩

theorem lows_inj {ps : List Int} {n : Nat} (hd : LowsApart ps n) {i j : Nat} (hi : i < n) (hj : j < n) (h : at0 ps (i * 2) = at0 ps (j * 2)) : i = j := by
  rcases Nat.lt_trichotomy i j with h1 | h1 | h1
  · exact absurd h (hd i j h1 hj)
  · exact h1
  · exact absurd h.symm (hd j i h1 hi)
theorem mem_setP {ps : List Int} {n : Nat} (hd : LowsApart ps n) {L : List Nat} (hL : ∀ i ∈ L, i < n) {i : Nat} (hi : i < n) : pairAt ps i ∈ setP ps L ↔ i ∈ L := by
  unfold setP
  constructor
  · intro h
    obtain ⟨j, hj, e⟩ := List.mem_map.1 h
    have := lows_inj hd (hL j hj) hi (congrArg Prod.fst e)
    exact this ▸ hj
  · exact fun h => List.mem_map.2 ⟨i, h, rfl⟩
theorem wf_pairAt {ps : List Int} {n : Nat} (hp : ps.length = 2 * n) (hw : ∀ x ∈ ps, (Lit.int .i64 x).wf = true) {i : Nat} (hi : i < n) : wfP (pairAt ps i) :=
  ⟨hw _ (getD_mem (by omega)), hw _ (getD_mem (by omega))⟩
theorem wf_setP {ps : List Int} {n : Nat} (hp : ps.length = 2 * n) (hw : ∀ x ∈ ps, (Lit.int .i64 x).wf = true) {L : List Nat} (hL : ∀ i ∈ L, i < n) : ∀ q ∈ setP ps L, wfP q := by
  intro q hq
  obtain ⟨j, hj, rfl⟩ := List.mem_map.1 hq
  exact wf_pairAt hp hw (hL j hj)

/-- 'own, ok := lows[a]', told by the pairs. -/
theorem lows_look2 {w : World} {b N n : Nat} {ps : List Int} {a : Int} (hown : w.ownsMap Try.prog 2 pairElem b N (lowsD ps n)) (hd : LowsApart ps n) (ha : (Lit.int .i64 a).wf = true) :
    (∃ i, i < n ∧ at0 ps (i * 2) = a ∧ (Instr.lookup 151 (.map (some b)) (.int .i64 a) true).run Try.prog w = .ok (.tuple #[.agg #[.int .i64 a, .int .i64 (at0 ps (i * 2 + 1))], .bool true]) w) ∨
    ((∀ i, i < n → at0 ps (i * 2) ≠ a) ∧ (Instr.lookup 151 (.map (some b)) (.int .i64 a) true).run Try.prog w = .ok (.tuple #[.agg #[.int .i64 0, .int .i64 0], .bool false]) w) := by
  obtain ⟨v, qs, hrun, hv⟩ := hown.look_ok (Maps.int_keyed Try.underlying2) Try.underlying151 (zero_pair w) (pairElem_mk 0 0) (Maps.keyOf_int_mk Try.underlying2 ha)
  by_cases hex : ∃ i, i < n ∧ at0 ps (i * 2) = a
  · obtain ⟨i, hi, hia⟩ := hex
    obtain ⟨h1, h2⟩ := lows_hit n i hd hi hia
    rw [h1] at hv
    rw [h2, pairElem_inv hv] at hrun
    exact .inl ⟨i, hi, hia, hrun⟩
  · obtain ⟨h1, h2⟩ := lows_miss n (fun i hi e => hex ⟨i, hi, e⟩)
    rw [h1] at hv
    rw [h2, pairElem_inv hv] at hrun
    exact .inr ⟨fun i hi e => hex ⟨i, hi, e⟩, hrun⟩

/-- What the walk keeps of the world: M the map of the low faces, B its box. -/
structure SetW (w W : World) (M B n : Nat) (ps : List Int) (L : List Nat) (v : Value) (Ds : List Nat) : Prop where
  below : Below w.heap.size w W
  lo : w.heap.size ≤ M
  mb : M < B
  lows : W.ownsMap Try.prog 2 pairElem M n (lowsD ps n)
  b3 : W.heap[B]? = some (.cells #[.map (some M)] 151 (0, 0))
  own : MapP W (B + 1) L.length (setP ps L)
  b4 : W.heap[B + 2]? = some (.cells #[.map (some (B + 1))] 157 (0, 0))
  row : W.ownsRow (B + 3) 77 2 v (setP ps L).length ((flatP (setP ps L)).map (Value.int .i64))
  off : ∀ D ∈ Ds, v.ownBlock ≠ some D
  nodup : Ds.Nodup
  marks : ∀ D ∈ Ds, B + 3 ≤ D ∧ W.heap[D]? = some (.deferred (some []))
theorem SetW.size {w W : World} {M B n : Nat} {ps : List Int} {L : List Nat} {v : Value} {Ds : List Nat} (h : SetW w W M B n ps L v Ds) : B + 3 ≤ W.heap.size := by
  have := lt_of_get h.b4; omega
/-- A turn of what lies beyond. -/
theorem SetW.turn {w W W' : World} {M B n : Nat} {ps : List Int} {L : List Nat} {v : Value} {Ds : List Nat} (h : SetW w W M B n ps L v Ds) {row : Option Nat} (hg : W.grownBy W' row) (hr : ∀ r, row = some r → B + 3 ≤ r ∧ r ∉ Ds ∧ v.ownBlock ≠ some r) : SetW w W' M B n ps L v Ds where
  below := h.below.grown hg (by have := h.size; have := h.lo; have := h.mb; omega) (fun k e => by have := (hr k e).1; have := h.lo; have := h.mb; omega)
  lo := h.lo
  mb := h.mb
  lows := h.lows.kept hg (fun e => by have := (hr _ e.symm).1; have := h.mb; omega)
  b3 := (hg.block _ (lt_of_get h.b3) (fun e => by have := (hr _ e.symm).1; omega)).trans h.b3
  own := World.ownsMap.kept h.own hg (fun e => by have := (hr _ e.symm).1; omega)
  b4 := (hg.block _ (lt_of_get h.b4) (fun e => by have := (hr _ e.symm).1; omega)).trans h.b4
  row := by
    cases hv : v.ownBlock with
    | none => exact h.row.kept hg (.inl hv)
    | some g => exact h.row.kept hg (.inr (fun e => by rw [hv] at e; exact (hr g e.symm).2.2 hv))
  off := h.off
  nodup := h.nodup
  marks := fun D hD => ⟨(h.marks D hD).1, (hg.block _ (lt_of_get (h.marks D hD).2) (fun e => (hr _ e.symm).2.1 hD)).trans (h.marks D hD).2⟩
theorem SetW.alloc {w W : World} {M B n : Nat} {ps : List Int} {L : List Nat} {v : Value} {Ds : List Nat} (h : SetW w W M B n ps L v Ds) (o : Obj) : SetW w (W.alloc o) M B n ps L v Ds := h.turn (World.grownBy_alloc W o none) (fun r e => by cases e)
theorem SetW.mark {w W : World} {M B n : Nat} {ps : List Int} {L : List Nat} {v : Value} {Ds : List Nat} (h : SetW w W M B n ps L v Ds) {D : Nat} (hD : W.heap[D]? = some (.deferred (some []))) (hb : B + 3 ≤ D) (hn : D ∉ Ds) (hv : v.ownBlock ≠ some D) : SetW w W M B n ps L v (D :: Ds) :=
  { h with
    off := fun E hE => by
      rcases List.mem_cons.1 hE with rfl | hE
      · exact hv
      · exact h.off E hE
    nodup := List.nodup_cons.2 ⟨hn, h.nodup⟩
    marks := fun E hE => by
      rcases List.mem_cons.1 hE with rfl | hE
      · exact ⟨hb, hD⟩
      · exact h.marks E hE }
/-- Within a range: everything of the walk lies ahead of its blocks. -/
theorem set_ownIn {β : Type} {w : World} {M B n : Nat} {ps : List Int} {L : List Nat} {v : Value} {Ds : List Nat} {lo k : Nat} (hlo : B + 3 ≤ lo) (hD : ∀ D ∈ Ds, D < lo) (hv : ∀ g, v.ownBlock = some g → g < lo) :
    OwnIn lo k (fun (_ : β) W' => SetW w W' M B n ps L v Ds) := by
  intro s A C row h hg hr
  refine h.turn hg (fun r e => ?_)
  obtain ⟨h1, _⟩ := hr r e
  exact ⟨by omega, fun hm => by have := hD r hm; omega, fun ev => by have := hv r ev; omega⟩
/-- A pair settles: the map has it. -/
theorem SetW.put {w W W' : World} {M B n : Nat} {ps : List Int} {L : List Nat} {v : Value} {Ds : List Nat} (h : SetW w W M B n ps L v Ds) {i : Nat} (hown : W'.ownsMap Try.prog 77 (plainElem (H := Unit) Try.prog 4) (B + 1) (L.length + 1) ((pknD (setP ps L)).put (keyP (pairAt ps i)) (.lit (.bool true)))) (hg : W.grownBy W' (some (B + 1)))
    {W2 : World} {v2 : Value} (hrow : W2.ownsRow (B + 3) 77 2 v2 (setP ps L ++ [pairAt ps i]).length ((flatP (setP ps L ++ [pairAt ps i])).map (Value.int .i64))) (hg2 : W'.grownBy W2 v.ownBlock) (hat : v2.ownBlock = v.ownBlock ∨ ∃ k, v2.ownBlock = some k ∧ W'.heap.size ≤ k) : SetW w W2 M B n ps (L ++ [i]) v2 Ds := by
  have hvlo : ∀ g, v.ownBlock = some g → B + 3 ≤ g ∧ g < W.heap.size := h.row.lt
  have hsz := h.size
  have hlo := h.lo
  have hmb := h.mb
  have t1 : ∀ j, j < W.heap.size → j ≠ B + 1 → v.ownBlock ≠ some j → W2.heap[j]? = W.heap[j]? := fun j hj h1 h2 =>
    (hg2.block j (Nat.lt_of_lt_of_le hj hg.size) (fun e => h2 e.symm)).trans (hg.block j hj (fun e => h1 (by injection e)))
  have ne3 : ∀ j, j < B + 3 → v.ownBlock ≠ some j := fun j hj e => by have := (hvlo j e).1; omega
  refine { below := ?_, lo := h.lo, mb := h.mb, lows := ?_, b3 := (t1 B (by omega) (by omega) (ne3 _ (by omega))).trans h.b3, own := ?_, b4 := (t1 (B + 2) (by omega) (by omega) (ne3 _ (by omega))).trans h.b4, row := by rw [setP_snoc]; exact hrow, off := fun D hD e => ?_, nodup := h.nodup, marks := fun D hD => ⟨(h.marks D hD).1, (t1 D (lt_of_get (h.marks D hD).2) (by have := (h.marks D hD).1; omega) (h.off D hD)).trans (h.marks D hD).2⟩ }
  · have hb1 := h.below.grown hg (by omega) (fun k e => by cases e; omega)
    exact hb1.grown hg2 (by have := hb1.size; omega) (fun k e => by have := (hvlo k e).1; omega)
  · have h1 := h.lows.kept hg (fun e => by injection e; omega)
    exact h1.kept hg2 (fun e => by have := (hvlo M e.symm).1; omega)
  · have h1 : W'.ownsMap Try.prog 77 (plainElem (H := Unit) Try.prog 4) (B + 1) (L ++ [i]).length (pknD (setP ps (L ++ [i]))) := by
      rw [setP_snoc, pknD_snoc]
      simpa using hown
    exact World.ownsMap.kept h1 hg2 (fun e => by have := (hvlo _ e.symm).1; omega)
  · rcases hat with h1 | ⟨k, h1, h2⟩
    · exact h.off D hD (h1.symm.trans e)
    · rw [h1] at e
      injection e with e
      have := lt_of_get (h.marks D hD).2
      have := hg.size
      omega

/-- At the end. -/
theorem SetW.leaves {w W w' : World} {M B n : Nat} {ps : List Int} {L : List Nat} {v : Value} {Ds : List Nat} (h : SetW w W M B n ps L v Ds) (hw' : Shut Ds W w') : ResP w w' v (setP ps L) := by
  have h1 := h.lo
  have h2 := h.mb
  refine ⟨?_, h.below.trans (hw'.below (fun D hD => by have := (h.marks D hD).1; omega))⟩
  have hr := ownsRow_base h.row (show w.heap.size ≤ B + 3 by omega)
  refine ⟨hr.1, ?_⟩
  rcases hr.2 with hn | ⟨g, cap, cur, hv, hb, hg, rest⟩
  · exact .inl hn
  · exact .inr ⟨g, cap, cur, hv, hb, (hw'.block g (fun hm => h.off g hm (by rw [hv]; rfl))).trans hg, rest⟩

/-- 'order = append(order, pair)', at the operation. -/
theorem append_pairIn {F : Fence} {nF : Nat} {w : World} {ops : Array Oper} {rest : List Oper} {o : Oper} {a : Act} {Q : Exit → Act → World → Prop} (hgd : o.guard = none) {s y : Operand}
    (ho : o.op = .call { callee := .builtin .append, args := #[s, y], argTypes := #[31, 31] })
    {base : Nat} {v : Value} {L : List (Int × Int)} {x x' : Int} (hown : w.ownsRow base 77 2 v L.length ((flatP L).map (Value.int .i64))) (hbase : base ≤ w.heap.size) (hl : L.length ≤ 1099511627776)
    (hs : a.eval s = v) (hy : a.eval y = .slice (some ⟨w.heap.size, 0, none⟩) 1 1)
    (hK : ∀ v' w', w'.ownsRow base 77 2 v' (L ++ [(x, x')]).length ((flatP (L ++ [(x, x')])).map (Value.int .i64)) → w.grownBy w' v.ownBlock → (v'.ownBlock = v.ownBlock ∨ ∃ k, v'.ownBlock = some k ∧ w.heap.size ≤ k) → wpListIn F nF Try.prog ops Q rest (a.put o.dst v') w') :
    wpListIn F nF Try.prog ops Q (o :: rest) a (w.alloc (.cells #[.int .i64 x, .int .i64 x'] 77)) := by
  obtain ⟨i0, hi, hz0, hz1, hz2⟩ := info_parts info_pair
  refine wpListIn_append_own_at _ hgd s y 31 ho base 77 i0 (.agg #[.int .i64 0, .int .i64 0]) 2 16 Try.underlying31 hi hz0 hz1 hz2 rfl (by decide) v _ _ hs (hown.alloc _) ⟨w.heap.size, 0, none⟩ 1 1 [.int .i64 x, .int .i64 x'] hy rfl ?_ (by simp [Value.oneCell']) (by unfold maxLen; omega) (by omega) (by simp; omega) ?_
  · intro j u hj
    match j, hj with
    | 0, hj => simp at hj; subst hj; simp [go_sem, Addr.add]
    | 1, hj => simp at hj; subst hj; simp [go_sem, Addr.add]
    | j + 2, hj => simp at hj
  · intro v' w1 hown1 hgrow1 _ hat
    refine hK v' w1 (by rw [flatP_snoc]; simpa using hown1) ((World.grownBy_alloc w _ _).trans hgrow1) ?_
    rcases hat with h | h
    · exact .inl h
    · exact .inr ⟨_, h, by simp⟩

end Go.Proofs.Ytbgkalkipalndaa
