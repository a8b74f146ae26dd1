import Derived.Shelf.SlSortCmp.NoneTotal
import Derived.Sort.OwnSortedInts
import Derived.Deep.RegionHeld3
import Derived.Lib.SliceRun
import Derived.Lib.Walk
import Derived.Test.YtpdhnjdnlgnniaaGreatMC21
import Derived.Test.YtpdhnjdnlgnniaaGreatMC22
import Derived.Test.YtpdhnjdnlgnniaaGreatMC25
import Derived.Test.YtpdhnjdnlgnniaaGreatMC26
/-! The flow of a chain, the mathematics. -/
namespace Go.Proofs.YtpdhnjdnlgnniaaGreat
open Go.RowKit

/-- s: ascending, what is in p an odd number of times. -/
def OddL (p s : List Int) : Prop := s.Pairwise (· < ·) ∧ ∀ y, y ∈ s ↔ par y p = true
/-- One number more, not less than all ahead. -/
def stk (s : List Int) (x : Int) : List Int := if s[s.length - 1]?.getD 0 = x ∧ s ≠ [] then s.take (s.length - 1) else s ++ [x]
theorem par_snoc (y x : Int) (p : List Int) : par y (p ++ [x]) = (par y p != decide (y = x)) := by
  unfold par
  rw [List.count_append, List.count_singleton, Bool.eq_iff_iff]
  by_cases e : y = x
  · subst e; simp; omega
  · have e' : (x == y) = false := by simpa using fun h : x = y => e h.symm
    simp [e, e']
theorem asc_last {s : List Int} (h : s.Pairwise (· < ·)) {x : Int} (hx : x ∈ s) (hle : ∀ y ∈ s, y ≤ x) : s[s.length - 1]?.getD 0 = x := by
  have hl : 0 < s.length := List.length_pos_of_mem hx
  obtain ⟨i, hi, rfl⟩ := List.getElem_of_mem hx
  rw [List.getElem?_eq_getElem (by omega)]
  simp only [Option.getD_some]
  by_cases e : i = s.length - 1
  · simp [e]
  · have := List.pairwise_iff_getElem.1 h i (s.length - 1) hi (by omega) (by omega)
    have := hle _ (List.getElem_mem (by omega : s.length - 1 < s.length))
    omega
theorem OddL.step {p s : List Int} {x : Int} (h : OddL p s) (hp : ∀ y ∈ p, y ≤ x) : OddL (p ++ [x]) (stk s x) := by
  have hs : ∀ y ∈ s, y ≤ x := fun y hy => by
    have := (h.2 y).1 hy
    unfold par at this
    exact hp y (List.count_pos_iff.1 (by simp at this; omega))
  unfold stk
  by_cases e : s[s.length - 1]?.getD 0 = x ∧ s ≠ []
  · rw [if_pos e]
    have hl : 0 < s.length := List.length_pos_iff.2 e.2
    have hsp : s = s.take (s.length - 1) ++ [x] := by
      have e1 := e.1
      rw [List.getElem?_eq_getElem (by omega)] at e1
      simp only [Option.getD_some] at e1
      have h2 := List.take_append_drop (s.length - 1) s
      rw [List.drop_eq_getElem_cons (by omega), e1, List.drop_eq_nil_of_le (by omega)] at h2
      exact h2.symm
    have hpw := h.1
    rw [hsp] at hpw
    obtain ⟨p1, _, p3⟩ := List.pairwise_append.1 hpw
    refine ⟨p1, fun y => ?_⟩
    rw [par_snoc]
    have hm := h.2 y
    rw [hsp] at hm
    by_cases ey : y = x
    · subst ey
      have : y ∉ s.take (s.length - 1) := fun hy => by have := p3 y hy y (by simp); omega
      have hyy : par y p = true := hm.1 (by simp)
      simp [this, hyy]
    · simp only [List.mem_append, List.mem_singleton, ey, or_false] at hm
      simp [ey, hm]
  · rw [if_neg e]
    have hxs : x ∉ s := fun hx => e ⟨asc_last h.1 hx hs, fun hn => by rw [hn] at hx; simp at hx⟩
    have hpx : par x p = false := by
      cases hc : par x p
      · rfl
      · exact absurd ((h.2 x).2 hc) hxs
    refine ⟨List.pairwise_append.2 ⟨h.1, by simp, fun a ha b hb => ?_⟩, fun y => ?_⟩
    · simp at hb
      subst hb
      have := hs a ha
      have : a ≠ b := fun hab => hxs (hab ▸ ha)
      omega
    · rw [par_snoc, List.mem_append, List.mem_singleton]
      by_cases ey : y = x
      · subst ey; simp [hpx]
      · simp [ey, h.2 y]
theorem OddL.nil : OddL [] [] := ⟨List.Pairwise.nil, fun y => by simp [par]⟩
theorem oddL_ext {p q s t : List Int} (h : OddL p s) (h' : OddL q t) (he : ∀ y, par y p = par y q) : s = t := asc_ext h.1 h'.1 (fun y => by rw [h.2, h'.2, he])
theorem par_perm {p q : List Int} (h : p.Perm q) (y : Int) : par y p = par y q := by unfold par; rw [h.count_eq]
theorem par_app (y : Int) (p q : List Int) : par y (p ++ q) = (par y p != par y q) := by
  unfold par
  rw [List.count_append, Bool.eq_iff_iff]
  simp
  omega
theorem count_one : ∀ {p : List Int}, p.Nodup → ∀ {y : Int}, y ∈ p → p.count y = 1
  | [], _, _, h => by simp at h
  | x :: p, hn, y, h => by
    obtain ⟨h1, h2⟩ := List.nodup_cons.1 hn
    rw [List.count_cons]
    by_cases e : x = y
    · subst e
      rw [List.count_eq_zero.2 h1]; simp
    · have hy : y ∈ p := by
        rcases List.mem_cons.1 h with h | h
        · exact absurd h.symm e
        · exact h
      rw [count_one h2 hy]
      simp [e]
theorem par_nodup {p : List Int} (h : p.Nodup) (y : Int) : par y p = decide (y ∈ p) := by
  unfold par
  by_cases hy : y ∈ p
  · rw [count_one h hy]; simp [hy]
  · rw [List.count_eq_zero.2 hy]; simp [hy]
theorem asc_nodup {s : List Int} (h : s.Pairwise (· < ·)) : s.Nodup := h.imp (fun h e => by omega)

/-- The high faces of the pairs whose low faces are in a list, in the order of the pairs. -/
def pushTo (ps : List Int) (ch : List Int) : Nat → List Int
  | 0 => []
  | k + 1 => pushTo ps ch k ++ (if at0 ps (k * 2) ∈ ch then [at0 ps (k * 2 + 1)] else [])
theorem pushTo_mem {ps ch : List Int} {y : Int} : ∀ {n : Nat}, y ∈ pushTo ps ch n ↔ ∃ i, i < n ∧ at0 ps (i * 2) ∈ ch ∧ at0 ps (i * 2 + 1) = y
  | 0 => by simp [pushTo]
  | n + 1 => by
    rw [pushTo, List.mem_append, pushTo_mem (n := n)]
    constructor
    · rintro (⟨i, h1, h2, h3⟩ | h)
      · exact ⟨i, by omega, h2, h3⟩
      · split at h
        · rename_i hm
          simp at h
          exact ⟨n, by omega, hm, h.symm⟩
        · simp at h
    · rintro ⟨i, h1, h2, h3⟩
      by_cases e : i = n
      · subst e; right; rw [if_pos h2]; simp [h3]
      · exact .inl ⟨i, by omega, h2, h3⟩
theorem pushTo_len (ps ch : List Int) : ∀ n, (pushTo ps ch n).length ≤ n
  | 0 => by simp [pushTo]
  | n + 1 => by
    have := pushTo_len ps ch n
    rw [pushTo, List.length_append]
    split <;> simp <;> omega
/-- Pairs of a pairing have different high faces. -/
theorem okTo_high_inj {fs ps : List Int} {n : Nat} (h : OkTo fs ps n) {i j : Nat} (hi : i < n) (hj : j < n) (e : at0 ps (i * 2 + 1) = at0 ps (j * 2 + 1)) : i = j := by
  have one : ∀ a b, a < b → b < n → at0 ps (a * 2 + 1) ≠ at0 ps (b * 2 + 1) := fun a b hab hb he => by
    have := (h b hb).2.2 a hab
    unfold clashB at this
    simp [he] at this
  rcases Nat.lt_trichotomy i j with h1 | h1 | h1
  · exact absurd e (one i j h1 hj)
  · exact h1
  · exact absurd e.symm (one j i h1 hi)
theorem pushTo_nodup {fs ps ch : List Int} {n : Nat} (h : OkTo fs ps n) : ∀ k, k ≤ n → (pushTo ps ch k).Nodup
  | 0, _ => by simp [pushTo]
  | k + 1, hk => by
    rw [pushTo]
    refine List.nodup_append.2 ⟨pushTo_nodup h k (by omega), by split <;> simp, fun a ha b hb hab => ?_⟩
    subst hab
    obtain ⟨i, h1, _, h3⟩ := pushTo_mem.1 ha
    split at hb
    · simp at hb
      have := okTo_high_inj h (i := i) (j := k) (by omega) (by omega) (by rw [h3, hb])
      omega
    · simp at hb
/-- The high face of a face: that of its pair. -/
theorem high_of {fs ps : List Int} {n i : Nat} (h : OkTo fs ps n) (hi : i < n) : highOf ps n (at0 ps (i * 2)) = at0 ps (i * 2 + 1) :=
  highOf_some hi rfl (fun j hj e => okTo_apart h j i hj hi e)
theorem okTo_mem {fs ps : List Int} {n i : Nat} (h : OkTo fs ps n) (hi : i < n) : at0 ps (i * 2) ∈ fs ∧ at0 ps (i * 2 + 1) ∈ fs := by
  have := (h i hi).1
  unfold pairB at this
  simp only [Bool.and_eq_true, decide_eq_true_eq] at this
  exact ⟨this.1.1.1, this.1.1.2⟩
theorem pushTo_fs {fs ps ch : List Int} {n : Nat} (h : OkTo fs ps n) : ∀ y ∈ pushTo ps ch n, y ∈ fs := by
  intro y hy
  obtain ⟨i, hi, _, rfl⟩ := pushTo_mem.1 hy
  exact (okTo_mem h hi).2

/-- The flow of a chain. -/
def flowL (fs ps : List Int) (n : Nat) (ch : List Int) : List Int :=
  fs.filter fun x => decide (x ∈ ch) != (decide (x ∈ bdL fs (pushTo ps ch n)) != decide (x ∈ pushTo ps (bdL fs ch) n))
theorem flowL_asc {V : Int} {fs : List Int} (hC : IsC V fs) (ps : List Int) (n : Nat) (ch : List Int) : (flowL fs ps n ch).Pairwise (· < ·) := hC.asc.filter _
theorem flowL_len (fs ps : List Int) (n : Nat) (ch : List Int) : (flowL fs ps n ch).length ≤ fs.length := List.length_filter_le _ _
theorem flowL_fs {fs ps : List Int} {n : Nat} {ch : List Int} {x : Int} (h : x ∈ flowL fs ps n ch) : x ∈ fs := (List.mem_filter.1 h).1
theorem bdL_asc {V : Int} {fs : List Int} (hC : IsC V fs) (ch : List Int) : (bdL fs ch).Pairwise (· < ·) := hC.asc.filter _
theorem bdL_fs {fs ch : List Int} {x : Int} (h : x ∈ bdL fs ch) : x ∈ fs := (List.mem_filter.1 h).1
theorem mem_flowL {fs ps : List Int} {n : Nat} {ch : List Int} (hO : OkTo fs ps n) (hch : ∀ x ∈ ch, x ∈ fs) (x : Int) :
    x ∈ flowL fs ps n ch ↔ (decide (x ∈ ch) != (decide (x ∈ bdL fs (pushTo ps ch n)) != decide (x ∈ pushTo ps (bdL fs ch) n))) = true := by
  unfold flowL
  rw [List.mem_filter]
  refine ⟨fun h => h.2, fun h => ⟨?_, h⟩⟩
  by_cases h1 : x ∈ ch
  · exact hch x h1
  · by_cases h2 : x ∈ bdL fs (pushTo ps ch n)
    · exact bdL_fs h2
    · by_cases h3 : x ∈ pushTo ps (bdL fs ch) n
      · exact pushTo_fs hO x h3
      · simp [h1, h2, h3] at h
/-- .. as the program sums it. -/
theorem flow_prog {V : Int} {fs ps ch s : List Int} {n : Nat} (hC : IsC V fs) (hO : OkTo fs ps n) (ha : ch.Pairwise (· < ·)) (hch : ∀ x ∈ ch, x ∈ fs) (h : OddL (ch ++ (bdL fs (pushTo ps ch n) ++ pushTo ps (bdL fs ch) n)) s) : s = flowL fs ps n ch := by
  refine asc_ext h.1 (flowL_asc hC ps n ch) (fun y => ?_)
  rw [h.2, mem_flowL hO hch, par_app, par_app, par_nodup (asc_nodup ha), par_nodup (asc_nodup (bdL_asc hC _)), par_nodup (pushTo_nodup hO n (Nat.le_refl _))]

/-- A face is put to an ascending list, or taken out. -/
def putL (L : List Int) (x : Int) : List Int := L.filter (fun y => decide (y < x)) ++ ((if x ∈ L then [] else [x]) ++ L.filter (fun y => decide (x < y)))
theorem put_odd {p L : List Int} (h : OddL p L) (x : Int) : OddL (p ++ [x]) (putL L x) := by
  refine ⟨?_, fun y => ?_⟩
  · unfold putL
    refine List.pairwise_append.2 ⟨h.1.filter _, List.pairwise_append.2 ⟨by split <;> simp, h.1.filter _, fun a ha b hb => ?_⟩, fun a ha b hb => ?_⟩
    · split at ha
      · simp at ha
      · simp at ha hb; omega
    · simp at ha
      rcases List.mem_append.1 hb with hb | hb
      · split at hb
        · simp at hb
        · simp at hb; omega
      · simp at hb; omega
  · rw [par_snoc]
    have hm := h.2 y
    unfold putL
    simp only [List.mem_append, List.mem_filter, decide_eq_true_eq]
    by_cases e : y = x
    · subst e
      by_cases hx : y ∈ L
      · have := hm.1 hx
        simp [hx, this]
      · have : par y p = false := by
          cases hc : par y p
          · rfl
          · exact absurd (hm.2 hc) hx
        simp [hx, this]
    · have hx : y ∈ (if x ∈ L then ([] : List Int) else [x]) ↔ False := by split <;> simp [e]
      rw [hx]
      by_cases hy : y ∈ L
      · have h1 := hm.1 hy
        have : y < x ∨ x < y := by omega
        simp [hy, h1, e, this]
      · have : par y p = false := by
          cases hc : par y p
          · rfl
          · exact absurd (hm.2 hc) hy
        simp [hy, this, e]
def sumS (a b : List Int) : List Int := b.foldl putL a
theorem sum_odd {p a : List Int} (h : OddL p a) : ∀ b : List Int, OddL (p ++ b) (sumS a b) := by
  intro b
  induction b generalizing p a with
  | nil => simpa [sumS] using h
  | cons x b ih =>
    have := ih (put_odd h x)
    simpa [sumS, List.append_assoc] using this
theorem asc_odd {a : List Int} (h : a.Pairwise (· < ·)) : OddL a a := ⟨h, fun y => by rw [par_nodup (asc_nodup h)]; simp⟩
/-- The high faces of a list's faces. -/
def highs (ps : List Int) (n : Nat) : List Int → List Int
  | [] => []
  | x :: ch => (if highOf ps n x = 0 then [] else [highOf ps n x]) ++ highs ps n ch
def pushFrom (ps : List Int) (n : Nat) (o ch : List Int) : List Int := ch.foldl (fun o x => if highOf ps n x = 0 then o else putL o (highOf ps n x)) o
theorem push_odd {ps : List Int} {n : Nat} : ∀ (ch p o : List Int), OddL p o → OddL (p ++ highs ps n ch) (pushFrom ps n o ch)
  | [], p, o, h => by simpa [highs, pushFrom] using h
  | x :: ch, p, o, h => by
    by_cases e : highOf ps n x = 0
    · have := push_odd (ps := ps) (n := n) ch p o h
      simpa [highs, pushFrom, e] using this
    · have := push_odd (ps := ps) (n := n) ch _ _ (put_odd h (highOf ps n x))
      simpa [highs, pushFrom, e, List.append_assoc] using this
theorem high_lowF {ps : List Int} {n : Nat} {x : Int} (h : highOf ps n x ≠ 0) : ∃ i, i < n ∧ at0 ps (i * 2) = x := by
  refine Classical.byContradiction fun hn => h (highOf_none (fun j hj e => hn ⟨j, hj, e⟩))
theorem highs_mem {fs ps : List Int} {n : Nat} (hO : OkTo fs ps n) (hp : ∀ i, i < n → at0 ps (i * 2 + 1) ≠ 0) {y : Int} : ∀ {ch : List Int}, y ∈ highs ps n ch ↔ y ∈ pushTo ps ch n
  | [] => by simp [highs, pushTo_mem]
  | x :: ch => by
    rw [highs, List.mem_append, highs_mem hO hp (ch := ch), pushTo_mem, pushTo_mem]
    constructor
    · rintro (h | ⟨i, h1, h2, h3⟩)
      · split at h
        · simp at h
        · rename_i hne
          simp at h
          obtain ⟨i, hi, hx⟩ := high_lowF hne
          refine ⟨i, hi, by simp [hx], ?_⟩
          rw [h, ← hx, high_of hO hi]
      · exact ⟨i, h1, List.mem_cons_of_mem _ h2, h3⟩
    · rintro ⟨i, h1, h2, h3⟩
      rcases List.mem_cons.1 h2 with e | e
      · left
        rw [← e, high_of hO h1, if_neg (hp i h1)]
        simp [h3]
      · exact .inr ⟨i, h1, e, h3⟩
theorem highs_nodup {fs ps : List Int} {n : Nat} (hO : OkTo fs ps n) : ∀ {ch : List Int}, ch.Nodup → (highs ps n ch).Nodup
  | [], _ => by simp [highs]
  | x :: ch, h => by
    obtain ⟨h1, h2⟩ := List.nodup_cons.1 h
    rw [highs]
    refine List.nodup_append.2 ⟨by split <;> simp, highs_nodup hO h2, fun a ha b hb hab => ?_⟩
    subst hab
    split at ha
    · simp at ha
    · rename_i hne
      simp at ha
      have key : ∀ (l : List Int), a ∈ highs ps n l → ∃ z ∈ l, highOf ps n z ≠ 0 ∧ highOf ps n z = a := by
        intro l
        induction l with
        | nil => intro h; simp [highs] at h
        | cons z l ih =>
          intro h
          rw [highs, List.mem_append] at h
          rcases h with h | h
          · split at h
            · simp at h
            · rename_i hz; simp at h; exact ⟨z, by simp, hz, h.symm⟩
          · obtain ⟨u, hu, h3⟩ := ih h
            exact ⟨u, List.mem_cons_of_mem _ hu, h3⟩
      obtain ⟨z, hz, hz0, hza⟩ := key ch hb
      obtain ⟨i, hi, hxi⟩ := high_lowF hne
      obtain ⟨j, hj, hzj⟩ := high_lowF hz0
      have e1 : at0 ps (i * 2 + 1) = at0 ps (j * 2 + 1) := by rw [← high_of hO hi, ← high_of hO hj, hxi, hzj, hza, ha]
      have := okTo_high_inj hO hi hj e1
      subst this
      exact h1 (by rw [← hxi, hzj]; exact hz)
theorem okTo_high_ne {V : Int} {fs ps : List Int} {n : Nat} (hC : IsC V fs) (hO : OkTo fs ps n) : ∀ i, i < n → at0 ps (i * 2 + 1) ≠ 0 := fun i hi e => by
  have := hC.range63 _ (okTo_mem hO hi).2
  omega
def pushS (ps : List Int) (n : Nat) (ch : List Int) : List Int := pushFrom ps n [] ch
theorem pushS_odd {V : Int} {fs ps ch : List Int} {n : Nat} (hC : IsC V fs) (hO : OkTo fs ps n) (ha : ch.Pairwise (· < ·)) : OddL (pushTo ps ch n) (pushS ps n ch) := by
  have h := push_odd (ps := ps) (n := n) ch [] [] OddL.nil
  refine ⟨h.1, fun y => ?_⟩
  have h2 := h.2 y
  unfold pushS
  rw [h2, List.nil_append, par_nodup (highs_nodup hO (asc_nodup ha)), par_nodup (pushTo_nodup hO n (Nat.le_refl _))]
  simp [highs_mem hO (okTo_high_ne hC hO)]
theorem pushS_mem {V : Int} {fs ps ch : List Int} {n : Nat} (hC : IsC V fs) (hO : OkTo fs ps n) (ha : ch.Pairwise (· < ·)) (y : Int) : y ∈ pushS ps n ch ↔ y ∈ pushTo ps ch n := by
  rw [(pushS_odd hC hO ha).2, par_nodup (pushTo_nodup hO n (Nat.le_refl _))]
  simp
theorem sidesAll_perm {p q : List Int} (h : p.Perm q) : (sidesAll p).Perm (sidesAll q) := by
  unfold sidesAll
  exact h.flatMap_right _
theorem bdL_perm {p q : List Int} (h : p.Perm q) (fs : List Int) : bdL fs p = bdL fs q := by
  unfold bdL
  refine List.filter_congr (fun x _ => ?_)
  rw [par_perm (sidesAll_perm h)]
theorem nodup_perm {p q : List Int} (hp : p.Nodup) (hq : q.Nodup) (h : ∀ y, y ∈ p ↔ y ∈ q) : p.Perm q := by
  rw [List.perm_iff_count]
  intro y
  by_cases hy : y ∈ p
  · rw [count_one hp hy, count_one hq ((h y).1 hy)]
  · rw [List.count_eq_zero.2 hy, List.count_eq_zero.2 (fun hq => hy ((h y).2 hq))]
theorem bd_push {V : Int} {fs ps ch : List Int} {n : Nat} (hC : IsC V fs) (hO : OkTo fs ps n) (ha : ch.Pairwise (· < ·)) : bdS (pushS ps n ch) = bdL fs (pushTo ps ch n) := by
  rw [bdS_bdL hC (fun x hx => pushTo_fs hO x ((pushS_mem hC hO ha x).1 hx))]
  exact bdL_perm (nodup_perm (asc_nodup (pushS_odd hC hO ha).1) (pushTo_nodup hO n (Nat.le_refl _)) (pushS_mem hC hO ha)) fs
/-- .. as the model sums it. -/
theorem flow_model {V : Int} {fs ps ch : List Int} {n : Nat} (hC : IsC V fs) (hO : OkTo fs ps n) (ha : ch.Pairwise (· < ·)) (hch : ∀ x ∈ ch, x ∈ fs) :
    sumS (sumS ch (bdS (pushS ps n ch))) (pushS ps n (bdS ch)) = flowL fs ps n ch := by
  rw [bd_push hC hO ha, bdS_bdL hC hch]
  have h1 := sum_odd (asc_odd ha) (bdL fs (pushTo ps ch n))
  have h2 := sum_odd h1 (pushS ps n (bdL fs ch))
  refine flow_prog hC hO ha hch ⟨h2.1, fun y => ?_⟩
  rw [h2.2, par_app, par_app, par_app, par_app, par_nodup (asc_nodup (pushS_odd hC hO (bdL_asc hC ch)).1), par_nodup (pushTo_nodup hO n (Nat.le_refl _))]
  have := pushS_mem hC hO (bdL_asc hC ch) y
  rw [show decide (y ∈ pushS ps n (bdL fs ch)) = decide (y ∈ pushTo ps (bdL fs ch) n) by rw [Bool.eq_iff_iff]; simp [this]]
  generalize decide (y ∈ pushTo ps (bdL fs ch) n) = a
  generalize par y ch = b
  generalize par y (bdL fs (pushTo ps ch n)) = c
  cases a <;> cases b <;> cases c <;> rfl

end Go.Proofs.YtpdhnjdnlgnniaaGreat

/-! slices.SortedFunc over integers; sumModuloTwo. -/
namespace Go.Proofs.YtpdhnjdnlgnniaaGreat
open Go.RowKit Go.Sort Go.Lib

/-- slices.SortFunc with cmp.Compare on a row of the call's own. -/
theorem sortI_any (base g n cap : Nat) (L : List Int) (w : World) (hL : L.length = n) (hown : w.ownsRow base 2 1 (.slice (some ⟨g, 0, none⟩) n cap) n (L.map (Value.int .i64))) (hn : n ≤ 1048576) :
    Calls Tryz.prog 84 #[.slice (some ⟨g, 0, none⟩) n cap, .func (.func 56) #[] #[]] w fun e w' =>
      e = .returned (.tuple #[]) ∧ w'.ownsRow base 2 1 (.slice (some ⟨g, 0, none⟩) n cap) n ((L.mergeSort fun x y => decide (x ≤ y)).map (Value.int .i64)) ∧ w.grownBy w' (some g) := by
  subst hL
  rcases hown.2 with ⟨hv, _⟩ | ⟨g', cap', cur, hv, hg, hh, h1, h2, h3, h4⟩
  · cases hv
  cases hv
  have hH : Holds (Value.int .i64) w g 0 L.toArray := holds_of_blockI hh (by simpa using h4)
  have hent : ∀ args w, (callFunc 56 args).run Tryz.prog w = .ok (.enter 56 args) w := enters_of Tryz.func56 (by kernel_rfl) rfl
  have hlt : ∀ x y, ltOf cmpI x y = decide (x < y) := fun x y => by
    unfold ltOf cmpI
    by_cases h1 : x < y
    · simp [h1]
    · by_cases h2 : y < x <;> simp [h1, h2]
  have hO : SWO (ltOf cmpI) := {
    irrefl := fun x => by rw [hlt]; simp
    trans := fun x y z h1 h2 => by rw [hlt] at *; simp at *; omega
    ntrans := fun x y z h1 h2 => by rw [hlt] at *; simp at *; omega }
  have hcon := Any.slices_SortFunc_total sortFI (Value.int .i64) (fun x => rfl) cmpI hO 56 #[] g 0 cap L.toArray w hent
    (fun m os dk _ x y => (cmp_any x y _).mono fun e w' ⟨he, hw⟩ => ⟨he, 0, #[], by rw [← hw, grow_empty]; rfl⟩) hH (lt_of_get hh) (by simp; omega) (fun x y h1 h2 => by rw [hlt] at h1 h2; simp at h1 h2; omega)
  refine Calls.mono hcon ?_
  rintro e w' ⟨rfl, m, os, rfl⟩
  have hf : (fun x y => !(ltOf cmpI) y x) = fun x y : Int => decide (x ≤ y) := by
    funext x y
    rw [hlt, Bool.eq_iff_iff]
    simp
  rw [hf]
  refine ⟨rfl, ?_, ?_⟩
  · have := ownsRow_sortedI (n := m) (os := os) (ss := L) (ts := L.mergeSort fun x y => decide (x ≤ y)) (base := base) (e := 2) (cap := cap) (by simp) hg hh h1 h2 h3
    exact this
  · exact grownBy_sortedI _

/-- slices.SortedFunc over slices.Values, from the world in which the iterator lies. -/
theorem sortedFV_any (a : Option Addr) (cap : Nat) (xs : List Int) (w : World) (hx : SlI w w.heap.size a xs) (hl : xs.length ≤ 1048576) :
    Calls Tryz.prog 70 #[.func (.func 85) #[] #[.pointer (some ⟨w.heap.size, 0, none⟩)], .func (.func 56) #[] #[]] (w.alloc (.cells #[.slice a xs.length cap] 22)) fun e w' => ∃ v, e = .returned v ∧ Res (w.alloc (.cells #[.slice a xs.length cap] 22)) w' v (xs.mergeSort fun x y => decide (x ≤ y)) := by
  have hB : Go.RowKit.Below w.heap.size w (w.alloc (.cells #[.slice a xs.length cap] 22)) := (Go.RowKit.Below.refl _ w).alloc (Nat.le_refl _) _
  have h := collect_in (α := Int) 20 (by decide) 85 #[.pointer (some ⟨w.heap.size, 0, none⟩)] (enters_of Tryz.func85 (by kernel_rfl) rfl) (fun x => x) (w.heap.size :: rowBs a xs) xs (w.alloc (.cells #[.slice a xs.length cap] 22)) (fun b hb => by
    rcases List.mem_cons.1 hb with rfl | hb
    · simp
    · unfold rowBs at hb
      split at hb
      · simp at hb
      · rcases hx with h | ⟨b', off, hb', rfl, _⟩
        · subst h; simp at *
        · simp at hb; subst hb; simp; omega) hl (values_P 18 (by decide) w.heap.size a cap xs _ (heap_alloc_new _ _) (hx.later hB hB.size) hl)
  rw [List.map_id'] at h
  obtain ⟨W, hW⟩ : ∃ W, W = w.alloc (.cells #[.slice a xs.length cap] 22) := ⟨_, rfl⟩
  rw [← hW] at h ⊢
  have HC := hid (callsIn_wide.1 h)
  have Hl := hid hl
  clear h hB hx hW
  go_enter Tryz.func70, Tryz.ntmps70
  go_wp2_with fail
  refine HC.out.mono ?_
  rintro e w1 ⟨v, rfl, hr⟩
  by_cases h0 : xs = []
  · have hv : ∃ p c, v = .slice p 0 c := by
      obtain ⟨_, p, c, h, _⟩ := ownsRow_slI hr.1
      exact ⟨p, c, by rw [h, h0]; rfl⟩
    obtain ⟨p, c, rfl⟩ := hv
    have HN := hid (AnyF.slices_SortFunc_none (P := Tryz.prog) (ρ := sortFI_ren) { sortFI with } p c (.func (.func 56) #[] #[]) w1)
    have Hr := hid hr
    clear hr
    go_wp2_with fail
    refine HN.out.mono ?_
    rintro e w2 ⟨rfl, rfl⟩
    go_wp2_with fail
    go_ret
    subst h0
    exact ⟨_, rfl, by simpa using Hr.out⟩
  · obtain ⟨k, hk⟩ : ∃ k, xs.length = k + 1 := ⟨xs.length - 1, by have := List.length_pos_iff.2 h0; omega⟩
    have ho := hr.1
    rw [hk] at ho
    obtain ⟨g, c, rfl⟩ := ownsRow_succ ho
    have HS := hid (sortI_any W.heap.size g (k + 1) c xs w1 hk ho (by have := Hl.out; omega))
    have HB := hid hr.2
    have Hk := hid hk
    clear hr ho hk h0
    go_wp2_with fail
    refine HS.out.mono ?_
    rintro e w2 ⟨rfl, hown2, hg2⟩
    have Ho2 := hid hown2
    have HB2 := hid (HB.out.grown hg2 HB.out.size (fun r e => by cases e; exact (hown2.lt g rfl).1))
    clear hown2 hg2
    go_wp2_with fail
    go_ret
    refine ⟨_, rfl, ?_, HB2.out⟩
    rw [List.length_mergeSort, Hk.out]
    exact Ho2.out

end Go.Proofs.YtpdhnjdnlgnniaaGreat

/-! sumModuloTwo over integers. -/
namespace Go.Proofs.YtpdhnjdnlgnniaaGreat
open Go.RowKit

theorem own_take {w : World} {base e n m g cap : Nat} {xs : List Value} (h : w.ownsRow base e 1 (.slice (some ⟨g, 0, none⟩) n cap) n xs) (hm : m ≤ n) : w.ownsRow base e 1 (.slice (some ⟨g, 0, none⟩) m cap) m (xs.take m) := by
  have hl := h.1
  rcases h.2 with ⟨h0, _⟩ | ⟨g', cap', cur, hv, hg, hh, h1, h2, h3, h4⟩
  · cases h0
  · injection hv with e1 _ e3
    injection e1 with e1
    injection e1 with e1 _ _
    subst e1; subst e3
    refine ⟨by simp; omega, .inr ⟨g, cap, cur, rfl, hg, hh, by omega, h2, h3, ?_⟩⟩
    rw [← h4, List.take_take]
    congr 1
    omega
theorem own_cap {w : World} {base e n g cap : Nat} {xs : List Value} (h : w.ownsRow base e 1 (.slice (some ⟨g, 0, none⟩) n cap) n xs) : n ≤ cap := by
  rcases h.2 with ⟨h0, _⟩ | ⟨g', cap', cur, hv, hg, hh, h1, h2, h3, h4⟩
  · cases h0
  · injection hv with _ _ e3
    omega

set_option maxRecDepth 100000 in
set_option maxHeartbeats 4000000 in
theorem sum2_any (g cp m : Nat) (gs : List (List Int)) (w : World) (hm : m = gs.length) (hn : m ≤ 1048576) (hg : g < w.heap.size) (hc : ∀ i, i < m → ∃ a c, w.cell? ⟨g, i, none⟩ = some (.slice a (gs[i]?.getD []).length c) ∧ SlJ w a c (gs[i]?.getD [])) (hl : gs.flatten.length ≤ 1048576) :
    Calls Tryz.prog 55 #[.func (.func 56) #[] #[], .slice (some ⟨g, 0, none⟩) m cp] w fun e w' => ∃ v s, e = .returned v ∧ OddL gs.flatten s ∧ Res w w' v s := by
  have HC := hid (concatL_any g cp m gs w hm hn hg hc hl)
  obtain ⟨F, hF⟩ : ∃ F, F = gs.flatten := ⟨_, rfl⟩
  rw [← hF] at HC hl ⊢
  clear hF hm hn hg hc
  go_enter Tryz.func55, Tryz.ntmps55
  go_wp2_with fail
  refine HC.out.mono ?_
  rintro e w1 ⟨v1, rfl, ho1, hb1⟩
  obtain ⟨_, a1, c1, rfl, hs1⟩ := ownsRow_slI ho1
  have HV := hid (callsIn_wide.1 (values_in 20 a1 c1 F w1))
  have HSF := hid (sortedFV_any a1 c1 F w1 hs1 hl)
  have HB1 := hid hb1
  clear ho1 hs1 hb1 HC
  go_wp2_with fail
  refine HV.out.mono ?_
  rintro e w2 ⟨rfl, rfl⟩
  go_wp2_with fail
  refine HSF.out.mono ?_
  rintro e w3 ⟨v3, rfl, hr3⟩
  obtain ⟨L, hL⟩ : ∃ L, L = F.mergeSort fun x y => decide (x ≤ y) := ⟨_, rfl⟩
  rw [← hL] at hr3
  obtain ⟨_, a3, c3, rfl, hs3⟩ := ownsRow_slI hr3.1
  have HB3 := hid (HB1.out.trans (((Below.refl _ w1).alloc (Nat.le_refl _) (.cells #[.slice a1 F.length c1] 22)).trans (hr3.2.mono (by simp)) |>.mono HB1.out.size))
  have hLl : L.length ≤ 1048576 := by rw [hL, List.length_mergeSort]; exact hl
  have HPerm : Hid (∀ y, par y L = par y F) := hid (fun y => by rw [hL]; exact par_perm (List.mergeSort_perm _ _) y)
  have HSrt : Hid (L.Pairwise (· ≤ ·)) := hid (by
    have := List.pairwise_mergeSort (le := fun x y : Int => decide (x ≤ y)) (fun a b c h1 h2 => by simp at *; omega) (fun a b => by simp; omega) F
    rw [← hL] at this
    exact this.imp (fun h => by simpa using h))
  have HS3 := hid hs3
  clear hr3 hs3 hL HSF HV
  go_wp2_with fail
  go_loopw [5, 15] (fun sv iv wx => ∃ (k : Nat) (av : Option Addr) (cv : Nat) (s : List Int), Hid (k ≤ L.length ∧ OddL (L.take k) s) ∧ sv = .slice av s.length cv ∧ iv = .int .i64 (k : Int) ∧ Hid (wx.ownsRow w3.heap.size 2 1 (.slice av s.length cv) s.length (s.map (Value.int .i64))) ∧ Hid (Below w3.heap.size w3 wx)) (fun _ iv _ => L.length - (intOf iv).toNat)
  case atStart => exact ⟨0, none, 0, [], hid ⟨Nat.zero_le _, by rw [List.take_zero]; exact OddL.nil⟩, rfl, rfl, hid (World.ownsRow_nil _ _ _ _), hid (Below.refl _ _)⟩
  case round =>
    obtain ⟨k, av, cv, s, HK, rfl, rfl, HO, HB⟩ := hrel
    obtain ⟨hk, hodd⟩ := HK.out
    have hk0 : (0 : Int) ≤ (k : Int) := by omega
    by_cases hlt : k < L.length
    · obtain ⟨x, hx⟩ : ∃ x, x = L[k]?.getD 0 := ⟨_, rfl⟩
      obtain ⟨b3, o3, hb3, rfl, hc3⟩ : ∃ b off, b < w3.heap.size ∧ a3 = some ⟨b, off, none⟩ ∧ w3.cell? ⟨b, off + k, none⟩ = some (.int .i64 x) := by
        rcases HS3.out with h | ⟨b, off, hb, h, hc⟩
        · rw [h] at hlt; simp at hlt
        · exact ⟨b, off, hb, h, by rw [hx]; exact hc k hlt⟩
      have hck := (HB.out.cell (p := ⟨b3, o3 + k, none⟩) hb3).trans hc3
      have hki : (k : Int) < (L.length : Int) := by omega
      have hle : ∀ y ∈ L.take k, y ≤ x := fun y hy => by
        obtain ⟨i, hi, rfl⟩ := List.getElem_of_mem hy
        have hik : i < k := by simp at hi; omega
        have := List.pairwise_iff_getElem.1 HSrt.out i k (by omega) hlt hik
        rw [hx, List.getElem?_eq_getElem hlt]
        simpa using this
      have HN := hid (hodd.step hle)
      have htk : L.take (k + 1) = L.take k ++ [x] := by rw [take_snoc hlt, hx]
      rw [← htk] at HN
      have hsl : s.length ≤ 1048576 := by
        have h1 : ∀ y ∈ s, y ∈ L.take k := fun y hy => by
          have := (hodd.2 y).1 hy
          unfold par at this
          exact List.count_pos_iff.1 (by simp at this; omega)
        have := sub_lenI _ _ (asc_nodup hodd.1) h1
        rw [List.length_take] at this
        omega
      by_cases hsn : s = []
      · subst hsn
        have HN' : Hid (OddL (L.take (k + 1)) [x]) := hid (by have := HN.out; unfold stk at this; simpa using this)
        have hown := HO.out
        have hbs := HB.out.size
        clear hx hc3 hle HN htk hodd HK
        simp only [List.length_nil] at hown ⊢
        go_wp2_with (at_builtin; refine append_int (xs := []) rfl rfl hown hbs (by simp) rfl rfl ?_; intro v' w4 hown4 hgrow4 hB4; obtain ⟨_, a4, c4, hv4, _⟩ := ownsRow_slI hown4; subst hv4; have Hown4 := hid hown4; have HB4 := hid (HB.out.trans hB4); clear hown4 hgrow4 hB4)
        go_roundw
        case rel => exact ⟨k + 1, a4, c4, [x], hid ⟨hlt, HN'.out⟩, rfl, by go_num, Hown4, HB4⟩
        case measure => simp [intOf]; omega
      · obtain ⟨n, hn⟩ : ∃ n, s.length = n + 1 := ⟨s.length - 1, by have := List.length_pos_iff.2 hsn; omega⟩
        have hO1 := HO.out
        rw [hn] at hO1
        obtain ⟨bs, cs, hav⟩ := ownsRow_succ hO1
        injection hav with hav1 _ hav3
        subst hav1; subst hav3
        have hcap := own_cap hO1
        obtain ⟨y, hy⟩ : ∃ y, y = s[n]?.getD 0 := ⟨_, rfl⟩
        have hcy : wr.cell? ⟨bs, n, none⟩ = some (.int .i64 y) := by
          rcases owned_slI HO.out with h | ⟨b, off, _, h2, h3⟩
          · exact absurd h hsn
          · injection h2 with h2
            injection h2 with e4 e5 _
            have := h3 n (by omega)
            rw [← e4, ← e5, Nat.zero_add] at this
            rw [hy]
            exact this
        have hn0 : (0 : Int) ≤ (n : Int) := by omega
        have hn1 : (n : Int) < (n : Int) + 1 := by omega
        have hcap2 : (n : Int) ≤ (cv : Int) := by omega
        have Hnl : Hid (n ≤ 1048576) := hid (by omega)
        have hsz := HB.out.size
        by_cases hxy : y = x
        · have hd : (y == x) = true := by simpa using hxy
          have HN' : Hid (OddL (L.take (k + 1)) (s.take n)) := hid (by
            have := HN.out
            unfold stk at this
            rw [hn, Nat.add_sub_cancel, if_pos ⟨by rw [← hy]; exact hxy, hsn⟩] at this
            exact this)
          have HT := hid (own_take hO1 (m := n) (by omega))
          have Htl : Hid ((s.take n).length = n ∧ (s.map (Value.int .i64)).take n = (s.take n).map (Value.int .i64)) := hid ⟨by simp; omega, by rw [List.map_take]⟩
          rw [hn]
          clear hx hc3 hle HN htk hodd HK hn hy hxy hO1 HO
          have hwn : wrap64 (n : Int) = (n : Int) := IntWalk.wrap64_in _ ⟨by omega, by have := Hnl.out; omega⟩
          go_wp2_with fail
          clear hwn
          go_roundw
          case rel => exact ⟨k + 1, _, cv, s.take n, hid ⟨hlt, HN'.out⟩, by rw [Htl.out.1], by go_num, by rw [Htl.out.1, ← Htl.out.2]; exact HT, HB⟩
          case measure => simp [intOf]; omega
        · have hd : (y == x) = false := by simpa using hxy
          have HN' : Hid (OddL (L.take (k + 1)) (s ++ [x])) := hid (by
            have := HN.out
            unfold stk at this
            rw [hn, Nat.add_sub_cancel, if_neg (fun h => hxy (by rw [hy]; exact h.1))] at this
            exact this)
          have HOw : Hid (wr.ownsRow w3.heap.size 2 1 (.slice (some ⟨bs, 0, none⟩) (n + 1) cv) s.length (s.map (Value.int .i64))) := hid (by rw [hn]; exact hO1)
          have Hsl := hid hsl
          rw [hn]
          clear hx hc3 hle HN htk hodd HK hy hxy hO1 hn HO hsl
          have hbs := HB.out.size
          have hwn : wrap64 (n : Int) = (n : Int) := IntWalk.wrap64_in _ ⟨by omega, by have := Hnl.out; omega⟩
          go_wp2_with (at_builtin; refine append_int (xs := s) rfl rfl HOw.out hbs (by have := Hsl.out; omega) rfl rfl ?_; intro v' w4 hown4 hgrow4 hB4; obtain ⟨_, a4, c4, hv4, _⟩ := ownsRow_slI hown4; subst hv4; have Hown4 := hid hown4; have HB4 := hid (HB.out.trans hB4); clear hown4 hgrow4 hB4)
          clear hwn
          go_roundw
          case rel => exact ⟨k + 1, a4, c4, s ++ [x], hid ⟨hlt, HN'.out⟩, by simp, by go_num, Hown4, HB4⟩
          case measure => simp [intOf]; omega
    · obtain rfl : k = L.length := by omega
      rw [List.take_length] at hodd
      have HOd : Hid (OddL F s) := hid ⟨hodd.1, fun y => by rw [hodd.2, HPerm.out]⟩
      clear hodd HK
      go_wp2_with fail
      go_ret
      have hr : Res w3 wr (.slice av s.length cv) s := ⟨HO.out, HB.out⟩
      exact ⟨_, _, rfl, HOd.out, hr.later HB3.out⟩

end Go.Proofs.YtpdhnjdnlgnniaaGreat

/-! A region that draws its order, whose last operation writes what others read: what is held of the world is asked behind every operation but that one. -/
namespace Go.Proofs.YtpdhnjdnlgnniaaGreat
open Go.RowKit

section
variable {P : Program} {ops : Array Oper} {Q : Exit → Act → World → Prop} {md : Region.Mode} {S : World → Prop} {m : Nat}

/-- Whatever order is picked; S holds behind every operation but number m. -/
def anyM (P : Program) (md : Region.Mode) (ops : Array Oper) (Q : Exit → Act → World → Prop) (S : World → Prop) (m : Nat) : Nat → Array Bool → Act → World → Prop
  | 0, listed, a, w => Region.ready md ops listed = [] ∧ Q .normal a w
  | fuel + 1, listed, a, w => (Region.ready md ops listed = [] → Q .normal a w) ∧
      ∀ i ∈ Region.ready md ops listed, wpOp P ops Q i (fun a' w' => (i ≠ m → S w') ∧ anyM P md ops Q S m fuel (listed.setIfInBounds i true) a' w') a w

theorem any_of_M : ∀ (fuel : Nat) (listed : Array Bool) (a : Act) (w : World), anyM P md ops Q S m fuel listed a w → wpAny P md ops Q fuel listed a w
  | 0, _, _, _, h => h
  | fuel + 1, _, _, _, h => ⟨h.1, fun i hi => wpOp_mono (fun a' w' h' => any_of_M fuel _ a' w' h'.2) (h.2 i hi)⟩

/-- Each number waits for the one ahead of it. -/
def queueB (md : Region.Mode) (ops : Array Oper) : List Nat → Bool
  | x :: y :: r => (match ops[y]? with | some o => o.after.any (fun e => Region.binds md e && e.on == x) | none => false) && queueB md ops (y :: r)
  | _ => true

theorem queue_unready {listed : Array Bool} : ∀ (cs : List Nat) (i : Nat), queueB md ops (i :: cs) = true → (∀ c ∈ i :: cs, listed.getD c true = false) → ∀ c ∈ cs, c ∉ Region.ready md ops listed
  | [], _, _, _ => fun c hc => by cases hc
  | y :: r, i, h, hu => fun c hc => by
    simp only [queueB, Bool.and_eq_true] at h
    rcases List.mem_cons.1 hc with rfl | hc
    · intro hr
      obtain ⟨_, o, ho, hall⟩ := mem_ready.1 hr
      have h1 := h.1
      rw [ho] at h1
      simp only [Array.any_eq_true', Bool.and_eq_true, beq_iff_eq] at h1
      obtain ⟨e, he, hb, heq⟩ := h1
      have h2 := hall e he hb
      have h0 := hu i (List.mem_cons_self ..)
      rw [heq] at h2
      rcases Nat.lt_or_ge i listed.size with h' | h'
      · simp [h'] at h0 h2; rw [h0] at h2; cases h2
      · simp [Array.getElem?_eq_none h'] at h2
    · exact queue_unready r y h.2 (fun c hc => hu c (List.mem_cons_of_mem _ hc)) c hc

theorem anyM_first {i : Nat} {oi : Oper} {v : Value} (hi : ops[i]? = some oi) (hsel : ∀ (j : Nat) (o : Oper) cs b, ops[j]? = some o → o.op ≠ .select cs b)
    (hQ : ∀ c a w, Q (.panic c) (a.put oi.dst v) w → Q (.panic c) a w) {cs : List Nat} (hcs : queueB md ops (i :: cs) = true) (hm : m ∈ cs) :
    ∀ (fuel : Nat) (listed : Array Bool) (a : Act) (w : World),
      (∀ j oj, ops[j]? = some oj → j ≠ i → listed.getD j true = false → (∀ e ∈ oj.after, Region.binds md e = true → e.on ≠ i) → oi.apart ops oj = true) →
      i ∈ Region.ready md ops listed → (∀ c ∈ i :: cs, listed.getD c true = false) → YieldsIf P ops S oi v a → S w →
      anyM P md ops Q S m fuel (listed.setIfInBounds i true) (a.put oi.dst v) w → anyM P md ops Q S m (fuel + 1) listed a w := by
  intro fuel
  induction fuel with
  | zero =>
    intro listed a w _ hr _ hy hS H
    refine ⟨fun h => (by rw [h] at hr; cases hr), fun j hj => ?_⟩
    by_cases hji : j = i
    · subst hji; exact hy.wpOp hi hS ⟨fun _ => hS, H⟩
    · have := ready_mono hj hji
      rw [H.1] at this
      cases this
  | succ fuel ih =>
    intro listed a w hfree hr hu hy hS H
    refine ⟨fun h => (by rw [h] at hr; cases hr), fun j hj => ?_⟩
    by_cases hji : j = i
    · subst hji; exact hy.wpOp hi hS ⟨fun _ => hS, H⟩
    · have hjcs : j ∉ cs := fun hc => queue_unready cs i hcs hu j hc hj
      have hjm : j ≠ m := fun e => hjcs (e ▸ hm)
      have h1 := H.2 j (ready_mono hj hji)
      obtain ⟨hjun, oj, hoj, hall⟩ := mem_ready.1 hj
      have hnot : ∀ e ∈ oj.after, Region.binds md e = true → e.on ≠ i := fun e he hb heq => by
        have h1 := hall e he hb
        have h0 := (mem_ready.1 hr).1
        rw [heq] at h1
        rcases Nat.lt_or_ge i listed.size with h' | h'
        · simp [h'] at h0 h1; rw [h0] at h1; cases h1
        · simp [Array.getElem?_eq_none h'] at h1
      have h2 := wpOp_putIf hoj (hfree j oj hoj hji hjun hnot) (fun cs b => hsel i oi cs b hi) (fun cs b => hsel j oj cs b hoj) hQ hy h1
      have hfree' : ∀ k ok, ops[k]? = some ok → k ≠ i → (listed.setIfInBounds j true).getD k true = false →
          (∀ e ∈ ok.after, Region.binds md e = true → e.on ≠ i) → oi.apart ops ok = true := fun k ok hk hki hun hno => by
        refine hfree k ok hk hki ?_ hno
        by_cases hjk : j = k
        · subst hjk; exact hjun
        · rw [getD_set_ne true hjk] at hun; exact hun
      have hu' : ∀ c ∈ i :: cs, (listed.setIfInBounds j true).getD c true = false := fun c hc => by
        rw [getD_set_ne true (fun e => ?_)]
        · exact hu c hc
        · rcases List.mem_cons.1 hc with h | h
          · exact hji (e.trans h)
          · exact hjcs (e ▸ h)
      refine wpOp_mono (fun a' w' h3 => ⟨h3.2.1, ih (listed.setIfInBounds j true) a' w' hfree' (ready_mono hr (Ne.symm hji)) hu' h3.1 (h3.2.1 hjm) ?_⟩) h2
      rw [Array.setIfInBounds_comm _ _ hji]
      exact h3.2.2

theorem anyM_take {i : Nat} {oi : Oper} {v : Value} {fuel : Nat} {listed : Array Bool} {a : Act} {w : World} (cs : List Nat) (hi : ops[i]? = some oi)
    (hs : (Region.noSelect ops && queueB md ops (i :: cs) && cs.contains m && (i :: cs).all (fun c => !listed.getD c true) && Region.free md ops listed i && (Region.ready md ops listed).contains i) = true)
    (hQ : ∀ c a w, Q (.panic c) (a.put oi.dst v) w → Q (.panic c) a w) (hy : YieldsIf P ops S oi v a) (hS : S w)
    (h : anyM P md ops Q S m fuel (listed.setIfInBounds i true) (a.put oi.dst v) w) : anyM P md ops Q S m (fuel + 1) listed a w := by
  simp only [Bool.and_eq_true] at hs
  obtain ⟨⟨⟨⟨⟨h1, h2⟩, h3⟩, h4⟩, h5⟩, h6⟩ := hs
  exact anyM_first hi (Region.noSelect_spec h1) hQ h2 (by simpa using h3) fuel listed a w (Region.free_spec hi h5) (by simpa using h6) (fun c hc => by simpa using List.all_eq_true.1 h4 c hc) hy hS h

/-- Each of the operations 'rs' comes up next. -/
def AllM (P : Program) (md : Region.Mode) (ops : Array Oper) (Q : Exit → Act → World → Prop) (S : World → Prop) (m fuel : Nat) (listed : Array Bool) (a : Act) (w : World) (rs : List Nat) : Prop :=
  ∀ i ∈ rs, wpOp P ops Q i (fun a' w' => (i ≠ m → S w') ∧ anyM P md ops Q S m fuel (listed.setIfInBounds i true) a' w') a w
theorem AllM.nil {fuel : Nat} {listed : Array Bool} {a : Act} {w : World} : AllM P md ops Q S m fuel listed a w [] := fun _ h => by cases h
theorem AllM.cons {fuel : Nat} {listed : Array Bool} {a : Act} {w : World} {i : Nat} {o : Oper} {rs : List Nat} (ho : ops[i]? = some o)
    (h : ∀ K' : Act → World → Prop, Go.Shut (∀ a w, (i ≠ m → S w) → anyM P md ops Q S m fuel (listed.setIfInBounds i true) a w → K' a w) → if Region.wanted o (yielded ops a.tmps) = true then Oper.wp P o a w K' Q else K' (a.put o.dst undef) w)
    (hs : AllM P md ops Q S m fuel listed a w rs) : AllM P md ops Q S m fuel listed a w (i :: rs) := fun j hj => by
  rcases List.mem_cons.1 hj with rfl | hj
  · exact wpOp_step ho (fun K' hK => h K' (fun a w hS hW => hK a w ⟨hS, hW⟩))
  · exact hs j hj
theorem anyM_ready {rs : List Nat} {fuel : Nat} {listed : Array Bool} {a : Act} {w : World} (hr : (Region.ready md ops listed == rs) = true) (hne : rs ≠ [])
    (h : AllM P md ops Q S m fuel listed a w rs) : anyM P md ops Q S m (fuel + 1) listed a w :=
  ⟨fun h0 => absurd (eq_of_beq hr ▸ h0) hne, eq_of_beq hr ▸ h⟩
theorem anyM_done {listed : Array Bool} {a : Act} {w : World} (hr : (Region.ready md ops listed).isEmpty = true) (h : Q .normal a w) : ∀ fuel, anyM P md ops Q S m fuel listed a w
  | 0 => ⟨List.isEmpty_iff.1 hr, h⟩
  | _ + 1 => ⟨fun _ => h, by rw [List.isEmpty_iff.1 hr]; simp⟩
/-- The beginning. -/
theorem region_M {id : Nat} {a : Act} {w : World} (m : Nat) (S : World → Prop) (hm : P.follows .mixedOrders = true)
    (h : anyM P .any ops Q S m ops.size (Array.replicate ops.size false) a w.drew) : (Code.region id ops true).wp P Q a w :=
  wp_region_any hm (any_of_M _ _ _ _ h)
end

end Go.Proofs.YtpdhnjdnlgnniaaGreat

/-! pushesOf and flow: the program's. -/
namespace Go.Proofs.YtpdhnjdnlgnniaaGreat
open Go.RowKit

set_option maxRecDepth 100000 in
set_option maxHeartbeats 4000000 in
theorem push_any (a1 : Option Addr) (n cap1 : Nat) (ps : List Int) (a2 : Option Addr) (cap2 : Nat) (ch : List Int) (w : World) (hx : SlI w w.heap.size a1 ps) (hy : SlI w w.heap.size a2 ch) (hp : ps.length = 2 * n) (hn : n ≤ 1048576) (hg : ch.length ≤ 1048576) :
    Calls Tryz.prog 58 #[.slice a1 n cap1, .slice a2 ch.length cap2] w fun e w' => ∃ v, e = .returned v ∧ Res w w' v (pushTo ps ch n) := by
  have Hx := hid hx
  have Hp := hid hp
  have HCt := hid (fun x W (h : Below w.heap.size w W) => contains_any a2 cap2 ch x W (hy.later h h.size) hg)
  clear hx hy hp
  go_enter Tryz.func58, Tryz.ntmps58
  go_wp2_with fail
  go_loopw [5, 10] (fun sv iv wx => ∃ (k : Nat) (av : Option Addr) (cv : Nat) (s : List Int), Hid (k ≤ n ∧ s = pushTo ps ch k) ∧ sv = .slice av s.length cv ∧ iv = .int .i64 (k : Int) ∧ Hid (wx.ownsRow w.heap.size 2 1 (.slice av s.length cv) s.length (s.map (Value.int .i64))) ∧ Hid (Below w.heap.size w wx)) (fun _ iv _ => n - (intOf iv).toNat)
  case atStart => exact ⟨0, none, 0, [], hid ⟨Nat.zero_le _, rfl⟩, rfl, rfl, hid (World.ownsRow_nil _ _ _ _), hid (Below.refl _ _)⟩
  case round =>
    obtain ⟨k, av, cv, s, HK, rfl, rfl, HO, HB⟩ := hrel
    obtain ⟨hk, hs⟩ := HK.out
    have hk0 : (0 : Int) ≤ (k : Int) := by omega
    by_cases hlt : k < n
    · obtain ⟨b, off, hb, rfl, hc⟩ : ∃ b off, b < w.heap.size ∧ a1 = some ⟨b, off, none⟩ ∧ ∀ i, i < ps.length → w.cell? ⟨b, off + i, none⟩ = some (.int .i64 (ps[i]?.getD 0)) := by
        rcases Hx.out with h | h
        · have := Hp.out; rw [h] at this; simp at this; omega
        · exact h
      have c0 : wr.cell? ⟨b, off + k * 2, none⟩ = some (.int .i64 (at0 ps (k * 2))) := (HB.out.cell (p := ⟨b, off + k * 2, none⟩) hb).trans (hc _ (by have := Hp.out; omega))
      have c1 : wr.cell? ⟨b, off + k * 2 + 1, none⟩ = some (.int .i64 (at0 ps (k * 2 + 1))) := (HB.out.cell (p := ⟨b, off + k * 2 + 1, none⟩) hb).trans (hc (k * 2 + 1) (by have := Hp.out; omega))
      have Hsn : Hid (pushTo ps ch (k + 1) = s ++ (if at0 ps (k * 2) ∈ ch then [at0 ps (k * 2 + 1)] else [])) := hid (by rw [pushTo, hs])
      have hsl : s.length ≤ 1048576 := by have := pushTo_len ps ch k; rw [hs]; omega
      obtain ⟨x, hx⟩ : ∃ x, x = at0 ps (k * 2) := ⟨_, rfl⟩
      obtain ⟨y, hy⟩ : ∃ y, y = at0 ps (k * 2 + 1) := ⟨_, rfl⟩
      rw [← hx] at c0 Hsn
      rw [← hy] at c1 Hsn
      have hki : (k : Int) < (n : Int) := by omega
      have HBx : Hid (Below w.heap.size w (wr.alloc (.cells #[.int .i64 x, .int .i64 y] 47))) := hid (HB.out.trans (((Below.refl _ wr).alloc (Nat.le_refl _) _).mono HB.out.size))
      have HCx := hid (HCt.out x _ HBx.out)
      have hown := HO.out.alloc (.cells #[.int .i64 x, .int .i64 y] 47)
      have hbs := HBx.out.size
      clear hx hy hs hc HK
      by_cases hm : x ∈ ch
      · rw [if_pos hm] at Hsn
        rw [decide_eq_true hm] at HCx
        clear hm
        go_wp2_with (first
          | (go_at_call 39; refine HCx.out.mono ?_; rintro e w' ⟨rfl, rfl⟩)
          | (at_builtin; refine append_int rfl rfl hown hbs (by omega) rfl (by rw [World.size_alloc]; rfl) ?_; intro v' w4 hown4 hgrow4 hB4; obtain ⟨_, a4, c4, hv4, _⟩ := ownsRow_slI hown4; subst hv4; have Hown4 := hid hown4; have HB4 := hid (HBx.out.trans hB4); clear hown4 hgrow4 hB4))
        go_roundw
        case rel => exact ⟨k + 1, a4, c4, s ++ [y], hid ⟨hlt, Hsn.out.symm⟩, by simp, by go_num, Hown4, HB4⟩
        case measure => simp [intOf]; omega
      · rw [if_neg hm, List.append_nil] at Hsn
        rw [decide_eq_false hm] at HCx
        have HO2 := hid hown
        clear hm
        go_wp2_with (first
          | (go_at_call 39; refine HCx.out.mono ?_; rintro e w' ⟨rfl, rfl⟩))
        go_roundw
        case rel => exact ⟨k + 1, av, cv, s, hid ⟨hlt, Hsn.out.symm⟩, rfl, by go_num, HO2, HBx⟩
        case measure => simp [intOf]; omega
    · obtain rfl : k = n := by omega
      have Hs := hid hs
      clear hs HK
      go_wp2_with fail
      go_ret
      have hr : Res w wr (.slice av s.length cv) s := ⟨HO.out, HB.out⟩
      exact ⟨_, rfl, by rw [← Hs.out]; exact hr⟩

set_option maxRecDepth 100000 in
set_option maxHeartbeats 4000000 in
theorem flow_any (V : Int) (a0 : Option Addr) (cap : Nat) (fs : List Int) (a1 : Option Addr) (n cap1 : Nat) (ps : List Int) (a2 : Option Addr) (cap2 : Nat) (ch : List Int) (w : World) (hx : SlI w w.heap.size a0 fs) (hx1 : SlI w w.heap.size a1 ps) (hx2 : SlI w w.heap.size a2 ch) (hl : fs.length ≤ 1048576) (hp : ps.length = 2 * n) (hn : n ≤ 1048576) (hg : ch.length ≤ 1048576)
    (hj : SlJ w a2 cap2 ch) (hC : IsC V fs) (hO : OkTo fs ps n) (ha : ch.Pairwise (· < ·)) (hch : ∀ x ∈ ch, x ∈ fs) (hn63 : n ≤ 63) :
    Calls Tryz.prog 40 #[.agg #[.int .i64 V, .slice a0 fs.length cap], .slice a1 n cap1, .slice a2 ch.length cap2] w fun e w' => ∃ v, e = .returned v ∧ Res w w' v (flowL fs ps n ch) := by
  obtain ⟨W0, hW0⟩ : ∃ W0, W0 = w.alloc (.cells #[.int .i64 V, .slice a0 fs.length cap] 30) := ⟨_, rfl⟩
  have hB0 : Below w.heap.size w W0 := by rw [hW0]; exact (Below.refl _ w).alloc (Nat.le_refl _) _
  have hk0 : W0.heap[w.heap.size]? = some (.cells #[.int .i64 V, .slice a0 fs.length cap] 30 (0, 0)) := by rw [hW0]; exact heap_alloc_new _ _
  have hwl : w.heap.size < W0.heap.size := lt_get hk0
  have hkc := two_of hk0
  have r63 := hC.range63
  have h63 := hC.len63
  have HP := hid (fun W (h : Below w.heap.size w W) a c (xs : List Int) (hs : SlI W W.heap.size a xs) (hl : xs.length ≤ 1048576) => push_any a1 n cap1 ps a c xs W (hx1.later h h.size) hs hp hn hl)
  have HBd := hid (fun W (h : Below w.heap.size w W) a c (xs : List Int) (hs : SlI W W.heap.size a xs) (hl' : xs.length ≤ 1048576) (hr : ∀ x ∈ xs, x ∈ fs) => bd_any V a0 cap fs a c xs W (hx.later h h.size) hs hl r63 (fun x hx => r63 x (hr x hx)) hl')
  have HC := hid hC
  have HO := hid hO
  have Hfl := hid (fun s (h : OddL [ch, bdL fs (pushTo ps ch n), pushTo ps (bdL fs ch) n].flatten s) => flow_prog hC hO ha hch (by simpa using h))
  have HX2 := hid hx2
  have HJ := hid hj
  have Hch := hid hch
  have Hg := hid hg
  have hP1 := pushTo_len ps ch n
  have hP2 := pushTo_len ps (bdL fs ch) n
  have hL1 : (bdL fs (pushTo ps ch n)).length ≤ fs.length := List.length_filter_le _ _
  have hL2 : (bdL fs ch).length ≤ fs.length := List.length_filter_le _ _
  obtain ⟨P1, hP1e⟩ : ∃ P, P = pushTo ps ch n := ⟨_, rfl⟩
  obtain ⟨B2, hB2e⟩ : ∃ P, P = bdL fs ch := ⟨_, rfl⟩
  have hPf : ∀ x ∈ P1, x ∈ fs := fun x hx => pushTo_fs hO x (by rw [← hP1e]; exact hx)
  rw [← hP1e] at hP1 hL1 Hfl
  rw [← hB2e] at hP2 hL2 Hfl
  obtain ⟨B1, hB1e⟩ : ∃ P, P = bdL fs P1 := ⟨_, rfl⟩
  obtain ⟨P2, hP2e⟩ : ∃ P, P = pushTo ps B2 n := ⟨_, rfl⟩
  rw [← hB1e] at hL1 Hfl
  rw [← hP2e] at hP2 Hfl
  have Hls := hid (show P1.length ≤ 63 ∧ B1.length ≤ 63 ∧ B2.length ≤ 63 ∧ P2.length ≤ 63 from ⟨by omega, by omega, by omega, by omega⟩)
  have HPf := hid hPf
  have Hchl := hid (show ch.length ≤ 63 from by have := sub_lenI _ _ (asc_nodup ha) hch; omega)
  have HE := hid (show P1 = pushTo ps ch n ∧ B2 = bdL fs ch ∧ B1 = bdL fs P1 ∧ P2 = pushTo ps B2 n from ⟨hP1e, hB2e, hB1e, hP2e⟩)
  obtain ⟨F, hF⟩ : ∃ F, F = flowL fs ps n ch := ⟨_, rfl⟩
  rw [← hF] at Hfl ⊢
  have HB0 := hid hB0
  have Hwl := hid hwl
  have Hkc := hid (show W0.cell? ⟨w.heap.size, 0, none⟩ = some (.int .i64 V) ∧ W0.cell? ⟨w.heap.size, 1, none⟩ = some (.slice a0 fs.length cap) from ⟨hkc.1, hkc.2.1⟩)
  clear hx hx1 hx2 hj hC hO ha hch hB0 hkc hk0 hP1 hP2 hL1 hL2 hPf hP1e hB2e hB1e hP2e hF r63 h63 hp hwl hg hl
  go_enter Tryz.func40, Tryz.ntmps40
  go_wp2_with fail
  rw [← hW0]
  clear hW0
  refine region_M 13 (fun W : World => W.cell? ⟨w.heap.size, 0, none⟩ = some (.int .i64 V) ∧ W.cell? ⟨w.heap.size, 1, none⟩ = some (.slice a0 fs.length cap)) (by kernel_rfl) ?_
  obtain ⟨x0, hx0⟩ : ∃ x, x = W0.drew := ⟨_, rfl⟩
  have hb0 : Below W0.heap.size W0 x0 := by rw [hx0]; exact ⟨rfl, rfl, rfl, Nat.le_refl _, fun _ _ => rfl⟩
  rw [← hx0]
  have HX0 : Hid (x0.cell? ⟨w.heap.size, 0, none⟩ = some (.int .i64 V) ∧ x0.cell? ⟨w.heap.size, 1, none⟩ = some (.slice a0 fs.length cap)) := hid ⟨(hb0.cell (p := ⟨w.heap.size, 0, none⟩) Hwl.out).trans Hkc.out.1, (hb0.cell (p := ⟨w.heap.size, 1, none⟩) Hwl.out).trans Hkc.out.2⟩
  have HBx := hid (HB0.out.trans (hb0.mono HB0.out.size))
  have Hwx := hid (Nat.lt_of_lt_of_le Hwl.out hb0.size)
  clear hx0 hb0 HB0 Hkc Hwl
  refine anyM_take (i := 0) (v := .slice a2 ch.length cap2) [11, 12, 13] rfl (by kernel_rfl) (fun _ _ _ h => h) (Or.inl ⟨by rfl, fun W hW => by go_simp⟩) HX0.out ?_
  refine anyM_take (i := 1) (v := .agg #[.int .i64 V, .slice a0 fs.length cap]) [5, 9, 10, 11, 12, 13] rfl (by kernel_rfl) (fun _ _ _ h => h) (Or.inl ⟨by rfl, fun W hW => by (obtain ⟨z0, z1⟩ := hW; go_simp)⟩) HX0.out ?_
  refine anyM_take (i := 2) (v := .slice a1 n cap1) [4, 5, 9, 10, 11, 12, 13] rfl (by kernel_rfl) (fun _ _ _ h => h) (Or.inl ⟨by rfl, fun W hW => by go_simp⟩) HX0.out ?_
  refine anyM_take (i := 3) (v := .slice a2 ch.length cap2) [4, 5, 9, 10, 11, 12, 13] rfl (by kernel_rfl) (fun _ _ _ h => h) (Or.inl ⟨by rfl, fun W hW => by go_simp⟩) HX0.out ?_
  refine anyM_take (i := 6) (v := .slice a1 n cap1) [10, 11, 12, 13] rfl (by kernel_rfl) (fun _ _ _ h => h) (Or.inl ⟨by rfl, fun W hW => by go_simp⟩) HX0.out ?_
  refine anyM_take (i := 7) (v := .agg #[.int .i64 V, .slice a0 fs.length cap]) [9, 10, 11, 12, 13] rfl (by kernel_rfl) (fun _ _ _ h => h) (Or.inl ⟨by rfl, fun W hW => by (obtain ⟨z0, z1⟩ := hW; go_simp)⟩) HX0.out ?_
  refine anyM_take (i := 8) (v := .slice a2 ch.length cap2) [9, 10, 11, 12, 13] rfl (by kernel_rfl) (fun _ _ _ h => h) (Or.inl ⟨by rfl, fun W hW => by go_simp⟩) HX0.out ?_
  refine anyM_ready (rs := [4]) (by kernel_rfl) (by simp) ?_
  refine AllM.cons rfl (fun K hK => ?_) AllM.nil
  go_simp
  go_at_call 58
  refine (HP.out x0 HBx.out a2 cap2 ch (HX2.out.later HBx.out HBx.out.size) Hg.out).mono ?_
  rintro e x1 ⟨v1, rfl, hr1⟩
  rw [← HE.out.1] at hr1
  obtain ⟨_, aP, cP, rfl, hsP⟩ := ownsRow_slI hr1.1
  have HX1 : Hid (x1.cell? ⟨w.heap.size, 0, none⟩ = some (.int .i64 V) ∧ x1.cell? ⟨w.heap.size, 1, none⟩ = some (.slice a0 fs.length cap)) := hid ⟨(hr1.2.cell (p := ⟨w.heap.size, 0, none⟩) Hwx).trans HX0.out.1, (hr1.2.cell (p := ⟨w.heap.size, 1, none⟩) Hwx).trans HX0.out.2⟩
  have HB1 := hid (HBx.out.trans (hr1.2.mono HBx.out.size))
  have Hw1 := hid (Nat.lt_of_lt_of_le Hwx hr1.2.size)
  have HsP := hid hsP
  clear hr1 hsP
  refine hK.out _ _ (fun _ => HX1.out) ?_
  clear hK K
  refine anyM_ready (rs := [5]) (by kernel_rfl) (by simp) ?_
  refine AllM.cons rfl (fun K hK => ?_) AllM.nil
  go_simp
  go_at_call 57
  refine (HBd.out x1 HB1.out aP cP P1 HsP.out (by have := Hls.out.1; omega) HPf.out).mono ?_
  rintro e x2 ⟨v2, rfl, hr2⟩
  rw [← HE.out.2.2.1] at hr2
  obtain ⟨_, aB, cB, rfl, _⟩ := ownsRow_slI hr2.1
  have HX2c : Hid (x2.cell? ⟨w.heap.size, 0, none⟩ = some (.int .i64 V) ∧ x2.cell? ⟨w.heap.size, 1, none⟩ = some (.slice a0 fs.length cap)) := hid ⟨(hr2.2.cell (p := ⟨w.heap.size, 0, none⟩) Hw1.out).trans HX1.out.1, (hr2.2.cell (p := ⟨w.heap.size, 1, none⟩) Hw1.out).trans HX1.out.2⟩
  have HB2 := hid (HB1.out.trans (hr2.2.mono HB1.out.size))
  have Hw2 := hid (Nat.lt_of_lt_of_le Hw1.out hr2.2.size)
  have HjB := hid (slJ_own rfl hr2.1)
  clear hr2
  refine hK.out _ _ (fun _ => HX2c.out) ?_
  clear hK K
  refine anyM_ready (rs := [9]) (by kernel_rfl) (by simp) ?_
  refine AllM.cons rfl (fun K hK => ?_) AllM.nil
  go_simp
  go_at_call 57
  refine (HBd.out x2 HB2.out a2 cap2 ch (HX2.out.later HB2.out HB2.out.size) Hg.out Hch.out).mono ?_
  rintro e x3 ⟨v3, rfl, hr3⟩
  rw [← HE.out.2.1] at hr3
  obtain ⟨_, aC, cC, rfl, hsC⟩ := ownsRow_slI hr3.1
  have HX3 : Hid (x3.cell? ⟨w.heap.size, 0, none⟩ = some (.int .i64 V) ∧ x3.cell? ⟨w.heap.size, 1, none⟩ = some (.slice a0 fs.length cap)) := hid ⟨(hr3.2.cell (p := ⟨w.heap.size, 0, none⟩) Hw2.out).trans HX2c.out.1, (hr3.2.cell (p := ⟨w.heap.size, 1, none⟩) Hw2.out).trans HX2c.out.2⟩
  have HB3 := hid (HB2.out.trans (hr3.2.mono HB2.out.size))
  have Hw3 := hid (Nat.lt_of_lt_of_le Hw2.out hr3.2.size)
  have HjB := hid (HjB.out.later hr3.2 hr3.2.size)
  have HsC := hid hsC
  clear hr3 hsC
  refine hK.out _ _ (fun _ => HX3.out) ?_
  clear hK K
  refine anyM_ready (rs := [10]) (by kernel_rfl) (by simp) ?_
  refine AllM.cons rfl (fun K hK => ?_) AllM.nil
  go_simp
  go_at_call 58
  refine (HP.out x3 HB3.out aC cC B2 HsC.out (by have := Hls.out.2.2.1; omega)).mono ?_
  rintro e x4 ⟨v4, rfl, hr4⟩
  rw [← HE.out.2.2.2] at hr4
  obtain ⟨_, aQ, cQ, rfl, _⟩ := ownsRow_slI hr4.1
  have HX4 : Hid (x4.cell? ⟨w.heap.size, 0, none⟩ = some (.int .i64 V) ∧ x4.cell? ⟨w.heap.size, 1, none⟩ = some (.slice a0 fs.length cap)) := hid ⟨(hr4.2.cell (p := ⟨w.heap.size, 0, none⟩) Hw3.out).trans HX3.out.1, (hr4.2.cell (p := ⟨w.heap.size, 1, none⟩) Hw3.out).trans HX3.out.2⟩
  have HB4 := hid (HB3.out.trans (hr4.2.mono HB3.out.size))
  have Hw4 := hid (Nat.lt_of_lt_of_le Hw3.out hr4.2.size)
  have HjB := hid (HjB.out.later hr4.2 hr4.2.size)
  have HjQ := hid (slJ_own rfl hr4.1)
  have HjA := hid (HJ.out.later HB4.out HB4.out.size)
  clear hr4
  refine hK.out _ _ (fun _ => HX4.out) ?_
  clear hK K
  refine anyM_ready (rs := [11]) (by kernel_rfl) (by simp) ?_
  refine AllM.cons rfl (fun K hK => ?_) AllM.nil
  go_simp
  obtain ⟨x5, hx5⟩ : ∃ x, x = x4.alloc (.cells #[.slice a2 ch.length cap2, .slice aB B1.length cB, .slice aQ P2.length cQ] 22) := ⟨_, rfl⟩
  have hb5 : Below x4.heap.size x4 x5 := by rw [hx5]; exact (Below.refl _ x4).alloc (Nat.le_refl _) _
  have hlt5 : x4.heap.size < x5.heap.size := by rw [hx5]; simp
  have hq0 : x5.cell? ⟨x4.heap.size, 0, none⟩ = some (.slice a2 ch.length cap2) := by rw [hx5]; simp [go_sem]
  have hq1 : x5.cell? ⟨x4.heap.size, 1, none⟩ = some (.slice aB B1.length cB) := by rw [hx5]; simp [go_sem]
  have hq2 : x5.cell? ⟨x4.heap.size, 2, none⟩ = some (.slice aQ P2.length cQ) := by rw [hx5]; simp [go_sem]
  have HX5 : Hid (x5.cell? ⟨w.heap.size, 0, none⟩ = some (.int .i64 V) ∧ x5.cell? ⟨w.heap.size, 1, none⟩ = some (.slice a0 fs.length cap)) := hid ⟨(hb5.cell (p := ⟨w.heap.size, 0, none⟩) Hw4.out).trans HX4.out.1, (hb5.cell (p := ⟨w.heap.size, 1, none⟩) Hw4.out).trans HX4.out.2⟩
  have HB5 := hid (HB4.out.trans (hb5.mono HB4.out.size))
  have HS := hid (sum2_any x4.heap.size 3 3 [ch, B1, P2] x5 rfl (by omega) hlt5 (fun i hi => by
    match i, hi with
    | 0, _ => exact ⟨a2, cap2, hq0, HjA.out.later hb5 hb5.size⟩
    | 1, _ => exact ⟨aB, cB, hq1, HjB.out.later hb5 hb5.size⟩
    | 2, _ => exact ⟨aQ, cQ, hq2, HjQ.out.later hb5 hb5.size⟩) (by have h1 := Hls.out; have h2 := Hchl.out; simp; omega))
  rw [← hx5]
  clear hx5 hb5 hlt5 hq0 hq1 hq2
  refine hK.out _ _ (fun _ => HX5.out) ?_
  clear hK K
  refine anyM_ready (rs := [12]) (by kernel_rfl) (by simp) ?_
  refine AllM.cons rfl (fun K hK => ?_) AllM.nil
  go_simp
  go_at_call 55
  refine HS.out.mono ?_
  rintro e x6 ⟨v6, s6, rfl, ho6, hr6⟩
  have hs6 := Hfl.out s6 ho6
  subst hs6
  have hw5 := World.block_lt_of_cell? _ _ HX5.out.1
  have HX6 : Hid (x6.cell? ⟨w.heap.size, 0, none⟩ = some (.int .i64 V) ∧ x6.cell? ⟨w.heap.size, 1, none⟩ = some (.slice a0 fs.length cap)) := hid ⟨(hr6.2.cell (p := ⟨w.heap.size, 0, none⟩) hw5).trans HX5.out.1, (hr6.2.cell (p := ⟨w.heap.size, 1, none⟩) hw5).trans HX5.out.2⟩
  have HR := hid (hr6.later HB5.out)
  clear hr6 ho6 hw5
  refine hK.out _ _ (fun _ => HX6.out) ?_
  clear hK K
  refine anyM_ready (rs := [13]) (by kernel_rfl) (by simp) ?_
  refine AllM.cons rfl (fun K hK => ?_) AllM.nil
  go_simp
  refine hK.out _ _ (fun h => absurd rfl h) ?_
  clear hK K
  refine anyM_done (by kernel_rfl) ?_ _
  go_wp2_with fail
  go_ret
  exact ⟨_, rfl, HR.out⟩

end Go.Proofs.YtpdhnjdnlgnniaaGreat

/-! Joins: copies of lists. -/
namespace Go.Proofs.YtpdhnjdnlgnniaaGreat
open Go.RowKit

/-- 'append([]int64{}, list...)' of a list that lies in memory. -/
theorem append_all {w : World} {ops : Array Oper} {rest : List Oper} {o : Oper} {a : Act} {Q : Exit → Act → World → Prop} (hgd : o.guard = none) {s y : Operand}
    (ho : o.op = .call { callee := .builtin .append, args := #[s, y], argTypes := #[22, 22] })
    {b off cap : Nat} {xs : List Int} (hl : xs.length ≤ 1048576) (hc : ∀ i, i < xs.length → w.cell? ⟨b, off + i, none⟩ = some (.int .i64 (xs[i]?.getD 0)))
    (hs : a.eval s = .slice (some ⟨w.heap.size, 0, none⟩) 0 0) (hy : a.eval y = .slice (some ⟨b, off, none⟩) xs.length cap)
    (hK : ∀ v' w', w'.ownsRow w.heap.size 2 1 v' xs.length (xs.map (Value.int .i64)) → Below w.heap.size w w' → (v' = .slice none 0 0 → False) → wpList Tryz.prog ops Q rest (a.put o.dst v') w') :
    wpList Tryz.prog ops Q (o :: rest) a (w.alloc (.cells #[] 2)) := by
  obtain ⟨i0, hi, hz0, hz1, hz2⟩ := info_parts info_i64
  refine wpList_append_own _ hgd s y 22 ho w.heap.size 2 i0 (.int .i64 0) 1 8 Tryz.underlying22 hi hz0 hz1 hz2 rfl (by decide) (.slice (some ⟨w.heap.size, 0, none⟩) 0 0) 0 [] hs (World.ownsRow_made w #[] 0 (Nat.le_refl _) (Nat.zero_le _) rfl) ⟨b, off, none⟩ xs.length cap (xs.map (Value.int .i64)) hy (by simp) ?_ (fun u hu => by obtain ⟨x, _, rfl⟩ := List.mem_map.1 hu; rfl) (by unfold maxLen; omega) (by omega) (by simp) ?_
  · intro j u hj
    have hjn : j < xs.length := by
      have := (List.getElem?_eq_some_iff.1 hj).1
      simpa using this
    rw [Addr.add_lit]
    refine (World.cell?_alloc_some w _ _ (show (w.cell? _).isSome = true by rw [hc j hjn]; rfl)).trans ?_
    rw [hc j hjn, ← hj]
    simp [List.getElem?_eq_getElem hjn]
  · intro v' w1 hown hgrow hnil
    refine hK v' w1 (by simpa using hown) (((Below.refl _ w).alloc (Nat.le_refl _) _).grown hgrow (by simp) (by intro k hk; simp [Value.ownBlock] at hk; omega)) (fun e => ?_)
    have := (hnil.1 e).1
    simp at this

theorem own_any (a0 : Option Addr) (cap : Nat) (xs : List Int) (w : World) (hx : SlI w w.heap.size a0 xs) (hl : xs.length ≤ 1048576) :
    Calls Tryz.prog 61 #[.slice a0 xs.length cap] w fun e w' => ∃ v, e = .returned v ∧ Res w w' v xs := by
  rcases hx with rfl | ⟨b, off, hb, rfl, hc⟩
  · have hr : Res w (w.alloc (.cells #[] 2)) (.slice (some ⟨w.heap.size, 0, none⟩) 0 0) [] := ⟨World.ownsRow_made w #[] 0 (Nat.le_refl _) (Nat.zero_le _) rfl, (Below.refl _ w).alloc (Nat.le_refl _) _⟩
    have Hr := hid hr
    clear hr
    cases a0 with
    | none =>
      go_enter Tryz.func61, Tryz.ntmps61
      go_wp2_with fail
      go_ret
      exact ⟨_, rfl, Hr.out⟩
    | some ad =>
      go_enter Tryz.func61, Tryz.ntmps61
      go_wp2_with fail
      go_ret
      exact ⟨_, rfl, Hr.out⟩
  · have Hc := hid hc
    clear hc
    go_enter Tryz.func61, Tryz.ntmps61
    go_wp2_with (at_builtin; refine append_all rfl rfl hl Hc.out rfl rfl ?_; intro v' w1 hown hB _)
    go_ret
    exact ⟨v', rfl, hown, hB⟩

/-- step_append_new in a plain region. -/
theorem plain_append_new {W : World} {H : Nat} {ops : Array Oper} {rest : List Oper} {o : Oper} {a : Act} {Q : Exit → Act → World → Prop} (hgd : o.guard = none) {s y : Operand}
    (ho : o.op = .call { callee := .builtin .append, args := #[s, y], argTypes := #[22, 22] })
    {base : Nat} {v : Value} {xs : List Int} {x : Int} (hown : W.ownsRow base 2 1 v xs.length (xs.map (Value.int .i64))) (hH : W.heap.size = H) (hbase : base ≤ H) (hl : xs.length ≤ 1099511627776)
    (hs : a.eval s = v) (hy : a.eval y = .slice (some ⟨H, 0, none⟩) 1 1)
    (hK : ∀ g cap w', w'.ownsRow base 2 1 (.slice (some ⟨g, 0, none⟩) (xs ++ [x]).length cap) (xs ++ [x]).length ((xs ++ [x]).map (Value.int .i64)) → (W.alloc (.cells #[.int .i64 x] 2)).grownBy w' v.ownBlock →
      wpList Tryz.prog ops Q rest (a.put o.dst (.slice (some ⟨g, 0, none⟩) (xs ++ [x]).length cap)) w') :
    wpList Tryz.prog ops Q (o :: rest) a (W.alloc (.cells #[.int .i64 x] 2)) := by
  subst hH
  obtain ⟨i0, hi, hz0, hz1, hz2⟩ := info_parts info_i64
  refine wpList_append_lies (W.alloc (.cells #[.int .i64 x] 2)) hgd s y 22 ho base 2 i0 (.int .i64 0) 1 8 Tryz.underlying22 hi hz0 hz1 hz2 rfl (by decide) v _ _ hs (hown.alloc _) ⟨W.heap.size, 0, none⟩ 1 1 [.int .i64 x] hy rfl (cell_one_new _ _ _) (by simp [Value.oneCell']) (by decide) (by unfold maxLen; omega) (by omega) (by simp; omega) _ rfl ?_
  intro g cap w1 hown1 hg _ _
  have e : (xs ++ [x]).length = xs.length + 1 := by simp
  have h := hK g cap w1 (by rw [e]; simpa using hown1) hg
  rw [e] at h
  exact h

end Go.Proofs.YtpdhnjdnlgnniaaGreat

/-! l06Put: a face put to a chain, or taken out. -/
namespace Go.Proofs.YtpdhnjdnlgnniaaGreat
open Go.RowKit

theorem asc_atF {xs : List Int} (h : xs.Pairwise (· < ·)) {i j : Nat} (hij : i < j) (hj : j < xs.length) : xs[i]?.getD 0 < xs[j]?.getD 0 := by
  rw [List.getElem?_eq_getElem (by omega), List.getElem?_eq_getElem hj]
  exact List.pairwise_iff_getElem.1 h i j (by omega) hj hij
theorem put_same {xs : List Int} (h : xs.Pairwise (· < ·)) {n : Int} {t : Nat} (ht : t < xs.length) (he : xs[t]?.getD 0 = n) : putL xs n = xs.take t ++ xs.drop (t + 1) := by
  have hs : xs = xs.take t ++ n :: xs.drop (t + 1) := by
    rw [List.getElem?_eq_getElem ht] at he
    simp only [Option.getD_some] at he
    rw [← he, ← List.drop_eq_getElem_cons ht, List.take_append_drop]
  have hp := h
  rw [hs] at hp
  obtain ⟨p1, p2, p3⟩ := List.pairwise_append.1 hp
  obtain ⟨p4, p5⟩ := List.pairwise_cons.1 p2
  have hn : n ∈ xs := by rw [hs]; simp
  refine asc_ext (put_odd (asc_odd h) n).1 (List.pairwise_append.2 ⟨p1, p5, fun a ha b hb => p3 a ha b (List.mem_cons_of_mem _ hb)⟩) (fun y => ?_)
  unfold putL
  rw [if_pos hn]
  simp only [List.mem_append, List.mem_filter, decide_eq_true_eq, List.nil_append]
  have hy : y ∈ xs ↔ y ∈ xs.take t ∨ y = n ∨ y ∈ xs.drop (t + 1) := by
    conv => lhs; rw [hs]
    simp
  constructor
  · rintro (⟨h1, h2⟩ | ⟨h1, h2⟩)
    · rcases hy.1 h1 with h | h | h
      · exact .inl h
      · omega
      · exact .inr h
    · rcases hy.1 h1 with h | h | h
      · exact .inl h
      · omega
      · exact .inr h
  · rintro (h1 | h1)
    · have := p3 y h1 n (by simp)
      exact .inl ⟨hy.2 (.inl h1), this⟩
    · have := p4 y h1
      exact .inr ⟨hy.2 (.inr (.inr h1)), this⟩
theorem put_new {xs : List Int} (_h : xs.Pairwise (· < ·)) {n : Int} {t : Nat} (_ht : t ≤ xs.length) (h1 : ∀ j, j < t → xs[j]?.getD 0 < n) (h2 : ∀ j, t ≤ j → j < xs.length → n < xs[j]?.getD 0) : putL xs n = xs.take t ++ ([n] ++ xs.drop t) := by
  have a1 : ∀ x ∈ xs.take t, x < n := by
    intro x hx
    obtain ⟨i, hi, rfl⟩ := List.getElem_of_mem hx
    have hi' : i < t := by simp at hi; omega
    have := h1 i hi'
    rw [List.getElem?_eq_getElem (by simp at hi; omega)] at this
    simpa using this
  have a2 : ∀ x ∈ xs.drop t, n < x := by
    intro x hx
    obtain ⟨i, hi, rfl⟩ := List.getElem_of_mem hx
    have hi' : t + i < xs.length := by simp at hi; omega
    have := h2 (t + i) (by omega) hi'
    rw [List.getElem?_eq_getElem hi'] at this
    simpa using this
  have hn : n ∉ xs := fun hn => by
    rw [← List.take_append_drop t xs] at hn
    rcases List.mem_append.1 hn with h | h
    · have := a1 n h; omega
    · have := a2 n h; omega
  have e1 : xs.filter (fun y => decide (y < n)) = xs.take t := by
    conv => lhs; rw [← List.take_append_drop t xs]
    rw [List.filter_append, List.filter_eq_self.2 (fun x hx => by simpa using a1 x hx), List.filter_eq_nil_iff.2 (fun x hx => by have := a2 x hx; simp; omega), List.append_nil]
  have e2 : xs.filter (fun y => decide (n < y)) = xs.drop t := by
    conv => lhs; rw [← List.take_append_drop t xs]
    rw [List.filter_append, List.filter_eq_nil_iff.2 (fun x hx => by have := a1 x hx; simp; omega), List.filter_eq_self.2 (fun x hx => by simpa using a2 x hx), List.nil_append]
  unfold putL
  rw [e1, e2, if_neg hn]

/-- 'append(row, list...)' of a list that begins anywhere. -/
theorem append_ints_adF {w : World} {ops : Array Oper} {rest : List Oper} {o : Oper} {a : Act} {Q : Exit → Act → World → Prop} (hgd : o.guard = none) {s y : Operand}
    (ho : o.op = .call { callee := .builtin .append, args := #[s, y], argTypes := #[22, 22] })
    {base : Nat} {v : Value} {xs ys : List Int} {ad : Addr} {m c : Nat} (hm : m = ys.length) (hown : w.ownsRow base 2 1 v xs.length (xs.map (Value.int .i64))) (hbase : base ≤ w.heap.size) (hl : xs.length ≤ 1048576) (hly : ys.length ≤ 1048576)
    (hs : a.eval s = v) (hy : a.eval y = .slice (some ad) m c) (hc : ∀ i, i < ys.length → w.cell? (ad.add i) = some (.int .i64 (ys[i]?.getD 0)))
    (hK : ∀ v' w', w'.ownsRow base 2 1 v' (xs ++ ys).length ((xs ++ ys).map (Value.int .i64)) → w.grownBy w' v.ownBlock → Below base w w' → wpList Tryz.prog ops Q rest (a.put o.dst v') w') :
    wpList Tryz.prog ops Q (o :: rest) a w := by
  subst hm
  obtain ⟨i0, hi, hz0, hz1, hz2⟩ := info_parts info_i64
  refine wpList_append_own_at w hgd s y 22 ho base 2 i0 (.int .i64 0) 1 8 Tryz.underlying22 hi hz0 hz1 hz2 rfl (by decide) v _ _ hs hown ad ys.length c (ys.map (Value.int .i64)) hy (by simp) (fun j u hj => ?_) (fun u hu => ?_) (by unfold maxLen; omega) (by omega) hbase ?_
  · have hjl : j < ys.length := by
      have := (List.getElem?_eq_some_iff.1 hj).1
      simpa using this
    have := hc j hjl
    rw [List.getElem?_map, List.getElem?_eq_getElem hjl] at hj
    rw [List.getElem?_eq_getElem hjl] at this
    simp at hj this
    rw [this, hj]
  · obtain ⟨x, _, rfl⟩ := List.mem_map.1 hu
    rfl
  · intro v' w1 hown1 hgrow1 _ _
    exact hK v' w1 (by simpa using hown1) hgrow1 ((Below.refl base w).grown hgrow1 hbase (fun k hk => (hown.lt k hk).1))

theorem append_ints_run {w : World} {base : Nat} {v : Value} {xs ys : List Int} {ad : Addr} {c m : Nat} (hown : w.ownsRow base 2 1 v m (xs.map (Value.int .i64))) (hbase : base ≤ w.heap.size) (hm : m ≤ 1048576) (hl : ys.length ≤ 1048576)
    (hc : ∀ i, i < ys.length → w.cell? (ad.add i) = some (.int .i64 (ys[i]?.getD 0))) :
    ∃ v' w', (Builtin.append_ #[22, 22] 22 #[v, .slice (some ad) ys.length c]).run Tryz.prog w = .ok v' w' ∧ w'.ownsRow base 2 1 v' (xs ++ ys).length ((xs ++ ys).map (Value.int .i64)) ∧ Below base w w' := by
  have hml : m = xs.length := by have := hown.1; simpa using this.symm
  obtain ⟨i0, hi, hz0, hz1, hz2⟩ := info_parts info_i64
  obtain ⟨v', w', h1, h2, h3, _, _⟩ := run_append_own_at (P := Tryz.prog) (w := w) base 22 22 2 i0 (.int .i64 0) 1 8 Tryz.underlying22 hi hz0 hz1 hz2 rfl (by decide) v m (xs.map (Value.int .i64)) hown ad ys.length c (ys.map (Value.int .i64)) (by simp) (fun j u hj => by
    have hjl : j < ys.length := by
      have := (List.getElem?_eq_some_iff.1 hj).1
      simpa using this
    have h := hc j hjl
    rw [List.getElem?_map, List.getElem?_eq_getElem hjl] at hj
    rw [List.getElem?_eq_getElem hjl] at h
    simp at hj h
    rw [h, hj]) (fun u hu => by
    obtain ⟨x, _, rfl⟩ := List.mem_map.1 hu
    rfl) (by unfold maxLen; omega) (by omega) hbase
  exact ⟨v', w', h1, by rw [List.length_append, ← hml, List.map_append]; exact h2, (Below.refl base w).grown h3 hbase (fun k hk => (hown.lt k hk).1)⟩
theorem step_append_runL {P : Program} {ops : Array Oper} {o : Oper} {a : Act} {w w' : World} {K : Act → World → Prop} {Q : Exit → Act → World → Prop} {E : Prop} (hg : o.guard = none) {s y : Operand} {T : TypeId} (ho : o.op = .call { callee := .builtin .append, args := #[s, y], argTypes := #[T, T] })
    {v u v' : Value} (hs : a.eval s = v) (hy : a.eval y = u) (hr : (Builtin.append_ #[T, T] o.type #[v, u]).run P w = .ok v' w') (hK : K (a.put o.dst v') w') :
    if Region.wanted o (yielded ops a.tmps) = true then Oper.wp P o a w K Q else E := by
  have hw : Region.wanted o (yielded ops a.tmps) = true := by simp [Region.wanted, hg]
  rw [if_pos hw]
  unfold Oper.wp execOp
  simp only [ho, resolve, invoke, builtin, Sem.run_bind, Sem.run_pure, Result.andThen_ok, List.map_toArray, List.map_cons, List.map_nil, hs, hy, hr]
  exact hK

set_option maxRecDepth 100000 in
set_option maxHeartbeats 4000000 in
theorem put6_some (base g cap : Nat) (xs : List Int) (n : Int) (w : World) (hown : w.ownsRow base 2 1 (.slice (some ⟨g, 0, none⟩) xs.length cap) xs.length (xs.map (Value.int .i64))) (hasc : xs.Pairwise (· < ·)) (hl : xs.length ≤ 64) (hb : base ≤ w.heap.size) :
    Calls Tryz.prog 62 #[.slice (some ⟨g, 0, none⟩) xs.length cap, .int .i64 n] w fun e w' => ∃ v, e = .returned v ∧ w'.ownsRow base 2 1 v (putL xs n).length ((putL xs n).map (Value.int .i64)) ∧ Below w.heap.size w w' := by
  have hcs : ∀ t, t < xs.length → w.cell? ⟨g, t, none⟩ = some (.int .i64 (xs[t]?.getD 0)) := by
    intro t ht
    rw [hown.cellAt t (by omega)]
    simp [ht]
  have hcap : xs.length ≤ cap := by
    rcases hown.2 with ⟨h1, _⟩ | ⟨_, _, _, h1, _, _, h2, _⟩
    · cases h1
    · injection h1 with _ _ h3; omega
  have hgl := (hown.lt g rfl).2
  have Hcs := hid hcs
  have Hown := hid hown
  have Hasc := hid hasc
  clear hcs hown hasc
  go_enter Tryz.func62, Tryz.ntmps62
  go_wp2_with fail
  go_loopw [5] (fun tv wx => ∃ t : Nat, t ≤ xs.length ∧ tv = .int .i64 t ∧ Hid (∀ j, t ≤ j → j < xs.length → n ≤ xs[j]?.getD 0) ∧ Hid (wx = w)) (fun tv _ => (intOf tv).toNat)
  case atStart => exact ⟨xs.length, Nat.le_refl _, rfl, hid (fun j h1 h2 => by omega), hid rfl⟩
  case round =>
    obtain ⟨t, ht, rfl, HH, HW⟩ := hrel
    have hww : wr = w := HW.out
    clear HW
    subst hww
    by_cases hc : 0 < t ∧ n ≤ xs[t - 1]?.getD 0
    · obtain ⟨hpos, hge⟩ := hc
      obtain ⟨x, hx⟩ : ∃ x, x = xs[t - 1]?.getD 0 := ⟨_, rfl⟩
      obtain ⟨q, rfl⟩ : ∃ q, t = q + 1 := ⟨t - 1, by omega⟩
      rw [Nat.add_sub_cancel] at hx hge
      have hcx := Hcs.out q (by omega)
      rw [← hx] at hcx hge
      have hi0 : (0 : Int) ≤ (q : Int) := by omega
      have hi1 : (q : Int) < (xs.length : Int) := by omega
      have hpz : (0 : Int) < ((q + 1 : Nat) : Int) := by omega
      have hsb : wrap64 (((q + 1 : Nat) : Int) - 1) = (q : Int) := by rw [show (((q + 1 : Nat) : Int) - 1) = (q : Int) by omega]; exact IntWalk.wrap64_in _ ⟨by omega, by omega⟩
      have HH' : Hid (∀ j, q ≤ j → j < xs.length → n ≤ xs[j]?.getD 0) := hid (fun j h1 h2 => by
        by_cases e : q = j
        · subst e; rw [← hx]; exact hge
        · exact HH.out j (by omega) h2)
      clear hx HH
      go_wp2_with fail
      go_roundw
      case rel => exact ⟨q, by omega, rfl, HH', trivial⟩
      case measure => simp [intOf]
    · -- the place is found
      have Hlow : Hid (∀ j, j < t → xs[j]?.getD 0 < n) := hid (fun j hj => by
        have hlt : ¬ n ≤ xs[t - 1]?.getD 0 := fun h => hc ⟨by omega, h⟩
        by_cases e : j = t - 1
        · subst e; omega
        · have := asc_atF Hasc.out (show j < t - 1 by omega) (by omega)
          omega)
      have Hcond : Hid (t = 0 ∨ ∃ q, t = q + 1 ∧ ¬ n ≤ xs[q]?.getD 0) := hid (by
        rcases Nat.eq_zero_or_pos t with h | h
        · exact .inl h
        · exact .inr ⟨t - 1, by omega, fun hh => hc ⟨h, hh⟩⟩)
      clear hc
      have hic : t ≤ cap := by omega
      have hi0 : (0 : Int) ≤ (t : Int) := by omega
      have hi2 : (t : Int) ≤ (xs.length : Int) := by omega
      by_cases heq : t < xs.length ∧ xs[t]?.getD 0 = n
      · have Hput : Hid (putL xs n = xs.take t ++ xs.drop (t + 1)) := hid (put_same Hasc.out heq.1 heq.2)
        have hct := Hcs.out t heq.1
        rw [heq.2] at hct
        have hi1 : (t : Int) < (xs.length : Int) := by omega
        have htx : t < xs.length := heq.1
        clear heq HH Hlow
        have HOwn := hid (fun (W : World) (h : Below wr.heap.size wr W) => own_any (some ⟨g, 0, none⟩) cap (xs.take t) W (.inr ⟨g, 0, Nat.lt_of_lt_of_le hgl h.size, rfl, fun i hi => by
          have hit : i < t := by simp at hi; omega
          rw [Nat.zero_add, List.getElem?_take_of_lt hit, ← Hcs.out i (by omega)]
          exact h.cell (p := ⟨g, i, none⟩) hgl⟩) (by simp; omega))
        rw [show (xs.take t).length = t by simp; omega] at HOwn
        obtain ⟨A, hA, Hsrc⟩ : ∃ A : Addr, (if cap = t + 1 then some (⟨g, 0, none⟩ : Addr) else some ⟨g, t + 1, none⟩) = some A ∧ Hid (∀ W, Below wr.heap.size wr W → ∀ i, i < (xs.drop (t + 1)).length → W.cell? (A.add i) = some (.int .i64 ((xs.drop (t + 1))[i]?.getD 0))) := by
          by_cases h : cap = t + 1
          · refine ⟨⟨g, 0, none⟩, by simp [h], hid (fun W hW i hi => ?_)⟩
            simp at hi
            omega
          · refine ⟨⟨g, t + 1, none⟩, by simp [h], hid (fun W hW i hi => ?_)⟩
            have hit : t + 1 + i < xs.length := by simp at hi; omega
            have hadd : (⟨g, t + 1, none⟩ : Addr).add i = ⟨g, t + 1 + i, none⟩ := by unfold Addr.add; split <;> simp_all
            rw [hadd, List.getElem?_drop, ← Hcs.out (t + 1 + i) hit]
            exact hW.cell (p := ⟨g, t + 1 + i, none⟩) hgl
        have hic1 : t + 1 ≤ cap := by omega
        have hic2 : t + 1 ≤ xs.length := by omega
        have hi3 : (t : Int) + 1 ≤ (xs.length : Int) := by omega
        have hi4 : (0 : Int) ≤ (t : Int) + 1 := by omega
        have Hc2 : Hid (¬ (0 : Int) < (t : Int) ∨ ∃ (x : Int), (0 : Int) < (t : Int) ∧ (0 : Int) ≤ (t : Int) - 1 ∧ (t : Int) - 1 < (xs.length : Int) ∧ wr.cell? ⟨g, t - 1, none⟩ = some (.int .i64 x) ∧ ¬ n ≤ x) := hid (by
          rcases Hcond.out with h | ⟨q, h, hq⟩
          · exact .inl (by omega)
          · obtain rfl : q = t - 1 := by omega
            exact .inr ⟨xs[t - 1]?.getD 0, by omega, by omega, by omega, Hcs.out (t - 1) (by omega), hq⟩)
        have hwt : IntKind.i64.wrap ((t : Int) + 1) = (t : Int) + 1 := IntWalk.i64_in _ (by omega)
        have hnl : ¬ ((xs.length : Int) < (t : Int) + 1) := by omega
        clear Hcond
        rcases Hc2.out with hz | ⟨x, hpz, hj0, hj1, hcx, hlx⟩
        all_goals
          clear Hc2
          go_wp2_with fail
          refine region_M 9 (fun _ : World => True) (by kernel_rfl) ?_
          obtain ⟨x0, hx0⟩ : ∃ x, x = wr.drew := ⟨_, rfl⟩
          have hb0 : Below wr.heap.size wr x0 := by rw [hx0]; exact ⟨rfl, rfl, rfl, Nat.le_refl _, fun _ _ => rfl⟩
          rw [← hx0]
          have hbx : base ≤ x0.heap.size := Nat.le_trans hb hb0.size
          clear hx0
          refine anyM_take (i := 0) (v := .slice (some ⟨g, 0, none⟩) xs.length cap) [2, 3, 8, 9] rfl (by kernel_rfl) (fun _ _ _ h => h) (Or.inl ⟨by rfl, fun W hW => by go_simp⟩) trivial ?_
          refine anyM_take (i := 1) (v := .int .i64 (t : Int)) [2, 3, 8, 9] rfl (by kernel_rfl) (fun _ _ _ h => h) (Or.inl ⟨by rfl, fun W hW => by go_simp⟩) trivial ?_
          refine anyM_take (i := 2) (v := .slice (some ⟨g, 0, none⟩) t cap) [3, 8, 9] rfl (by kernel_rfl) (fun _ _ _ h => h) (Or.inl ⟨by rfl, fun W hW => by go_simp⟩) trivial ?_
          refine anyM_take (i := 4) (v := .slice (some ⟨g, 0, none⟩) xs.length cap) [7, 8, 9] rfl (by kernel_rfl) (fun _ _ _ h => h) (Or.inl ⟨by rfl, fun W hW => by go_simp⟩) trivial ?_
          refine anyM_take (i := 5) (v := .int .i64 (t : Int)) [6, 7, 8, 9] rfl (by kernel_rfl) (fun _ _ _ h => h) (Or.inl ⟨by rfl, fun W hW => by go_simp⟩) trivial ?_
          refine anyM_take (i := 6) (v := .int .i64 ((t : Int) + 1)) [7, 8, 9] rfl (by kernel_rfl) (fun _ _ _ h => h) (Or.inl ⟨by rfl, fun W hW => by go_simp⟩) trivial ?_
          refine anyM_take (i := 7) (v := .slice (some A) (xs.length - (t + 1)) (cap - (t + 1))) [8, 9] rfl (by kernel_rfl) (fun _ _ _ h => h) (Or.inl ⟨by rfl, fun W hW => by go_simp⟩) trivial ?_
          refine anyM_ready (rs := [3]) (by kernel_rfl) (by simp) ?_
          refine AllM.cons rfl (fun K hK => ?_) AllM.nil
          go_simp
          go_at_call 61
          refine (HOwn.out x0 hb0).mono ?_
          rintro e x1 ⟨v1, rfl, hr1⟩
          have hB1 := hb0.trans (hr1.2.mono hb0.size)
          have hs1 : ∀ i, i < (xs.drop (t + 1)).length → x1.cell? (A.add i) = some (.int .i64 ((xs.drop (t + 1))[i]?.getD 0)) := fun i hi => Hsrc.out x1 hB1 i hi
          obtain ⟨v2, x2, hr2, hown2, hB2⟩ := append_ints_run (ad := A) (c := cap - (t + 1)) hr1.1 hr1.2.size (by simp; omega) (by simp; omega) hs1
          rw [show (xs.drop (t + 1)).length = xs.length - (t + 1) by simp] at hr2
          have Hown2 := hid hown2
          have HB2 := hid (hB1.trans (hB2.mono hb0.size))
          clear hr1 hB1 hs1 hown2 hB2
          refine hK.out _ _ (fun _ => trivial) ?_
          clear hK K
          refine anyM_ready (rs := [8]) (by kernel_rfl) (by simp) ?_
          refine AllM.cons rfl (fun K hK => ?_) AllM.nil
          refine step_append_runL (s := .tmp 37) (y := .tmp 41) rfl rfl rfl rfl hr2 ?_
          refine hK.out _ _ (fun _ => trivial) ?_
          clear hK K
          refine anyM_ready (rs := [9]) (by kernel_rfl) (by simp) ?_
          refine AllM.cons rfl (fun K hK => ?_) AllM.nil
          go_simp
          refine hK.out _ _ (fun h => absurd rfl h) ?_
          clear hK K
          refine anyM_done (by kernel_rfl) ?_ _
          go_wp2_with fail
          go_ret
          exact ⟨_, rfl, by rw [Hput.out]; exact ownsRow_base Hown2.out hbx, HB2.out⟩
      · have Hins : Hid (putL xs n = xs.take t ++ ([n] ++ xs.drop t)) := hid (put_new Hasc.out ht Hlow.out (fun j h1 h2 => by
          by_cases e : j = t
          · subst e
            have := HH.out j (Nat.le_refl _) h2
            have : xs[j]?.getD 0 ≠ n := fun h => heq ⟨h2, h⟩
            omega
          · have h3 := asc_atF Hasc.out (show t < j by omega) h2
            have := HH.out t (Nat.le_refl _) (by omega)
            omega))
        have Hnt : Hid (t < xs.length → xs[t]?.getD 0 ≠ n) := hid (fun h1 h2 => heq ⟨h1, h2⟩)
        have Hone : Hid ((wr.alloc (.cells #[.int .i64 n] 2)).ownsRow wr.heap.size 2 1 (.slice (some ⟨wr.heap.size, 0, none⟩) 1 1) [n].length ([n].map (Value.int .i64))) := hid ⟨by simp, .inr ⟨wr.heap.size, 1, _, rfl, Nat.le_refl _, heap_alloc_new wr _, Nat.le_refl _, by unfold maxLen; omega, by simp, by simp⟩⟩
        have Hc2 : Hid (¬ (0 : Int) < (t : Int) ∨ ∃ (x : Int), (0 : Int) < (t : Int) ∧ (0 : Int) ≤ (t : Int) - 1 ∧ (t : Int) - 1 < (xs.length : Int) ∧ wr.cell? ⟨g, t - 1, none⟩ = some (.int .i64 x) ∧ ¬ n ≤ x) := hid (by
          rcases Hcond.out with h | ⟨q, h, hq⟩
          · exact .inl (by omega)
          · obtain rfl : q = t - 1 := by omega
            exact .inr ⟨xs[t - 1]?.getD 0, by omega, by omega, by omega, Hcs.out (t - 1) (by omega), hq⟩)
        have Hct : Hid (¬ (t : Int) < (xs.length : Int) ∨ ∃ y : Int, (t : Int) < (xs.length : Int) ∧ wr.cell? ⟨g, t, none⟩ = some (.int .i64 y) ∧ (y == n) = false) := hid (by
          by_cases h : t < xs.length
          · exact .inr ⟨xs[t]?.getD 0, by omega, Hcs.out t h, by simpa using Hnt.out h⟩
          · exact .inl (by omega))
        obtain ⟨A, hA, hsrc⟩ : ∃ A : Addr, (if cap = t then some (⟨g, 0, none⟩ : Addr) else some ⟨g, t, none⟩) = some A ∧ Hid (∀ i, i < (xs.drop t).length → (wr.alloc (.cells #[.int .i64 n] 2)).cell? (A.add i) = some (.int .i64 ((xs.drop t)[i]?.getD 0))) := by
          by_cases h : cap = t
          · refine ⟨⟨g, 0, none⟩, by simp [h], hid (fun i hi => ?_)⟩
            simp at hi
            omega
          · refine ⟨⟨g, t, none⟩, by simp [h], hid (fun i hi => ?_)⟩
            have hit : t + i < xs.length := by simp at hi; omega
            have hadd : (⟨g, t, none⟩ : Addr).add i = ⟨g, t + i, none⟩ := by unfold Addr.add; split <;> simp_all
            rw [hadd, List.getElem?_drop, ← Hcs.out (t + i) hit]
            exact ((Below.refl wr.heap.size wr).alloc (Nat.le_refl _) _).cell (p := ⟨g, t + i, none⟩) hgl
        have Hsrc2 : Hid (∀ i, i < (xs.drop t).length → (wr.alloc (.cells #[.int .i64 n] 2)).cell? ((⟨g, t, none⟩ : Addr).add i) = some (.int .i64 ((xs.drop t)[i]?.getD 0))) := hid (fun i hi => by
          have hit : t + i < xs.length := by simp at hi; omega
          have hadd : (⟨g, t, none⟩ : Addr).add i = ⟨g, t + i, none⟩ := by unfold Addr.add; split <;> simp_all
          rw [hadd, List.getElem?_drop, ← Hcs.out (t + i) hit]
          exact ((Below.refl wr.heap.size wr).alloc (Nat.le_refl _) _).cell (p := ⟨g, t + i, none⟩) hgl)
        have hdl : xs.length - t = (xs.drop t).length := by simp
        have Hdl : Hid ((xs.drop t).length ≤ 64) := hid (by simp; omega)
        have htl : (xs.take t).length = t := by simp; omega
        have HOwn := hid (fun (W : World) (h : Below wr.heap.size wr W) => own_any (some ⟨g, 0, none⟩) cap (xs.take t) W (.inr ⟨g, 0, Nat.lt_of_lt_of_le hgl h.size, rfl, fun i hi => by
          have hit : i < t := by simpa [htl] using hi
          rw [Nat.zero_add, List.getElem?_take_of_lt hit, ← Hcs.out i (by omega)]
          exact h.cell (p := ⟨g, i, none⟩) hgl⟩) (by rw [htl]; omega))
        rw [htl] at HOwn
        have hsz1 : wr.heap.size ≤ (wr.alloc (.cells #[.int .i64 n] 2)).heap.size := by simp
        obtain ⟨xd, hxd⟩ : ∃ xd, xd = xs.drop t := ⟨_, rfl⟩
        obtain ⟨xt, hxt⟩ : ∃ xt, xt = xs.take t := ⟨_, rfl⟩
        rw [← hxd] at Hins hsrc Hsrc2 hdl Hdl
        rw [← hxt] at Hins HOwn htl
        obtain ⟨dl, hdle⟩ : ∃ dl, dl = xs.length - t := ⟨_, rfl⟩
        rw [← hdle] at hdl
        have Htl := hid htl
        have Hdle := hid hdle
        have Hdl2 := hid hdl
        clear Hcond Hnt heq HH Hlow hxd hxt htl hdle hdl
        rcases Hc2.out with hz | ⟨x, hpz, hj0, hj1, hcx, hlx⟩
        all_goals
          rcases Hct.out with hni | ⟨y, hi1, hct, hne⟩
        all_goals
          clear Hc2 Hct
          go_wp2_with (at_builtin; first
            | (refine append_ints_adF rfl rfl (m := xs.length - t) (c := cap - t) (ad := A) (by rw [← Hdle.out]; exact Hdl2.out) Hone.out hsz1 (by simp) (by have := Hdl.out; omega) rfl rfl hsrc.out ?_; intro v2 w2 hown2 hgrow2 hB2)
            | (refine append_ints_adF rfl rfl (m := xs.length - t) (c := cap - t) (ad := ⟨g, t, none⟩) (by rw [← Hdle.out]; exact Hdl2.out) Hone.out hsz1 (by simp) (by have := Hdl.out; omega) rfl rfl Hsrc2.out ?_; intro v2 w2 hown2 hgrow2 hB2))
          have hB20 : Below wr.heap.size wr w2 := ((Below.refl wr.heap.size wr).alloc (Nat.le_refl _) _).trans (hB2.mono (Nat.le_refl _))
          obtain ⟨_, av, cv, rfl, hs2⟩ := ownsRow_slI hown2
          have hsa : ∃ b2 off2, b2 < w2.heap.size ∧ av = some ⟨b2, off2, none⟩ ∧ ∀ i, i < ([n] ++ xd).length → w2.cell? ⟨b2, off2 + i, none⟩ = some (.int .i64 (([n] ++ xd)[i]?.getD 0)) := by
            rcases hs2 with h | h
            · simp at h
            · exact h
          obtain ⟨b2, off2, hb2, rfl, hc2⟩ := hsa
          have HB20 := hid hB20
          have HO := hid (HOwn.out w2 hB20)
          have Hc2 := hid hc2
          clear hown2 hgrow2 hB2 hs2 hB20 hc2
          go_wp2_with fail
          refine HO.out.mono ?_
          rintro e w3 ⟨v3, rfl, hr3⟩
          have HR3 := hid hr3
          have hsz3 := hr3.2.size
          have Hc3 : Hid (∀ i, i < ([n] ++ xd).length → w3.cell? ((⟨b2, off2, none⟩ : Addr).add i) = some (.int .i64 (([n] ++ xd)[i]?.getD 0))) := hid (fun i hi => by
            have hadd : (⟨b2, off2, none⟩ : Addr).add i = ⟨b2, off2 + i, none⟩ := by unfold Addr.add; split <;> simp_all
            rw [hadd, ← Hc2.out i hi]
            exact hr3.2.cell (p := ⟨b2, off2 + i, none⟩) hb2)
          have hxtl : xt.length ≤ 1048576 := by have := Htl.out; omega
          have hxdl : ([n] ++ xd).length ≤ 1048576 := by have := Hdl.out; simp; omega
          clear hr3
          go_wp2_with (at_builtin; refine append_ints_adF rfl rfl (ad := ⟨b2, off2, none⟩) rfl HR3.out.1 hsz3 hxtl hxdl rfl rfl Hc3.out ?_; intro v4 w4 hown4 hgrow4 hB4)
          have hB40 := HB20.out.trans ((HR3.out.2.trans (hB4.mono (Nat.le_refl _))).mono HB20.out.size)
          rcases hown4.2 with ⟨_, h0⟩ | ⟨g', cap', cur, rfl, hrest⟩
          · simp at h0
          · have Hown4 := hid hown4
            have HB40 := hid hB40
            clear hown4 hgrow4 hB4 hB40 hrest
            go_wp2_with fail
            go_ret
            exact ⟨_, rfl, by rw [Hins.out]; exact ownsRow_base Hown4.out (Nat.le_trans hb HB20.out.size), HB40.out⟩

set_option maxRecDepth 100000 in
set_option maxHeartbeats 2000000 in
theorem put6_nil (n : Int) (w : World) :
    Calls Tryz.prog 62 #[.slice none 0 0, .int .i64 n] w fun e w' => ∃ v, e = .returned v ∧ w'.ownsRow w.heap.size 2 1 v 1 ([n].map (Value.int .i64)) ∧ Below w.heap.size w w' := by
  have Hone : Hid ((w.alloc (.cells #[.int .i64 n] 2)).ownsRow w.heap.size 2 1 (.slice (some ⟨w.heap.size, 0, none⟩) 1 1) [n].length ([n].map (Value.int .i64))) := hid ⟨by simp, .inr ⟨w.heap.size, 1, _, rfl, Nat.le_refl _, heap_alloc_new w _, Nat.le_refl _, by unfold maxLen; omega, by simp, by simp⟩⟩
  have hsz1 : w.heap.size ≤ (w.alloc (.cells #[.int .i64 n] 2)).heap.size := by simp
  have HOw := hid (fun (W : World) => own_any none 0 [] W (.inl rfl) (by simp))
  go_enter Tryz.func62, Tryz.ntmps62
  go_wp2_with fail
  refine wp_loop_rounds 1 ?_
  rw [rounds_succ]
  go_wp2_with (at_builtin; refine append_sl (ys := []) rfl rfl Hone.out hsz1 (by simp) (by simp) rfl rfl (.inl rfl) ?_; intro v2 w2 hown2 hB2)
  have hB20 : Below w.heap.size w w2 := ((Below.refl w.heap.size w).alloc (Nat.le_refl _) _).trans (hB2.mono (Nat.le_refl _))
  rw [List.append_nil] at hown2
  obtain ⟨g2, c2, rfl⟩ := ownsRow_succ hown2
  have HB20 := hid hB20
  have Hc2 : Hid (SlJ w2 (some ⟨g2, 0, none⟩) c2 [n]) := hid (slJ_own rfl hown2)
  clear hown2 hB2 hB20
  go_wp2_with fail
  refine (HOw.out w2).mono ?_
  rintro e w3 ⟨v3, rfl, hr3⟩
  have HR3 := hid hr3
  have hsz3 := hr3.2.size
  have Hc3 := hid (Hc2.out.later hr3.2 hr3.2.size)
  clear hr3
  go_wp2_with (at_builtin; refine append_sl (xs := []) (ys := [n]) rfl rfl HR3.out.1 hsz3 (by simp) (by simp) rfl rfl Hc3.out.use ?_; intro v4 w4 hown4 hB4)
  have Hown4 := hid hown4
  have HB40 := hid (HB20.out.trans ((HR3.out.2.trans hB4).mono HB20.out.size))
  clear hown4 hB4
  go_wp2_with fail
  go_ret
  exact ⟨_, rfl, ownsRow_base Hown4.out HB20.out.size, HB40.out⟩

/-- l06Put on a row of the call's own. -/
theorem put6_any (base cap : Nat) (a : Option Addr) (xs : List Int) (n : Int) (w : World) (hown : w.ownsRow base 2 1 (.slice a xs.length cap) xs.length (xs.map (Value.int .i64))) (hasc : xs.Pairwise (· < ·)) (hl : xs.length ≤ 64) (hb : base ≤ w.heap.size) :
    Calls Tryz.prog 62 #[.slice a xs.length cap, .int .i64 n] w fun e w' => ∃ a' c', e = .returned (.slice a' (putL xs n).length c') ∧ w'.ownsRow base 2 1 (.slice a' (putL xs n).length c') (putL xs n).length ((putL xs n).map (Value.int .i64)) ∧ Below w.heap.size w w' := by
  have fin : ∀ {v : Value} {w' : World} {ys : List Int}, w'.ownsRow base 2 1 v ys.length (ys.map (Value.int .i64)) → ∃ a' c', v = .slice a' ys.length c' := fun h => by
    obtain ⟨a', c', h'⟩ := ownsRow_form h
    exact ⟨a', c', h'⟩
  rcases hown.2 with ⟨h0, h1⟩ | ⟨g, cap', cur, hv, _⟩
  · injection h0 with e1 _ e3
    obtain rfl : xs = [] := List.length_eq_zero_iff.1 h1
    subst e1; subst e3
    refine (put6_nil n w).mono ?_
    rintro e w' ⟨v, rfl, ho, hb'⟩
    have hp : putL [] n = [n] := by simp [putL]
    rw [hp]
    have ho' : w'.ownsRow base 2 1 v [n].length ([n].map (Value.int .i64)) := ownsRow_base ho hb
    obtain ⟨a', c', rfl⟩ := fin ho'
    exact ⟨a', c', rfl, ho', hb'⟩
  · injection hv with e1 _ e3
    subst e1; subst e3
    refine (put6_some base g cap xs n w hown hasc hl hb).mono ?_
    rintro e w' ⟨v, rfl, ho, hb'⟩
    obtain ⟨a', c', rfl⟩ := fin ho
    exact ⟨a', c', rfl, ho, hb'⟩

end Go.Proofs.YtpdhnjdnlgnniaaGreat

/-! l06Sum, l06Push, l06Flow: the model's. -/
namespace Go.Proofs.YtpdhnjdnlgnniaaGreat
open Go.RowKit

theorem asc63 {L : List Int} (h : L.Pairwise (· < ·)) (hr : ∀ x ∈ L, 1 ≤ x ∧ x ≤ 63) : L.length ≤ 63 := by
  have := asc_len L 1 h (fun x hx => by have := hr x hx; omega)
  omega
/-- Ascending numbers from 1 to 63. -/
structure Asc (L : List Int) : Prop where
  asc : L.Pairwise (· < ·)
  rng : ∀ x ∈ L, 1 ≤ x ∧ x ≤ 63
theorem Asc.len {L : List Int} (h : Asc L) : L.length ≤ 63 := asc63 h.asc h.rng
theorem Asc.put {L : List Int} (h : Asc L) {x : Int} (hx : 1 ≤ x ∧ x ≤ 63) : Asc (putL L x) := by
  refine ⟨(put_odd (asc_odd h.asc) x).1, fun y hy => ?_⟩
  unfold putL at hy
  rcases List.mem_append.1 hy with h1 | h1
  · exact h.rng y (List.mem_filter.1 h1).1
  · rcases List.mem_append.1 h1 with h2 | h2
    · split at h2
      · simp at h2
      · simp at h2; rw [h2]; exact hx
    · exact h.rng y (List.mem_filter.1 h2).1
theorem Asc.sum : ∀ {B A : List Int}, Asc A → (∀ x ∈ B, 1 ≤ x ∧ x ≤ 63) → Asc (sumS A B)
  | [], _, h, _ => h
  | x :: B, A, h, hB => by
    have := Asc.sum (B := B) (h.put (hB x (by simp))) (fun y hy => hB y (by simp [hy]))
    simpa [sumS] using this
theorem Asc.push {ps : List Int} {n : Nat} (hh : ∀ x, highOf ps n x = 0 ∨ (1 ≤ highOf ps n x ∧ highOf ps n x ≤ 63)) : ∀ {B A : List Int}, Asc A → Asc (pushFrom ps n A B)
  | [], _, h => h
  | x :: B, A, h => by
    by_cases e : highOf ps n x = 0
    · have := Asc.push hh (B := B) h
      simpa [pushFrom, e] using this
    · have := Asc.push hh (B := B) (h.put (x := highOf ps n x) (by rcases hh x with h1 | h1; exact absurd h1 e; exact h1))
      simpa [pushFrom, e] using this
theorem sumS_snoc (A B : List Int) (x : Int) : sumS A (B ++ [x]) = putL (sumS A B) x := by simp [sumS]
theorem push_snoc (ps : List Int) (n : Nat) (A B : List Int) (x : Int) : pushFrom ps n A (B ++ [x]) = if highOf ps n x = 0 then pushFrom ps n A B else putL (pushFrom ps n A B) (highOf ps n x) := by simp [pushFrom]

set_option maxRecDepth 100000 in
set_option maxHeartbeats 4000000 in
theorem sum6_any (a1 : Option Addr) (c1 : Nat) (A : List Int) (a2 : Option Addr) (c2 : Nat) (B : List Int) (w : World) (hx : SlI w w.heap.size a1 A) (hy : SlI w w.heap.size a2 B) (hA : Asc A) (hB : ∀ x ∈ B, 1 ≤ x ∧ x ≤ 63) (hl : B.length ≤ 1048576) :
    Calls Tryz.prog 48 #[.slice a1 A.length c1, .slice a2 B.length c2] w fun e w' => ∃ v, e = .returned v ∧ Res w w' v (sumS A B) := by
  have HO := hid (own_any a1 c1 A w hx (by have := hA.len; omega))
  have Hy := hid hy
  have HBr := hid hB
  have HAs := hid (fun k => Asc.sum (B := B.take k) hA (fun x hx => hB x (List.mem_of_mem_take hx)))
  clear hx hy hA hB
  go_enter Tryz.func48, Tryz.ntmps48
  go_wp2_with fail
  refine HO.out.mono ?_
  rintro e w1 ⟨v1, rfl, hr1⟩
  obtain ⟨_, av, cv, rfl, _⟩ := ownsRow_slI hr1.1
  have Hr1 := hid hr1
  clear hr1 HO
  go_wp2_with fail
  go_loopw [5, 6] (fun sv iv wx => ∃ (k : Nat) (av : Option Addr) (cv : Nat), Hid (k ≤ B.length) ∧ sv = .slice av (sumS A (B.take k)).length cv ∧ iv = .int .i64 (k : Int) ∧ Hid (wx.ownsRow w.heap.size 2 1 (.slice av (sumS A (B.take k)).length cv) (sumS A (B.take k)).length ((sumS A (B.take k)).map (Value.int .i64))) ∧ Hid (Below w.heap.size w wx)) (fun _ iv _ => B.length - (intOf iv).toNat)
  case atStart => exact ⟨0, av, cv, hid (Nat.zero_le _), rfl, rfl, hid Hr1.out.1, hid Hr1.out.2⟩
  case round =>
    clear Hr1
    obtain ⟨k, av, cv, Hk, rfl, rfl, HO, HB⟩ := hrel
    have hk := Hk.out
    have hk0 : (0 : Int) ≤ (k : Int) := by omega
    by_cases hlt : k < B.length
    · obtain ⟨x, hx⟩ : ∃ x, x = B[k]?.getD 0 := ⟨_, rfl⟩
      obtain ⟨b, o, rfl, hb, hc⟩ : ∃ b off, a2 = some ⟨b, off, none⟩ ∧ b < w.heap.size ∧ w.cell? ⟨b, off + k, none⟩ = some (.int .i64 x) := by
        rcases Hy.out with h | ⟨b, off, hb, h, hc⟩
        · rw [h] at hlt; simp at hlt
        · exact ⟨b, off, h, hb, by rw [hx]; exact hc k hlt⟩
      have hck := (HB.out.cell (p := ⟨b, o + k, none⟩) hb).trans hc
      have hki : (k : Int) < (B.length : Int) := by omega
      have Hsn : Hid (sumS A (B.take (k + 1)) = putL (sumS A (B.take k)) x) := hid (by rw [take_snoc hlt, sumS_snoc, hx])
      have hAk := HAs.out k
      obtain ⟨S, hS⟩ : ∃ S, S = sumS A (B.take k) := ⟨_, rfl⟩
      rw [← hS] at HO Hsn hAk ⊢
      have HP := hid (put6_any w.heap.size cv av S x wr HO.out hAk.asc (by have := hAk.len; omega) HB.out.size)
      clear hx hc hAk hS
      go_wp2_with (go_at_call 62; refine HP.out.mono ?_; rintro e w2 ⟨a', c', rfl, ho2, hb2⟩; have HO2 := hid ho2; have HB2 := hid (HB.out.trans (hb2.mono HB.out.size)); clear ho2 hb2)
      go_roundw
      case rel => exact ⟨k + 1, a', c', hid hlt, by rw [Hsn.out], by go_num, by rw [Hsn.out]; exact HO2, HB2⟩
      case measure => simp [intOf]; omega
    · obtain rfl : k = B.length := by omega
      rw [List.take_length] at HO ⊢
      obtain ⟨S, hS⟩ : ∃ S, S = sumS A B := ⟨_, rfl⟩
      have HE := hid hS
      rw [← hS] at HO ⊢
      clear hS
      go_wp2_with fail
      go_ret
      exact ⟨_, rfl, by rw [← HE.out]; exact HO.out, HB.out⟩

set_option maxRecDepth 100000 in
set_option maxHeartbeats 4000000 in
theorem push6_any (a1 : Option Addr) (n c1 : Nat) (ps : List Int) (a2 : Option Addr) (c2 : Nat) (B : List Int) (w : World) (hx : SlI w w.heap.size a1 ps) (hy : SlI w w.heap.size a2 B) (hp : ps.length = 2 * n) (hn : n ≤ 1048576) (hh : ∀ x, highOf ps n x = 0 ∨ (1 ≤ highOf ps n x ∧ highOf ps n x ≤ 63)) (hl : B.length ≤ 1048576) :
    Calls Tryz.prog 50 #[.slice a1 n c1, .slice a2 B.length c2] w fun e w' => ∃ v, e = .returned v ∧ Res w w' v (pushS ps n B) := by
  have hown0 := World.ownsRow_made (base := w.heap.size) (e := 2) (size := 1) w #[] 0 (by simp) (by simp [maxLen]) rfl
  have Hown0 := hid hown0
  have Hy := hid hy
  have HHi := hid (fun x W (h : Below w.heap.size w W) => high_any a1 n c1 ps x W (hx.later h h.size) hp hn)
  have Hh := hid hh
  have HAs := hid (fun k => Asc.push (ps := ps) (n := n) hh (B := B.take k) (A := []) ⟨List.Pairwise.nil, fun x hx => by simp at hx⟩)
  clear hown0 hx hy hp hh
  go_enter Tryz.func50, Tryz.ntmps50
  go_wp2_with fail
  go_loopw [5, 6] (fun sv iv wx => ∃ (k : Nat) (av : Option Addr) (cv : Nat), Hid (k ≤ B.length) ∧ sv = .slice av (pushFrom ps n [] (B.take k)).length cv ∧ iv = .int .i64 (k : Int) ∧ Hid (wx.ownsRow w.heap.size 2 1 (.slice av (pushFrom ps n [] (B.take k)).length cv) (pushFrom ps n [] (B.take k)).length ((pushFrom ps n [] (B.take k)).map (Value.int .i64))) ∧ Hid (Below w.heap.size w wx)) (fun _ iv _ => B.length - (intOf iv).toNat)
  case atStart => exact ⟨0, some ⟨w.heap.size, 0, none⟩, 0, hid (Nat.zero_le _), rfl, rfl, hid (by simpa [pushFrom] using Hown0.out), hid ((Below.refl _ w).alloc (Nat.le_refl _) _)⟩
  case round =>
    clear Hown0
    obtain ⟨k, av, cv, Hk, rfl, rfl, HO, HB⟩ := hrel
    have hk := Hk.out
    have hk0 : (0 : Int) ≤ (k : Int) := by omega
    by_cases hlt : k < B.length
    · obtain ⟨x, hx⟩ : ∃ x, x = B[k]?.getD 0 := ⟨_, rfl⟩
      obtain ⟨b, o, rfl, hb, hc⟩ : ∃ b off, a2 = some ⟨b, off, none⟩ ∧ b < w.heap.size ∧ w.cell? ⟨b, off + k, none⟩ = some (.int .i64 x) := by
        rcases Hy.out with h | ⟨b, off, hb, h, hc⟩
        · rw [h] at hlt; simp at hlt
        · exact ⟨b, off, h, hb, by rw [hx]; exact hc k hlt⟩
      have hck := (HB.out.cell (p := ⟨b, o + k, none⟩) hb).trans hc
      have hki : (k : Int) < (B.length : Int) := by omega
      have Hsn : Hid (pushFrom ps n [] (B.take (k + 1)) = if highOf ps n x = 0 then pushFrom ps n [] (B.take k) else putL (pushFrom ps n [] (B.take k)) (highOf ps n x)) := hid (by rw [take_snoc hlt, push_snoc, hx])
      have hAk := HAs.out k
      have HHx := hid (HHi.out x wr HB.out)
      have hhx := Hh.out x
      obtain ⟨S, hS⟩ : ∃ S, S = pushFrom ps n [] (B.take k) := ⟨_, rfl⟩
      obtain ⟨y, hy⟩ : ∃ y, y = highOf ps n x := ⟨_, rfl⟩
      rw [← hS] at HO Hsn hAk ⊢
      rw [← hy] at Hsn HHx hhx
      have HP := hid (put6_any w.heap.size cv av S y wr HO.out hAk.asc (by have := hAk.len; omega) HB.out.size)
      clear hx hc hAk hS hy
      by_cases h0 : y = 0
      · have hd : (y != 0) = false := by simpa using h0
        have Hs2 : Hid (pushFrom ps n [] (B.take (k + 1)) = S) := hid (by have := Hsn.out; rwa [if_pos h0] at this)
        clear h0 hhx
        go_wp2_with (go_at_call 60; refine HHx.out.mono ?_; rintro e w' ⟨rfl, rfl⟩)
        go_roundw
        case rel => exact ⟨k + 1, av, cv, hid hlt, by rw [Hs2.out], by go_num, by rw [Hs2.out]; exact HO, HB⟩
        case measure => simp [intOf]; omega
      · have hd : (y != 0) = true := by simpa using h0
        have Hs2 : Hid (pushFrom ps n [] (B.take (k + 1)) = putL S y) := hid (by have := Hsn.out; rwa [if_neg h0] at this)
        clear h0 hhx
        go_wp2_with (first
          | (go_at_call 60; refine HHx.out.mono ?_; rintro e w' ⟨rfl, rfl⟩)
          | (go_at_call 62; refine HP.out.mono ?_; rintro e w2 ⟨a', c', rfl, ho2, hb2⟩; have HO2 := hid ho2; have HB2 := hid (HB.out.trans (hb2.mono HB.out.size)); clear ho2 hb2))
        go_roundw
        case rel => exact ⟨k + 1, a', c', hid hlt, by rw [Hs2.out], by go_num, by rw [Hs2.out]; exact HO2, HB2⟩
        case measure => simp [intOf]; omega
    · obtain rfl : k = B.length := by omega
      rw [List.take_length] at HO ⊢
      have HE : Hid (pushFrom ps n [] B = pushS ps n B) := hid rfl
      obtain ⟨S, hS⟩ : ∃ S, S = pushFrom ps n [] B := ⟨_, rfl⟩
      rw [← hS] at HO HE ⊢
      clear hS
      go_wp2_with fail
      go_ret
      exact ⟨_, rfl, by rw [← HE.out]; exact HO.out, HB.out⟩

set_option maxRecDepth 100000 in
set_option maxHeartbeats 4000000 in
theorem flow6_any {V : Int} (fs : List Int) (a1 : Option Addr) (n c1 : Nat) (ps : List Int) (a2 : Option Addr) (c2 : Nat) (ch : List Int) (w : World) (hx : SlI w w.heap.size a1 ps) (hy : SlI w w.heap.size a2 ch) (hp : ps.length = 2 * n) (hn : n ≤ 1048576)
    (hC : IsC V fs) (hO : OkTo fs ps n) (ha : ch.Pairwise (· < ·)) (hch : ∀ x ∈ ch, x ∈ fs) :
    Calls Tryz.prog 33 #[.slice a1 n c1, .slice a2 ch.length c2] w fun e w' => ∃ v, e = .returned v ∧ Res w w' v (flowL fs ps n ch) := by
  have r63 := hC.range63
  have hAch : Asc ch := ⟨ha, fun x hx => r63 x (hch x hx)⟩
  have hcl : ch.length ≤ 1048576 := by have := hAch.len; omega
  have hh : ∀ x, highOf ps n x = 0 ∨ (1 ≤ highOf ps n x ∧ highOf ps n x ≤ 63) := fun x => by
    by_cases e : highOf ps n x = 0
    · exact .inl e
    · obtain ⟨i, hi, hxi⟩ := high_lowF e
      refine .inr ?_
      rw [← hxi, high_of hO hi]
      exact r63 _ (okTo_mem hO hi).2
  have hP1 : Asc (pushS ps n ch) := ⟨(pushS_odd hC hO ha).1, fun x hx => r63 x (pushTo_fs hO x ((pushS_mem hC hO ha x).1 hx))⟩
  have hB1 : Asc (bdS (pushS ps n ch)) := ⟨(bdS_spec _ hP1.rng).2, fun x hx => by
    rw [bd_push hC hO ha] at hx
    exact r63 x (bdL_fs hx)⟩
  have hB2 : Asc (bdS ch) := ⟨(bdS_spec _ hAch.rng).2, fun x hx => by
    rw [bdS_bdL hC hch] at hx
    exact r63 x (bdL_fs hx)⟩
  have hB2f : ∀ x ∈ bdS ch, x ∈ fs := fun x hx => by
    rw [bdS_bdL hC hch] at hx
    exact bdL_fs hx
  have hP2 : Asc (pushS ps n (bdS ch)) := ⟨(pushS_odd hC hO hB2.asc).1, fun x hx => r63 x (pushTo_fs hO x ((pushS_mem hC hO hB2.asc x).1 hx))⟩
  have HFm := hid (flow_model hC hO ha hch)
  have HP := hid (fun W (h : Below w.heap.size w W) a c (xs : List Int) (hs : SlI W W.heap.size a xs) (hl : xs.length ≤ 1048576) => push6_any a1 n c1 ps a c xs W (hx.later h h.size) hs hp hn hh hl)
  obtain ⟨P1, hP1e⟩ : ∃ P, P = pushS ps n ch := ⟨_, rfl⟩
  obtain ⟨B2, hB2e⟩ : ∃ P, P = bdS ch := ⟨_, rfl⟩
  rw [← hP1e] at HFm hP1 hB1
  rw [← hB2e] at HFm hB2 hP2
  obtain ⟨B1, hB1e⟩ : ∃ P, P = bdS P1 := ⟨_, rfl⟩
  obtain ⟨P2, hP2e⟩ : ∃ P, P = pushS ps n B2 := ⟨_, rfl⟩
  rw [← hB1e] at HFm hB1
  rw [← hP2e] at HFm hP2
  have HE := hid (show P1 = pushS ps n ch ∧ B2 = bdS ch ∧ B1 = bdS P1 ∧ P2 = pushS ps n B2 from ⟨hP1e, hB2e, hB1e, hP2e⟩)
  have HA := hid (show Asc ch ∧ Asc P1 ∧ Asc B1 ∧ Asc B2 ∧ Asc P2 from ⟨hAch, hP1, hB1, hB2, hP2⟩)
  have hS1 := Asc.sum hAch hB1.rng
  have HS1 := hid hS1
  have Hy := hid hy
  clear hx hy hp hC hO ha hch hh hP1 hB1 hB2 hP2 hB2f hP1e hB2e hB1e hP2e hAch r63 hS1
  go_enter Tryz.func33, Tryz.ntmps33
  go_wp2_with fail
  refine (HP.out w (Below.refl _ _) a2 c2 ch Hy.out hcl).mono ?_
  rintro e w1 ⟨v1, rfl, hr1⟩
  rw [← HE.out.1] at hr1
  obtain ⟨_, aP, cP, rfl, hsP⟩ := ownsRow_slI hr1.1
  have HB1 := hid hr1.2
  have HL1 := hid (bdS_any aP cP P1 w1 hsP HA.out.2.1.rng (by have := HA.out.2.1.len; omega))
  rw [← HE.out.2.2.1] at HL1
  clear hr1 hsP
  go_wp2_with fail
  refine HL1.out.mono ?_
  rintro e w2 ⟨v2, rfl, hr2⟩
  obtain ⟨_, aB, cB, rfl, hsB⟩ := ownsRow_slI hr2.1
  have HB2 := hid (HB1.out.trans (hr2.2.mono HB1.out.size))
  have HL2 := hid (sum6_any a2 c2 ch aB cB B1 w2 (Hy.out.later HB2.out HB2.out.size) hsB HA.out.1 HA.out.2.2.1.rng (by have := HA.out.2.2.1.len; omega))
  clear hr2 hsB HL1
  go_wp2_with fail
  refine HL2.out.mono ?_
  rintro e w3 ⟨v3, rfl, hr3⟩
  obtain ⟨T, hT⟩ : ∃ T, T = sumS ch B1 := ⟨_, rfl⟩
  rw [← hT] at hr3 HS1 HFm
  obtain ⟨_, aT, cT, rfl, hsT⟩ := ownsRow_slI hr3.1
  have HB3 := hid (HB2.out.trans (hr3.2.mono HB2.out.size))
  have HsT := hid hsT
  have HL3 := hid (bdS_any a2 c2 ch w3 (Hy.out.later HB3.out HB3.out.size) HA.out.1.rng hcl)
  rw [← HE.out.2.1] at HL3
  clear hr3 hsT HL2 hT
  go_wp2_with fail
  refine HL3.out.mono ?_
  rintro e w4 ⟨v4, rfl, hr4⟩
  obtain ⟨_, aC, cC, rfl, hsC⟩ := ownsRow_slI hr4.1
  have HB4 := hid (HB3.out.trans (hr4.2.mono HB3.out.size))
  have HsT := hid (HsT.out.later hr4.2 hr4.2.size)
  have HL4 := hid (HP.out w4 HB4.out aC cC B2 hsC (by have := HA.out.2.2.2.1.len; omega))
  rw [← HE.out.2.2.2] at HL4
  clear hr4 hsC HL3
  go_wp2_with fail
  refine HL4.out.mono ?_
  rintro e w5 ⟨v5, rfl, hr5⟩
  obtain ⟨_, aQ, cQ, rfl, hsQ⟩ := ownsRow_slI hr5.1
  have HB5 := hid (HB4.out.trans (hr5.2.mono HB4.out.size))
  have HL5 := hid (sum6_any aT cT T aQ cQ P2 w5 (HsT.out.later hr5.2 hr5.2.size) hsQ HS1.out HA.out.2.2.2.2.rng (by have := HA.out.2.2.2.2.len; omega))
  rw [HFm.out] at HL5
  clear hr5 hsQ HL4
  go_wp2_with fail
  refine HL5.out.mono ?_
  rintro e w6 ⟨v6, rfl, hr6⟩
  have HR := hid (hr6.later HB5.out)
  clear hr6
  go_wp2_with fail
  go_ret
  exact ⟨_, rfl, HR.out⟩

end Go.Proofs.YtpdhnjdnlgnniaaGreat
