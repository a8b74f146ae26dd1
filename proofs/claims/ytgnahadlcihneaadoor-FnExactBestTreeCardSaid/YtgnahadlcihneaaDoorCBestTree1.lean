import Derived.ArgAppend
import Derived.Deep.CutRange
import Derived.Deep.RegionHeld3
import Derived.Test.YtgnahadlcihneaaDoorHB3
import Derived.Test.YtgnahadlcihneaaDoorHB1
/-! The best tree as mathematics: its places, and the first question with which the least number is kept. -/
namespace Go.Proofs.YtgnahadlcihneaaDoor
open Go.RowKit Go.Sort

/-- The first of the least. -/
structure FirstMin (fs : List Int) (V m a o k b : Nat) : Prop where
  lt : b < k
  free : (a ||| o).testBit b = false
  eq : minTo (evB fs V m a o) (fun v => (a ||| o).testBit v) bigB k = evB fs V m a o b
  first : ∀ v, v < b → (a ||| o).testBit v = false → evB fs V m a o b < evB fs V m a o v
theorem bestTo_first {fs : List Int} {V m a o : Nat} (h : St V (m + 1) a o) : ∀ k, k ≤ V → (∀ v, v < k → (a ||| o).testBit v = true) ∧ minTo (evB fs V m a o) (fun v => (a ||| o).testBit v) bigB k = bigB ∨ FirstMin fs V m a o k (bestTo fs V m a o k)
  | 0, _ => .inl ⟨fun v hv => absurd hv (by omega), rfl⟩
  | k + 1, hk => by
    have ih := bestTo_first (fs := fs) h k (by omega)
    have hM := minTo_succ (evB fs V m a o) (fun v => (a ||| o).testBit v) bigB k
    have hb : bestTo fs V m a o (k + 1) = if (a ||| o).testBit k then bestTo fs V m a o k else if evB fs V m a o k < minTo (evB fs V m a o) (fun v => (a ||| o).testBit v) bigB k then k else bestTo fs V m a o k := rfl
    cases hf : (a ||| o).testBit k
    · have he := evB_le (fs := fs) h (show k < V by omega) hf
      have hbig : (64 : Nat) < bigB := by decide
      simp only [hf, Bool.false_eq_true, if_false] at hM hb
      right
      rcases ih with ⟨h1, h2⟩ | h1
      · rw [h2] at hM hb
        rw [if_pos (by omega)] at hb
        rw [hb]
        exact ⟨by omega, hf, by rw [hM]; omega, fun v hv hv2 => absurd (h1 v hv) (by rw [hv2]; decide)⟩
      · by_cases hlt : evB fs V m a o k < minTo (evB fs V m a o) (fun v => (a ||| o).testBit v) bigB k
        · rw [if_pos hlt] at hb
          rw [hb]
          exact ⟨by omega, hf, by rw [hM]; omega, fun v hv hv2 => by
            have := (minTo_le (evB fs V m a o) (fun v => (a ||| o).testBit v) bigB k).2 v hv hv2
            omega⟩
        · rw [if_neg hlt] at hb
          rw [hb]
          exact ⟨by have := h1.lt; omega, h1.free, by rw [hM, ← h1.eq]; omega, h1.first⟩
    · simp only [hf, if_true] at hM hb
      rw [hb, hM]
      rcases ih with ⟨h1, h2⟩ | h1
      · left
        refine ⟨fun v hv => ?_, h2⟩
        by_cases e : v = k
        · subst e; exact hf
        · exact h1 v (by omega)
      · right
        exact ⟨by have := h1.lt; omega, h1.free, by rw [hM]; exact h1.eq, h1.first⟩
theorem best_first {fs : List Int} {V m a o : Nat} (h : St V (m + 1) a o) : FirstMin fs V m a o V (bestTo fs V m a o V) := by
  rcases bestTo_first (fs := fs) h V (Nat.le_refl _) with ⟨h1, _⟩ | h1
  · obtain ⟨v, hv, hf⟩ := h.free
    rw [h1 v hv] at hf
    exact absurd hf (by decide)
  · exact h1

theorem told_yes {fs : List Int} {V a o v : Nat} (hV : V ≤ 6) (h : toldB fs V a o = true) : toldB fs V (a ||| 2 ^ v) o = true := by
  unfold toldB at h ⊢
  rw [Bool.or_eq_true] at h ⊢
  rcases h with h | h
  · left
    rw [allC_iff hV] at h ⊢
    intro x hx
    rw [inS_yes, Bool.and_eq_true] at hx
    exact h x hx.1
  · right
    rw [noneC_iff hV] at h ⊢
    intro x hx
    rw [inS_yes, Bool.and_eq_true] at hx
    exact h x hx.1
theorem told_no {fs : List Int} {V a o v : Nat} (hV : V ≤ 6) (h : toldB fs V a o = true) : toldB fs V a (o ||| 2 ^ v) = true := by
  unfold toldB at h ⊢
  rw [Bool.or_eq_true] at h ⊢
  rcases h with h | h
  · left
    rw [allC_iff hV] at h ⊢
    intro x hx
    rw [inS_no, Bool.and_eq_true] at hx
    exact h x hx.1
  · right
    rw [noneC_iff hV] at h ⊢
    intro x hx
    rw [inS_no, Bool.and_eq_true] at hx
    exact h x hx.1

/-- The model's choice. -/
def sumB (fs : List Int) (V m a o v : Nat) : Nat := least fs V m (a ||| 2 ^ v) o + least fs V m a (o ||| 2 ^ v)
theorem evB_sum {fs : List Int} {V m a o v : Nat} (hV : V ≤ 6) (hm : ¬ m = 0) : evB fs V m a o v = sumB fs V m a o v := by
  unfold evB sumB
  cases ht : toldB fs V a o
  · rw [if_neg (by decide), if_neg hm]
  · rw [if_pos rfl, least_told (told_yes hV ht), least_told (told_no hV ht)]
/-- It takes the best one, with no other ahead of it. -/
theorem sel_best {fs : List Int} {V m a o : Nat} (h : St V (m + 1) a o) (hm : ¬ m = 0) : sumB fs V m a o (bestTo fs V m a o V) = least fs V (m + 1) a o := by
  have hb := best_first (fs := fs) h
  rw [← evB_sum h.le hm, ← hb.eq, least_min h]
theorem sel_first {fs : List Int} {V m a o v : Nat} (h : St V (m + 1) a o) (hv : v < bestTo fs V m a o V) (hf : (a ||| o).testBit v = false) : ¬ m = 0 ∧ sumB fs V m a o v ≠ least fs V (m + 1) a o := by
  have hb := best_first (fs := fs) h
  have h1 := hb.first v hv hf
  have hm : ¬ m = 0 := by
    rintro rfl
    have e : evB fs V 0 a o v = evB fs V 0 a o (bestTo fs V 0 a o V) := by unfold evB; cases toldB fs V a o <;> rfl
    omega
  refine ⟨hm, ?_⟩
  rw [← evB_sum h.le hm, ← least_min h, hb.eq]
  omega

/-! ## Places -/
def qOf (fs : List Int) (V : Nat) (p : Nat × Nat) : Nat := bestTo fs V (V - ones (p.1 ||| p.2) - 1) p.1 p.2 V
/-- The answers on the way to a place. -/
def node (fs : List Int) (V : Nat) (p : Nat) : Nat × Nat :=
  if h : p ≤ 1 then (0, 0) else
    let u := node fs V (p / 2)
    if p % 2 = 1 then (u.1 ||| 2 ^ qOf fs V u, u.2) else (u.1, u.2 ||| 2 ^ qOf fs V u)
termination_by p
decreasing_by omega
def qAt (fs : List Int) (V p : Nat) : Nat := qOf fs V (node fs V p)
theorem node_one (fs : List Int) (V : Nat) : node fs V 1 = (0, 0) := by unfold node; rfl
theorem node_half (fs : List Int) (V : Nat) {p : Nat} (h : 1 < p) : node fs V p = if p % 2 = 1 then ((node fs V (p / 2)).1 ||| 2 ^ qAt fs V (p / 2), (node fs V (p / 2)).2) else ((node fs V (p / 2)).1, (node fs V (p / 2)).2 ||| 2 ^ qAt fs V (p / 2)) := by
  rw [node, dif_neg (by omega)]
  rfl
theorem node_no (fs : List Int) (V : Nat) {p : Nat} (h : 1 ≤ p) : node fs V (2 * p) = ((node fs V p).1, (node fs V p).2 ||| 2 ^ qAt fs V p) := by
  rw [node_half fs V (by omega), if_neg (by omega), show 2 * p / 2 = p by omega]
theorem node_yes (fs : List Int) (V : Nat) {p : Nat} (h : 1 ≤ p) : node fs V (2 * p + 1) = ((node fs V p).1 ||| 2 ^ qAt fs V p, (node fs V p).2) := by
  rw [node_half fs V (by omega), if_pos (by omega), show (2 * p + 1) / 2 = p by omega]
/-- What is not asked for yet. -/
theorem node_st (fs : List Int) {V : Nat} (hV : V ≤ 6) : ∀ d p, d ≤ V → 2 ^ d ≤ p → p < 2 ^ (d + 1) → St V (V - d) (node fs V p).1 (node fs V p).2
  | 0, p, _, h1, h2 => by
    obtain rfl : p = 1 := by simp at h1 h2; omega
    rw [node_one]
    exact St.start hV
  | d + 1, p, hd, h1, h2 => by
    have e1 : 2 ^ (d + 1) = 2 * 2 ^ d := by rw [Nat.pow_succ]; omega
    have e2 : 2 ^ (d + 1 + 1) = 2 * 2 ^ (d + 1) := by rw [Nat.pow_succ]; omega
    have hp : 1 ≤ 2 ^ d := Nat.one_le_two_pow
    have ih := node_st fs hV d (p / 2) (by omega) (by omega) (by omega)
    have em : V - d = V - (d + 1) + 1 := by omega
    rw [em] at ih
    have hb := best_first (fs := fs) ih
    have hq : qAt fs V (p / 2) = bestTo fs V (V - (d + 1)) (node fs V (p / 2)).1 (node fs V (p / 2)).2 V := by
      unfold qAt qOf
      have := ih.cnt
      rw [show V - ones ((node fs V (p / 2)).1 ||| (node fs V (p / 2)).2) - 1 = V - (d + 1) by omega]
    obtain ⟨k, hk, s1, s2⟩ := ih.step hb.lt hb.free
    obtain rfl : k = V - (d + 1) := by omega
    rw [← hq] at s1 s2
    rw [node_half fs V (by omega)]
    split
    · exact s1
    · exact s2
/-- A place that has a question. -/
theorem place_st (fs : List Int) {V p : Nat} (hV : V ≤ 6) (h1 : 1 ≤ p) (h2 : p < 2 ^ V) : ∃ m, St V (m + 1) (node fs V p).1 (node fs V p).2 ∧ qAt fs V p = bestTo fs V m (node fs V p).1 (node fs V p).2 V := by
  have hl1 := Nat.log2_self_le (show p ≠ 0 by omega)
  have hl2 : p < 2 ^ (Nat.log2 p + 1) := Nat.lt_log2_self
  have hd : Nat.log2 p < V := by
    apply Classical.byContradiction
    intro hc
    have : 2 ^ V ≤ 2 ^ Nat.log2 p := Nat.pow_le_pow_right (by decide) (by omega)
    omega
  have h := node_st fs hV (Nat.log2 p) p (by omega) hl1 hl2
  refine ⟨V - Nat.log2 p - 1, by rw [show V - Nat.log2 p - 1 + 1 = V - Nat.log2 p by omega]; exact h, ?_⟩
  unfold qAt qOf
  have := h.cnt
  rw [show V - ones ((node fs V p).1 ||| (node fs V p).2) - 1 = V - Nat.log2 p - 1 by omega]
theorem qAt_lt (fs : List Int) {V p : Nat} (hV : V ≤ 6) (h1 : 1 ≤ p) (h2 : p < 2 ^ V) : qAt fs V p < V := by
  obtain ⟨m, hs, hq⟩ := place_st fs hV h1 h2
  rw [hq]
  exact (best_first hs).lt
/-- The tree, up to a place. -/
def bestL (fs : List Int) (V k : Nat) : List Int := (List.range k).map fun i => (qAt fs V (i + 1) : Int)
theorem bestL_len (fs : List Int) (V k : Nat) : (bestL fs V k).length = k := by unfold bestL; simp
theorem bestL_succ (fs : List Int) (V k : Nat) : bestL fs V (k + 1) = bestL fs V k ++ [(qAt fs V (k + 1) : Int)] := by unfold bestL; rw [List.range_succ, List.map_append]; rfl
theorem bestL_get (fs : List Int) {V k i : Nat} (h : i < k) : (bestL fs V k)[i]?.getD 0 = (qAt fs V (i + 1) : Int) := by
  unfold bestL
  rw [List.getElem?_map, List.getElem?_range h]
  rfl
/-- A place ahead: the numbers met so far and those left on the way make the place's. -/
structure WayIn (fs : List Int) (V p q a o : Nat) : Prop where
  yes : (node fs V p).1 = a ||| (node fs V q).1
  no : (node fs V p).2 = o ||| (node fs V q).2
theorem way_start (fs : List Int) (V p : Nat) : WayIn fs V p p 0 0 := ⟨by rw [Nat.zero_or], by rw [Nat.zero_or]⟩
theorem WayIn.yes_ {fs : List Int} {V p q a o : Nat} (h : WayIn fs V p q a o) (h1 : 1 < q) (h2 : q % 2 = 1) : WayIn fs V p (q / 2) (a ||| 2 ^ qAt fs V (q / 2)) o := by
  have e := node_half fs V h1
  rw [if_pos h2] at e
  exact ⟨by rw [h.yes, e]; simp only; rw [Nat.or_assoc, Nat.or_comm (2 ^ _)], by rw [h.no, e]⟩
theorem WayIn.no_ {fs : List Int} {V p q a o : Nat} (h : WayIn fs V p q a o) (h1 : 1 < q) (h2 : ¬ q % 2 = 1) : WayIn fs V p (q / 2) a (o ||| 2 ^ qAt fs V (q / 2)) := by
  have e := node_half fs V h1
  rw [if_neg h2] at e
  exact ⟨by rw [h.yes, e], by rw [h.no, e]; simp only; rw [Nat.or_assoc, Nat.or_comm (2 ^ _)]⟩
theorem WayIn.end_ {fs : List Int} {V p a o : Nat} (h : WayIn fs V p 1 a o) : a = (node fs V p).1 ∧ o = (node fs V p).2 := by
  have e := node_one fs V
  exact ⟨by rw [h.yes, e]; simp, by rw [h.no, e]; simp⟩
theorem WayIn.lt {fs : List Int} {V p q a o : Nat} (h : WayIn fs V p q a o) (h1 : (node fs V p).1 < 64) (h2 : (node fs V p).2 < 64) : a < 64 ∧ o < 64 := by
  rw [h.yes] at h1
  rw [h.no] at h2
  exact ⟨Nat.lt_of_le_of_lt Nat.left_le_or h1, Nat.lt_of_le_of_lt Nat.left_le_or h2⟩

end Go.Proofs.YtgnahadlcihneaaDoor

/-! A queue: a row of hidden sets that is cut at its front and grows by two at its end. -/
namespace Go.Proofs.YtgnahadlcihneaaDoor
open Go.RowKit

theorem info_hid : (Tryd.prog.info? 56).map (fun i => (i.zero, i.size, i.bytes)) = some (some (.int .u64 0), 1, 8) := by kernel_rfl
structure QHat (W : World) (base g off cap : Nat) (cur : Array Value) (xs : List Int) : Prop where
  base : base ≤ g
  heap : W.heap[g]? = some (.cells cur 56 (0, 0))
  len : xs.length ≤ cap
  size : off + cap ≤ cur.size
  at_ : ∀ i, i < xs.length → cur[off + i]? = some (.int .u64 (xs[i]?.getD 0))
def OwnsH (W : World) (base : Nat) (v : Value) (xs : List Int) : Prop := ∃ g off cap cur, v = .slice (some ⟨g, off, none⟩) xs.length cap ∧ QHat W base g off cap cur xs

theorem QHat.cell {W : World} {base g off cap : Nat} {cur : Array Value} {xs : List Int} (h : QHat W base g off cap cur xs) {i : Nat} (hi : i < xs.length) : W.cell? ⟨g, off + i, none⟩ = some (.int .u64 (xs[i]?.getD 0)) := by
  rw [cell_of_row W g (off + i) cur _ (0, 0) h.heap]
  exact h.at_ i hi
theorem QHat.lt {W : World} {base g off cap : Nat} {cur : Array Value} {xs : List Int} (h : QHat W base g off cap cur xs) : g < W.heap.size := (Array.getElem?_eq_some_iff.1 h.heap).1
theorem OwnsH.kept {W W' : World} {base : Nat} {v : Value} {xs : List Int} {row : Option Nat} (h : OwnsH W base v xs) (hg : W.grownBy W' row) (hne : v.ownBlock ≠ row) : OwnsH W' base v xs := by
  obtain ⟨g, off, cap, cur, rfl, q⟩ := h
  exact ⟨g, off, cap, cur, rfl, q.base, (hg.block g q.lt (by simpa [Value.ownBlock] using hne)).trans q.heap, q.len, q.size, q.at_⟩
theorem OwnsH.lt {W : World} {base : Nat} {v : Value} {xs : List Int} (h : OwnsH W base v xs) : ∃ g, v.ownBlock = some g ∧ base ≤ g ∧ g < W.heap.size := by
  obtain ⟨g, off, cap, cur, rfl, q⟩ := h
  exact ⟨g, rfl, q.base, q.lt⟩

theorem OwnsH.form {W : World} {base : Nat} {v : Value} {xs : List Int} (h : OwnsH W base v xs) : ∃ g off cap, v = .slice (some ⟨g, off, none⟩) xs.length cap := by
  obtain ⟨g, off, cap, _, e, _⟩ := h
  exact ⟨g, off, cap, e⟩

/-- 'append(queue, x, y)', as the run of the operation. -/
theorem OwnsH.push {W : World} {base : Nat} {v : Value} {xs : List Int} (h : OwnsH W base v xs) (hb : base ≤ W.heap.size) (hl : xs.length ≤ 1048576) (ty : TypeId) (ad : Addr) (c : Nat) (x y : Int) (hx : W.cell? (ad.add 0) = some (.int .u64 x)) (hy : W.cell? (ad.add 1) = some (.int .u64 y)) :
    ∃ v' W', (Builtin.append_ #[84, 84] ty #[v, .slice (some ad) 2 c]).run Tryd.prog W = .ok v' W' ∧ OwnsH W' base v' (xs ++ [x, y]) ∧ W.grownBy W' v.ownBlock ∧ (v'.ownBlock = v.ownBlock ∨ ∃ k, v'.ownBlock = some k ∧ W.heap.size ≤ k) := by
  obtain ⟨i0, hi, hz0, hz1, hz2⟩ := info_parts info_hid
  obtain ⟨g, off, cap, cur, rfl, q⟩ := h
  have hnews : ∀ j u, [Value.int .u64 x, .int .u64 y][j]? = some u → W.cell? (ad.add j) = some u := by
    intro j u hj
    match j, hj with
    | 0, hj => simp at hj; subst hj; exact hx
    | 1, hj => simp at hj; subst hj; exact hy
  by_cases hroom : xs.length + 2 ≤ cap
  · have hs := q.size
    have hcl : ∀ k, W.cell? ⟨g, k, none⟩ = cur[k]? := fun k => cell_of_row W g k cur _ (0, 0) q.heap
    have hr := run_append_room_cells (P := Tryd.prog) W 84 ty 56 i0 Tryd.underlying84 hi g off xs.length cap ad 2 c [.int .u64 x, .int .u64 y] (by rw [hz1]; rfl) hnews (by simp [Value.oneCell']) hroom
      (fun j hj => by
        have hj2 : j < 2 := by simpa using hj
        rw [hz1, Nat.mul_one, hcl, Array.getElem?_eq_getElem (by omega)]; rfl)
      (fun j hj => by simp [World.frozen?, q.heap])
    rw [hz1, Nat.mul_one] at hr
    have hh0 : (W.setCell ⟨g, off + xs.length, none⟩ (.int .u64 x)).heap[g]? = some (.cells (cur.setIfInBounds (off + xs.length) (.int .u64 x)) 56 (0, 0)) := by
      simp only [World.setCell, Array.getElem?_modify, q.heap]
      simp
    have hh : ((W.setCell ⟨g, off + xs.length, none⟩ (.int .u64 x)).setCell ⟨g, off + xs.length + 1, none⟩ (.int .u64 y)).heap[g]? = some (.cells ((cur.setIfInBounds (off + xs.length) (.int .u64 x)).setIfInBounds (off + xs.length + 1) (.int .u64 y)) 56 (0, 0)) := by
      rw [World.setCell]
      simp only [Array.getElem?_modify, hh0]
      simp
    refine ⟨_, _, hr, ⟨g, off, cap, (cur.setIfInBounds (off + xs.length) (.int .u64 x)).setIfInBounds (off + xs.length + 1) (.int .u64 y), by simp, q.base, hh, by simp; omega, by simp; exact q.size, fun i hi => ?_⟩, (grownBy_set W ⟨g, off + xs.length, none⟩ _).trans (grownBy_set _ ⟨g, off + xs.length + 1, none⟩ _), .inl rfl⟩
    have hi2 : i < xs.length + 2 := by simpa using hi
    by_cases e : i = xs.length
    · subst e
      rw [Array.getElem?_setIfInBounds_ne (by omega), Array.getElem?_setIfInBounds_self_of_lt (by omega)]
      simp
    · by_cases e2 : i = xs.length + 1
      · subst e2
        rw [← Nat.add_assoc, Array.getElem?_setIfInBounds_self_of_lt (by simp; omega)]
        simp
      · have hil : i < xs.length := by omega
        rw [Array.getElem?_setIfInBounds_ne (by omega), Array.getElem?_setIfInBounds_ne (by omega), q.at_ i hil, List.getElem?_append_left hil]
  · obtain ⟨v', W', hr, hown, hg⟩ := run_append_arg_grows (P := Tryd.prog) W 84 ty 56 i0 (.int .u64 0) 1 8 Tryd.underlying84 hi hz0 hz1 hz2 rfl (by decide) ⟨g, off, none⟩ xs.length cap (xs.map (Value.int .u64)) (by simp)
      (fun j u hj => by
        have hjl : j < xs.length := by have := (List.getElem?_eq_some_iff.1 hj).1; simpa using this
        have hadd : (⟨g, off, none⟩ : Addr).add j = ⟨g, off + j, none⟩ := by unfold Addr.add; split <;> simp_all
        rw [hadd, q.cell hjl]
        rw [List.getElem?_map, List.getElem?_eq_getElem hjl] at hj
        rw [List.getElem?_eq_getElem hjl]
        simpa using hj)
      ad 2 c [.int .u64 x, .int .u64 y] (by simp) hnews (by omega) (by unfold maxLen; omega) (by omega)
    rcases hown.2 with ⟨_, h0⟩ | ⟨g', cap', cur', rfl, hg', hh', h1, _, h3, h4⟩
    · omega
    · refine ⟨_, W', hr, ⟨g', 0, cap', cur', by simp, Nat.le_trans hb hg', hh', by simpa using h1, by omega, fun i hi => ?_⟩, ⟨hg.os, hg.tape, hg.output, hg.size, fun k hk _ => hg.block k hk (by simp)⟩, .inr ⟨g', rfl, hg'⟩⟩
      have h5 : (cur'.toList.take ((xs.length + 2) * 1))[i]? = (xs.map (Value.int .u64) ++ [.int .u64 x, .int .u64 y])[i]? := by rw [h4]
      have hi' : i < xs.length + 2 := by simpa using hi
      rw [List.getElem?_take, if_pos (by omega)] at h5
      have e : xs.map (Value.int .u64) ++ [Value.int .u64 x, .int .u64 y] = (xs ++ [x, y]).map (Value.int .u64) := by simp
      rw [e, List.getElem?_map, List.getElem?_eq_getElem hi] at h5
      rw [Nat.zero_add, ← Array.getElem?_toList, h5, List.getElem?_eq_getElem hi]
      rfl

/-- 'queue[0]' and 'queue[1:]'. -/
theorem OwnsH.pop {W : World} {base : Nat} {v : Value} {x : Int} {xs : List Int} (h : OwnsH W base v (x :: xs)) :
    ∃ g off cap, v = .slice (some ⟨g, off, none⟩) (xs.length + 1) cap ∧ xs.length + 1 ≤ cap ∧ W.cell? ⟨g, off, none⟩ = some (.int .u64 x) ∧
      (cap ≠ 1 → OwnsH W base (.slice (some ⟨g, off + 1, none⟩) xs.length (cap - 1)) xs) ∧ (cap = 1 → OwnsH W base (.slice (some ⟨g, off, none⟩) xs.length 0) xs) := by
  obtain ⟨g, off, cap, cur, rfl, q⟩ := h
  have hl := q.len
  have hs := q.size
  simp only [List.length_cons] at hl
  refine ⟨g, off, cap, by simp, hl, by have := q.cell (i := 0) (by simp); simpa using this, fun hc => ⟨g, off + 1, cap - 1, cur, rfl, q.base, q.heap, by omega, by omega, fun i hi => ?_⟩, fun hc => ⟨g, off, 0, cur, rfl, q.base, q.heap, by omega, by omega, fun i hi => absurd hi (by omega)⟩⟩
  have := q.at_ (i + 1) (by simp; omega)
  rw [show off + 1 + i = off + (i + 1) by omega, this]
  simp
/-- '[]int64{a}'. -/
theorem OwnsH.one {W : World} {base : Nat} (hb : base ≤ W.heap.size) (a : Int) : OwnsH (W.alloc (.cells #[.int .u64 a] 56)) base (.slice (some ⟨W.heap.size, 0, none⟩) 1 1) [a] :=
  ⟨W.heap.size, 0, 1, #[.int .u64 a], rfl, hb, heap_alloc_new W _, by simp, by simp, fun i hi => by
    have : i = 0 := by simpa using hi
    subst this
    rfl⟩

end Go.Proofs.YtgnahadlcihneaaDoor

/-! BestTree: the program's. -/
namespace Go.Proofs.YtgnahadlcihneaaDoor
open Go.RowKit Go.Sort

theorem wp_append_h {P : Program} {o : Oper} {a : Act} {w w' : World} {K : Act → World → Prop} {Q : Exit → Act → World → Prop} {s y : Operand} {T : TypeId} (ho : o.op = .call { callee := .builtin .append, args := #[s, y], argTypes := #[T, T] })
    {v u v' : Value} (hs : a.eval s = v) (hy : a.eval y = u) (hr : (Builtin.append_ #[T, T] o.type #[v, u]).run P w = .ok v' w') (hK : K (a.put o.dst v') w') : o.wp P a w K Q := by
  unfold Oper.wp execOp
  simp only [ho, resolve, invoke, builtin, Sem.run_bind, Sem.run_pure, Result.andThen_ok, List.map_toArray, List.map_cons, List.map_nil, hs, hy, hr]
  exact hK
/-- 'append(queue, x, y)', at the operation. -/
theorem append_h {w : World} {ops : Array Oper} {rest : List Oper} {o : Oper} {a : Act} {Q : Exit → Act → World → Prop} (hgd : o.guard = none) {s t : Operand}
    (ho : o.op = .call { callee := .builtin .append, args := #[s, t], argTypes := #[84, 84] })
    {base : Nat} {v : Value} {xs : List Int} {x y : Int} (hq : OwnsH w base v xs) (hb : base ≤ w.heap.size) (hl : xs.length ≤ 1048576)
    (hs : a.eval s = v) (ht : a.eval t = .slice (some ⟨w.heap.size, 0, none⟩) 2 2)
    (hK : ∀ v' w', OwnsH w' base v' (xs ++ [x, y]) → w.grownBy w' v.ownBlock → (v'.ownBlock = v.ownBlock ∨ ∃ k, v'.ownBlock = some k ∧ w.heap.size < k) → wpList Tryd.prog ops Q rest (a.put o.dst v') w') :
    wpList Tryd.prog ops Q (o :: rest) a (w.alloc (.cells #[.int .u64 x, .int .u64 y] 56)) := by
  have hq1 : OwnsH (w.alloc (.cells #[.int .u64 x, .int .u64 y] 56)) base v xs := hq.kept (World.grownBy_alloc w _ none) (by obtain ⟨g, e, _⟩ := hq.lt; rw [e]; simp)
  obtain ⟨k0, k1, _, _⟩ := two_of (heap_alloc_new w (.cells #[.int .u64 x, .int .u64 y] 56))
  obtain ⟨v', w', hr, h1, h2, h3⟩ := hq1.push (by simp; omega) hl o.type ⟨w.heap.size, 0, none⟩ 2 x y (by rw [Addr.add_lit]; exact k0) (by rw [Addr.add_lit]; exact k1)
  refine wpList_plain hgd fun _ hK' => wp_append_h ho hs ht hr (hK' _ _ (hK v' w' h1 ((World.grownBy_alloc w _ _).trans h2) ?_))
  rcases h3 with h | ⟨k, h, hk⟩
  · exact .inl h
  · exact .inr ⟨k, h, by simp at hk; omega⟩
/-- 'append' of a number; where the row lies afterwards. -/
theorem append_int_w {w : World} {ops : Array Oper} {rest : List Oper} {o : Oper} {a : Act} {Q : Exit → Act → World → Prop} (hgd : o.guard = none) {s y : Operand}
    (ho : o.op = .call { callee := .builtin .append, args := #[s, y], argTypes := #[22, 22] })
    {base : Nat} {v : Value} {xs : List Int} {x : Int} (hown : w.ownsRow base 2 1 v xs.length (xs.map (Value.int .i64))) (hbase : base ≤ w.heap.size) (hl : xs.length ≤ 1099511627776)
    (hs : a.eval s = v) (hy : a.eval y = .slice (some ⟨w.heap.size, 0, none⟩) 1 1)
    (hK : ∀ v' w', w'.ownsRow base 2 1 v' (xs ++ [x]).length ((xs ++ [x]).map (Value.int .i64)) → w.grownBy w' v.ownBlock → (v'.ownBlock = v.ownBlock ∨ v'.ownBlock = some (w.heap.size + 1)) → Below base w w' → wpList Tryd.prog ops Q rest (a.put o.dst v') w') :
    wpList Tryd.prog ops Q (o :: rest) a (w.alloc (.cells #[.int .i64 x] 2)) := by
  obtain ⟨i0, hi, hz0, hz1, hz2⟩ := info_parts info_i64
  refine wpList_append_own_at _ hgd s y 22 ho base 2 i0 (.int .i64 0) 1 8 Tryd.underlying22 hi hz0 hz1 hz2 rfl (by decide) v _ _ hs (hown.alloc _) ⟨w.heap.size, 0, none⟩ 1 1 [.int .i64 x] hy rfl (cell_one_new _ _ _) (by simp [Value.oneCell']) (by unfold maxLen; omega) (by omega) (by simp; omega) ?_
  intro v' w1 hown1 hgrow1 _ hat
  have hg : w.grownBy w1 v.ownBlock := (World.grownBy_alloc w _ _).trans hgrow1
  exact hK v' w1 (by simpa using hown1) hg (by simpa using hat) ((Below.refl base w).grown hg hbase (fun k hk => (hown.lt k hk).1))

/-- The worlds of BestTree: its game, its tree, what is left. -/
structure BtW (w W : World) (gb : Nat) (c : Array Value) (tv qv : Value) (ts xs : List Int) : Prop where
  below : Below w.heap.size w W
  box : W.heap[gb]? = some (.cells c 58 (0, 0))
  tree : W.ownsRow w.heap.size 2 1 tv ts.length (ts.map (Value.int .i64))
  queue : OwnsH W w.heap.size qv xs
  tq : tv.ownBlock ≠ qv.ownBlock
  tg : tv.ownBlock ≠ some gb
  qg : qv.ownBlock ≠ some gb
theorem BtW.more {w W W' : World} {gb : Nat} {c : Array Value} {tv qv : Value} {ts xs : List Int} (h : BtW w W gb c tv qv ts xs) (hB : Below W.heap.size W W') : BtW w W' gb c tv qv ts xs :=
  ⟨h.below.trans (hB.mono h.below.size), (hB.block _ (lt_get h.box)).trans h.box, ownsRow_below h.tree hB (fun g hg => (h.tree.lt g hg).2), h.queue.kept (below_kept hB none) (by obtain ⟨g, e, _⟩ := h.queue.lt; rw [e]; simp), h.tq, h.tg, h.qg⟩
theorem BtW.tree_ {w W W' : World} {gb : Nat} {c : Array Value} {tv qv tv' : Value} {ts xs ts' : List Int} (h : BtW w W gb c tv qv ts xs) (ho : W'.ownsRow w.heap.size 2 1 tv' ts'.length (ts'.map (Value.int .i64))) (hg : W.grownBy W' tv.ownBlock) (hat : tv'.ownBlock = tv.ownBlock ∨ tv'.ownBlock = some (W.heap.size + 1)) : BtW w W' gb c tv' qv ts' xs :=
  ⟨h.below.grown hg h.below.size (fun k hk => (h.tree.lt k hk).1), (hg.block _ (lt_get h.box) (fun e => h.tg e.symm)).trans h.box, ho, h.queue.kept hg (fun e => h.tq e.symm), by
    obtain ⟨g, e, _, hlt⟩ := h.queue.lt
    rcases hat with h1 | h1
    · rw [h1]; exact h.tq
    · rw [h1, e]; intro e2; injection e2; omega, by
    have := lt_get h.box
    rcases hat with h1 | h1
    · rw [h1]; exact h.tg
    · rw [h1]; intro e2; injection e2; omega, h.qg⟩
theorem BtW.queue_ {w W W' : World} {gb : Nat} {c : Array Value} {tv qv qv' : Value} {ts xs xs' : List Int} (h : BtW w W gb c tv qv ts xs) (ho : OwnsH W' w.heap.size qv' xs') (hg : W.grownBy W' qv.ownBlock) (hat : qv'.ownBlock = qv.ownBlock ∨ ∃ k, qv'.ownBlock = some k ∧ W.heap.size < k) : BtW w W' gb c tv qv' ts xs' :=
  ⟨h.below.grown hg h.below.size (fun k hk => by obtain ⟨g, e, hb, _⟩ := h.queue.lt; rw [e] at hk; cases hk; exact hb), (hg.block _ (lt_get h.box) (fun e => h.qg e.symm)).trans h.box, h.tree.kept hg (.inr h.tq), ho, by
    rcases hat with h1 | ⟨k, h1, hk⟩
    · rw [h1]; exact h.tq
    · rw [h1]; intro e
      have := (h.tree.lt k e).2
      omega, h.tg, by
    have := lt_get h.box
    rcases hat with h1 | ⟨k, h1, hk⟩
    · rw [h1]; exact h.qg
    · rw [h1]; intro e2; injection e2; omega⟩

/-- What is left at place p, and at those behind it that are known. -/
structure QN (fs : List Int) (V p : Nat) (xs : List Int) : Prop where
  len : xs.length = p
  is : ∀ i, i < p → ∃ L : Nat, xs[i]?.getD 0 = (L : Int) ∧ IsL V (node fs V (p + i)).1 (node fs V (p + i)).2 L
theorem QN.start {fs : List Int} {V : Nat} (hV : V ≤ 6) : QN fs V 1 [(allL V : Int)] := ⟨rfl, fun i hi => by
  obtain rfl : i = 0 := by omega
  refine ⟨allL V, rfl, ?_⟩
  rw [show 1 + 0 = 1 from rfl, node_one]
  exact allL_is hV⟩
theorem QN.head {fs : List Int} {V p : Nat} {xs : List Int} (h : QN fs V p xs) (hp : 1 ≤ p) : ∃ (L : Nat) (ys : List Int), xs = (L : Int) :: ys ∧ IsL V (node fs V p).1 (node fs V p).2 L := by
  obtain ⟨L, h1, h2⟩ := h.is 0 (by omega)
  have hl := h.len
  cases xs with
  | nil => simp at hl; omega
  | cons x ys =>
    simp at h1
    exact ⟨L, ys, by rw [h1], h2⟩
theorem QN.next {fs : List Int} {V p : Nat} {L : Nat} {ys : List Int} (h : QN fs V p ((L : Int) :: ys)) (hp : 1 ≤ p) (hq : qAt fs V p < 6) (hL : IsL V (node fs V p).1 (node fs V p).2 L) : QN fs V (p + 1) (ys ++ [(andN L (wN (qAt fs V p)) : Int), ((L &&& wN (qAt fs V p) : Nat) : Int)]) := by
  have hl := h.len
  simp at hl
  refine ⟨by simp; omega, fun i hi => ?_⟩
  by_cases h1 : i < ys.length
  · obtain ⟨L', e1, e2⟩ := h.is (i + 1) (by omega)
    refine ⟨L', ?_, by rw [show p + 1 + i = p + (i + 1) by omega]; exact e2⟩
    rw [List.getElem?_append_left h1, ← e1]
    simp
  · by_cases h2 : i = ys.length
    · refine ⟨andN L (wN (qAt fs V p)), by rw [List.getElem?_append_right (by omega), h2]; simp, ?_⟩
      rw [show p + 1 + i = 2 * p by omega, node_no fs V hp]
      exact hL.no hq
    · obtain rfl : i = ys.length + 1 := by omega
      refine ⟨L &&& wN (qAt fs V p), by rw [List.getElem?_append_right (by omega)]; simp, ?_⟩
      rw [show p + 1 + (ys.length + 1) = 2 * p + 1 by omega, node_yes fs V hp]
      exact hL.yes hq

theorem two_alloc {W : World} {b : Nat} {x y : Value} {t : Nat} (h : W.heap[b]? = some (.cells #[x, y] t (0, 0))) : (∀ o, (W.alloc o).cell? ⟨b, 0, none⟩ = some x) ∧ (∀ o, (W.alloc o).cell? ⟨b, 1, none⟩ = some y) ∧ (∀ o, (W.alloc o).frozen? ⟨b, 0, none⟩ = false) ∧ (∀ o, (W.alloc o).frozen? ⟨b, 1, none⟩ = false) := by
  have hk : ∀ o, (W.alloc o).heap[b]? = some (.cells #[x, y] t (0, 0)) := fun o => (Below.heap_alloc _ _ _ (lt_get h)).trans h
  exact ⟨fun o => (two_of (hk o)).1, fun o => (two_of (hk o)).2.1, fun o => (two_of (hk o)).2.2.1, fun o => (two_of (hk o)).2.2.2⟩

theorem heap_al {W : World} {b : Nat} {k : Obj} (h : W.heap[b]? = some k) (o : Obj) : (W.alloc o).heap[b]? = some k := (Below.heap_alloc _ _ _ (lt_get h)).trans h
theorem heap_st {W : World} {b gb j : Nat} {k : Obj} (hne : gb ≠ b) (h : W.heap[b]? = some k) (u : Value) : (W.setCell ⟨gb, j, none⟩ u).heap[b]? = some k := by
  simp only [World.setCell, Array.getElem?_modify]
  rw [if_neg hne]
  exact h
theorem two_c {W : World} {b : Nat} {x y : Value} {t : Nat} (h : W.heap[b]? = some (.cells #[x, y] t (0, 0))) : W.cell? ⟨b, 0, none⟩ = some x ∧ W.cell? ⟨b, 1, none⟩ = some y := ⟨(two_of h).1, (two_of h).2.1⟩

theorem btw_new {w W : World} {gb qb : Nat} {c : Array Value} {l : Int} (hB : Below w.heap.size w W) (hg : W.heap[gb]? = some (.cells c 58 (0, 0))) (hq : W.heap[qb]? = some (.cells #[.int .u64 l] 56 (0, 0))) (hb : w.heap.size ≤ qb) (hne : qb ≠ gb) : BtW w W gb c (.slice none 0 0) (.slice (some ⟨qb, 0, none⟩) 1 1) [] [l] :=
  ⟨hB, hg, World.ownsRow_nil _ _ _ _, ⟨qb, 0, 1, #[.int .u64 l], rfl, hb, hq, by simp, by simp, fun i hi => by
    obtain rfl : i = 0 := by simpa using hi
    rfl⟩, by simp [Value.ownBlock], by simp [Value.ownBlock], by simpa [Value.ownBlock] using hne⟩
theorem size_st (W : World) (a : Addr) (v : Value) : (W.setCell a v).heap.size = W.heap.size := by simp [World.setCell]
theorem btw_t1 {w w3 : World} {x y : Value} {l : Int} (h : Below w.heap.size w w3) : BtW w ((w3.alloc (.cells #[x, y] 58)).alloc (.cells #[.int .u64 l] 56)) w3.heap.size #[x, y] (.slice none 0 0) (.slice (some ⟨w3.heap.size + 1, 0, none⟩) 1 1) [] [l] :=
  btw_new ((h.alloc h.size _).alloc (Nat.le_trans h.size (by simp)) _) (heap_al (heap_alloc_new w3 _) _) (new2 w3 _ _) (by have := h.size; omega) (by omega)
theorem btw_t2 {w w3 : World} {x y : Value} {l : Int} (h : Below w.heap.size w w3) : BtW w ((w3.alloc (.cells #[.int .u64 l] 56)).alloc (.cells #[x, y] 58)) (w3.heap.size + 1) #[x, y] (.slice none 0 0) (.slice (some ⟨w3.heap.size, 0, none⟩) 1 1) [] [l] :=
  btw_new ((h.alloc h.size _).alloc (Nat.le_trans h.size (by simp)) _) (new2 w3 _ _) (heap_al (heap_alloc_new w3 _) _) h.size (by omega)
theorem btw_t3 {w w3 : World} {gb : Nat} {x y u v : Value} {l : Int} (h : Below w.heap.size w w3) (hg : w3.heap[gb]? = some (.cells #[x, y] 58 (0, 0))) (hb : w.heap.size ≤ gb) : BtW w (((w3.alloc (.cells #[.int .u64 l] 56)).setCell ⟨gb, 0, none⟩ u).setCell ⟨gb, 1, none⟩ v) gb #[u, v] (.slice none 0 0) (.slice (some ⟨w3.heap.size, 0, none⟩) 1 1) [] [l] := by
  have hl := lt_get hg
  exact btw_new (((h.alloc h.size _).setCell hb _).setCell hb _) (two_set (heap_al hg _) u v) (heap_st (by omega) (heap_st (by omega) (heap_alloc_new w3 _) _) _) h.size (by omega)
theorem btw_t4 {w w3 : World} {gb : Nat} {x y u v : Value} {l : Int} (h : Below w.heap.size w w3) (hg : w3.heap[gb]? = some (.cells #[x, y] 58 (0, 0))) (hb : w.heap.size ≤ gb) : BtW w (((w3.setCell ⟨gb, 0, none⟩ u).setCell ⟨gb, 1, none⟩ v).alloc (.cells #[.int .u64 l] 56)) gb #[u, v] (.slice none 0 0) (.slice (some ⟨w3.heap.size, 0, none⟩) 1 1) [] [l] := by
  have hl := lt_get hg
  have hn := heap_alloc_new ((w3.setCell ⟨gb, 0, none⟩ u).setCell ⟨gb, 1, none⟩ v) (.cells #[.int .u64 l] 56)
  rw [size_st, size_st] at hn
  exact btw_new (((h.setCell hb _).setCell hb _).alloc (by rw [size_st, size_st]; exact h.size) _) (heap_al (two_set hg u v) _) hn h.size (by omega)

theorem OwnsH.tail {W : World} {base g off m k cap : Nat} {x : Int} {ys : List Int} (h : OwnsH W base (.slice (some ⟨g, off, none⟩) m cap) (x :: ys)) (hk : ys.length = k) : (cap ≠ 1 → OwnsH W base (.slice (some ⟨g, off + 1, none⟩) k (cap - 1)) ys) ∧ (cap = 1 → OwnsH W base (.slice (some ⟨g, off, none⟩) k 0) ys) := by
  subst hk
  obtain ⟨g', off', cap', e, _, _, h1, h2⟩ := h.pop
  simp only [Value.slice.injEq, Option.some.injEq, Addr.mk.injEq, and_true] at e
  obtain ⟨⟨rfl, rfl⟩, _, rfl⟩ := e
  exact ⟨h1, h2⟩

/-- What BestTree answers. -/
noncomputable def btR (V : Int) (fs : List Int) : List Int × Int := if isCB V fs then (bestL fs V.toNat (2 ^ V.toNat - 1), 0) else ([], 1)
theorem btR_len (V : Int) (fs : List Int) (_h : fs.length ≤ 1048576) : (btR V fs).1.length ≤ 1048576 := by
  unfold btR
  cases hc : isCB V fs
  · simp
  · have h := isCB_iff.1 hc
    have h64 : 2 ^ V.toNat ≤ 2 ^ 6 := Nat.pow_le_pow_right (by decide) (by have := h.hi; omega)
    simp only [if_true, bestL_len]
    omega

set_option maxRecDepth 100000 in
set_option maxHeartbeats 4000000 in
theorem implBestTree (V : Int) (a0 : Option Addr) (cap : Nat) (fs : List Int) (w : World) (hx : SlI w w.heap.size a0 fs) (hl : fs.length ≤ 1048576) (hW : HidW w) :
    Calls Tryd.prog 40 #[.agg #[.int .i64 V, .slice a0 fs.length cap]] w fun e w' => ∃ v, e = .returned (.tuple #[v, .int .i64 (btR V fs).2]) ∧ Res w w' v (btR V fs).1 := by
  obtain ⟨W0, hW0⟩ : ∃ W0, W0 = w.alloc (.cells #[.int .i64 V, .slice a0 fs.length cap] 28) := ⟨_, rfl⟩
  have hB0 : Below w.heap.size w W0 := by rw [hW0]; exact (Below.refl _ w).alloc (Nat.le_refl _) _
  have Hk : Hid (W0.heap[w.heap.size]? = some (.cells #[.int .i64 V, .slice a0 fs.length cap] 28 (0, 0))) := hid (by rw [hW0]; exact heap_alloc_new _ _)
  have Hx := hid hx
  have HW := hid hW
  have HB0 := hid hB0
  have HI := hid (implIsComplex V a0 cap fs W0 (hx.later hB0 hB0.size) hl)
  rw [hW0] at HI
  clear hx hB0 hW
  cases hc : isCB V fs
  · have HR : Hid (btR V fs = ([], 1)) := hid (by unfold btR; rw [hc]; rfl)
    rw [hc] at HI
    clear hc
    go_enter Tryd.func40, Tryd.ntmps40
    go_wp2_with fail
    refine HI.out.mono ?_
    rintro e w1 ⟨rfl, hB1⟩
    rw [← hW0] at hB1
    go_wp2_with fail
    go_ret2
    rw [HR.out]
    exact ⟨_, rfl, res_nil _ _ (HB0.out.trans (hB1.mono HB0.out.size))⟩
  · have hC := isCB_iff.1 hc
    have hlo := hC.lo
    have hhi := hC.hi
    have HC := hid hC
    have HR : Hid (btR V fs = (bestL fs V.toNat (2 ^ V.toNat - 1), 0)) := hid (by unfold btR; rw [hc]; rfl)
    rw [hc] at HI
    obtain ⟨n, rfl⟩ : ∃ n : Nat, V = (n : Int) := ⟨V.toNat, by omega⟩
    rw [Int.toNat_natCast] at HR
    have h64 : 2 ^ n ≤ 2 ^ 6 := Nat.pow_le_pow_right (by decide) (by omega)
    have hp1 : 1 ≤ 2 ^ n := Nat.one_le_two_pow
    have hav : allV (n : Int) = ((2 ^ n - 1 : Nat) : Int) := by
      have e : ((2 ^ n : Nat) : Int) = (2 : Int) ^ n := by simp
      have h : allV (n : Int) = (2 : Int) ^ n - 1 := by unfold allV; simp
      omega
    have HAV := hid (fun W => av_any (n : Int) W (by omega) (by omega))
    rw [hav] at HAV
    have HP := hid (fun p (h1 : 1 ≤ p) (h2 : p < 2 ^ n) => place_st fs (show n ≤ 6 by omega) h1 h2)
    have HQ := hid (fun p (h1 : 1 ≤ p) (h2 : p < 2 ^ n) => qAt_lt fs (show n ≤ 6 by omega) h1 h2)
    have hn6 : n ≤ 6 := by omega
    obtain ⟨P, hP⟩ : ∃ P, P = 2 ^ n := ⟨_, rfl⟩
    rw [← hP] at h64 hp1 HAV HR HP HQ
    clear hc hC hav hP
    go_enter Tryd.func40, Tryd.ntmps40
    go_wp2_with fail
    refine HI.out.mono ?_
    rintro e w1 ⟨rfl, hB1⟩
    rw [← hW0] at hB1
    have Hk1 := hid ((hB1.block _ (lt_get Hk.out)).trans Hk.out)
    obtain ⟨k0, k1, _, _⟩ := two_of Hk1.out
    have HB1 := hid (HB0.out.trans (hB1.mono HB0.out.size))
    have HDr : Hid (Below w.heap.size w w1.drew) := hid (HB1.out.trans ⟨rfl, rfl, rfl, Nat.le_refl _, fun _ _ => rfl⟩)
    have hb2 : Below w1.heap.size w1 (w1.alloc (.cells #[.int .i64 0, .int .u64 0] 58)).drew := ((Below.refl _ w1).alloc (Nat.le_refl _) _).trans ⟨rfl, rfl, rfl, Nat.le_refl _, fun _ _ => rfl⟩
    have HDa : Hid (Below w.heap.size w (w1.alloc (.cells #[.int .i64 0, .int .u64 0] 58)).drew) := hid (HB1.out.trans (hb2.mono HB1.out.size))
    have Hka : Hid ((w1.alloc (.cells #[.int .i64 0, .int .u64 0] 58)).drew.heap[w.heap.size]? = some (.cells #[.int .i64 (n : Int), .slice a0 fs.length cap] 28 (0, 0))) := hid ((hb2.block _ (lt_get Hk1.out)).trans Hk1.out)
    have Hga : Hid ((w1.alloc (.cells #[.int .i64 0, .int .u64 0] 58)).drew.heap[w1.heap.size]? = some (.cells #[.int .i64 0, .int .u64 0] 58 (0, 0))) := hid (heap_alloc_new w1 _)
    have HG := hid (fun W (h : Below w.heap.size w W) => game_any (n : Int) a0 cap fs W (Hx.out.later h h.size) hl HC.out.range63)
    have HA := hid (fun W => allH_any n W (by omega) hn6)
    have hgl := (gameC_is HC.out.range63).1
    obtain ⟨c, hcc⟩ : ∃ c, c = gameC fs fs.length := ⟨_, rfl⟩
    obtain ⟨l, hll⟩ : ∃ l, l = allL n := ⟨_, rfl⟩
    rw [← hcc] at HG hgl
    rw [← hll] at HA
    have Hcc := hid hcc
    have Hll := hid hll
    clear hB1 hW0 hcc hll hb2
    go_wp2_with fail
    have Hne : Hid (w1.heap.size ≠ w.heap.size) := hid (by have := lt_get Hk1.out; omega)
    go_cut [5, 6] from 14 to 19 (fun p q wx => ∃ gb : Nat, p = .pointer (some ⟨gb, 0, none⟩) ∧ BtW w wx gb #[.int .i64 (n : Int), .int .u64 (c : Int)] (.slice none 0 0) q [] [(l : Int)] ∧ wx.cell? ⟨w.heap.size, 0, none⟩ = some (.int .i64 (n : Int)))
    case first =>
      have Hkr : Hid (w1.drew.heap[w.heap.size]? = some (.cells #[.int .i64 (n : Int), .slice a0 fs.length cap] 28 (0, 0))) := hid Hk1.out
      clear HP HQ HR HC HAV HW Hx HI Hcc Hll h64 hp1 hlo hhi hn6
      go_region_held3 (fun w' => w'.cell? ⟨w.heap.size, 0, none⟩ = some (.int .i64 (n : Int)) ∧ w'.cell? ⟨w.heap.size, 1, none⟩ = some (.slice a0 fs.length cap)) (first | exact (two_c (by repeat (first | with_reducible_and_instances exact Hk3.out | with_reducible_and_instances exact Hka.out | with_reducible_and_instances exact Hkr.out | with_reducible refine heap_al ?_ _ | with_reducible refine heap_st (by first | exact Hne.out | exact Hn3.out | exact Hn4.out) ?_ _))) | exact (two_c (by repeat (first | with_reducible_and_instances exact Hk3.out | with_reducible_and_instances exact Hka.out | with_reducible_and_instances exact Hkr.out | with_reducible refine heap_al ?_ _ | with_reducible refine heap_st (by first | exact Hne.out | exact Hn3.out | exact Hn4.out) ?_ _))).1 | exact (two_c (by repeat (first | with_reducible_and_instances exact Hk3.out | with_reducible_and_instances exact Hka.out | with_reducible_and_instances exact Hkr.out | with_reducible refine heap_al ?_ _ | with_reducible refine heap_st (by first | exact Hne.out | exact Hn3.out | exact Hn4.out) ?_ _))).2 | fail) (first
        | (go_at_call 52; refine (HG.out _ (by with_reducible_and_instances exact HDa.out)).mono ?_; rintro e w3 ⟨rfl, hd⟩; have HB3 := hid (HDa.out.trans (hd.mono HDa.out.size)); have Hk3 := hid ((hd.block _ (lt_get Hka.out)).trans Hka.out); have Hg3 := hid ((hd.block _ (lt_get Hga.out)).trans Hga.out); obtain ⟨n30, n31, _, _⟩ := two_of Hk3.out; clear hd; have g3 := two_alloc Hg3.out; obtain ⟨g30, g31, f30, f31⟩ := g3; have g4 := two_of Hg3.out; obtain ⟨g40, g41, f40, f41⟩ := g4)
        | (go_at_call 52; refine (HG.out _ (by with_reducible_and_instances exact HDr.out)).mono ?_; rintro e w3 ⟨rfl, hd⟩; have HB3 := hid (HDr.out.trans (hd.mono HDr.out.size)); have Hk3 := hid ((hd.block _ (lt_get Hk1.out)).trans Hk1.out); obtain ⟨n30, n31, _, _⟩ := two_of Hk3.out; clear hd; have Hn3 := hid (show w3.heap.size ≠ w.heap.size by have := lt_get Hk3.out; omega); have Hn4 := hid (show w3.heap.size + 1 ≠ w.heap.size by have := lt_get Hk3.out; omega); have b3 := two_alloc (heap_alloc_new w3 (.cells #[.int .i64 0, .int .u64 0] 58)); have b4 := two_of (heap_alloc_new w3 (.cells #[.int .i64 0, .int .u64 0] 58)); have b5 := fun o => two_of (new2 w3 o (.cells #[.int .i64 0, .int .u64 0] 58)); obtain ⟨b30, b31, b32, b33⟩ := b3; obtain ⟨b40, b41, b42, b43⟩ := b4; have b50 := fun o => (b5 o).1; have b51 := fun o => (b5 o).2.1; have b52 := fun o => (b5 o).2.2.1; have b53 := fun o => (b5 o).2.2.2; clear b5)
        | (go_at_call 54; refine (HA.out _).mono ?_; rintro e w5 ⟨rfl, rfl⟩)
        | fail)
      all_goals
        go_wp2_with fail
        go_meet
        case rel =>
          first
            | exact ⟨_, rfl, btw_t1 HB3.out, (two_c (by repeat (first | with_reducible_and_instances exact Hk3.out | with_reducible refine heap_al ?_ _ | with_reducible refine heap_st (by first | exact Hne.out | exact Hn3.out | exact Hn4.out) ?_ _))).1⟩
            | exact ⟨_, rfl, btw_t2 HB3.out, (two_c (by repeat (first | with_reducible_and_instances exact Hk3.out | with_reducible refine heap_al ?_ _ | with_reducible refine heap_st (by first | exact Hne.out | exact Hn3.out | exact Hn4.out) ?_ _))).1⟩
            | exact ⟨_, rfl, btw_t3 HB3.out Hg3.out HB1.out.size, (two_c (by repeat (first | with_reducible_and_instances exact Hk3.out | with_reducible refine heap_al ?_ _ | with_reducible refine heap_st (by first | exact Hne.out | exact Hn3.out | exact Hn4.out) ?_ _))).1⟩
            | exact ⟨_, rfl, btw_t4 HB3.out Hg3.out HB1.out.size, (two_c (by repeat (first | with_reducible_and_instances exact Hk3.out | with_reducible refine heap_al ?_ _ | with_reducible refine heap_st (by first | exact Hne.out | exact Hn3.out | exact Hn4.out) ?_ _))).1⟩
    case rest =>
      obtain ⟨gb, rfl, hbt, z0⟩ := hcut
      have HBt := hid hbt
      clear hbt
      go_wp2_with fail
      refine (HAV.out _).mono ?_
      rintro e w4 ⟨rfl, rfl⟩
      go_wp2_with fail
      clear z0
      obtain ⟨cb, hcb⟩ : ∃ cb, cb = #[Value.int .i64 (n : Int), .int .u64 (c : Int)] := ⟨_, rfl⟩
      go_loopw [4, 6, 23] (fun tv qv iv wx => ∃ (k : Nat) (t q : Value) (xs : List Int), k + 1 ≤ P ∧ tv = t ∧ qv = q ∧ iv = .int .i64 (k : Int) ∧ Hid (QN fs n (k + 1) xs) ∧ Hid (BtW w wx gb #[Value.int .i64 (n : Int), .int .u64 (c : Int)] t q (bestL fs n k) xs)) (fun _ _ iv _ => P - (RowKit.intOf iv).toNat)
      case atStart => exact ⟨0, _, _, [(l : Int)], by omega, rfl, rfl, rfl, hid (by rw [Hll.out]; exact QN.start (by omega)), HBt⟩
      case round =>
        clear HBt
        obtain ⟨k, t, q, xs, hk, rfl, rfl, rfl, HQn, HB⟩ := hrel
        by_cases hlt : k + 1 < P
        · obtain ⟨L, ys, rfl, hL⟩ := HQn.out.head (by omega)
          have HL := hid hL
          obtain ⟨m, hst, hqe⟩ := HP.out (k + 1) (by omega) hlt
          have hqv := HQ.out (k + 1) (by omega) hlt
          have hq6 : qAt fs n (k + 1) < 6 := by omega
          have hsu := bestL_succ fs n k
          obtain ⟨g, off, cp, rfl, hcp, hcell, _, _⟩ := HB.out.queue.pop
          have hyl : ys.length = k := by have := HQn.out.len; simp at this; omega
          rw [hyl] at HB hcp ⊢
          have Hyl := hid hyl
          clear hyl
          obtain ⟨g0, g1, _, _⟩ := two_of HB.out.box
          have Hr := hid (fun d os => HB.out.more (below_regrown wr d os))
          have C3 := hid (fun d os => Calls.regrown_of (best_any fs n c (by rw [Hcc.out]; exact gameC_is HC.out.range63) m (grow (redrawn wr d) os) (HW.out.later (Hr.out d os).below (Nat.le_refl _)) _ _ L (grow (redrawn wr d) os) hst hL (Below.refl _ _)))
          have HS := hid (fun W (h : Below w.heap.size w W) => split_any L (qAt fs n (k + 1)) W hL.1 hq6 (HW.out.later h (Nat.le_refl _)))
          rw [← hqe] at C3
          have HQ2 := hid (HQn.out.next (by omega) hq6 hL)
          obtain ⟨lq, hlq⟩ : ∃ l, l = least fs n (m + 1) (node fs n (k + 1)).1 (node fs n (k + 1)).2 := ⟨_, rfl⟩
          rw [← hlq] at C3
          obtain ⟨qa, hqa⟩ : ∃ q, q = qAt fs n (k + 1) := ⟨_, rfl⟩
          obtain ⟨x1, hx1⟩ : ∃ x, x = andN L (wN qa) := ⟨_, rfl⟩
          obtain ⟨x2, hx2⟩ : ∃ x, x = L &&& wN qa := ⟨_, rfl⟩
          rw [← hqa] at C3 HS HQ2 hsu
          rw [← hx1, ← hx2] at HS HQ2
          have Hsu := hid hsu
          have r0 := cell_regrown g0
          have r1 := cell_regrown g1
          have r2 := cell_regrown hcell
          have hc1 : (k : Int) < ((P - 1 : Nat) : Int) := by omega
          have hi0 : (0 : Int) < (k : Int) + 1 := by omega
          have hi1 : (1 : Int) ≤ (k : Int) + 1 := by omega
          clear g0 g1 hcell hsu hlq hqe hqa hx1 hx2 hL hst hqv hq6
          go_wp2_with fail
          refine wp_region_quiet_below (by kernel_rfl) (by kernel_rfl) ?_
          iterate 4 (with_reducible refine wpQuiet_step (fun K hK => ?_); have HK := hid hK; clear hK; go_simp; (first | with_reducible refine HK.out _ ?_ | (rw [if_neg (by decide)]; with_reducible refine HK.out _ ?_)); clear HK K)
          (with_reducible refine wpQuiet_step (fun K hK => ?_); have HK := hid hK; clear hK; go_simp; apply Exists.intro; with_reducible refine ⟨fun _ => ?_, HK.out _ ?_⟩; exact C3.out _ _; clear HK K)
          iterate 5 (with_reducible refine wpQuiet_step (fun K hK => ?_); have HK := hid hK; clear hK; go_simp; (first | with_reducible refine HK.out _ ?_ | (rw [if_neg (by decide)]; with_reducible refine HK.out _ ?_)); clear HK K)
          with_reducible refine wpQuiet_nil ?_
          intro _ hw'
          obtain ⟨⟨dq, osq⟩, hw''⟩ := hw'
          subst hw''
          have HB1 := hid (Hr.out dq osq)
          have q2 := r2 dq osq
          obtain ⟨W1, hW1⟩ : ∃ W1, W1 = grow (redrawn wr dq) osq := ⟨_, rfl⟩
          have HB1 : Hid (BtW w W1 gb #[Value.int .i64 (n : Int), .int .u64 (c : Int)] _ _ _ _) := hid (by rw [hW1]; exact HB1.out)
          rw [← hW1] at q2 ⊢
          clear hW1 r0 r1 r2 C3 Hr
          go_wp2_with fail
          refine (HS.out W1 HB1.out.below).mono ?_
          rintro e w2 ⟨rfl, hB2⟩
          have HB2 := hid (HB1.out.more hB2)
          clear hB2 q2
          have hs2 := HB2.out.below.size
          have htl : (bestL fs n k).length ≤ 1099511627776 := by rw [bestL_len]; omega
          have hyl2 : ys.length ≤ 1048576 := by rw [Hyl.out]; omega
          by_cases hc : cp = 1
          · subst hc
            have Hk0 : Hid (k = 0) := hid (by omega)
            go_wp2_with (first
              | (at_builtin; refine append_int_w rfl rfl HB2.out.tree hs2 htl rfl rfl ?_; intro v' w4 hown4 hgrow4 hat4 hB4; have HB4 := hid (HB2.out.tree_ hown4 hgrow4 hat4); have HT4 := hid (by have h := (HB4.out.queue.tail Hyl.out).2 rfl; rw [Hk0.out] at h; exact h); have hs4 := HB4.out.below.size; clear hown4 hgrow4 hat4 hB4)
              | (at_builtin; refine append_h rfl rfl HT4.out hs4 hyl2 rfl rfl ?_; intro v5 w5 hq5 hg5 hat5; have HB5 := hid (HB4.out.queue_ hq5 hg5 hat5); clear hq5 hg5 hat5)
              | fail)
            go_roundw
            case rel => exact ⟨k + 1, v', v5, ys ++ [(x1 : Int), (x2 : Int)], by omega, rfl, rfl, by go_num, HQ2, hid (by rw [Hsu.out]; exact HB5.out)⟩
            case measure => simp [RowKit.intOf]; omega
          · go_wp2_with (first
              | (at_builtin; refine append_int_w rfl rfl HB2.out.tree hs2 htl rfl rfl ?_; intro v' w4 hown4 hgrow4 hat4 hB4; have HB4 := hid (HB2.out.tree_ hown4 hgrow4 hat4); have HT4 := hid ((HB4.out.queue.tail Hyl.out).1 hc); have hs4 := HB4.out.below.size; clear hown4 hgrow4 hat4 hB4)
              | (at_builtin; refine append_h rfl rfl HT4.out hs4 hyl2 rfl rfl ?_; intro v5 w5 hq5 hg5 hat5; have HB5 := hid (HB4.out.queue_ hq5 hg5 hat5); clear hq5 hg5 hat5)
              | fail)
            go_roundw
            case rel => exact ⟨k + 1, v', v5, ys ++ [(x1 : Int), (x2 : Int)], by omega, rfl, rfl, by go_num, HQ2, hid (by rw [Hsu.out]; exact HB5.out)⟩
            case measure => simp [RowKit.intOf]; omega
        · obtain rfl : P = k + 1 := by omega
          have hc1 : ¬ (k : Int) < ((k + 1 - 1 : Nat) : Int) := by omega
          go_wp2_with fail
          go_ret2
          rw [HR.out]
          refine ⟨_, rfl, ?_, HB.out.below⟩
          rw [show k + 1 - 1 = k from rfl]
          exact HB.out.tree

end Go.Proofs.YtgnahadlcihneaaDoor

/-! BestTree: the model's. -/
namespace Go.Proofs.YtgnahadlcihneaaDoor
open Go.RowKit Go.Sort

/-- The worlds of the model's BestTree: its table beside its box, and the tree behind both. -/
structure BtS (fs : List Int) (V g : Nat) (s : Value) (w W : World) (tv : Value) (ts : List Int) : Prop where
  tab : TabN (least fs V) V g s w W
  tree : W.ownsRow (g + 1) 2 1 tv ts.length (ts.map (Value.int .i64))
theorem BtS.ne {fs : List Int} {V g : Nat} {s : Value} {w W : World} {tv : Value} {ts : List Int} (h : BtS fs V g s w W tv ts) {k : Nat} (hk : k ≤ g) : tv.ownBlock ≠ some k := fun e => by
  have := (h.tree.lt k e).1
  omega
theorem BtS.step {fs : List Int} {V g : Nat} {s : Value} {w W W' : World} {tv : Value} {ts : List Int} (h : BtS fs V g s w W tv ts) (h' : Tab (least fs V) V g W W') : BtS fs V g s w W' tv ts :=
  ⟨h.tab.step h', h.tree.kept h'.keep (.inr (h.ne (Nat.le_refl _)))⟩
theorem BtS.more {fs : List Int} {V g : Nat} {s : Value} {w W W' : World} {tv : Value} {ts : List Int} (h : BtS fs V g s w W tv ts) (h' : Below W.heap.size W W') : BtS fs V g s w W' tv ts :=
  ⟨h.tab.more h', ownsRow_below h.tree h' (fun k hk => (h.tree.lt k hk).2)⟩
theorem BtS.drew {fs : List Int} {V g : Nat} {s : Value} {w W : World} {tv : Value} {ts : List Int} (h : BtS fs V g s w W tv ts) : BtS fs V g s w W.drew tv ts := h.more ⟨rfl, rfl, rfl, Nat.le_refl _, fun _ _ => rfl⟩
theorem BtS.grow_ {fs : List Int} {V g : Nat} {s : Value} {w W W' : World} {tv tv' : Value} {ts ts' : List Int} (h : BtS fs V g s w W tv ts) (ho : W'.ownsRow (g + 1) 2 1 tv' ts'.length (ts'.map (Value.int .i64))) (hg : W.grownBy W' tv.ownBlock) : BtS fs V g s w W' tv' ts' := by
  have hlt := h.tab.lt
  have hn := h.ne (Nat.le_refl g)
  have hn2 := h.ne (Nat.le_of_lt hlt)
  obtain ⟨T, h1, h2⟩ := h.tab.tab.tab
  exact ⟨⟨h.tab.below.grown hg h.tab.below.size (fun k hk => by have := (h.tree.lt k hk).1; omega), hlt, ⟨.refl _ _, T, h1.kept hg (.inr (by simpa [Value.ownBlock] using fun e => hn e.symm)), h2⟩, (hg.block _ (lt_get h.tab.box) (fun e => hn2 e.symm)).trans h.tab.box⟩, ho⟩
theorem BtS.c0 {fs : List Int} {V g : Nat} {s : Value} {w W : World} {tv : Value} {ts : List Int} (h : BtS fs V g s w W tv ts) : W.cell? ⟨w.heap.size, 0, none⟩ = some (.int .i64 (V : Int)) := h.tab.c0
theorem BtS.c1 {fs : List Int} {V g : Nat} {s : Value} {w W : World} {tv : Value} {ts : List Int} (h : BtS fs V g s w W tv ts) : W.cell? ⟨w.heap.size, 1, none⟩ = some s := h.tab.c1
theorem BtS.start {fs : List Int} {V g : Nat} {s : Value} {w W : World} (h : TabN (least fs V) V g s w W) : BtS fs V g s w (W.alloc (.cells #[] 2)) (.slice (some ⟨W.heap.size, 0, none⟩) 0 0) [] :=
  ⟨h.more ((Below.refl _ W).alloc (Nat.le_refl _) _), World.ownsRow_made (base := g + 1) (e := 2) (size := 1) W #[] 0 (by have := h.tab.lt; omega) (by simp [maxLen]) rfl⟩

set_option maxRecDepth 100000 in
set_option maxHeartbeats 4000000 in
theorem specBestTree (V : Int) (a0 : Option Addr) (cap : Nat) (fs : List Int) (w : World) (hx : SlI w w.heap.size a0 fs) (hl : fs.length ≤ 1048576) :
    Calls Tryd.prog 39 #[.agg #[.int .i64 V, .slice a0 fs.length cap]] w fun e w' => ∃ v, e = .returned (.tuple #[v, .int .i64 (btR V fs).2]) ∧ Res w w' v (btR V fs).1 := by
  obtain ⟨W0, hW0⟩ : ∃ W0, W0 = w.alloc (.cells #[.int .i64 V, .slice a0 fs.length cap] 28) := ⟨_, rfl⟩
  have hB0 : Below w.heap.size w W0 := by rw [hW0]; exact (Below.refl _ w).alloc (Nat.le_refl _) _
  have Hk : Hid (W0.heap[w.heap.size]? = some (.cells #[.int .i64 V, .slice a0 fs.length cap] 28 (0, 0))) := hid (by rw [hW0]; exact heap_alloc_new _ _)
  have Hx := hid hx
  have HB0 := hid hB0
  have HI := hid (is_all V a0 cap fs W0 (hx.later hB0 hB0.size) hl)
  rw [hW0] at HI
  clear hx hB0
  cases hc : isCB V fs
  · have HR : Hid (btR V fs = ([], 1)) := hid (by unfold btR; rw [hc]; rfl)
    rw [hc] at HI
    clear hc
    go_enter Tryd.func39, Tryd.ntmps39
    go_wp2_with fail
    refine HI.out.mono ?_
    rintro e w1 ⟨rfl, hB1⟩
    rw [← hW0] at hB1
    go_wp2_with fail
    go_ret2
    rw [HR.out]
    exact ⟨_, rfl, res_nil _ _ (HB0.out.trans (hB1.mono HB0.out.size))⟩
  · have hC := isCB_iff.1 hc
    have hlo := hC.lo
    have hhi := hC.hi
    have HR : Hid (btR V fs = (bestL fs V.toNat (2 ^ V.toNat - 1), 0)) := hid (by unfold btR; rw [hc]; rfl)
    rw [hc] at HI
    obtain ⟨n, rfl⟩ : ∃ n : Nat, V = (n : Int) := ⟨V.toNat, by omega⟩
    rw [Int.toNat_natCast] at HR
    have hn6 : n ≤ 6 := by omega
    have h64 : 2 ^ n ≤ 64 := show 2 ^ n ≤ 2 ^ 6 from Nat.pow_le_pow_right (by decide) hn6
    have hp1 : 1 ≤ 2 ^ n := Nat.one_le_two_pow
    have hsh : wrap64 (2 ^ n) = ((2 ^ n : Nat) : Int) := by
      rw [wrap64, show ((2 : Int) ^ n) = ((2 ^ n : Nat) : Int) by simp]
      generalize 2 ^ n = z at h64
      omega
    have HP := hid (fun p (h1 : 1 ≤ p) (h2 : p < 2 ^ n) => place_st fs hn6 h1 h2)
    have HQ := hid (fun p (h1 : 1 ≤ p) (h2 : p < 2 ^ n) => qAt_lt fs hn6 h1 h2)
    have HL := hid (fun g W (h : TabN (least fs n) n g (.slice a0 fs.length cap) w W) m a o (hs : St n m a o) => leastS_any n a0 cap fs g hl m a o W (h.sl Hx.out) hs h.tab)
    have HTa := hid (fun W (h : Below w.heap.size w W) hk => tableN_any (least fs n) n (.slice a0 fs.length cap) w W h hk)
    have hn0 : (0 : Int) ≤ (n : Int) := by omega
    obtain ⟨P, hP⟩ : ∃ P, P = 2 ^ n := ⟨_, rfl⟩
    rw [← hP] at h64 hp1 HR HP HQ hsh
    clear hc hC hP
    go_enter Tryd.func39, Tryd.ntmps39
    go_wp2_with fail
    refine HI.out.mono ?_
    rintro e w1 ⟨rfl, hB1⟩
    rw [← hW0] at hB1
    have HB1 := hid (HB0.out.trans (hB1.mono HB0.out.size))
    have Hk1 := hid ((hB1.block _ (lt_get Hk.out)).trans Hk.out)
    clear hB1 hW0
    go_wp2_with fail
    refine (HTa.out w1 HB1.out Hk1.out).mono ?_
    rintro e w2 ⟨g, rfl, hT⟩
    have HS0 := hid (BtS.start hT)
    clear hT
    go_wp2_with fail
    go_loopw [5, 6] (fun ov pv wx => ∃ (p : Nat) (tv : Value), 1 ≤ p ∧ p ≤ P ∧ ov = tv ∧ pv = .int .i64 (p : Int) ∧ Hid (BtS fs n g (.slice a0 fs.length cap) w wx tv (bestL fs n (p - 1)))) (fun _ pv _ => P - (RowKit.intOf pv).toNat)
    case atStart => exact ⟨1, _, Nat.le_refl _, hp1, rfl, rfl, HS0⟩
    case round =>
      clear HS0
      obtain ⟨p, tv, h1p, hpP, rfl, rfl, HS⟩ := hrel
      have b0 := HS.out.c0
      have b1 := HS.out.c1
      by_cases hlt : p < P
      · have hc1 : (p : Int) < (P : Int) := by omega
        obtain ⟨m, hst, hqe⟩ := HP.out p h1p hlt
        have Hst := hid hst
        have Hqe := hid hqe
        have halt := hst.alt
        have holt := hst.olt
        obtain ⟨_, av, cv, rfl, hsl⟩ := ownsRow_slI HS.out.tree
        have Hsl := hid hsl
        rw [bestL_len] at HS
        rw [bestL_len]
        clear hst hqe hsl
        go_wp2_with fail
        go_loopw [7, 8, 9] (fun wv ov qv wx => ∃ a o q : Nat, 1 ≤ q ∧ q ≤ p ∧ wv = .int .i64 (a : Int) ∧ ov = .int .i64 (o : Int) ∧ qv = .int .i64 (q : Int) ∧ Hid (WayIn fs n p q a o) ∧ wx = wr) (fun _ _ qv _ => (RowKit.intOf qv).toNat)
        case atStart => exact ⟨0, 0, p, h1p, Nat.le_refl _, rfl, rfl, rfl, hid (way_start fs n p), rfl⟩
        case round =>
          obtain ⟨a, o, q, h1q, hqp, rfl, rfl, rfl, HWy, rfl⟩ := hrel
          have hab := HWy.out.lt halt holt
          by_cases hq1 : 1 < q
          · obtain ⟨b, off, hb, rfl, hc⟩ : ∃ b off, b < wr.heap.size ∧ av = some ⟨b, off, none⟩ ∧ ∀ i, i < p - 1 → wr.cell? ⟨b, off + i, none⟩ = some (.int .i64 ((bestL fs n (p - 1))[i]?.getD 0)) := by
              rcases Hsl.out with h | ⟨b, off, h1, h2, h3⟩
              · have := congrArg List.length h
                rw [bestL_len] at this
                simp at this
                omega
              · rw [bestL_len] at h3
                exact ⟨b, off, h1, h2, h3⟩
            obtain ⟨h, hh⟩ : ∃ h, h = q / 2 := ⟨_, rfl⟩
            have hck := hc (h - 1) (by omega)
            rw [bestL_get fs (show h - 1 < p - 1 by omega), show h - 1 + 1 = h by omega] at hck
            have hxn := HQ.out h (by omega) (by omega)
            have hY := hid (fun h1 h2 => HWy.out.yes_ h1 h2)
            have hN := hid (fun h1 h2 => HWy.out.no_ h1 h2)
            rw [← hh] at hY hN
            obtain ⟨x, hx⟩ : ∃ x, x = qAt fs n h := ⟨_, rfl⟩
            rw [← hx] at hck hxn hY hN
            have h2x : 2 ^ x < 64 := Nat.lt_of_lt_of_le (two_lt (show x < 6 by omega)) (by decide)
            have hshx : wrap64 (2 ^ x) = ((2 ^ x : Nat) : Int) := by
              rw [wrap64, show ((2 : Int) ^ x) = ((2 ^ x : Nat) : Int) by simp]
              generalize 2 ^ x = z at h2x
              omega
            have ho1 := or_int6 hab.1 h2x
            have ho2 := or_int6 hab.2 h2x
            have hx0 : (0 : Int) ≤ (x : Int) := by omega
            have hx6 : x ≤ 6 := by omega
            have hx6i : (x : Int) ≤ 6 := by omega
            have hq2 : (q : Int) / 2 = (h : Int) := by omega
            have hw1 : wrap64 ((h : Int) - 1) = ((h - 1 : Nat) : Int) := by rw [wrap64]; omega
            have hw2 : IntKind.i64.wrap ((h : Int) - 1) = ((h - 1 : Nat) : Int) := by rw [IntKind.wrap_i64]; omega
            have hi0 : (0 : Int) ≤ ((h - 1 : Nat) : Int) := by omega
            have hi1 : ((h - 1 : Nat) : Int) < ((p - 1 : Nat) : Int) := by omega
            have hg1 : (1 : Int) < (q : Int) := by omega
            have Hh : Hid (1 ≤ h ∧ h ≤ p ∧ h < q) := hid (by omega)
            obtain ⟨z, hz⟩ : ∃ z, z = 2 ^ x := ⟨_, rfl⟩
            rw [← hz] at ho1 ho2 hshx hY hN
            clear hc hh hx hz h2x hxn
            by_cases hodd : q % 2 = 1
            · have hY2 := hid (hY.out hq1 hodd)
              have hm1 : (q : Int) % 2 = 1 := by omega
              clear hY hN hodd
              go_wp2_with fail
              go_roundw
              case rel => exact ⟨a ||| z, o, h, Hh.out.1, Hh.out.2.1, rfl, rfl, rfl, hY2, by trivial⟩
              case measure => have := Hh.out.2.2; simp [RowKit.intOf]; omega
            · have hN2 := hid (hN.out hq1 hodd)
              have hm1 : (q : Int) % 2 = 0 := by omega
              clear hY hN hodd
              go_wp2_with fail
              go_roundw
              case rel => exact ⟨a, o ||| z, h, Hh.out.1, Hh.out.2.1, rfl, rfl, rfl, hN2, by trivial⟩
              case measure => have := Hh.out.2.2; simp [RowKit.intOf]; omega
          · obtain rfl : q = 1 := by omega
            obtain ⟨ea, eo⟩ := HWy.out.end_
            rw [← ea, ← eo] at Hst Hqe
            have HFr := hid (best_first (fs := fs) Hst.out).free
            have HBe := hid (fun h => sel_best (fs := fs) Hst.out h)
            have HFi := hid (fun v h1 h2 => sel_first (fs := fs) (v := v) Hst.out h1 h2)
            rw [← Hqe.out] at HFr HBe HFi
            have hQn := HQ.out p h1p hlt
            have Hsu : Hid (bestL fs n p = bestL fs n (p - 1) ++ [(qAt fs n p : Int)]) := hid (by
              have := bestL_succ fs n (p - 1)
              rwa [show p - 1 + 1 = p by omega] at this)
            obtain ⟨Q, hQ⟩ : ∃ Q, Q = qAt fs n p := ⟨_, rfl⟩
            rw [← hQ] at HFr HBe HFi hQn Hsu
            have HLd := hid (HL.out g wr HS.out.tab (m + 1) a o Hst.out)
            have Hdl := hid (least_le (fs := fs) Hst.out)
            obtain ⟨D, hD⟩ : ∃ D, D = least fs n (m + 1) a o := ⟨_, rfl⟩
            rw [← hD] at HLd HBe HFi Hdl
            clear ea eo hQ hD
            go_wp2_with fail
            refine HLd.out.mono ?_
            rintro e w4 ⟨rfl, hT4⟩
            have HS4 := hid (HS.out.step hT4)
            clear hT4 b0 b1
            have b0 := HS4.out.c0
            have b1 := HS4.out.c1
            go_wp2_with fail
            clear b0 b1
            go_loopw [5, 12] (fun tv iv wx => ∃ j : Nat, j ≤ Q ∧ tv = .slice av (p - 1) cv ∧ iv = .int .i64 (j : Int) ∧ Hid (BtS fs n g (.slice a0 fs.length cap) w wx (.slice av (p - 1) cv) (bestL fs n (p - 1)))) (fun _ iv _ => n - (RowKit.intOf iv).toNat)
            case atStart => exact ⟨0, Nat.zero_le _, rfl, rfl, HS4⟩
            case round =>
              clear HS4
              obtain ⟨j, hj, rfl, rfl, HX⟩ := hrel
              have b0 := HX.out.c0
              have b1 := HX.out.c1
              have hj1 : (j : Int) < (n : Int) := by omega
              have hj0 : (0 : Int) ≤ (j : Int) := by omega
              have hj6 : j ≤ 6 := by omega
              have h2 : 2 ^ j < 64 := Nat.lt_of_lt_of_le (two_lt (show j < 6 by omega)) (by decide)
              have hsj : wrap64 (2 ^ j) = ((2 ^ j : Nat) : Int) := by
                rw [wrap64, show ((2 : Int) ^ j) = ((2 ^ j : Nat) : Int) by simp]
                generalize 2 ^ j = z at h2
                omega
              have hor := or_int6 hab.1 hab.2
              have hand := and_int6 Hst.out.olt2 h2
              have hfa := free_and (x := a ||| o) (v := j)
              have ho1 := or_int6 hab.1 h2
              have ho2 := or_int6 hab.2 h2
              cases hf : (a ||| o).testBit j
              · have HF2 := hid (fun h1 => HFi.out j h1 hf)
                obtain ⟨k', hk', s1, s2⟩ := Hst.out.step (show j < n by omega) hf
                obtain rfl : k' = m := by omega
                rw [hf] at hfa
                obtain ⟨z, hz⟩ : ∃ z, z = 2 ^ j := ⟨_, rfl⟩
                obtain ⟨y, hy⟩ : ∃ y, y = (a ||| o) &&& z := ⟨_, rfl⟩
                rw [← hz] at hsj hand hfa ho1 ho2
                rw [← hy] at hand hfa
                have hd : ((y : Int) == 0) = true := by simpa using hfa
                have hd3 : ((y : Int) != 0) = false := by simp at hd; simp [hd]
                clear hk' hfa hy h2
                by_cases h0 : k' = 0
                · subst h0
                  have hjQ : Q = j := by
                    apply Classical.byContradiction
                    intro hc
                    exact (HF2.out (by omega)).1 rfl
                  subst hjQ
                  have hcnt := Hst.out.cnt
                  have CO := hid (fun d os => Calls.regrown_of ((ones_any (a ||| o) (grow (redrawn wr d) os) Hst.out.olt2).mono fun _ _ ⟨he, hw⟩ => And.intro he (by rw [← hw]; exact Below.refl _ _)))
                  obtain ⟨on, hon⟩ : ∃ k, k = ones (a ||| o) := ⟨_, rfl⟩
                  rw [← hon] at CO hcnt
                  have hwn : IntKind.i64.wrap ((on : Int) + 1) = (n : Int) := by rw [IntKind.wrap_i64]; omega
                  have r0 := cell_regrown b0
                  have r1 := cell_regrown b1
                  clear s1 s2 hz hon hcnt hf hj
                  go_wp2_with fail
                  refine wp_region_quiet_below (by kernel_rfl) (by kernel_rfl) ?_
                  iterate 3 (with_reducible refine wpQuiet_step (fun K hK => ?_); have HK := hid hK; clear hK; go_simp; (first | with_reducible refine HK.out _ ?_ | (rw [if_neg (by decide)]; with_reducible refine HK.out _ ?_)); clear HK K)
                  (with_reducible refine wpQuiet_step (fun K hK => ?_); have HK := hid hK; clear hK; go_simp; apply Exists.intro; with_reducible refine ⟨fun _ => ?_, HK.out _ ?_⟩; exact CO.out _ _; clear HK K)
                  iterate 5 (with_reducible refine wpQuiet_step (fun K hK => ?_); have HK := hid hK; clear hK; go_simp; (first | with_reducible refine HK.out _ ?_ | (rw [if_neg (by decide)]; with_reducible refine HK.out _ ?_)); clear HK K)
                  iterate 17 (with_reducible refine wpQuiet_step (fun K hK => ?_); have HK := hid hK; clear hK; go_simp; (first | with_reducible refine HK.out _ ?_ | (rw [if_neg (by decide)]; with_reducible refine HK.out _ ?_)); clear HK K)
                  iterate 1 (with_reducible refine wpQuiet_step (fun K hK => ?_); have HK := hid hK; clear hK; go_simp; (first | with_reducible refine HK.out _ ?_ | (rw [if_neg (by decide)]; with_reducible refine HK.out _ ?_)); clear HK K)
                  with_reducible refine wpQuiet_nil ?_
                  intro _ hw'
                  obtain ⟨⟨dq, osq⟩, hw''⟩ := hw'
                  subst hw''
                  have HXq := hid (HX.out.more (below_regrown wr dq osq))
                  obtain ⟨W1, hW1⟩ : ∃ W1, W1 = grow (redrawn wr dq) osq := ⟨_, rfl⟩
                  have HXq : Hid (BtS fs n g (.slice a0 fs.length cap) w W1 (.slice av (p - 1) cv) (bestL fs n (p - 1))) := hid (by rw [hW1]; exact HXq.out)
                  rw [← hW1]
                  have hbase : g + 1 ≤ W1.heap.size := HXq.out.tab.tab.lt
                  have htl : (bestL fs n (p - 1)).length ≤ 1099511627776 := by rw [bestL_len]; omega
                  have htr := HXq.out.tree
                  clear b0 b1 r0 r1 CO hW1
                  go_wp2_with (at_builtin; refine append_int (base := g + 1) (xs := bestL fs n (p - 1)) rfl rfl htr hbase htl rfl rfl ?_; intro v' w6 hown6 hgrow6 hB6)
                  have HB6 := hid (HXq.out.grow_ hown6 hgrow6)
                  clear hown6 hgrow6 hB6 htr hbase htl
                  go_roundw
                  case rel => exact ⟨p + 1, v', by omega, by omega, rfl, by go_num, hid (by rw [show p + 1 - 1 = p from rfl, Hsu.out]; exact HB6.out)⟩
                  case measure => simp [RowKit.intOf]; omega
                · have HR1 := hid (fun W (h : BtS fs n g (.slice a0 fs.length cap) w W (.slice av (p - 1) cv) (bestL fs n (p - 1))) => (HL.out g W h.tab k' _ _ s1).mono fun _ _ ⟨he, h'⟩ => And.intro he (h.step h'))
                  have HR2 := hid (fun W (h : BtS fs n g (.slice a0 fs.length cap) w W (.slice av (p - 1) cv) (bestL fs n (p - 1))) => (HL.out g W h.tab k' _ _ s2).mono fun _ _ ⟨he, h'⟩ => And.intro he (h.step h'))
                  have hq1 := Nat.le_trans (least_le (fs := fs) s1) (show 2 ^ k' ≤ 2 ^ 6 from Nat.pow_le_pow_right (by decide) (by have := Hst.out.cnt; omega))
                  have hq2 := Nat.le_trans (least_le (fs := fs) s2) (show 2 ^ k' ≤ 2 ^ 6 from Nat.pow_le_pow_right (by decide) (by have := Hst.out.cnt; omega))
                  have hsum : sumB fs n k' a o j = least fs n k' (a ||| 2 ^ j) o + least fs n k' a (o ||| 2 ^ j) := rfl
                  obtain ⟨n1, hn1⟩ : ∃ x, x = least fs n k' (a ||| 2 ^ j) o := ⟨_, rfl⟩
                  obtain ⟨n2, hn2⟩ : ∃ x, x = least fs n k' a (o ||| 2 ^ j) := ⟨_, rfl⟩
                  rw [← hn1] at HR1 hq1 hsum
                  rw [← hn2] at HR2 hq2 hsum
                  rw [← hz] at HR1 HR2
                  have hcnt := Hst.out.cnt
                  have HO := hid (fun W => ones_any (a ||| o) W Hst.out.olt2)
                  obtain ⟨on, hon⟩ : ∃ k, k = ones (a ||| o) := ⟨_, rfl⟩
                  rw [← hon] at HO hcnt
                  obtain ⟨om, hom⟩ : ∃ k, k = on + 1 := ⟨_, rfl⟩
                  have hwn : IntKind.i64.wrap ((on : Int) + 1) = (om : Int) := by rw [IntKind.wrap_i64]; omega
                  have hne : ((om : Int) == (n : Int)) = false := by
                    rw [beq_eq_false_iff_ne]
                    omega
                  have HD := hid HX.out.drew
                  obtain ⟨sm, hsm⟩ : ∃ x, x = n1 + n2 := ⟨_, rfl⟩
                  have hws : IntKind.i64.wrap ((n1 : Int) + (n2 : Int)) = (sm : Int) := by rw [IntKind.wrap_i64]; omega
                  rw [← hsm] at hsum
                  have Hon := hid hon
                  clear s1 s2 hn1 hn2 hon hcnt hsm hz hf hom
                  by_cases hjQ : j = Q
                  · have hdue : ((sm : Int) == (D : Int)) = true := by
                      have := HBe.out h0
                      rw [← hjQ, hsum] at this
                      simp [this]
                    subst hjQ
                    clear hj hsum
                    go_wp2_with fail
                    go_region_held3 (fun w' => w'.cell? ⟨w.heap.size, 0, none⟩ = some (.int .i64 (n : Int)) ∧ w'.cell? ⟨w.heap.size, 1, none⟩ = some (.slice a0 fs.length cap)) (go_keep) (first
                      | (go_at_call 72; have hz := HD1.out; clear HD1; refine (HR2.out _ hz).mono ?_; rintro e w5 ⟨rfl, hd⟩; have n50 := hd.c0; have n51 := hd.c1; have HD2 := hid hd; clear hd hz)
                      | (go_at_call 72; refine (HR1.out _ HD.out).mono ?_; rintro e w4 ⟨rfl, hd⟩; have n40 := hd.c0; have n41 := hd.c1; have HD1 := hid hd; clear hd)
                      | (go_at_call 74; refine (HO.out _).mono ?_; rintro e w3 ⟨rfl, rfl⟩)
                      | fail)
                    have hbase : g + 1 ≤ w5.heap.size := HD2.out.tab.tab.lt
                    have htl : (bestL fs n (p - 1)).length ≤ 1099511627776 := by rw [bestL_len]; omega
                    have htr := HD2.out.tree
                    go_wp2_with (at_builtin; refine append_int (base := g + 1) (xs := bestL fs n (p - 1)) rfl rfl htr hbase htl rfl rfl ?_; intro v' w6 hown6 hgrow6 hB6)
                    have HB6 := hid (HD2.out.grow_ hown6 hgrow6)
                    clear hown6 hgrow6 hB6 htr hbase htl
                    go_roundw
                    case rel => exact ⟨p + 1, v', by omega, by omega, rfl, by go_num, hid (by rw [show p + 1 - 1 = p from rfl, Hsu.out]; exact HB6.out)⟩
                    case measure => simp [RowKit.intOf]; omega
                  · have hdue : ((sm : Int) == (D : Int)) = false := by
                      have := (HF2.out (by omega)).2
                      rw [hsum] at this
                      rw [beq_eq_false_iff_ne]
                      omega
                    have Hlt : Hid (j + 1 ≤ Q) := hid (by omega)
                    clear hj hsum hjQ
                    go_wp2_with fail
                    go_region_held3 (fun w' => w'.cell? ⟨w.heap.size, 0, none⟩ = some (.int .i64 (n : Int)) ∧ w'.cell? ⟨w.heap.size, 1, none⟩ = some (.slice a0 fs.length cap)) (go_keep) (first
                      | (go_at_call 72; have hz := HD1.out; clear HD1; refine (HR2.out _ hz).mono ?_; rintro e w5 ⟨rfl, hd⟩; have n50 := hd.c0; have n51 := hd.c1; have HD2 := hid hd; clear hd hz)
                      | (go_at_call 72; refine (HR1.out _ HD.out).mono ?_; rintro e w4 ⟨rfl, hd⟩; have n40 := hd.c0; have n41 := hd.c1; have HD1 := hid hd; clear hd)
                      | (go_at_call 74; refine (HO.out _).mono ?_; rintro e w3 ⟨rfl, rfl⟩)
                      | fail)
                    go_wp2_with fail
                    go_roundw
                    case rel => exact ⟨j + 1, Hlt.out, rfl, by go_num, HD2⟩
                    case measure => simp [RowKit.intOf]; omega
              · have hjQ : j < Q := by
                  apply Classical.byContradiction
                  intro hc
                  obtain rfl : j = Q := by omega
                  have := HFr.out
                  rw [hf] at this
                  exact absurd this (by decide)
                rw [hf] at hfa
                obtain ⟨z, hz⟩ : ∃ z, z = 2 ^ j := ⟨_, rfl⟩
                obtain ⟨y, hy⟩ : ∃ y, y = (a ||| o) &&& z := ⟨_, rfl⟩
                rw [← hz] at hsj hand hfa
                rw [← hy] at hand hfa
                have hd : ((y : Int) == 0) = false := by simpa using hfa
                clear hf hfa hz hy h2 ho1 ho2
                go_wp2_with fail
                go_roundw
                case rel => exact ⟨j + 1, by omega, rfl, by go_num, HX⟩
                case measure => simp [RowKit.intOf]; omega
      · obtain rfl : p = P := by omega
        have hc1 : ¬ (p : Int) < (p : Int) := by omega
        go_wp2_with fail
        go_ret2
        rw [HR.out]
        exact ⟨_, rfl, ownsRow_base HS.out.tree (by have := HS.out.tab.lt; omega), HS.out.tab.below⟩

end Go.Proofs.YtgnahadlcihneaaDoor

/-! The law on BestTree, walked. -/
namespace Go.Proofs.YtgnahadlcihneaaDoor
open Go.RowKit

set_option maxRecDepth 100000 in
set_option maxHeartbeats 8000000 in
theorem law_BestTree (V0 : Int) (a0 : Option Addr) (cap0 : Nat) (xs0 : List Int) (w : World) (hx0 : SlI w w.heap.size a0 xs0)  (hn0 : xs0.length ≤ 9223372036854775807)  (hW : HidW w) :
    Calls Tryd.prog 10 #[.agg #[.int .i64 V0, .slice a0 xs0.length cap0]] w fun e w' => e = .returned (.bool true) ∧ Below w.heap.size w w' := by
  have HG := hid hW
  clear hW
  have F0 : Book w w [(a0, xs0)] [] [] := ⟨Below.refl _ _, by simp; exact hx0, by simp, by simp⟩
  have F0 := F0.alloc (.cells #[.int .i64 V0, .slice a0 xs0.length cap0] 24)
  (try simp only [World.size_alloc] at F0)
  have B0 := hid F0
  clear F0 hx0
  obtain ⟨r0, hr0⟩ : ∃ r, r = szR 1048576 xs0.length := ⟨_, rfl⟩
  have Hr0 := hid hr0
  by_cases hb0 : 1048576 < xs0.length
  · have hm0 : r0 = -1 := by rw [hr0]; exact szR_big (by omega)
    clear hb0
    clear hr0
    go_enter Tryd.func10, Tryd.ntmps10
    go_wp2_with fail
    refine (szCx V0 a0 xs0.length cap0 1048576 _ (by omega) (by omega) hn0).mono ?_
    rintro e s0 ⟨rfl, hB⟩
    have zs0 := hB.size
    (try simp only [World.size_alloc] at zs0)
    have B0 := hid (B0.out.below hB)
    clear hB
    rw [← Hr0.out]
    go_wp2_with fail
    go_ret
    exact ⟨rfl, B0.out.from0⟩
  · have hv0 : r0 = 1048576 - xs0.length := by rw [hr0, szR_fit (by omega)]
    have hg0 : 0 ≤ r0 := by omega
    have hu0 : r0 ≤ 1048576 := by omega
    have hl0 : xs0.length ≤ 1048576 := by omega
    clear hr0 hb0
    have Hv0 := hid hv0
    clear hv0
    obtain ⟨R, hR⟩ : ∃ R, R = btR V0 xs0 := ⟨_, rfl⟩
    have hRl : R.1.length ≤ 1048576 := by rw [hR]; exact btR_len V0 xs0 hl0
    obtain ⟨ys, c⟩ := R
    simp only at hRl
    have HS : Hid (∀ a0 cap0 w', SlI w' w'.heap.size a0 xs0 → Calls Tryd.prog 39 #[.agg #[.int .i64 V0, .slice a0 xs0.length cap0]] w' fun e w'' => ∃ v, e = .returned (.tuple #[v, .int .i64 c]) ∧ Res w' w'' v ys) :=
      hid (fun a0 cap0 w' hs0 => by have := specBestTree V0 a0 cap0 xs0 w' hs0 hl0; rwa [← hR] at this)
    have HI : Hid (∀ a0 cap0 w', SlI w' w'.heap.size a0 xs0 → HidW w' → Calls Tryd.prog 40 #[.agg #[.int .i64 V0, .slice a0 xs0.length cap0]] w' fun e w'' => ∃ v, e = .returned (.tuple #[v, .int .i64 c]) ∧ Res w' w'' v ys) :=
      hid (fun a0 cap0 w' hs0 hG' => by have := implBestTree V0 a0 cap0 xs0 w' hs0 hl0 hG'; rwa [← hR] at this)
    have hcc : (c != c) = false := by simp
    clear hR
    go_enter Tryd.func10, Tryd.ntmps10
    go_wp2_with fail
    refine (szCx V0 a0 xs0.length cap0 1048576 _ (by omega) (by omega) hn0).mono ?_
    rintro e s0 ⟨rfl, hB⟩
    have zs0 := hB.size
    (try simp only [World.size_alloc] at zs0)
    have B0 := hid (B0.out.below hB)
    clear hB
    rw [← Hr0.out]
    obtain ⟨q0, q1⟩ := B0.out.two (.head _)
    go_wp2_with fail
    clear q0 q1
    refine (toCx V0 a0 cap0 xs0 _ (B0.out.arg (.head _)) hl0).mono ?_
    rintro e u0 ⟨gu0, rfl, hown, hB⟩
    have zu0 := hB.size
    (try simp only [World.size_alloc] at zu0)
    have B0 := hid (B0.out.row hown hB)
    clear hown hB
    (try simp only [World.size_alloc] at B0)
    go_wp2_with fail
    refine (HS.out _ _ _ (B0.out.slI (.head _))).mono ?_
    rintro e u9 ⟨vw, rfl, hres⟩
    have zu9 := hres.2.size
    (try simp only [World.size_alloc] at zu9)
    obtain ⟨_, aw, cw, rfl, _⟩ := ownsRow_slI hres.1
    have B0 := hid (B0.out.row hres.1 hres.2)
    clear hres
    (try simp only [World.size_alloc] at B0)
    obtain ⟨q0, q1⟩ := B0.out.two (.head _)
    go_wp2_with fail
    clear q0 q1
    refine (toCx V0 a0 cap0 xs0 _ (B0.out.arg (.head _)) hl0).mono ?_
    rintro e x0 ⟨gx0, rfl, hown, hB⟩
    have zx0 := hB.size
    (try simp only [World.size_alloc] at zx0)
    have B0 := hid (B0.out.row hown hB)
    clear hown hB
    (try simp only [World.size_alloc] at B0)
    have B0 := hid (B0.out.alloc (.cells #[.int .i64 V0, .slice (some ⟨gx0, 0, none⟩) xs0.length xs0.length] 28))
    obtain ⟨p00, p01⟩ := B0.out.two (.head _)
    go_wp2_with fail
    clear p00 p01
    refine (HI.out _ _ _ (B0.out.slI (.head _)) (HG.out.later B0.out.from0 (Nat.le_refl _))).mono ?_
    rintro e v9 ⟨vg, rfl, hres⟩
    have zv9 := hres.2.size
    (try simp only [World.size_alloc] at zv9)
    obtain ⟨_, ag, cg, rfl, _⟩ := ownsRow_slI hres.1
    have B0 := hid (B0.out.row hres.1 hres.2)
    clear hres
    (try simp only [World.size_alloc] at B0)
    go_wp2_with fail
    refine (eqInts_yes _ _ _ _ ys ys _ (B0.out.slI (.head _)) (B0.out.slI (.tail _ (.tail _ (.head _)))) hRl hRl rfl).mono ?_
    rintro e e1 ⟨rfl, hB⟩
    have ze1 := hB.size
    (try simp only [World.size_alloc] at ze1)
    have B0 := hid (B0.out.below hB)
    clear hB
    obtain ⟨lxb00, lxb01⟩ := B0.out.two (.head _)
    obtain ⟨lk00, lk01⟩ := B0.out.two (.tail _ (.head _))
    go_wp2_with fail
    go_region_with (first
      | (go_at_call 16; refine (toCx V0 a0 cap0 xs0 _ (B0.out.drew.arg (.head _)) hl0).mono ?_; rintro e f0 ⟨gf0, rfl, hown, hB⟩; have zf0 := hB.size; have C0 := hid (B0.out.drew.row hown hB); clear hown hB; obtain ⟨m00, m01⟩ := C0.out.two (.head _))
      | (go_at_call 18; refine (eqCx_yes V0 _ _ _ _ xs0 xs0 _ (C0.out.slI (.tail _ (.tail _ (.head _)))) (C0.out.slI (.head _)) hl0 hl0 rfl).mono ?_; rintro e h0 ⟨rfl, hB⟩))
    all_goals
      have zh0 := hB.size
      have D0 := hid (C0.out.below hB)
      clear hB C0 B0 m00 m01
      clear lxb00 lxb01
      clear lk00 lk01
      have B0 := D0
      clear D0
      skip
      (try simp only [World.size_alloc] at B0)
      have B0 := hid (B0.out.only (bs' := _) (L' := [⟨u9.heap.size, x0.heap.size, 2, 1, xs0.length, .slice (some ⟨gx0, 0, none⟩) xs0.length xs0.length, xs0⟩, ⟨x0.heap.size + 1, v9.heap.size, 2, 1, ys.length, .slice ag ys.length cg, ys⟩, ⟨u0.heap.size, u9.heap.size, 2, 1, ys.length, .slice aw ys.length cw, ys⟩]) (fun _ h => h) (by simp))
      obtain ⟨lxb00, lxb01⟩ := B0.out.two (.head _)
      go_wp2_with fail
      clear lxb00 lxb01
      refine (markCx V0 _ _ _ xs0 (1) _ (B0.out.own (.head _)) hl0 (by omega) (by omega)).mono ?_
      rintro e m0 ⟨rfl, hown, hg⟩
      have zm0 := hg.size
      (try simp only [World.size_alloc] at zm0)
      have B0 := hid (B0.out.mark (ys := count (1) xs0.length) (L' := [⟨x0.heap.size + 1, v9.heap.size, 2, 1, ys.length, .slice ag ys.length cg, ys⟩, ⟨u0.heap.size, u9.heap.size, 2, 1, ys.length, .slice aw ys.length cw, ys⟩]) (.head _) hown hg (by simp only; omega) (by simp; omega) (by simp <;> omega))
      clear hown hg
      go_wp2_with fail
      refine (eqInts_yes _ _ _ _ ys ys _ (B0.out.slI (.head _)) (B0.out.slI (.tail _ (.head _))) hRl hRl rfl).mono ?_
      rintro e e2 ⟨rfl, hB⟩
      have ze2 := hB.size
      (try simp only [World.size_alloc] at ze2)
      have B0 := hid (B0.out.below hB)
      clear hB
      go_wp2_with fail
      refine (markInts _ _ _ ys 1 _ (B0.out.own (.head _)) hRl (by omega) (by omega)).mono ?_
      rintro e m8 ⟨rfl, hown, hg⟩
      have zm8 := hg.size
      (try simp only [World.size_alloc] at zm8)
      have B0 := hid (B0.out.mark (ys := count 1 ys.length) (L' := [⟨x0.heap.size + 1, v9.heap.size, 2, 1, ys.length, .slice ag ys.length cg, count 1 ys.length⟩, ⟨u0.heap.size, u9.heap.size, 2, 1, ys.length, .slice aw ys.length cw, ys⟩]) (.head _) hown hg (by simp only; omega) (by simp; omega) (by simp <;> omega))
      clear hown hg
      go_wp2_with fail
      refine (heldInts _ _ ys.length _ 1 _ rfl (B0.out.slI (.head _)) hRl (by omega) (by omega)).mono ?_
      rintro e t1 ⟨rfl, hB⟩
      have zt1 := hB.size
      (try simp only [World.size_alloc] at zt1)
      have B0 := hid (B0.out.below hB)
      clear hB
      have hnn : ((1 : Int) + ys.length != 1 + ys.length) = false := by simp
      obtain ⟨q0, q1⟩ := B0.out.two (.tail _ (.head _))
      go_wp2_with fail
      clear q0 q1
      refine (toCx V0 a0 cap0 xs0 _ (B0.out.arg (.head _)) hl0).mono ?_
      rintro e y0 ⟨gy0, rfl, hown, hB⟩
      have zy0 := hB.size
      (try simp only [World.size_alloc] at zy0)
      have B0 := hid (B0.out.row hown hB)
      clear hown hB
      (try simp only [World.size_alloc] at B0)
      go_wp2_with fail
      refine (HI.out _ _ _ (B0.out.slI (.head _)) (HG.out.later B0.out.from0 (Nat.le_refl _))).mono ?_
      rintro e t2 ⟨vh, rfl, hres⟩
      have zt2 := hres.2.size
      (try simp only [World.size_alloc] at zt2)
      obtain ⟨_, ah, ch, rfl, _⟩ := ownsRow_slI hres.1
      have B0 := hid (B0.out.row hres.1 hres.2)
      clear hres
      (try simp only [World.size_alloc] at B0)
      go_wp2_with fail
      refine (eqInts_yes _ _ _ _ ys ys _ (B0.out.slI (.head _)) (B0.out.slI (.tail _ (.tail _ (.tail _ (.head _))))) hRl hRl rfl).mono ?_
      rintro e t3 ⟨rfl, hB⟩
      have zt3 := hB.size
      (try simp only [World.size_alloc] at zt3)
      have B0 := hid (B0.out.below hB)
      clear hB
      go_wp2_with fail
      refine (heldInts _ _ ys.length _ 1 _ rfl (B0.out.slI (.tail _ (.tail _ (.head _)))) hRl (by omega) (by omega)).mono ?_
      rintro e t4 ⟨rfl, hB⟩
      have zt4 := hB.size
      (try simp only [World.size_alloc] at zt4)
      have B0 := hid (B0.out.below hB)
      clear hB
      go_wp2_with fail
      go_ret
      exact ⟨rfl, B0.out.from0⟩

end Go.Proofs.YtgnahadlcihneaaDoor
