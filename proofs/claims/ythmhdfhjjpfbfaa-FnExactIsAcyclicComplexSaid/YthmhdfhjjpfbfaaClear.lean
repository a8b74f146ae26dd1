import Derived.Test.YthmhdfhjjpfbfaaMat
/-! clearColumn: a step is taken off a row. -/
namespace Go.Proofs.Ythmhdfhjjpfbfaa
open Go.RowKit Go.Lib Go.Sort

/-- The first i numbers of a row are cleared. -/
def part (p : Int) (c : Nat) (row own : List Int) (i : Nat) : List Int := (clr p c row own).take i ++ row.drop i
theorem part_zero (p : Int) (c : Nat) (row own : List Int) : part p c row own 0 = row := by simp [part]
theorem part_len {p : Int} {c w : Nat} {row own : List Int} (h1 : row.length = w) (h2 : own.length = w) {i : Nat} (hi : i ≤ w) : (part p c row own i).length = w := by
  simp [part, clr_len h1 h2, h1]; omega
theorem part_all {p : Int} {c w : Nat} {row own : List Int} (h1 : row.length = w) (h2 : own.length = w) : part p c row own w = clr p c row own := by
  unfold part
  rw [List.take_of_length_le (by rw [clr_len h1 h2]; exact Nat.le_refl _), List.drop_of_length_le (by omega)]
  simp
theorem part_succ {p : Int} {c w : Nat} {row own : List Int} (h1 : row.length = w) (h2 : own.length = w) {i : Nat} (hi : i < w) :
    part p c row own (i + 1) = (part p c row own i).set i ((row[i]?.getD 0 + (p - (row[c]?.getD 0 * own[c]?.getD 0) % p) * own[i]?.getD 0) % p) := by
  have hl := clr_len (p := p) (c := c) h1 h2
  have e := clr_get (p := p) (c := c) h1 h2 hi
  rw [List.getElem?_eq_getElem (by omega)] at e
  simp only [Option.getD_some] at e
  unfold part
  rw [List.take_succ_eq_append_getElem (by omega), e, List.set_append_right _ _ (by simp; omega)]
  have : (List.take i (clr p c row own)).length = i := by simp; omega
  rw [this, Nat.sub_self, List.drop_eq_getElem_cons (by omega : i < row.length)]
  simp only [List.set_cons_zero, List.append_assoc, List.cons_append, List.nil_append]
theorem part_at {p : Int} {c w : Nat} {row own : List Int} (h1 : row.length = w) (h2 : own.length = w) {i : Nat} (hi : i < w) : (part p c row own i)[i]?.getD 0 = row[i]?.getD 0 := by
  have hl := clr_len (p := p) (c := c) h1 h2
  unfold part
  rw [List.getElem?_append_right (by simp; omega)]
  have : (List.take i (clr p c row own)).length = i := by simp; omega
  rw [this, Nat.sub_self]
  simp

theorem holds_at {w : World} {blk off : Nat} {l : List Int} (h : Holds encI w blk off l.toArray) {i : Nat} (hi : i < l.length) : w.cell? ⟨blk, off + i, none⟩ = some (.int .i64 (l[i]?.getD 0)) ∧ w.frozen? ⟨blk, off + i, none⟩ = false := by
  have := h i (by simpa using hi)
  refine ⟨this.1.trans ?_, this.2⟩
  simp only [encI]
  rw [getElem!_pos l.toArray i (by simpa using hi), List.getElem?_eq_getElem hi]
  simp
theorem putRow_at (W : World) (m blk off : Nat) (l : List Int) (i : Nat) (x : Int) (hi : i < l.length) :
    (putRow encI (Sort.ahead W m) blk off l.toArray).setCell ⟨blk, off + i, none⟩ (.int .i64 x) = putRow encI (Sort.ahead W m) blk off (l.set i x).toArray := by
  have := putRow_set encI (Sort.ahead W m) blk off l.toArray i x (by simpa using hi)
  simp only [encI] at this ⊢
  rw [this]
  simp

theorem small_mul {a b p : Int} (hp : p = 2 ∨ p = 3) (ha0 : 0 ≤ a) (ha : a < p) (hb0 : 0 ≤ b) (hb : b < p) : 0 ≤ a * b ∧ a * b ≤ 6 := by
  have h1 : a * b ≤ 2 * b := Int.mul_le_mul_of_nonneg_right (by omega) hb0
  exact ⟨Int.mul_nonneg ha0 hb0, by omega⟩
theorem small_mul' {t b p : Int} (hp : p = 2 ∨ p = 3) (ht : 0 ≤ t ∧ t < p) (hb : 0 ≤ b ∧ b < p) : 0 ≤ (p - t) * b ∧ (p - t) * b ≤ 9 := by
  have h1 : (p - t) * b ≤ 3 * b := Int.mul_le_mul_of_nonneg_right (by omega) hb.1
  exact ⟨Int.mul_nonneg (by omega) hb.1, by omega⟩
theorem mod_rng {a p : Int} (hp : p = 2 ∨ p = 3) : 0 ≤ a % p ∧ a % p < p := ⟨Int.emod_nonneg _ (by omega), Int.emod_lt_of_pos _ (by omega)⟩

set_option maxRecDepth 1000000 in
set_option maxHeartbeats 2000000 in
theorem clear_any (b1 o1 b2 o2 w c : Nat) (p : Int) (row own : List Int) (W : World) (h1 : Holds encI W b1 o1 row.toArray) (h2 : Holds encI W b2 o2 own.toArray) (l1 : row.length = w) (l2 : own.length = w) (hc : c < w) (hw : w ≤ 1048576)
    (hp : p = 2 ∨ p = 3) (r1 : ∀ x ∈ row, 0 ≤ x ∧ x < p) (r2 : ∀ x ∈ own, 0 ≤ x ∧ x < p) (hd : b1 ≠ b2 ∨ o1 + w ≤ o2 ∨ o2 + w ≤ o1) :
    Calls Try.prog 145 #[.slice (some ⟨b1, o1, none⟩) w w, .slice (some ⟨b2, o2, none⟩) w w, .int .i64 (c : Int), .int .i64 p] W fun e W' => (∃ v, e = .returned v) ∧ ∃ m, W' = putRow encI (Sort.ahead W m) b1 o1 (clr p c row own).toArray := by
  obtain ⟨cx, _⟩ := holds_at h1 (i := c) (by omega)
  obtain ⟨cy, _⟩ := holds_at h2 (i := c) (by omega)
  obtain ⟨x0, hx0⟩ : ∃ x, x = row[c]?.getD 0 := ⟨_, rfl⟩
  obtain ⟨y0, hy0⟩ : ∃ y, y = own[c]?.getD 0 := ⟨_, rfl⟩
  have rx := r1 _ (getD_memL (d := 0) (show c < row.length by omega))
  have ry := r2 _ (getD_memL (d := 0) (show c < own.length by omega))
  rw [← hx0] at cx rx
  rw [← hy0] at cy ry
  have hm := small_mul hp rx.1 rx.2 ry.1 ry.2
  obtain ⟨t, ht⟩ : ∃ t, t = (x0 * y0) % p := ⟨_, rfl⟩
  have hmul : IntKind.i64.wrap (x0 * y0) = x0 * y0 := IntWalk.i64_in _ (by omega)
  have hrem : (x0 * y0).tmod p = t := by rw [ht, Int.tmod_eq_emod_of_nonneg hm.1]
  have htr : 0 ≤ t ∧ t < p := by rw [ht]; exact mod_rng hp
  have hc0 : (0 : Int) ≤ (c : Int) := by omega
  have hc1 : (c : Int) < (w : Int) := by omega
  have hp0 : (p == 0) = false := by rcases hp with rfl | rfl <;> rfl
  have HX := hid hx0
  have HY := hid hy0
  have HT := hid ht
  have H1 := hid h1
  have H2 := hid h2
  have R1 := hid r1
  have R2 := hid r2
  clear hx0 hy0 ht h1 h2 r1 r2
  go_enter Try.func145, Try.ntmps145
  go_wp2
  go_quiet (fail)
  go_wp2
  clear hmul hrem hc0 hc1 cx cy hm rx ry
  go_loopg [23] w (fun k s23 wr => ∃ (i m : Nat), s23 = .int .i64 i ∧ i ≤ w ∧ w - i ≤ k ∧ wr = putRow encI (Sort.ahead W m) b1 o1 (part p c row own i).toArray)
  case atStart => exact ⟨0, nq, rfl, Nat.zero_le _, by omega, by rw [part_zero]; exact (putRow_self encI _ b1 o1 _ (holds_ahead encI W nq _ _ _ H1.out)).symm⟩
  case round =>
    obtain ⟨i, m, rfl, hi, hk, hwr⟩ := hrel
    by_cases hlt : i < w
    · have hHk : Holds encI wr b1 o1 (part p c row own i).toArray := by rw [hwr]; exact holds_putRow encI _ b1 o1 _ _ (holds_ahead encI W m b1 o1 _ H1.out) (by simp [part_len l1 l2 hi, l1])
      obtain ⟨ca, fa⟩ := holds_at hHk (i := i) (by rw [part_len l1 l2 hi]; exact hlt)
      rw [part_at l1 l2 hlt] at ca
      obtain ⟨cb0, _⟩ := holds_at H2.out (i := i) (by omega)
      have cb : wr.cell? ⟨b2, o2 + i, none⟩ = some (.int .i64 (own[i]?.getD 0)) := by
        rw [hwr, cell?_putRow_other _ _ _ _ _ _ (by simp [part_len l1 l2 hi]; omega)]
        exact cb0
      have ra := R1.out _ (getD_memL (d := 0) (show i < row.length by omega))
      have rb := R2.out _ (getD_memL (d := 0) (show i < own.length by omega))
      have Hps := hid (part_succ (p := p) (c := c) l1 l2 hlt)
      have hpl := part_len (p := p) (c := c) l1 l2 hi
      obtain ⟨a, ha⟩ : ∃ a, a = row[i]?.getD 0 := ⟨_, rfl⟩
      obtain ⟨b, hb⟩ : ∃ b, b = own[i]?.getD 0 := ⟨_, rfl⟩
      rw [← ha] at ca ra Hps
      rw [← hb] at cb rb Hps
      rw [← HX.out, ← HY.out, ← HT.out] at Hps
      have hm := small_mul' hp htr rb
      obtain ⟨v, hv⟩ : ∃ v, v = (a + (p - t) * b) % p := ⟨_, rfl⟩
      rw [← hv] at Hps
      have hrem : (a + (p - t) * b).tmod p = v := by rw [hv, Int.tmod_eq_emod_of_nonneg (by omega)]
      have hadd : IntKind.i64.wrap (a + (p - t) * b) = a + (p - t) * b := IntWalk.i64_in _ (by omega)
      have hmul : IntKind.i64.wrap ((p - t) * b) = (p - t) * b := IntWalk.i64_in _ (by omega)
      have hsub : IntKind.i64.wrap (p - t) = p - t := IntWalk.i64_in _ (by omega)
      have hi0 : (0 : Int) ≤ (i : Int) := by omega
      have hi1 : (i : Int) < (w : Int) := by omega
      have A : Aside (wr = putRow encI (Sort.ahead W m) b1 o1 (part p c row own i).toArray) := hwr
      clear hwr hHk ha hb hv cb0 hm
      go_wp2_with fail
      go_region
      go_wp2
      go_roundg (w - (i + 1))
      case measure => omega
      case rel => exact ⟨i + 1, m + 1, by go_num, by omega, Nat.le_refl _, by rw [Hps.out, ← putRow_at _ _ _ _ _ _ _ (by rw [hpl]; exact hlt), ← ahead_drew, ← putRow_drew, ← A.out]; rfl⟩
    · go_wp2
      go_end0
      obtain rfl : i = w := by omega
      exact ⟨⟨_, rfl⟩, m, by rw [part_all l1 l2]⟩

end Go.Proofs.Ythmhdfhjjpfbfaa
