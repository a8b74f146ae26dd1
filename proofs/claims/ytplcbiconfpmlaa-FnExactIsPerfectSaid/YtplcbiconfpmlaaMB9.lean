import Derived.Deep.LoopGhost
import Derived.Deep.CutRange
import Derived.Deep.RegionHeld3
import Derived.StillTailTactics
import Derived.OrdersIn
import Derived.Test.YtplcbiconfpmlaaMB1
import Derived.Test.YtplcbiconfpmlaaMB2
import Derived.Test.YtplcbiconfpmlaaMB3
import Derived.Test.YtplcbiconfpmlaaMB4
import Derived.Test.YtplcbiconfpmlaaMB8
/-! A matrix in memory: a slice of rows, each a slice of int64 of its own. -/
namespace Go.Proofs.Ytplcbiconfpmlaa
open Go.RowKit Go.Lib Go.Sort

/-- Where row i lies. -/
abbrev Ads := List (Nat × Nat)
def adr (ad : Ads) (i : Nat) : Nat × Nat := ad[i]?.getD (0, 0)

/-- In block R lie the rows' slices, row i at ad i; B: what lay at the start. -/
structure MatW (W : World) (B R n w : Nat) (ad : Ads) (M : List (List Int)) : Prop where
  len : M.length = n
  adl : ad.length = n
  wid : ∀ i, i < n → (M[i]?.getD []).length = w
  hd : ∀ i, i < n → W.cell? ⟨R, i, none⟩ = some (.slice (some ⟨(adr ad i).1, (adr ad i).2, none⟩) w w) ∧ W.frozen? ⟨R, i, none⟩ = false
  row : ∀ i, i < n → Holds encI W (adr ad i).1 (adr ad i).2 (M[i]?.getD []).toArray
  apart : ∀ i k, i < n → k < n → i ≠ k → (adr ad i).1 ≠ (adr ad k).1 ∨ (adr ad i).2 + w ≤ (adr ad k).2 ∨ (adr ad k).2 + w ≤ (adr ad i).2
  off : ∀ i, i < n → (adr ad i).1 ≠ R
  base : ∀ i, i < n → B ≤ (adr ad i).1 ∧ (adr ad i).1 < W.heap.size
  head : B ≤ R ∧ R < W.heap.size

theorem MatW.at {W : World} {B R n w : Nat} {ad : Ads} {M : List (List Int)} (h : MatW W B R n w ad M) {i j : Nat} (hi : i < n) (hj : j < w) :
    W.cell? ⟨(adr ad i).1, (adr ad i).2 + j, none⟩ = some (.int .i64 (ent M i j)) ∧ W.frozen? ⟨(adr ad i).1, (adr ad i).2 + j, none⟩ = false := by
  have hl := h.wid i hi
  have := h.row i hi j (by simp; omega)
  refine ⟨this.1.trans ?_, this.2⟩
  have hj' : j < (M[i]?.getD []).length := by omega
  simp only [encI, ent]
  rw [getElem!_pos (M[i]?.getD []).toArray j (by simpa using hj'), List.getElem?_eq_getElem hj']
  simp

/-- Draws alone. -/
theorem MatW.ahead {W : World} {B R n w : Nat} {ad : Ads} {M : List (List Int)} (h : MatW W B R n w ad M) (m : Nat) : MatW (Sort.ahead W m) B R n w ad M :=
  ⟨h.len, h.adl, h.wid, h.hd, h.row, h.apart, h.off, h.base, h.head⟩
theorem MatW.drewN {W : World} {B R n w : Nat} {ad : Ads} {M : List (List Int)} (h : MatW W B R n w ad M) (m : Nat) : MatW (W.drewN m) B R n w ad M :=
  ⟨h.len, h.adl, h.wid, h.hd, h.row, h.apart, h.off, h.base, h.head⟩

theorem holds_keep {w w' : World} {blk off : Nat} {d : Array Int} (h : Holds encI w blk off d) (hk : w'.heap[blk]? = w.heap[blk]?) : Holds encI w' blk off d := by
  intro j hj
  have := h j hj
  simp only [World.cell?, World.frozen?] at this ⊢
  rw [hk]
  exact this

/-- Whatever keeps the blocks. -/
theorem MatW.keep {W W' : World} {B R n w : Nat} {ad : Ads} {M : List (List Int)} (h : MatW W B R n w ad M) (hs : W.heap.size ≤ W'.heap.size) (hR : W'.heap[R]? = W.heap[R]?) (hr : ∀ i, i < n → W'.heap[(adr ad i).1]? = W.heap[(adr ad i).1]?) : MatW W' B R n w ad M where
  len := h.len
  adl := h.adl
  wid := h.wid
  hd := fun i hi => by have := h.hd i hi; simp only [World.cell?, World.frozen?] at this ⊢; rw [hR]; exact this
  row := fun i hi => holds_keep (h.row i hi) (hr i hi)
  apart := h.apart
  off := h.off
  base := fun i hi => ⟨(h.base i hi).1, Nat.lt_of_lt_of_le (h.base i hi).2 hs⟩
  head := ⟨h.head.1, Nat.lt_of_lt_of_le h.head.2 hs⟩

/-- Row k is written anew. -/
theorem MatW.put {W : World} {B R n w : Nat} {ad : Ads} {M : List (List Int)} (h : MatW W B R n w ad M) {k : Nat} (hk : k < n) (m : Nat) {row : List Int} (hl : row.length = w) :
    MatW (putRow encI (Sort.ahead W m) (adr ad k).1 (adr ad k).2 row.toArray) B R n w ad (M.set k row) where
  len := by simp [h.len]
  adl := h.adl
  wid := fun i hi => by
    by_cases e : k = i
    · subst e; rw [List.getElem?_set_self (by rw [h.len]; exact hi)]; simpa using hl
    · rw [List.getElem?_set_ne e]; exact h.wid i hi
  hd := fun i hi => by
    have := h.hd i hi
    refine ⟨?_, by rw [frozen?_putRow]; exact this.2⟩
    rw [cell?_putRow_other _ _ _ _ _ _ (.inl (fun e => h.off k hk e.symm))]
    exact this.1
  row := fun i hi => by
    by_cases e : k = i
    · subst e
      rw [List.getElem?_set_self (by rw [h.len]; exact hi)]
      exact holds_putRow encI _ _ _ _ _ (holds_ahead encI W m _ _ _ (h.row k hi)) (by simp [hl, h.wid k hi])
    · rw [List.getElem?_set_ne e]
      intro j hj
      have hj' : j < w := by have := h.wid i hi; simp at hj; omega
      have := h.row i hi j hj
      refine ⟨?_, by rw [frozen?_putRow]; exact this.2⟩
      rw [cell?_putRow_other _ _ _ _ _ _ (by
        have := h.apart i k hi hk (fun e' => e e'.symm)
        simp [hl]
        omega)]
      exact this.1
  apart := h.apart
  off := h.off
  base := fun i hi => by simpa using h.base i hi
  head := by simpa using h.head

/-- Two rows change places. -/
theorem MatW.swap {W : World} {B R n w : Nat} {ad : Ads} {M : List (List Int)} (h : MatW W B R n w ad M) {r i : Nat} (hr : r < n) (hi : i < n) {W' : World}
    (hs : W'.heap.size = W.heap.size) (hk : ∀ b, b ≠ R → W'.heap[b]? = W.heap[b]?)
    (hc : ∀ k, k < n → W'.cell? ⟨R, k, none⟩ = some (if k = i then .slice (some ⟨(adr ad r).1, (adr ad r).2, none⟩) w w else if k = r then .slice (some ⟨(adr ad i).1, (adr ad i).2, none⟩) w w else .slice (some ⟨(adr ad k).1, (adr ad k).2, none⟩) w w) ∧ W'.frozen? ⟨R, k, none⟩ = false) :
    MatW W' B R n w ((ad.set r (adr ad i)).set i (adr ad r)) (swapR M r i) := by
  have ha : ∀ k, k < n → adr ((ad.set r (adr ad i)).set i (adr ad r)) k = if k = i then adr ad r else if k = r then adr ad i else adr ad k := by
    intro k hk
    unfold adr
    by_cases e1 : k = i
    · subst e1; rw [List.getElem?_set_self (by simp [h.adl]; omega), if_pos rfl]; simp
    · rw [if_neg e1, List.getElem?_set_ne (fun e => e1 e.symm)]
      by_cases e2 : k = r
      · subst e2; rw [List.getElem?_set_self (by simp [h.adl]; omega), if_pos rfl]; simp
      · rw [if_neg e2, List.getElem?_set_ne (fun e => e2 e.symm)]
  have hM : ∀ k, k < n → (swapR M r i)[k]?.getD [] = if k = i then M[r]?.getD [] else if k = r then M[i]?.getD [] else M[k]?.getD [] := by
    intro k hk
    unfold swapR
    by_cases e1 : k = i
    · subst e1; rw [List.getElem?_set_self (by simp [h.len]; omega), if_pos rfl]; simp
    · rw [if_neg e1, List.getElem?_set_ne (fun e => e1 e.symm)]
      by_cases e2 : k = r
      · subst e2; rw [List.getElem?_set_self (by simp [h.len]; omega), if_pos rfl]; simp
      · rw [if_neg e2, List.getElem?_set_ne (fun e => e2 e.symm)]
  refine ⟨by rw [swapR_len]; exact h.len, by simp [h.adl], ?_, ?_, ?_, ?_, ?_, ?_, ?_⟩
  · intro k hk'
    rw [hM k hk']
    split
    · exact h.wid r hr
    · split
      · exact h.wid i hi
      · exact h.wid k hk'
  · intro k hk'
    rw [ha k hk']
    obtain ⟨h1, h2⟩ := hc k hk'
    refine ⟨?_, h2⟩
    rw [h1]
    split
    · rfl
    · split <;> rfl
  · intro k hk'
    rw [ha k hk', hM k hk']
    split
    · exact holds_keep (h.row r hr) (hk _ (h.off r hr))
    · split
      · exact holds_keep (h.row i hi) (hk _ (h.off i hi))
      · exact holds_keep (h.row k hk') (hk _ (h.off k hk'))
  · intro a b ha' hb' hab
    have hp : ∀ k, k < n → ∃ k', k' < n ∧ adr ((ad.set r (adr ad i)).set i (adr ad r)) k = adr ad k' ∧ k' = (if k = i then r else if k = r then i else k) := by
      intro k hk'
      refine ⟨if k = i then r else if k = r then i else k, ?_, ?_, rfl⟩
      · split
        · exact hr
        · split
          · exact hi
          · exact hk'
      · rw [ha k hk']
        split
        · rfl
        · split <;> rfl
    obtain ⟨a', ha1, ha2, ha3⟩ := hp a ha'
    obtain ⟨b', hb1, hb2, hb3⟩ := hp b hb'
    rw [ha2, hb2]
    refine h.apart a' b' ha1 hb1 (fun e => ?_)
    rw [ha3, hb3] at e
    split at e <;> split at e <;> (try split at e) <;> (try split at e) <;> omega
  · intro k hk'
    rw [ha k hk']
    split
    · exact h.off r hr
    · split
      · exact h.off i hi
      · exact h.off k hk'
  · intro k hk'
    rw [ha k hk', hs]
    split
    · exact h.base r hr
    · split
      · exact h.base i hi
      · exact h.base k hk'
  · rw [hs]; exact h.head

end Go.Proofs.Ytplcbiconfpmlaa

/-! clearColumn: a step is taken off a row. -/
namespace Go.Proofs.Ytplcbiconfpmlaa
open Go.RowKit Go.Lib Go.Sort

/-- The first i numbers of a row are cleared. -/
def part (p : Int) (c : Nat) (row own : List Int) (i : Nat) : List Int := (clr p c row own).take i ++ row.drop i
theorem part_zero (p : Int) (c : Nat) (row own : List Int) : part p c row own 0 = row := by simp [part]
theorem part_len {p : Int} {c w : Nat} {row own : List Int} (h1 : row.length = w) (h2 : own.length = w) {i : Nat} (hi : i ≤ w) : (part p c row own i).length = w := by
  simp [part, clr_len h1 h2, h1]; omega
theorem part_all {p : Int} {c w : Nat} {row own : List Int} (h1 : row.length = w) (h2 : own.length = w) : part p c row own w = clr p c row own := by
  unfold part
  rw [List.take_of_length_le (by rw [clr_len h1 h2]; exact Nat.le_refl _), List.drop_of_length_le (by omega)]
  simp
theorem part_succ {p : Int} {c w : Nat} {row own : List Int} (h1 : row.length = w) (h2 : own.length = w) {i : Nat} (hi : i < w) :
    part p c row own (i + 1) = (part p c row own i).set i ((row[i]?.getD 0 + (p - (row[c]?.getD 0 * own[c]?.getD 0) % p) * own[i]?.getD 0) % p) := by
  have hl := clr_len (p := p) (c := c) h1 h2
  have e := clr_get (p := p) (c := c) h1 h2 hi
  rw [List.getElem?_eq_getElem (by omega)] at e
  simp only [Option.getD_some] at e
  unfold part
  rw [List.take_succ_eq_append_getElem (by omega), e, List.set_append_right _ _ (by simp; omega)]
  have : (List.take i (clr p c row own)).length = i := by simp; omega
  rw [this, Nat.sub_self, List.drop_eq_getElem_cons (by omega : i < row.length)]
  simp only [List.set_cons_zero, List.append_assoc, List.cons_append, List.nil_append]
theorem part_at {p : Int} {c w : Nat} {row own : List Int} (h1 : row.length = w) (h2 : own.length = w) {i : Nat} (hi : i < w) : (part p c row own i)[i]?.getD 0 = row[i]?.getD 0 := by
  have hl := clr_len (p := p) (c := c) h1 h2
  unfold part
  rw [List.getElem?_append_right (by simp; omega)]
  have : (List.take i (clr p c row own)).length = i := by simp; omega
  rw [this, Nat.sub_self]
  simp

theorem holds_at {w : World} {blk off : Nat} {l : List Int} (h : Holds encI w blk off l.toArray) {i : Nat} (hi : i < l.length) : w.cell? ⟨blk, off + i, none⟩ = some (.int .i64 (l[i]?.getD 0)) ∧ w.frozen? ⟨blk, off + i, none⟩ = false := by
  have := h i (by simpa using hi)
  refine ⟨this.1.trans ?_, this.2⟩
  simp only [encI]
  rw [getElem!_pos l.toArray i (by simpa using hi), List.getElem?_eq_getElem hi]
  simp
theorem putRow_at (W : World) (m blk off : Nat) (l : List Int) (i : Nat) (x : Int) (hi : i < l.length) :
    (putRow encI (Sort.ahead W m) blk off l.toArray).setCell ⟨blk, off + i, none⟩ (.int .i64 x) = putRow encI (Sort.ahead W m) blk off (l.set i x).toArray := by
  have := putRow_set encI (Sort.ahead W m) blk off l.toArray i x (by simpa using hi)
  simp only [encI] at this ⊢
  rw [this]
  simp

theorem small_mul {a b p : Int} (hp : p = 2 ∨ p = 3) (ha0 : 0 ≤ a) (ha : a < p) (hb0 : 0 ≤ b) (hb : b < p) : 0 ≤ a * b ∧ a * b ≤ 6 := by
  have h1 : a * b ≤ 2 * b := Int.mul_le_mul_of_nonneg_right (by omega) hb0
  exact ⟨Int.mul_nonneg ha0 hb0, by omega⟩
theorem small_mul' {t b p : Int} (hp : p = 2 ∨ p = 3) (ht : 0 ≤ t ∧ t < p) (hb : 0 ≤ b ∧ b < p) : 0 ≤ (p - t) * b ∧ (p - t) * b ≤ 9 := by
  have h1 : (p - t) * b ≤ 3 * b := Int.mul_le_mul_of_nonneg_right (by omega) hb.1
  exact ⟨Int.mul_nonneg (by omega) hb.1, by omega⟩
theorem mod_rng {a p : Int} (hp : p = 2 ∨ p = 3) : 0 ≤ a % p ∧ a % p < p := ⟨Int.emod_nonneg _ (by omega), Int.emod_lt_of_pos _ (by omega)⟩

set_option maxRecDepth 1000000 in
set_option maxHeartbeats 2000000 in
theorem clear_any (b1 o1 b2 o2 w c : Nat) (p : Int) (row own : List Int) (W : World) (h1 : Holds encI W b1 o1 row.toArray) (h2 : Holds encI W b2 o2 own.toArray) (l1 : row.length = w) (l2 : own.length = w) (hc : c < w) (hw : w ≤ 1048576)
    (hp : p = 2 ∨ p = 3) (r1 : ∀ x ∈ row, 0 ≤ x ∧ x < p) (r2 : ∀ x ∈ own, 0 ≤ x ∧ x < p) (hd : b1 ≠ b2 ∨ o1 + w ≤ o2 ∨ o2 + w ≤ o1) :
    Calls Try.prog 205 #[.slice (some ⟨b1, o1, none⟩) w w, .slice (some ⟨b2, o2, none⟩) w w, .int .i64 (c : Int), .int .i64 p] W fun e W' => (∃ v, e = .returned v) ∧ ∃ m, W' = putRow encI (Sort.ahead W m) b1 o1 (clr p c row own).toArray := by
  obtain ⟨cx, _⟩ := holds_at h1 (i := c) (by omega)
  obtain ⟨cy, _⟩ := holds_at h2 (i := c) (by omega)
  obtain ⟨x0, hx0⟩ : ∃ x, x = row[c]?.getD 0 := ⟨_, rfl⟩
  obtain ⟨y0, hy0⟩ : ∃ y, y = own[c]?.getD 0 := ⟨_, rfl⟩
  have rx := r1 _ (getD_memL (d := 0) (show c < row.length by omega))
  have ry := r2 _ (getD_memL (d := 0) (show c < own.length by omega))
  rw [← hx0] at cx rx
  rw [← hy0] at cy ry
  have hm := small_mul hp rx.1 rx.2 ry.1 ry.2
  obtain ⟨t, ht⟩ : ∃ t, t = (x0 * y0) % p := ⟨_, rfl⟩
  have hmul : IntKind.i64.wrap (x0 * y0) = x0 * y0 := IntWalk.i64_in _ (by omega)
  have hrem : (x0 * y0).tmod p = t := by rw [ht, Int.tmod_eq_emod_of_nonneg hm.1]
  have htr : 0 ≤ t ∧ t < p := by rw [ht]; exact mod_rng hp
  have hc0 : (0 : Int) ≤ (c : Int) := by omega
  have hc1 : (c : Int) < (w : Int) := by omega
  have hp0 : (p == 0) = false := by rcases hp with rfl | rfl <;> rfl
  have HX := hid hx0
  have HY := hid hy0
  have HT := hid ht
  have H1 := hid h1
  have H2 := hid h2
  have R1 := hid r1
  have R2 := hid r2
  clear hx0 hy0 ht h1 h2 r1 r2
  go_enter Try.func205, Try.ntmps205
  go_wp2
  go_quiet (fail)
  go_wp2
  clear hmul hrem hc0 hc1 cx cy hm rx ry
  go_loopg [23] w (fun k s23 wr => ∃ (i m : Nat), s23 = .int .i64 i ∧ i ≤ w ∧ w - i ≤ k ∧ wr = putRow encI (Sort.ahead W m) b1 o1 (part p c row own i).toArray)
  case atStart => exact ⟨0, nq, rfl, Nat.zero_le _, by omega, by rw [part_zero]; exact (putRow_self encI _ b1 o1 _ (holds_ahead encI W nq _ _ _ H1.out)).symm⟩
  case round =>
    obtain ⟨i, m, rfl, hi, hk, hwr⟩ := hrel
    by_cases hlt : i < w
    · have hHk : Holds encI wr b1 o1 (part p c row own i).toArray := by rw [hwr]; exact holds_putRow encI _ b1 o1 _ _ (holds_ahead encI W m b1 o1 _ H1.out) (by simp [part_len l1 l2 hi, l1])
      obtain ⟨ca, fa⟩ := holds_at hHk (i := i) (by rw [part_len l1 l2 hi]; exact hlt)
      rw [part_at l1 l2 hlt] at ca
      obtain ⟨cb0, _⟩ := holds_at H2.out (i := i) (by omega)
      have cb : wr.cell? ⟨b2, o2 + i, none⟩ = some (.int .i64 (own[i]?.getD 0)) := by
        rw [hwr, cell?_putRow_other _ _ _ _ _ _ (by simp [part_len l1 l2 hi]; omega)]
        exact cb0
      have ra := R1.out _ (getD_memL (d := 0) (show i < row.length by omega))
      have rb := R2.out _ (getD_memL (d := 0) (show i < own.length by omega))
      have Hps := hid (part_succ (p := p) (c := c) l1 l2 hlt)
      have hpl := part_len (p := p) (c := c) l1 l2 hi
      obtain ⟨a, ha⟩ : ∃ a, a = row[i]?.getD 0 := ⟨_, rfl⟩
      obtain ⟨b, hb⟩ : ∃ b, b = own[i]?.getD 0 := ⟨_, rfl⟩
      rw [← ha] at ca ra Hps
      rw [← hb] at cb rb Hps
      rw [← HX.out, ← HY.out, ← HT.out] at Hps
      have hm := small_mul' hp htr rb
      obtain ⟨v, hv⟩ : ∃ v, v = (a + (p - t) * b) % p := ⟨_, rfl⟩
      rw [← hv] at Hps
      have hrem : (a + (p - t) * b).tmod p = v := by rw [hv, Int.tmod_eq_emod_of_nonneg (by omega)]
      have hadd : IntKind.i64.wrap (a + (p - t) * b) = a + (p - t) * b := IntWalk.i64_in _ (by omega)
      have hmul : IntKind.i64.wrap ((p - t) * b) = (p - t) * b := IntWalk.i64_in _ (by omega)
      have hsub : IntKind.i64.wrap (p - t) = p - t := IntWalk.i64_in _ (by omega)
      have hi0 : (0 : Int) ≤ (i : Int) := by omega
      have hi1 : (i : Int) < (w : Int) := by omega
      have A : Aside (wr = putRow encI (Sort.ahead W m) b1 o1 (part p c row own i).toArray) := hwr
      clear hwr hHk ha hb hv cb0 hm
      go_wp2_with fail
      go_region
      go_wp2
      go_roundg (w - (i + 1))
      case measure => omega
      case rel => exact ⟨i + 1, m + 1, by go_num, by omega, Nat.le_refl _, by rw [Hps.out, ← putRow_at _ _ _ _ _ _ _ (by rw [hpl]; exact hlt), ← ahead_drew, ← putRow_drew, ← A.out]; rfl⟩
    · go_wp2
      go_end0
      obtain rfl : i = w := by omega
      exact ⟨⟨_, rfl⟩, m, by rw [part_all l1 l2]⟩

end Go.Proofs.Ytplcbiconfpmlaa

/-! newRows: rows of zeros in one table. -/
namespace Go.Proofs.Ytplcbiconfpmlaa
open Go.RowKit
open Go.Sort hiding Below

theorem info_rows : (Try.prog.info? 22).map (fun i => (i.zero, i.size, i.bytes)) = some (some (.slice none 0 0), 1, 24) := by kernel_rfl

/-- 'make([][]int64, n)'. -/
theorem make_rows {w : World} {ops : Array Oper} {rest : List Oper} {o : Oper} {a : Act} {Q : Exit → Act → World → Prop} (hgd : o.guard = none) {l c : Operand} (hop : o.op = Op.makeSlice 109 l c)
    {n : Nat} (hl : a.eval l = .int .i64 (n : Int)) (hc : a.eval c = .int .i64 (n : Int)) (hn : n ≤ 1048576)
    (hK : ∀ w', w'.ownsRow w.heap.size 22 1 (.slice (some ⟨w.heap.size, 0, none⟩) n n) n (List.replicate n (Value.slice none 0 0)) → w.grownBy w' none → Below w.heap.size w w' →
      wpList Try.prog ops Q rest (a.put o.dst (.slice (some ⟨w.heap.size, 0, none⟩) n n)) w') :
    wpList Try.prog ops Q (o :: rest) a w := by
  obtain ⟨i0, hi, hz0, hz1, hz2⟩ := info_parts info_rows
  refine wpList_make_full w hgd l c 109 hop w.heap.size 22 i0 (.slice none 0 0) 1 Try.underlying109 hi hz0 hz1 .i64 .i64 _ _ n hl hc rfl rfl (by rw [hz2]; omega) (by unfold maxLen; omega) (Nat.le_refl _) ?_
  intro w' hown hg
  have e : (madeCells (Value.slice none 0 0).cells (n * 1)).toList = List.replicate n (Value.slice none 0 0) := by
    rw [Nat.mul_one]
    exact toList_madeCells_one _ _
  rw [e] at hown
  exact hK w' hown hg ((Below.refl _ w).grown hg (Nat.le_refl _) (fun k hk => by cases hk))

theorem owned_block {w : World} {base e b n m cap : Nat} {xs : List Value} (h : w.ownsRow base e 1 (.slice (some ⟨b, 0, none⟩) m cap) n xs) : ∃ cur, w.heap[b]? = some (.cells cur e (0, 0)) ∧ cur.toList.take n = xs ∧ base ≤ b := by
  rcases h.2 with ⟨h0, _⟩ | ⟨g, cap', cur, hv, hg, hh, _, _, _, h4⟩
  · cases h0
  · cases hv
    exact ⟨cur, hh, by simpa using h4, hg⟩

/-- The rows' slices, the first i of them laid. -/
def prefV (T w n i : Nat) : List Value := (List.range n).map fun k => if k < i then .slice (some ⟨T, k * w, none⟩) w w else .slice none 0 0
theorem prefV_len (T w n i : Nat) : (prefV T w n i).length = n := by simp [prefV]
theorem prefV_zero (T w n : Nat) : prefV T w n 0 = List.replicate n (Value.slice none 0 0) := by unfold prefV; simp; exact (List.map_const' ..).trans (by simp)
theorem prefV_succ {T w n i : Nat} (hi : i < n) : prefV T w n (i + 1) = (prefV T w n i).set i (.slice (some ⟨T, i * w, none⟩) w w) := by
  apply List.ext_getElem?
  intro k
  by_cases hk : k < n
  · by_cases e : i = k
    · subst e
      rw [List.getElem?_set_self (by rw [prefV_len]; exact hi)]
      simp [prefV, hi]
    · rw [List.getElem?_set_ne e]
      simp only [prefV, List.getElem?_map, List.getElem?_range hk, Option.map_some]
      congr 1
      by_cases h : k < i
      · rw [if_pos h, if_pos (by omega)]
      · rw [if_neg h, if_neg (by omega)]
  · rw [List.getElem?_eq_none (by rw [prefV_len]; omega), List.getElem?_eq_none (by rw [List.length_set, prefV_len]; omega)]
theorem prefV_get {T w n i k : Nat} (hk : k < n) : (prefV T w n i)[k]?.getD undef = if k < i then .slice (some ⟨T, k * w, none⟩) w w else .slice none 0 0 := by
  simp [prefV, hk]

abbrev encV (v : Value) : Value := v

theorem holdsV_of_block {w : World} {g : Nat} {cur : Array Value} {e : TypeId} {ss : List Value} (hb : w.heap[g]? = some (.cells cur e (0, 0))) (ht : cur.toList.take ss.length = ss) : Holds encV w g 0 ss.toArray := by
  intro j hj
  have hj' : j < ss.length := by simpa using hj
  refine ⟨?_, by simp [World.frozen?, hb]⟩
  have h1 : (cur.toList.take ss.length)[j]? = ss[j]? := by rw [ht]
  rw [List.getElem?_take_of_lt hj'] at h1
  simp only [World.cell?, hb, Nat.zero_add]
  simp only [Option.isSome_none, Bool.false_eq_true, if_false]
  rw [← Array.getElem?_toList, h1]
  simp [hj', encV]

theorem holdsV_at {w : World} {blk : Nat} {l : List Value} (h : Holds encV w blk 0 l.toArray) {i : Nat} (hi : i < l.length) : w.cell? ⟨blk, i, none⟩ = some (l[i]?.getD undef) ∧ w.frozen? ⟨blk, i, none⟩ = false := by
  have := h i (by simpa using hi)
  rw [Nat.zero_add] at this
  refine ⟨this.1.trans ?_, this.2⟩
  simp only [encV]
  rw [getElem!_pos l.toArray i (by simpa using hi), List.getElem?_eq_getElem hi]
  simp

def tableA (T w n : Nat) : Ads := (List.range n).map fun k => (T, k * w)
theorem tableA_at {T w n k : Nat} (hk : k < n) : adr (tableA T w n) k = (T, k * w) := by simp [adr, tableA, hk]

theorem mul_fit1 {i w lo : Nat} (h : lo = i * w) (hb : lo ≤ 1000000) : wrap64 ((i : Int) * (w : Int)) = (lo : Int) := by
  rw [show ((i : Int) * (w : Int)) = (lo : Int) by rw [h]; simp]
  exact IntWalk.wrap64_in _ ⟨by omega, by omega⟩
theorem mul_fit2 {i w lo : Nat} (h : lo = i * w) (hb : lo + w ≤ 1000000) : wrap64 (((i : Int) + 1) * (w : Int)) = (lo : Int) + (w : Int) := by
  rw [show (((i : Int) + 1) * (w : Int)) = (lo : Int) + (w : Int) by rw [h, Int.add_mul]; simp]
  exact IntWalk.wrap64_in _ ⟨by omega, by omega⟩

set_option maxRecDepth 100000 in
set_option maxHeartbeats 2000000 in
theorem newRows_any (n w : Nat) (W : World) (hn : n ≤ 1000) (hw : w ≤ 1000) :
    Calls Try.prog 173 #[.int .i64 (n : Int), .int .i64 (w : Int)] W fun e W' => ∃ R ad, e = .returned (.slice (some ⟨R, 0, none⟩) n n) ∧ MatW W' W.heap.size R n w ad (List.replicate n (List.replicate w 0)) ∧ Below W.heap.size W W' := by
  have hnw : n * w ≤ 1000000 := Nat.le_trans (Nat.mul_le_mul hn hw) (by omega)
  have hmul : wrap64 ((n : Int) * (w : Int)) = ((n * w : Nat) : Int) := by
    rw [show ((n : Int) * (w : Int)) = ((n * w : Nat) : Int) by simp]
    exact IntWalk.wrap64_in _ ⟨by omega, by omega⟩
  obtain ⟨N, hN⟩ : ∃ N, N = n * w := ⟨_, rfl⟩
  rw [← hN] at hmul hnw
  have HN := hid hN
  clear hN
  go_enter Try.func173, Try.ntmps173
  go_wp2_with (first
    | (refine make_int rfl rfl (n := N) (by first | rfl | (simp only [hmul]; rfl)) (by first | rfl | (simp only [hmul]; rfl)) (by omega) ?_; intro w1 hown1 hg1 hB1)
    | (refine make_rows rfl rfl (n := n) rfl rfl (by omega) ?_; intro w2 hown2 hg2 hB2))
  obtain ⟨cT, hT, hT4, hTb⟩ := owned_block hown1
  obtain ⟨cR, hR, hR4, hRb⟩ := owned_block hown2
  have hTlt := lt_of_get hT
  have hT2 := (hB2.block _ hTlt).trans hT
  have HT := hid (holds_of_blockI hT2 (ss := List.replicate N 0) (by simpa using hT4))
  have HR := hid (holdsV_of_block hR (ss := List.replicate n (Value.slice none 0 0)) (by simpa using hR4))
  have HB := hid (hB1.trans (hB2.mono hB1.size))
  have hRlt := lt_of_get hR
  have hTR : W.heap.size < w1.heap.size := hTlt
  clear hown1 hown2 hg1 hg2 hB1 hB2 hT hR hT2 hT4 hR4 hmul
  go_loopw [16] (fun s16 wx => ∃ (i : Nat), s16 = .int .i64 i ∧ i ≤ n ∧ Aside (wx = putRow encV w2 w1.heap.size 0 (prefV W.heap.size w n i).toArray)) (fun s16 _ => n - (intOf s16).toNat)
  case atStart => exact ⟨0, rfl, Nat.zero_le _, by rw [prefV_zero]; exact (Sort.putRow_self encV w2 _ _ _ HR.out).symm⟩
  case round =>
    obtain ⟨i, rfl, hi, A⟩ := hrel
    by_cases hlt : i < n
    · have hi0 : (0 : Int) ≤ (i : Int) := by omega
      have hi1 : (i : Int) < (n : Int) := by omega
      have hH : Holds encV wr w1.heap.size 0 (prefV W.heap.size w n i).toArray := by rw [A.out]; exact Sort.holds_putRow encV _ _ _ _ _ HR.out (by simp [prefV_len])
      obtain ⟨ci, fi⟩ := holdsV_at hH (i := i) (by rw [prefV_len]; exact hlt)
      obtain ⟨lo, hlo⟩ : ∃ lo, lo = i * w := ⟨_, rfl⟩
      have hhi : lo + w ≤ N := by
        rw [HN.out, hlo, ← Nat.succ_mul]
        exact Nat.mul_le_mul_right _ hlt
      have Hlo := hid hlo
      have hlo0 : (0 : Int) ≤ (lo : Int) := by omega
      have hw0 : (0 : Int) ≤ (w : Int) := by omega
      have hlw : (lo : Int) ≤ (lo : Int) + (w : Int) := by omega
      have hhiI : (lo : Int) + (w : Int) ≤ (N : Int) := by omega
      have hlb : lo ≤ 1000000 := by omega
      have hlw2 : lo + w ≤ 1000000 := by omega
      have hm1 : wrap64 ((i : Int) * (w : Int)) = (lo : Int) := mul_fit1 hlo hlb
      have hm2 : wrap64 (((i : Int) + 1) * (w : Int)) = (lo : Int) + (w : Int) := mul_fit2 hlo hlw2
      have Hsucc := hid (prefV_succ (T := W.heap.size) (w := w) hlt)
      rw [← hlo] at Hsucc
      have Haddr : Hid ((if w = 0 then some (⟨W.heap.size, 0, none⟩ : Addr) else some ⟨W.heap.size, lo, none⟩) = some ⟨W.heap.size, lo, none⟩) := hid (by
        split
        · rename_i h; rw [hlo, h]; rfl
        · rfl)
      have Hni : Hid ((i : Int) < (n : Int)) := hid hi1
      clear hlo hH hlb hlw2
      go_wp2
      clear hm1 hm2
      go_roundw
      case rel =>
        refine ⟨i + 1, by go_num, by omega, ?_⟩
        rw [Haddr.out, Hsucc.out, A.out]
        have := putRow_set encV w2 w1.heap.size 0 (prefV W.heap.size w n i).toArray i (.slice (some ⟨W.heap.size, lo, none⟩) w w) (by simp [prefV_len]; exact hlt)
        rw [Nat.zero_add] at this
        simp only [encV] at this
        unfold Aside
        rw [this]
        simp
      case measure => simp [intOf]; omega
    · obtain rfl : i = n := by omega
      have hH : Holds encV wr w1.heap.size 0 (prefV W.heap.size w i i).toArray := by rw [A.out]; exact Sort.holds_putRow encV _ _ _ _ _ HR.out (by simp [prefV_len])
      have Hk : Hid (∀ b, b ≠ w1.heap.size → wr.heap[b]? = w2.heap[b]?) := hid (fun b hb => by
        have hb' : w1.heap.size ≠ b := fun e => hb e.symm
        rw [A.out]; simp [putRow, mapBlock, Array.getElem?_modify, hb'])
      have Hsz : Hid (wr.heap.size = w2.heap.size) := hid (by rw [A.out]; simp)
      have HM : Hid (MatW wr W.heap.size w1.heap.size i w (tableA W.heap.size w i) (List.replicate i (List.replicate w 0))) := hid {
        len := by simp
        adl := by simp [tableA]
        wid := fun k hk => by simp [hk]
        hd := fun k hk => by
          obtain ⟨h1, h2⟩ := holdsV_at hH (i := k) (by rw [prefV_len]; exact hk)
          rw [prefV_get hk, if_pos hk] at h1
          rw [tableA_at hk]
          exact ⟨h1, h2⟩
        row := fun k hk => by
          rw [tableA_at hk]
          have hkw : k * w + w ≤ N := by
            rw [HN.out, ← Nat.succ_mul]
            exact Nat.mul_le_mul_right _ hk
          intro j hj
          simp [hk] at hj
          have := HT.out (k * w + j) (by simp; omega)
          rw [Nat.zero_add] at this
          simp only [World.cell?, World.frozen?] at this ⊢
          rw [Hk.out _ (by omega)]
          refine ⟨this.1.trans ?_, this.2⟩
          simp [encI, hk, getElem!_pos, hj, show k * w + j < N by omega]
        apart := fun a b ha hb hab => by
          rw [tableA_at ha, tableA_at hb]
          refine .inr ?_
          simp only
          rcases Nat.lt_or_gt_of_ne hab with h | h
          · left; rw [← Nat.succ_mul]; exact Nat.mul_le_mul_right _ h
          · right; rw [← Nat.succ_mul]; exact Nat.mul_le_mul_right _ h
        off := fun k hk => by rw [tableA_at hk]; simp only; omega
        base := fun k hk => by rw [tableA_at hk, Hsz.out]; simp only; exact ⟨Nat.le_refl _, by omega⟩
        head := by rw [Hsz.out]; exact ⟨by omega, hRlt⟩ }
      have HB2 : Hid (Go.RowKit.Below W.heap.size W wr) := hid (HB.out.trans ⟨by rw [A.out]; rfl, by rw [A.out]; rfl, by rw [A.out]; rfl, by rw [Hsz.out]; exact Nat.le_refl _, fun k hk => Hk.out k (by omega)⟩)
      clear hH
      go_wp2
      go_ret
      exact ⟨_, _, rfl, HM.out, HB2.out⟩

end Go.Proofs.Ytplcbiconfpmlaa

/-! The model's l03Rows. -/
namespace Go.Proofs.Ytplcbiconfpmlaa
open Go.RowKit
open Go.Sort hiding Below

/-- 'out = append(out, row)'. -/
theorem append_row {w : World} {ops : Array Oper} {rest : List Oper} {o : Oper} {a : Act} {Q : Exit → Act → World → Prop} (hgd : o.guard = none) {s y : Operand}
    (ho : o.op = .call { callee := .builtin .append, args := #[s, y], argTypes := #[109, 109] })
    {base : Nat} {v : Value} {xs : List Value} {T n : Nat} (hown : w.ownsRow base 22 1 v xs.length xs) (hbase : base ≤ w.heap.size) (hl : xs.length ≤ 1048576)
    (hs : a.eval s = v) (hy : a.eval y = .slice (some ⟨w.heap.size, 0, none⟩) 1 1)
    (hK : ∀ v' w', w'.ownsRow base 22 1 v' (xs ++ [Value.slice (some ⟨T, 0, none⟩) n n]).length (xs ++ [Value.slice (some ⟨T, 0, none⟩) n n]) → w.grownBy w' v.ownBlock → Below base w w' → wpList Try.prog ops Q rest (a.put o.dst v') w') :
    wpList Try.prog ops Q (o :: rest) a (w.alloc (.cells #[.slice (some ⟨T, 0, none⟩) n n] 22)) := by
  obtain ⟨i0, hi, hz0, hz1, hz2⟩ := info_parts info_rows
  refine wpList_append_own _ hgd s y 109 ho base 22 i0 (.slice none 0 0) 1 24 Try.underlying109 hi hz0 hz1 hz2 rfl (by decide) v _ _ hs (hown.alloc _) ⟨w.heap.size, 0, none⟩ 1 1 [.slice (some ⟨T, 0, none⟩) n n] hy rfl (cell_one_new _ _ _) (by simp [Value.oneCell']) (by unfold maxLen; omega) (by omega) (by simp; omega) ?_
  intro v' w1 hown1 hgrow1 _
  have hg : w.grownBy w1 v.ownBlock := (World.grownBy_alloc w _ _).trans hgrow1
  refine hK v' w1 (by simpa using hown1) hg ((Below.refl base w).grown hg hbase (fun k hk => (hown.lt k hk).1))

/-- The model's rows, the first k of them laid; row i in block Ts i. -/
def slT (wd : Nat) (T : Nat) : Value := .slice (some ⟨T, 0, none⟩) wd wd
structure RowsW (W0 W : World) (base wd : Nat) (Ts : List Nat) (rows : List (List Int)) (v : Value) : Prop where
  below : Below base W0 W
  len : Ts.length = rows.length
  out : W.ownsRow base 22 1 v (Ts.map (slT wd)).length (Ts.map (slT wd))
  row : ∀ i, i < Ts.length → (rows[i]?.getD []).length = wd ∧ W.ownsRow base 2 1 (slT wd (Ts[i]?.getD 0)) wd ((rows[i]?.getD []).map (Value.int .i64))
  nodup : Ts.Nodup
  lt : ∀ T ∈ Ts, T < W.heap.size

/-- Whatever keeps all that lay. -/
theorem RowsW.later {W0 W W' : World} {base wd : Nat} {Ts : List Nat} {rows : List (List Int)} {v : Value} (h : RowsW W0 W base wd Ts rows v) (hb : Below W.heap.size W W') (hs : base ≤ W.heap.size) : RowsW W0 W' base wd Ts rows v where
  below := h.below.trans (hb.mono hs)
  len := h.len
  out := ownsRow_below h.out hb (fun g hg => (h.out.lt g hg).2)
  row := fun i hi => ⟨(h.row i hi).1, ownsRow_below (h.row i hi).2 hb (fun g hg => ((h.row i hi).2.lt g hg).2)⟩
  nodup := h.nodup
  lt := fun T hT => Nat.lt_of_lt_of_le (h.lt T hT) hb.size

/-- A further row: laid in block T beyond all that lay. -/
theorem RowsW.snoc {W0 W W' : World} {base wd T : Nat} {Ts : List Nat} {rows : List (List Int)} {v v' : Value} {row : List Int} (h : RowsW W0 W base wd Ts rows v) (hl : row.length = wd) (hT : T ∉ Ts)
    (hrow : W.ownsRow base 2 1 (slT wd T) wd (row.map (Value.int .i64)))
    (hown : W'.ownsRow base 22 1 v' (Ts.map (slT wd) ++ [slT wd T]).length (Ts.map (slT wd) ++ [slT wd T])) (hg : W.grownBy W' v.ownBlock) (hb : Below base W W') : RowsW W0 W' base wd (Ts ++ [T]) (rows ++ [row]) v' := by
  have hkeep : ∀ {T' : Nat} {r : List Int}, W.ownsRow base 2 1 (slT wd T') wd (r.map (Value.int .i64)) → W'.ownsRow base 2 1 (slT wd T') wd (r.map (Value.int .i64)) := by
    intro T' r hr
    refine hr.kept hg (.inr (fun e => ?_))
    obtain ⟨cur, hh, _, _⟩ := owned_block hr
    exact row_ne h.out hh (by decide) e
  refine ⟨h.below.trans hb, by simp [h.len], by simpa using hown, ?_, ?_, ?_⟩
  · intro i hi
    by_cases hlt : i < Ts.length
    · rw [List.getElem?_append_left (by rw [← h.len]; exact hlt), List.getElem?_append_left hlt]
      exact ⟨(h.row i hlt).1, hkeep (h.row i hlt).2⟩
    · obtain rfl : i = Ts.length := by simp at hi; omega
      rw [List.getElem?_append_right (Nat.le_refl _), List.getElem?_append_right (by rw [h.len]; exact Nat.le_refl _), h.len]
      simp only [Nat.sub_self, List.getElem?_cons_zero, Option.getD_some]
      exact ⟨hl, hkeep hrow⟩
  · rw [List.nodup_append]
    exact ⟨h.nodup, by simp, fun a ha b hb e => by simp at hb; subst hb; subst e; exact hT ha⟩
  · intro U hU
    rcases List.mem_append.1 hU with h1 | h1
    · exact Nat.lt_of_lt_of_le (h.lt U h1) hb.size
    · simp at h1
      subst h1
      have := (hrow.lt U rfl).2
      exact Nat.lt_of_lt_of_le this hb.size

/-- The rows as a matrix. -/
theorem RowsW.mat {W0 W : World} {base wd : Nat} {Ts : List Nat} {rows : List (List Int)} {R m cap : Nat} (h : RowsW W0 W base wd Ts rows (.slice (some ⟨R, 0, none⟩) m cap)) : MatW W base R rows.length wd (Ts.map fun T => (T, 0)) rows := by
  obtain ⟨cur, hR, ht, hb⟩ := owned_block h.out
  have hH := holdsV_of_block hR (ss := Ts.map (slT wd)) ht
  have ha : ∀ i, i < Ts.length → adr (Ts.map fun T => (T, 0)) i = (Ts[i]?.getD 0, 0) := fun i hi => by simp [adr, hi]
  have hTm : ∀ i, i < Ts.length → Ts[i]?.getD 0 ∈ Ts := fun i hi => by rw [List.getElem?_eq_getElem hi]; simp
  have hle := h.len
  refine ⟨rfl, by simp [h.len], fun i hi => (h.row i (by omega)).1, ?_, ?_, ?_, ?_, ?_, ⟨hb, lt_of_get hR⟩⟩
  · intro i hi
    rw [ha i (by omega)]
    have h2 := holdsV_at hH (i := i) (by simp; omega)
    have : (Ts.map (slT wd))[i]?.getD undef = slT wd (Ts[i]?.getD 0) := by simp [show i < Ts.length by omega]
    rw [this] at h2
    exact h2
  · intro i hi
    rw [ha i (by omega)]
    obtain ⟨c2, hT, ht2, _⟩ := owned_block (h.row i (by omega)).2
    have hl := (h.row i (by omega)).1
    exact holds_of_blockI hT (by rw [hl]; exact ht2)
  · intro i k hi hk hik
    rw [ha i (by omega), ha k (by omega)]
    refine .inl (fun e => hik ?_)
    simp only at e
    rw [List.getElem?_eq_getElem (by omega : i < Ts.length), List.getElem?_eq_getElem (by omega : k < Ts.length)] at e
    simp only [Option.getD_some] at e
    exact (List.getElem_inj h.nodup).1 e
  · intro i hi
    rw [ha i (by omega)]
    intro e
    simp only at e
    obtain ⟨c2, hT, _, _⟩ := owned_block (h.row i (by omega)).2
    rw [e, hR] at hT
    injection hT with hT
    injection hT with _ ht _
    exact absurd ht (by decide)
  · intro i hi
    rw [ha i (by omega)]
    have := (h.row i (by omega)).2.lt (Ts[i]?.getD 0) rfl
    exact this

/-- .. with the lists of faces and sides. -/
structure RowsX (W0 W : World) (base wd : Nat) (Ts : List Nat) (rows : List (List Int)) (v q1 q2 : Value) (F S : List Int) : Prop where
  main : RowsW W0 W base wd Ts rows v
  oF : W.ownsRow base 2 1 q1 F.length (F.map (Value.int .i64))
  oS : W.ownsRow base 2 1 q2 S.length (S.map (Value.int .i64))
  size : base ≤ W.heap.size

theorem RowsX.later {W0 W W' : World} {base wd : Nat} {Ts : List Nat} {rows : List (List Int)} {v q1 q2 : Value} {F S : List Int} (h : RowsX W0 W base wd Ts rows v q1 q2 F S) (hb : Below W.heap.size W W') : RowsX W0 W' base wd Ts rows v q1 q2 F S :=
  ⟨h.main.later hb h.size, ownsRow_below h.oF hb (fun g hg => (h.oF.lt g hg).2), ownsRow_below h.oS hb (fun g hg => (h.oS.lt g hg).2), Nat.le_trans h.size hb.size⟩

theorem RowsX.snoc {W0 W W' : World} {base wd T : Nat} {Ts : List Nat} {rows : List (List Int)} {v v' q1 q2 : Value} {F S row : List Int} (h : RowsX W0 W base wd Ts rows v q1 q2 F S) (hl : row.length = wd) (hT : T ∉ Ts)
    (hrow : W.ownsRow base 2 1 (slT wd T) wd (row.map (Value.int .i64)))
    (hown : W'.ownsRow base 22 1 v' (Ts.map (slT wd) ++ [slT wd T]).length (Ts.map (slT wd) ++ [slT wd T])) (hg : W.grownBy W' v.ownBlock) (hb : Below base W W') : RowsX W0 W' base wd (Ts ++ [T]) (rows ++ [row]) v' q1 q2 F S := by
  have hkeep : ∀ {q : Value} {r : List Int}, W.ownsRow base 2 1 q r.length (r.map (Value.int .i64)) → W'.ownsRow base 2 1 q r.length (r.map (Value.int .i64)) := by
    intro q r hr
    refine hr.kept hg ?_
    cases hq : q.ownBlock with
    | none => exact .inl rfl
    | some b =>
      refine .inr (fun e => ?_)
      rcases hr.2 with ⟨h0, _⟩ | ⟨g, cap, cur, hv, _, hh, _⟩
      · rw [h0] at hq; simp [Value.ownBlock] at hq
      · rw [hv] at hq
        simp [Value.ownBlock] at hq
        subst hq
        exact row_ne h.main.out hh (by decide) e
  exact ⟨h.main.snoc hl hT hrow hown hg hb, hkeep h.oF, hkeep h.oS, Nat.le_trans h.size hb.size⟩

/-- At address a, in a block beyond T, lie the integers xs. -/
def SlA (w : World) (T : Nat) (a : Option Addr) (xs : List Int) : Prop :=
  xs = [] ∨ ∃ b off, T < b ∧ b < w.heap.size ∧ a = some ⟨b, off, none⟩ ∧ ∀ i, i < xs.length → w.cell? ⟨b, off + i, none⟩ = some (.int .i64 (xs[i]?.getD 0))
theorem slA_of {w : World} {base e T : Nat} {a : Option Addr} {n m cap : Nat} {xs : List Int} (h : w.ownsRow base e 1 (.slice a m cap) n (xs.map (Value.int .i64))) (hT : T < base) : SlA w T a xs := by
  have hs := owned_slI h
  rcases hs with rfl | ⟨b, off, hb, rfl, hc⟩
  · exact .inl rfl
  · rcases h.2 with ⟨h0, _⟩ | ⟨g, cap', cur, hv, hg, _⟩
    · cases h0
    · injection hv with e1 _ _
      injection e1 with e1
      injection e1 with e1 e2 _
      exact .inr ⟨b, off, by omega, hb, rfl, hc⟩
theorem SlA.later {w w' : World} {T : Nat} {a : Option Addr} {xs : List Int} (h : SlA w T a xs) (hb : Below w.heap.size w w') : SlA w' T a xs := by
  rcases h with rfl | ⟨b, off, h1, h2, rfl, hc⟩
  · exact .inl rfl
  · exact .inr ⟨b, off, h1, Nat.lt_of_lt_of_le h2 hb.size, rfl, fun i hi => (hb.cell (p := ⟨b, off + i, none⟩) h2).trans (hc i hi)⟩

theorem grow_none (w : World) : Sort.grow w #[] = w := by cases w; simp [Sort.grow]
theorem row_put {w5 : World} {base T wd : Nat} (m : Nat) {row : List Int} (h : w5.ownsRow base 2 1 (slT wd T) wd ((List.replicate wd (0 : Int)).map (Value.int .i64))) (hl : row.length = wd) :
    (putRow encI (Sort.ahead w5 m) T 0 row.toArray).ownsRow base 2 1 (slT wd T) wd (row.map (Value.int .i64)) := by
  rcases h.2 with ⟨h0, _⟩ | ⟨g, cap, cur, hv, hg, hh, h1, h2, h3, _⟩
  · cases h0
  · cases hv
    have := ownsRow_sortedI (n := m) (os := #[]) (ss := List.replicate wd (0 : Int)) (ts := row) (by simp [hl]) hg hh (by simp) h2 h3
    rw [grow_none, List.length_replicate] at this
    exact this
theorem below_row {w5 w0 : World} {T : Nat} (m : Nat) (row : List Int) (h : Below T w0 w5) : Below T w0 (putRow encI (Sort.ahead w5 m) T 0 row.toArray) := by
  refine ⟨h.os, h.tape, h.output, by simpa using h.size, fun k hk => ?_⟩
  have : T ≠ k := by omega
  rw [← h.block k hk]
  simp [putRow, mapBlock, Sort.ahead, Array.getElem?_modify, this]
theorem wp_tail {P : Program} {id : Nat} {Q : Exit → Act → World → Prop} {a : Act} {w : World} {l : List Oper} (n : Nat) (hm : P.follows .mixedOrders = true) (hB : Region.lexTailB .any l.toArray n = true)
    (h : wpStill P l.toArray w.drew (fun a' => wpList P l.toArray Q (l.drop n) a' w.drew) (l.take n) a) : (Code.region id l.toArray true).wp P Q a w := wp_region_still_tail n hm hB h
theorem PI_of (a : Option Addr) (cap : Nat) (xs : List Int) (x : Int) (w : World) (B : Nat) (hx : SlI w B a xs) (hB : B ≤ w.heap.size) (hl : xs.length ≤ 1048576) (hm : x ∈ xs) :
    Calls Try.prog 202 #[.slice a xs.length cap, .int .i64 x] w fun e w' => e = .returned (.int .i64 (xs.idxOf x : Int)) ∧ w' = w :=
  (place_at a cap xs x w (hx.mono hB) hl hm).mono fun _ _ ⟨he, hw⟩ => ⟨he, hw.symm⟩
theorem take_snocL {α : Type} {l : List α} {j : Nat} (hj : j < l.length) : l.take (j + 1) = l.take j ++ [l[j]] := by rw [List.take_succ_eq_append_getElem hj]

theorem rowsX_start {w W : World} {wd bo : Nat} {q1 q2 : Value} {F S : List Int} (hb : Below w.heap.size w W) (hh : W.heap[bo]? = some (.cells #[] 22 (0, 0))) (hbo : w.heap.size ≤ bo)
    (oF : W.ownsRow w.heap.size 2 1 q1 F.length (F.map (Value.int .i64))) (oS : W.ownsRow w.heap.size 2 1 q2 S.length (S.map (Value.int .i64))) : RowsX w W w.heap.size wd [] [] (.slice (some ⟨bo, 0, none⟩) 0 0) q1 q2 F S :=
  ⟨⟨hb, rfl, ⟨rfl, .inr ⟨bo, 0, #[], rfl, hbo, hh, Nat.le_refl _, by simp [maxLen], rfl, rfl⟩⟩, fun i hi => by simp at hi, List.nodup_nil, fun T hT => by simp at hT⟩, oF, oS, hb.size⟩

set_option maxRecDepth 1000000 in
set_option maxHeartbeats 4000000 in
theorem rowsS_any (V : Int) (a0 : Option Addr) (cap : Nat) (fs : List Int) (d p : Int) (w : World) (hx : SlI w w.heap.size a0 fs) (hl : fs.length ≤ 1048576) (hC : IsC V fs) (hp : p = 2 ∨ p = 3) (hd0 : 1 ≤ d) (hd1 : d ≤ 5) :
    Calls Try.prog 171 #[.agg #[.int .i64 V, .slice a0 fs.length cap], .int .i64 d, .int .i64 p] w fun e w' => ∃ R ad cp, e = .returned (.slice (some ⟨R, 0, none⟩) (ofDim fs d).length cp) ∧ MatW w' w.heap.size R (ofDim fs d).length (ofDim fs (d - 1)).length ad (bndM fs d p) ∧ Below w.heap.size w w' := by
  have hB0 : Below w.heap.size w (w.alloc (.cells #[.int .i64 V, .slice a0 fs.length cap] 28)) := (Below.refl _ w).alloc (Nat.le_refl _) _
  have hBd := below_drewN hB0 1
  have h63 := hC.len63
  have HF := hid (fun dd w' (h0 : 0 ≤ dd) (h5 : dd ≤ 5) (hw : Below w.heap.size w w') => of_any V a0 cap fs dd w' (hx.later hw hw.size) hl hC.range63 h0 h5)
  have hsub : IntKind.i64.wrap (d - 1) = d - 1 := IntWalk.i64_in _ (by omega)
  have HBd : Hid (Below w.heap.size w (w.alloc (.cells #[.int .i64 V, .slice a0 fs.length cap] 28)).drew) := hid hBd
  have HBs : Hid (Below w.heap.size w ((w.alloc (.cells #[.int .i64 V, .slice a0 fs.length cap] 28)).alloc (.cells #[] 22)).drew) := hid (below_drewN (hB0.alloc (by simp) (.cells #[] 22)) 1)
  have HC := hid hC
  have HP := hid hp
  have hF63 := ofDim_len fs d
  have hS63 := ofDim_len fs (d - 1)
  clear hx hB0 hBd hC hp
  go_enter Try.func171, Try.ntmps171
  go_wp2_with fail
  go_cut [7, 8, 9] from 15 to 22 (fun q1 q2 q3 wx => ∃ (a1 a2 : Option Addr) (c1 c2 bo : Nat), q1 = .slice a1 (ofDim fs d).length c1 ∧ q2 = .slice a2 (ofDim fs (d - 1)).length c2 ∧ q3 = .slice (some ⟨bo, 0, none⟩) 0 0 ∧ Hid (RowsX w wx w.heap.size (ofDim fs (d - 1)).length [] [] (.slice (some ⟨bo, 0, none⟩) 0 0) (.slice a1 (ofDim fs d).length c1) (.slice a2 (ofDim fs (d - 1)).length c2) (ofDim fs d) (ofDim fs (d - 1))))
  case first =>
    go_region_held3 (fun w' => w'.cell? ⟨w.heap.size, 0, none⟩ = some (.int .i64 V) ∧ w'.cell? ⟨w.heap.size, 1, none⟩ = some (.slice a0 fs.length cap)) (go_keep) (first
      | (go_at_call 115; refine (HF.out _ _ (by omega) (by omega) (by first | with_reducible exact HBd.out | with_reducible exact HBs.out)).mono ?_; rintro e w1 ⟨v1, rfl, hr1⟩; obtain ⟨_, a1, c1, rfl, _⟩ := ownsRow_slI hr1.1; have n0 : w1.cell? ⟨w.heap.size, 0, none⟩ = some (.int .i64 V) := (hr1.2.cell (p := ⟨w.heap.size, 0, none⟩) (by simp <;> omega)).trans (by simp [go_sem]); have n1 : w1.cell? ⟨w.heap.size, 1, none⟩ = some (.slice a0 fs.length cap) := (hr1.2.cell (p := ⟨w.heap.size, 1, none⟩) (by simp <;> omega)).trans (by simp [go_sem]); have hb1 : Below w.heap.size w w1 := (by first | exact HBd.out.trans (hr1.2.mono HBd.out.size) | exact HBs.out.trans (hr1.2.mono HBs.out.size)); have Hlt1 : Hid (w.heap.size < w1.heap.size) := hid (by have := hr1.2.size; simp at this; omega); have HB1s := hid (hb1.alloc hb1.size (.cells #[] 22)); have HB1 := hid hb1; have HR1 := hid hr1; clear hr1 hb1)
      | (go_at_call 115; have hz := HB1.out; clear HB1; refine (HF.out _ _ (by omega) (by omega) (by first | with_reducible exact hz | with_reducible exact HB1s.out)).mono ?_; rintro e w2 ⟨v2, rfl, hr2⟩; obtain ⟨_, a2, c2, rfl, _⟩ := ownsRow_slI hr2.1; have hzz := hr2.2.size; have o0 : w2.cell? ⟨w.heap.size, 0, none⟩ = some (.int .i64 V) := (hr2.2.cell (p := ⟨w.heap.size, 0, none⟩) (by first | exact Hlt1.out | (simp; have := Hlt1.out; omega))).trans (by first | assumption | exact n0 | exact cell_alloc0 n0 _); have o1 : w2.cell? ⟨w.heap.size, 1, none⟩ = some (.slice a0 fs.length cap) := (hr2.2.cell (p := ⟨w.heap.size, 1, none⟩) (by first | exact Hlt1.out | (simp; have := Hlt1.out; omega))).trans (by first | assumption | exact n1 | exact cell_alloc0 n1 _); have HR2 := hid hr2; have HB1 := hid hz; clear hr2 hz hzz))
    all_goals
      have hb12 : Below w1.heap.size w1 w2 := by first | exact HR2.out.2 | exact ((Below.refl _ w1).alloc (Nat.le_refl _) _).trans (HR2.out.2.mono (by simp))
      have hb2 : Below w.heap.size w w2 := HB1.out.trans (hb12.mono HB1.out.size)
      have o1 := ownsRow_base (base' := w.heap.size) (ownsRow_below HR1.out.1 hb12 (fun g hg => (HR1.out.1.lt g hg).2)) (by simp <;> omega)
      have o2 := ownsRow_base (base' := w.heap.size) HR2.out.1 (by have := HB1.out.size; simp <;> omega)
      have hs12 := hb2.size
      have Hb12 := hid hb12
      have Hb2 := hid hb2
      have O1 := hid o1
      have O2 := hid o2
      have hs1 : w.heap.size < w1.heap.size := Hlt1.out
      clear hb12 hb2 o1 o2
      go_wp2_with fail
      go_meet
      case rel => first
        | exact ⟨a1, a2, c1, c2, _, rfl, rfl, rfl, hid (rowsX_start (Hb2.out.alloc Hb2.out.size _) (heap_alloc_new w2 _) (by omega) (O1.out.alloc _) (O2.out.alloc _))⟩
        | exact ⟨a2, a1, c2, c1, _, rfl, rfl, rfl, hid (rowsX_start (Hb2.out.alloc Hb2.out.size _) (heap_alloc_new w2 _) (by omega) (O2.out.alloc _) (O1.out.alloc _))⟩
        | exact ⟨a1, a2, c1, c2, _, rfl, rfl, rfl, hid (rowsX_start Hb2.out ((HR2.out.2.block _ (by simp)).trans (heap_alloc_new w1 _)) (by omega) O1.out O2.out)⟩
        | exact ⟨a2, a1, c2, c1, _, rfl, rfl, rfl, hid (rowsX_start Hb2.out ((HR2.out.2.block _ (by simp)).trans (heap_alloc_new w1 _)) (by omega) O2.out O1.out)⟩
        | exact ⟨a1, a2, c1, c2, w.heap.size + 1, rfl, rfl, rfl, hid (rowsX_start Hb2.out ((Hb12.out.block _ (by have := HR1.out.2.size; simp at this; omega)).trans ((HR1.out.2.block _ (by simp)).trans (new2 w _ _))) (by omega) O1.out O2.out)⟩
        | exact ⟨a2, a1, c2, c1, w.heap.size + 1, rfl, rfl, rfl, hid (rowsX_start Hb2.out ((Hb12.out.block _ (by have := HR1.out.2.size; simp at this; omega)).trans ((HR1.out.2.block _ (by simp)).trans (new2 w _ _))) (by omega) O2.out O1.out)⟩
  case rest =>
    obtain ⟨a1, a2, c1, c2, bo, rfl, rfl, rfl, HX⟩ := hcut
    have hn63 : (ofDim fs d).length ≤ 63 := by omega
    have hw63 : (ofDim fs (d - 1)).length ≤ 63 := by omega
    clear HF HBd HBs hsub hF63 hS63
    go_wp2_with fail
    go_loopw [9, 10] (fun v i wr => ∃ (k R cp : Nat) (Ts : List Nat), v = .slice (some ⟨R, 0, none⟩) k cp ∧ i = .int .i64 k ∧ k ≤ (ofDim fs d).length ∧ Hid (RowsX w wr w.heap.size (ofDim fs (d - 1)).length Ts (((ofDim fs d).take k).map fun f => bndRow (ofDim fs (d - 1)) p (signedF f.toNat)) v (.slice a1 (ofDim fs d).length c1) (.slice a2 (ofDim fs (d - 1)).length c2) (ofDim fs d) (ofDim fs (d - 1)))) (fun _ i _ => (ofDim fs d).length - (intOf i).toNat)
    case atStart => exact ⟨0, bo, 0, [], rfl, rfl, Nat.zero_le _, HX⟩
    case round =>
      clear HX
      obtain ⟨k, R, cp, Ts, rfl, rfl, hk, HX⟩ := hrel
      by_cases hlt : k < (ofDim fs d).length
      · obtain ⟨b1, o1, hb1, rfl, hc1⟩ : ∃ b off, b < wr.heap.size ∧ a1 = some ⟨b, off, none⟩ ∧ ∀ i, i < (ofDim fs d).length → wr.cell? ⟨b, off + i, none⟩ = some (.int .i64 ((ofDim fs d)[i]?.getD 0)) := by
          rcases owned_slI HX.out.oF with h | h
          · rw [h] at hlt; simp at hlt
          · exact h
        obtain ⟨x, hxx⟩ : ∃ x, x = (ofDim fs d)[k]?.getD 0 := ⟨_, rfl⟩
        have hxm : x ∈ ofDim fs d := by rw [hxx]; exact getD_mem hlt
        have hxr := HC.out.range63 x (ofDim_mem.1 hxm).1
        have hck := hc1 k hlt
        rw [← hxx] at hck
        obtain ⟨f, rfl⟩ : ∃ f : Nat, x = f := ⟨x.toNat, by omega⟩
        have hf : f < 64 := by omega
        have hf0 : f ≠ 0 := by omega
        have Hsd := hid (fun x hx => side_in HC.out hxm (x := x) hx)
        rw [Int.toNat_natCast] at Hsd
        have Hrev := hid (bndRow_rev HC.out (ofDim_mem.1 hxm).1 (d - 1) p)
        rw [Int.toNat_natCast] at Hrev
        have Htk : Hid (((ofDim fs d).take (k + 1)).map (fun f => bndRow (ofDim fs (d - 1)) p (signedF f.toNat)) = ((ofDim fs d).take k).map (fun f => bndRow (ofDim fs (d - 1)) p (signedF f.toNat)) ++ [bndRow (ofDim fs (d - 1)) p (signedF f)]) := hid (by rw [take_snoc hlt, ← hxx, List.map_append]; simp)
        have hi0 : (0 : Int) ≤ (k : Int) := by omega
        have hi1 : (k : Int) < ((ofDim fs d).length : Int) := by omega
        have HS := hid (owned_slI HX.out.oS)
        clear hxx hxm hc1 hxr
        go_wp2_with (first
          | (refine make_int rfl rfl (n := (ofDim fs (d - 1)).length) rfl rfl (by omega) ?_; intro w3 hown3 hg3 hB3))
        have hck3 : w3.cell? ⟨b1, o1 + k, none⟩ = some (.int .i64 (f : Int)) := (hB3.cell (p := ⟨b1, o1 + k, none⟩) hb1).trans hck
        have hT3 := (hown3.lt wr.heap.size rfl).2
        have HB3 := hid hB3
        have Hown3 := hid (ownsRow_base hown3 HX.out.size)
        have HBl := hid (fun w' => below_int (f : Int) w' (by omega) (by omega))
        have HSg := hid (fun w' => signs_any f w' hf hf0)
        rw [Int.toNat_natCast] at HBl
        have hsb := signed_below ⟨f, hf⟩ hf0
        simp only at hsb
        rw [← hsb.1] at HBl
        rw [← hsb.2] at HSg
        clear hck hB3 hown3 hg3 hsb
        obtain ⟨rv, hrv⟩ : ∃ rv, rv = (signedF f).reverse := ⟨_, rfl⟩
        rw [← hrv] at HBl HSg Hrev
        have Hrv := hid hrv
        have hrl : rv.length ≤ 63 := by
          rw [hrv, List.length_reverse]
          unfold signedF
          rw [signedL_len]
          have := sides_len f 6
          unfold sidesF
          omega
        have hLm : ∀ g : Fin 64 × Int → Int, (rv.map g).length = rv.length := fun g => by simp
        clear hrv
        go_wp2_with fail
        go_cut [12, 13] from 32 to 41 (fun q1 q2 wx => ∃ (a4 a5 : Option Addr) (c4 c5 : Nat), q1 = .slice a4 rv.length c4 ∧ q2 = .slice a5 rv.length c5 ∧ Hid (SlA wx wr.heap.size a4 (rv.map fun x => ((x.1.val : Nat) : Int))) ∧ Hid (SlA wx wr.heap.size a5 (rv.map Prod.snd)) ∧ Hid (Below w3.heap.size w3 wx))
        case first =>
          clear hLm
          have hck3d : w3.drew.cell? ⟨b1, o1 + k, none⟩ = some (.int .i64 (f : Int)) := hck3
          have Hw3 : Hid (b1 < w3.drew.heap.size) := hid (by have := HB3.out.size; show b1 < w3.heap.size; omega)
          have HBl2 : Hid (∀ w', b1 < w'.heap.size → w'.cell? ⟨b1, o1 + k, none⟩ = some (.int .i64 (f : Int)) → Calls Try.prog 83 #[.int .i64 (f : Int)] w' fun e w'' => ∃ a c, e = .returned (.slice a rv.length c) ∧ w''.ownsRow w'.heap.size 2 1 (.slice a rv.length c) rv.length ((rv.map fun x => ((x.1.val : Nat) : Int)).map (Value.int .i64)) ∧ Below w'.heap.size w' w'' ∧ b1 < w''.heap.size ∧ w''.cell? ⟨b1, o1 + k, none⟩ = some (.int .i64 (f : Int))) := hid (fun w' h1 h2 => (HBl.out w').mono fun e w'' ⟨v, he, ho, hb⟩ => by
            obtain ⟨_, a, c, rfl, _⟩ := ownsRow_slI ho
            simp only [List.length_map] at he ho
            exact ⟨a, c, he, ho, hb, Nat.lt_of_lt_of_le h1 hb.size, (hb.cell (p := ⟨b1, o1 + k, none⟩) h1).trans h2⟩)
          have HSg2 : Hid (∀ w', b1 < w'.heap.size → w'.cell? ⟨b1, o1 + k, none⟩ = some (.int .i64 (f : Int)) → Calls Try.prog 201 #[.int .i64 (f : Int)] w' fun e w'' => ∃ a c, e = .returned (.slice a rv.length c) ∧ w''.ownsRow w'.heap.size 2 1 (.slice a rv.length c) rv.length ((rv.map Prod.snd).map (Value.int .i64)) ∧ Below w'.heap.size w' w'' ∧ b1 < w''.heap.size ∧ w''.cell? ⟨b1, o1 + k, none⟩ = some (.int .i64 (f : Int))) := hid (fun w' h1 h2 => (HSg.out w').mono fun e w'' ⟨v, he, ho, hb⟩ => by
            obtain ⟨_, a, c, rfl, _⟩ := ownsRow_slI ho
            simp only [List.length_map] at he ho
            exact ⟨a, c, he, ho, hb, Nat.lt_of_lt_of_le h1 hb.size, (hb.cell (p := ⟨b1, o1 + k, none⟩) h1).trans h2⟩)
          go_region_with (first
            | (go_at_call 83; refine (HBl2.out _ (by first | exact Hw3.out | exact Hw5.out) (by first | exact hck3d | exact hck5)).mono ?_; rintro e w4 ⟨a4, c4, rfl, ho4, hb4, hw4, hck4⟩; have HO4 := hid ho4; have HB4 := hid hb4; have Hw4 := hid hw4; clear ho4 hb4 hw4)
            | (go_at_call 201; refine (HSg2.out _ (by first | exact Hw3.out | exact Hw4.out) (by first | exact hck3d | exact hck4)).mono ?_; rintro e w5 ⟨a5, c5, rfl, ho5, hb5, hw5, hck5⟩; have HO5 := hid ho5; have HB5 := hid hb5; have Hw5 := hid hw5; clear ho5 hb5 hw5))
          all_goals
            have hTd : wr.heap.size < w3.drew.heap.size := hT3
            have hd3 : Below w3.heap.size w3 w3.drew := below_drewN (Below.refl _ w3) 1
            go_wp2_with fail
            go_meet
            case rel => first
              | exact ⟨a4, a5, c4, c5, rfl, rfl, hid ((slA_of HO4.out hTd).later HB5.out), hid (slA_of HO5.out (Nat.lt_of_lt_of_le hTd HB4.out.size)), hid (hd3.trans (HB4.out.trans (HB5.out.mono HB4.out.size)))⟩
              | exact ⟨a4, a5, c4, c5, rfl, rfl, hid (slA_of HO4.out (Nat.lt_of_lt_of_le hTd HB5.out.size)), hid ((slA_of HO5.out hTd).later HB4.out), hid (hd3.trans (HB5.out.trans (HB4.out.mono HB5.out.size)))⟩
        case rest =>
          obtain ⟨a4, a5, c4, c5, rfl, rfl, HP4, HP5, HB5⟩ := hcut
          obtain ⟨w5, rfl⟩ : ∃ w5 : World, w5 = wc := ⟨_, rfl⟩
          have HT5 : Hid (wr.heap.size < w5.heap.size) := hid (Nat.lt_of_lt_of_le hT3 HB5.out.size)
          have HO5 := hid (ownsRow_below Hown3.out HB5.out (fun g hg => (Hown3.out.lt g hg).2))
          have HBT : Hid (Below wr.heap.size wr w5) := hid (HB3.out.trans (HB5.out.mono HB3.out.size))
          have HH : Hid (Holds encI w5 wr.heap.size 0 (bndRow (ofDim fs (d - 1)) p (rv.take 0)).toArray) := hid (by
            obtain ⟨cur, hh, ht, _⟩ := owned_block HO5.out
            rw [List.take_zero, bndRow_nil _ HP.out]
            exact holds_of_blockI hh (by simpa using ht))
          clear HBl HSg Hown3 hck3 hT3
          go_wp2_with fail
          obtain ⟨wo, rfl⟩ : ∃ wo : World, wo = wr := ⟨_, rfl⟩
          go_loopw [14] (fun s14 wx => ∃ (j m : Nat), s14 = .int .i64 j ∧ j ≤ rv.length ∧ Aside (wx = putRow encI (Sort.ahead w5 m) wo.heap.size 0 (bndRow (ofDim fs (d - 1)) p (rv.take j)).toArray)) (fun s14 _ => rv.length - (intOf s14).toNat)
          case atStart => exact ⟨0, 0, rfl, Nat.zero_le _, (Sort.putRow_self encI w5 _ _ _ HH.out).symm⟩
          case round =>
            obtain ⟨j, m, rfl, hj, A⟩ := hrel
            have HBx : Hid (Below wo.heap.size wo wr) := hid (by rw [A.out]; exact below_row m _ HBT.out)
            by_cases hltj : j < rv.length
            · obtain ⟨x, hx⟩ : ∃ x, x = rv[j] := ⟨_, rfl⟩
              have hxm : x ∈ signedF f := by have := List.getElem_mem hltj; rw [← hx, Hrv.out] at this; simpa using this
              have hss := (signed_sub ⟨f, hf⟩ x hxm).2.2.2
              have hmS := Hsd.out x hxm
              have htk := take_snocL hltj
              rw [← hx] at htk
              have hnew : ∀ y ∈ rv.take j, y.1 ≠ x.1 := nodup_snoc (l := rv) (by rw [Hrv.out, List.map_reverse]; exact List.pairwise_reverse.2 ((signed_nodup ⟨f, hf⟩).imp (fun h e => h e.symm))) (by rw [← htk]; exact List.take_prefix _ _)
              have hst := bndRow_snoc (p := p) (S := ofDim fs (d - 1)) (L := rv.take j) (x := x) (ofDim_asc HC.out.asc _) (fun s hs => by have := HC.out.range63 s (ofDim_mem.1 hs).1; omega) hnew hmS
              rw [← htk] at hst
              have hil := List.idxOf_lt_length_of_mem hmS
              have hq := PI_of a2 c2 (ofDim fs (d - 1)) ((x.1.val : Nat) : Int) wr.drew wo.heap.size (HS.out.below (below_drewN HBx.out 1)) (by have := HBx.out.size; simp; omega) (by omega) hmS
              obtain ⟨q, hqq⟩ : ∃ q, q = (ofDim fs (d - 1)).idxOf ((x.1.val : Nat) : Int) := ⟨_, rfl⟩
              rw [← hqq] at hst hil hq
              have hHk : Holds encI wr wo.heap.size 0 (bndRow (ofDim fs (d - 1)) p (rv.take j)).toArray := by rw [A.out]; exact Sort.holds_putRow encI _ _ _ _ _ (Sort.holds_ahead encI _ m _ _ _ HH.out) (by simp [bndRow_len])
              obtain ⟨cst, fst_⟩ := holds_at hHk (i := q) (by rw [bndRow_len]; exact hil)
              rw [Nat.zero_add] at cst fst_
              have hoth : ∀ b o, wo.heap.size < b → wr.cell? ⟨b, o, none⟩ = w5.cell? ⟨b, o, none⟩ := fun b o hb => by
                rw [A.out, Sort.cell?_putRow_other _ _ _ _ _ _ (.inl (by simp only; omega))]
                rfl
              obtain ⟨b4, o4, hb4, _, rfl, hc4⟩ : ∃ b off, wo.heap.size < b ∧ b < w5.heap.size ∧ a4 = some ⟨b, off, none⟩ ∧ ∀ i, i < (rv.map fun x => ((x.1.val : Nat) : Int)).length → w5.cell? ⟨b, off + i, none⟩ = some (.int .i64 ((rv.map fun x => ((x.1.val : Nat) : Int))[i]?.getD 0)) := by
                rcases HP4.out with h | h
                · have := congrArg List.length h; simp at this; rw [this] at hltj; simp at hltj
                · exact h
              obtain ⟨b5, o5, hb5, _, rfl, hc5⟩ : ∃ b off, wo.heap.size < b ∧ b < w5.heap.size ∧ a5 = some ⟨b, off, none⟩ ∧ ∀ i, i < (rv.map Prod.snd).length → w5.cell? ⟨b, off + i, none⟩ = some (.int .i64 ((rv.map Prod.snd)[i]?.getD 0)) := by
                rcases HP5.out with h | h
                · have := congrArg List.length h; simp at this; rw [this] at hltj; simp at hltj
                · exact h
              have cpt := (hoth b4 (o4 + j) hb4).trans (hc4 j (by simpa using hltj))
              have csg := (hoth b5 (o5 + j) hb5).trans (hc5 j (by simpa using hltj))
              rw [List.getElem?_map, List.getElem?_eq_getElem hltj, ← hx] at cpt csg
              simp only [Option.map_some, Option.getD_some] at cpt csg
              have hp := HP.out
              obtain ⟨v, hv⟩ : ∃ v, v = (x.2 + p) % p := ⟨_, rfl⟩
              rw [← hv] at hst
              have hsum : IntKind.i64.wrap (x.2 + p) = x.2 + p := IntWalk.i64_in _ (by omega)
              have hrem : (x.2 + p).tmod p = v := by rw [hv, Int.tmod_eq_emod_of_nonneg (by omega)]
              have hpn : ¬ (p = 0) := by omega
              have hj0 : (0 : Int) ≤ (j : Int) := by omega
              have hj1 : (j : Int) < (rv.length : Int) := by omega
              have hq0 : (0 : Int) ≤ (q : Int) := by omega
              have hq1 : (q : Int) < ((ofDim fs (d - 1)).length : Int) := by omega
              have Hst := hid hst
              have HQ := hid hq
              have Hil := hid hil
              have HPp := hid hp
              clear hxm hmS htk hnew hst hq hqq hHk hoth hc4 hc5 hv hx hp hil
              go_wp2_with fail
              refine wp_tail 16 (by kernel_rfl) (by kernel_rfl) ?_
              simp only [List.take_succ_cons, List.take_zero, List.drop_succ_cons, List.drop_zero]
              iterate 6 still_step
              still_call HQ.out
              iterate 9 still_step
              refine wpStill_nil ?_
              go_wp2
              go_roundw
              case rel =>
                refine ⟨j + 1, m + 1, by go_num, by omega, ?_⟩
                have e := putRow_at w5 (m + 1) wo.heap.size 0 (bndRow (ofDim fs (d - 1)) p (rv.take j)) q v (by rw [bndRow_len]; exact Hil.out)
                rw [Nat.zero_add] at e
                rw [Hst.out, ← e, ← Sort.ahead_drew, ← Sort.putRow_drew, ← A.out]
                rfl
              case measure => simp [intOf]; omega
            · obtain rfl : j = rv.length := by omega
              rw [List.take_of_length_le (Nat.le_refl _), Hrev.out] at A
              have HX6 := hid (HX.out.later HBx.out)
              have HR6 : Hid (wr.ownsRow w.heap.size 2 1 (slT (ofDim fs (d - 1)).length wo.heap.size) (ofDim fs (d - 1)).length ((bndRow (ofDim fs (d - 1)) p (signedF f)).map (Value.int .i64))) := hid (by rw [A.out]; exact row_put m HO5.out (bndRow_len _ _ _))
              have hTs : wo.heap.size ∉ Ts := fun hm => by have := HX.out.main.lt _ hm; omega
              have hlT : (Ts.map (slT (ofDim fs (d - 1)).length)).length ≤ 1048576 := by have := HX.out.main.len; simp at this ⊢; omega
              have Hs6 := hid HX6.out.size
              have Hl7 : Hid ((Ts.map (slT (ofDim fs (d - 1)).length) ++ [slT (ofDim fs (d - 1)).length wo.heap.size]).length = k + 1) := hid (by have := HX.out.main.len; simp at this ⊢; omega)
              have HTs := hid hTs
              clear hTs
              go_wp2_with (at_builtin; refine append_row rfl rfl HX6.out.main.out Hs6.out hlT rfl rfl ?_; intro v' w7 hown7 hgrow7 hB7; have HO7 := hid hown7; have hown8 : w7.ownsRow w.heap.size 22 1 v' (k + 1) (Ts.map (slT (ofDim fs (d - 1)).length) ++ [slT (ofDim fs (d - 1)).length wo.heap.size]) := (by rw [← Hl7.out]; exact hown7); clear hown7; obtain ⟨R7, cp7, rfl⟩ := ownsRow_succ hown8)
              go_roundw
              case rel => exact ⟨k + 1, R7, cp7, Ts ++ [wo.heap.size], rfl, by go_num, by omega, by rw [Htk.out]; exact hid (HX6.out.snoc (bndRow_len _ _ _) HTs.out HR6.out HO7.out hgrow7 hB7)⟩
              case measure => simp [intOf]; omega
      · obtain rfl : k = (ofDim fs d).length := by omega
        rw [List.take_of_length_le (Nat.le_refl _)] at HX
        have HM : Hid (MatW wr w.heap.size R (ofDim fs d).length (ofDim fs (d - 1)).length (Ts.map fun T => (T, 0)) (bndM fs d p)) := hid (by
          have := HX.out.main.mat
          rw [List.length_map] at this
          exact this)
        have HB := hid HX.out.main.below
        go_wp2
        go_ret
        exact ⟨R, _, cp, rfl, HM.out, HB.out⟩

end Go.Proofs.Ytplcbiconfpmlaa

/-! A region that draws its order, in a round of a loop over a function: reads and quiet calls, then a tail in one order. -/
namespace Go.Proofs.Ytplcbiconfpmlaa
open Go.RowKit Go.Shelf

theorem upon_round {P : Program} {l n : Nat} {o : Oper} {a : Act} {K K' : Act → World → Prop} {Q : Exit → Act → World → Prop} (hK : ∀ a w, K a w → K' a w) (r : Result Next) (h : o.upon P a K Q r) : o.uponIn (Fence.wide.inRound l) n P a K' Q r := by
  have hd : ∀ m : Nat, (Fence.wide.inRound l).depth.isSome = true → 1 ≤ m := fun _ h => by simp [Fence.wide] at h
  cases r with
  | ok x w' =>
    cases x
    case value v => exact hK _ _ h
    case skip => exact hK _ _ h
    case defer d => exact hK _ _ h
    case enter f args =>
      refine ⟨hd _, CallsIn.inRound l (callsIn_wide.2 (Calls.mono h ?_))⟩
      intro e w'' hh
      cases e with
      | returned v => exact hK _ _ hh
      | panicked ch => exact hh
      | outgrown => exact hh
    case row row args => exact ⟨hd _, fun c cs _ => let ⟨v, w'', r, s⟩ := h c cs; ⟨v, w'', hK _ _ r, stepsIn_wide.2 s⟩⟩
    all_goals exact h.elim
  | halt x w' =>
    cases x <;> first | exact h | exact h.elim

theorem op_round {P : Program} {l n : Nat} {ops : Array Oper} {Q : Exit → Act → World → Prop} (hQ : ¬ LetsOut Q) (hnd : ∀ (i : Nat) (o : Oper), ops[i]? = some o → ∀ c, o.op ≠ .defer c) {i : Nat} {K K' : Act → World → Prop} (hK : ∀ a w, K a w → K' a w) {a : Act} {w : World}
    (h : wpOp P ops Q i K a w) : wpOpIn (Fence.wide.inRound l) n P ops Q i K' a w := by
  unfold wpOp at h
  unfold wpOpIn
  split
  · rename_i ho; simp only [ho] at h; exact hK _ _ h
  · rename_i o ho
    simp only [ho] at h
    split
    · rename_i hw
      simp only [hw, if_true] at h
      rcases h with h | h
      · refine ⟨fun _ _ => trivial, ?_⟩
        rw [Fence.inRound_round, Oper.semAt_some _ _ _ (hnd i o ho)]
        exact upon_round hK _ h
      · exact absurd h.2 hQ
    · rename_i hw
      simp only [hw] at h
      exact ⟨fun _ _ => trivial, hK _ _ h⟩

theorem any_round {P : Program} {l n : Nat} {md : Region.Mode} {ops : Array Oper} {Q : Exit → Act → World → Prop} (hQ : ¬ LetsOut Q) (hnd : ∀ (i : Nat) (o : Oper), ops[i]? = some o → ∀ c, o.op ≠ .defer c) : ∀ (fuel : Nat) (listed : Array Bool) (a : Act) (w : World),
    wpAny P md ops Q fuel listed a w → wpAnyIn (Fence.wide.inRound l) n P md ops Q fuel listed a w
  | 0, _, _, _, h => h
  | fuel + 1, _, _, _, h => ⟨h.1, fun i hi => op_round hQ hnd (fun a w => any_round hQ hnd fuel _ a w) (h.2 i hi)⟩

theorem any_still_tail {P : Program} {Q : Exit → Act → World → Prop} {a : Act} {w : World} {l : List Oper} (n : Nat) (hB : Region.lexTailB .any l.toArray n = true)
    (h : wpStill P l.toArray w (fun a' => wpList P l.toArray Q (l.drop n) a' w) (l.take n) a) : wpAny P .any l.toArray Q l.toArray.size (Array.replicate l.toArray.size false) a w := by
  simp only [Region.lexTailB, Bool.and_eq_true, decide_eq_true_eq] at hB
  obtain ⟨⟨⟨⟨hsel, hn⟩, hs⟩, hc⟩, hlex⟩ := hB
  have hn' : n < l.length := by simpa using hn
  have htl : (l.take n).length = n := by simp; omega
  have hdl : (l.drop n).length = l.toArray.size - n := by simp
  have inv0 : HeadInv .any l.toArray n (Array.replicate l.toArray.size false) :=
    ⟨by simp, fun j oj _ hl => (by rw [getD_replicate_false] at hl; cases hl), fun t _ ht => getD_in (by simpa using ht) (getD_replicate_false _ _)⟩
  have H := wpAnyL_lex (md := .any) (g := l.toArray.size - n) hsel hs hc hn (l.take n) 0 _ a (fun j hj => by
    have hj' : j < n := by rw [htl] at hj; exact hj
    simp [hj']) (by simpa using htl) inv0 (by rw [htl]; exact hlex) h
  have := wpAny_of_head (Q' := Q) (g := l.toArray.size - n) (fun listed a' hL => by
    have := wpAny_of_seq (md := .any) (Q' := Q) (l.drop n) n listed a' w (fun j => by simp [List.getElem?_drop]) (by rw [hdl]; exact hL.1) hL.2
    rwa [hdl] at this) _ _ _ H
  rw [htl, show n + (l.toArray.size - n) = l.toArray.size by omega] at this
  exact this

/-- The post of such a region: it is left by its end alone. -/
def endQ (Q : Exit → Act → World → Prop) : Exit → Act → World → Prop := fun e a w => e = .normal ∧ Q .normal a w

theorem wpIn_round_tail {id l0 nF : Nat} {P : Program} {l : List Oper} {Q : Exit → Act → World → Prop} {a : Act} {w : World} (n : Nat) (hm : P.follows .mixedOrders = true) (hB : Region.lexTailB .any l.toArray n = true)
    (hnd : (l.all fun o => match o.op with | .defer _ => false | _ => true) = true)
    (h : wpStill P l.toArray w.drew (fun a' => wpList P l.toArray (endQ Q) (l.drop n) a' w.drew) (l.take n) a) : (Code.region id l.toArray true).wpIn (Fence.wide.inRound l0) nF P Q a w := by
  have hnd' : ∀ (i : Nat) (o : Oper), l.toArray[i]? = some o → ∀ c, o.op ≠ .defer c := by
    intro i o ho c e
    have hm : o ∈ l := by
      have : l[i]? = some o := by simpa using ho
      exact List.mem_of_getElem? this
    have := List.all_eq_true.1 hnd o hm
    rw [e] at this
    cases this
  have := wpIn_region_any (F := Fence.wide.inRound l0) (n := nF) (id := id) hm (any_round (l := l0) (n := nF) (Q := endQ Q) (fun ⟨_, _, e, _⟩ => by cases e) hnd' _ _ _ _ (any_still_tail n hB h))
  exact wpIn_mono this (fun e a' w' ⟨he, hq⟩ => by subst he; exact hq)

end Go.Proofs.Ytplcbiconfpmlaa

/-! fillBoundaries: the boundaries of faces, put into rows of zeros. -/
namespace Go.Proofs.Ytplcbiconfpmlaa
open Go.RowKit Go.Shelf

attribute [local go_sem] Oper.semAt_some

/-- The rows while row k is being filled: it has got the sides pre. -/
def fillM (F S : List Int) (p : Int) (w k : Nat) (pre : List (Fin 64 × Int)) : List (List Int) :=
  F.mapIdx fun i f => if i < k then bndRow S p (signedF f.toNat) else if i = k then bndRow S p pre else List.replicate w 0
theorem fillM_len (F S : List Int) (p : Int) (w k : Nat) (pre : List (Fin 64 × Int)) : (fillM F S p w k pre).length = F.length := by simp [fillM]
theorem fillM_get {F S : List Int} {p : Int} {w k : Nat} {pre : List (Fin 64 × Int)} {i : Nat} (hi : i < F.length) :
    (fillM F S p w k pre)[i]? = some (if i < k then bndRow S p (signedF (F[i]?.getD 0).toNat) else if i = k then bndRow S p pre else List.replicate w 0) := by
  simp [fillM, List.getElem?_eq_getElem hi]
theorem fillM_zero {F S : List Int} {p : Int} {w : Nat} (hp : p = 2 ∨ p = 3) (hw : S.length = w) : fillM F S p w 0 [] = List.replicate F.length (List.replicate w 0) := by
  apply List.ext_getElem?
  intro i
  by_cases hi : i < F.length
  · rw [fillM_get hi, List.getElem?_replicate, if_pos hi, if_neg (by omega)]
    split
    · rw [bndRow_nil S hp, hw]
    · rfl
  · rw [List.getElem?_eq_none (by rw [fillM_len]; omega), List.getElem?_eq_none (by simp; omega)]
theorem fillM_next {F S : List Int} {p : Int} {w k : Nat} (hp : p = 2 ∨ p = 3) (hw : S.length = w) : fillM F S p w k (signedF (F[k]?.getD 0).toNat) = fillM F S p w (k + 1) [] := by
  apply List.ext_getElem?
  intro i
  by_cases hi : i < F.length
  · rw [fillM_get hi, fillM_get hi]
    congr 1
    by_cases h1 : i < k
    · rw [if_pos h1, if_pos (by omega)]
    · by_cases h2 : i = k
      · subst h2; rw [if_neg h1, if_pos rfl, if_pos (by omega)]
      · rw [if_neg h1, if_neg h2, if_neg (by omega)]
        split
        · rw [bndRow_nil S hp, hw]
        · rfl
  · rw [List.getElem?_eq_none (by rw [fillM_len]; omega), List.getElem?_eq_none (by rw [fillM_len]; omega)]
theorem fillM_done {F S : List Int} {p : Int} {w : Nat} : fillM F S p w F.length [] = F.map fun f => bndRow S p (signedF f.toNat) := by
  apply List.ext_getElem?
  intro i
  by_cases hi : i < F.length
  · rw [fillM_get hi, if_pos hi]
    simp [List.getElem?_eq_getElem hi]
  · rw [List.getElem?_eq_none (by rw [fillM_len]; omega), List.getElem?_eq_none (by simp; omega)]
/-- One side more. -/
theorem fillM_snoc {F S : List Int} {p : Int} {w k : Nat} {pre : List (Fin 64 × Int)} {x : Fin 64 × Int} (hk : k < F.length) (hS : S.Pairwise (· < ·)) (h0 : ∀ s ∈ S, 0 ≤ s) (hn : ∀ y ∈ pre, y.1 ≠ x.1) (hm : ((x.1.val : Nat) : Int) ∈ S) :
    fillM F S p w k (pre ++ [x]) = (fillM F S p w k pre).set k (((fillM F S p w k pre)[k]?.getD []).set (S.idxOf ((x.1.val : Nat) : Int)) ((x.2 + p) % p)) := by
  have ek : (fillM F S p w k pre)[k]?.getD [] = bndRow S p pre := by rw [fillM_get hk, if_neg (by omega), if_pos rfl]; rfl
  rw [ek, ← bndRow_snoc hS h0 hn hm]
  apply List.ext_getElem?
  intro i
  by_cases hi : i < F.length
  · by_cases e : k = i
    · subst e
      rw [List.getElem?_set_self (by rw [fillM_len]; exact hi), fillM_get hi, if_neg (by omega), if_pos rfl]
    · rw [List.getElem?_set_ne e, fillM_get hi, fillM_get hi]
      congr 1
      by_cases h1 : i < k
      · rw [if_pos h1, if_pos h1]
      · rw [if_neg h1, if_neg h1, if_neg (fun h => e h.symm), if_neg (fun h => e h.symm)]
  · rw [List.getElem?_eq_none (by rw [fillM_len]; omega), List.getElem?_eq_none (by rw [List.length_set, fillM_len]; omega)]

/-- One number of a row is written. -/
theorem MatW.set1 {W : World} {B R n w : Nat} {ad : Ads} {M : List (List Int)} (h : MatW W B R n w ad M) {k j : Nat} (hk : k < n) (hj : j < w) (v : Int) :
    MatW (W.setCell ⟨(adr ad k).1, (adr ad k).2 + j, none⟩ (.int .i64 v)) B R n w ad (M.set k ((M[k]?.getD []).set j v)) := by
  have hl := h.wid k hk
  have e : W.setCell ⟨(adr ad k).1, (adr ad k).2 + j, none⟩ (.int .i64 v) = Sort.putRow encI (Sort.ahead W 0) (adr ad k).1 (adr ad k).2 ((M[k]?.getD []).set j v).toArray := by
    rw [← putRow_at W 0 _ _ (M[k]?.getD []) j v (by omega), Sort.ahead_zero, Sort.putRow_self encI W _ _ _ (h.row k hk)]
  rw [e]
  exact h.put hk 0 (by simp [hl])

/-- What the walk keeps of the world. -/
structure FillW (W W' : World) (B R n w : Nat) (ad : Ads) (p : Int) (sl sd : Value) (M : List (List Int)) (Ds : List Nat) : Prop where
  below : Below B W W'
  b4 : W'.heap[W.heap.size]? = some (.cells #[sl] 109 (0, 0))
  b6 : W'.heap[W.heap.size + 1]? = some (.cells #[sd] 22 (0, 0))
  b7 : W'.heap[W.heap.size + 2]? = some (.cells #[.int .i64 p] 2 (0, 0))
  mat : MatW W' B R n w ad M
  nodup : Ds.Nodup
  marks : ∀ D ∈ Ds, W.heap.size + 3 ≤ D ∧ W'.heap[D]? = some (.deferred (some []))

theorem FillW.size {W W' : World} {B R n w : Nat} {ad : Ads} {p : Int} {sl sd : Value} {M : List (List Int)} {Ds : List Nat} (h : FillW W W' B R n w ad p sl sd M Ds) : W.heap.size + 3 ≤ W'.heap.size := by
  have := lt_of_get h.b7; omega

/-- A turn of what lies beyond. -/
theorem FillW.turn {W W' W'' : World} {B R n w : Nat} {ad : Ads} {p : Int} {sl sd : Value} {M : List (List Int)} {Ds : List Nat} (h : FillW W W' B R n w ad p sl sd M Ds) (hB : B ≤ W.heap.size) (hR : R < W.heap.size) (ha : ∀ i, i < n → (adr ad i).1 < W.heap.size)
    {row : Option Nat} (hg : W'.grownBy W'' row) (hr : ∀ r, row = some r → W.heap.size + 3 ≤ r ∧ r ∉ Ds) : FillW W W'' B R n w ad p sl sd M Ds where
  below := h.below.grown hg (by have := h.size; omega) (fun k e => by have := (hr k e).1; omega)
  b4 := (hg.block _ (lt_of_get h.b4) (fun e => by have := (hr _ e.symm).1; omega)).trans h.b4
  b6 := (hg.block _ (lt_of_get h.b6) (fun e => by have := (hr _ e.symm).1; omega)).trans h.b6
  b7 := (hg.block _ (lt_of_get h.b7) (fun e => by have := (hr _ e.symm).1; omega)).trans h.b7
  mat := h.mat.keep hg.size (hg.block _ h.mat.head.2 (fun e => by have := (hr _ e.symm).1; omega)) (fun i hi => hg.block _ (h.mat.base i hi).2 (fun e => by have := (hr _ e.symm).1; have := ha i hi; omega))
  nodup := h.nodup
  marks := fun D hD => ⟨(h.marks D hD).1, (hg.block _ (lt_of_get (h.marks D hD).2) (fun e => (hr _ e.symm).2 hD)).trans (h.marks D hD).2⟩

theorem FillW.mark {W W' : World} {B R n w : Nat} {ad : Ads} {p : Int} {sl sd : Value} {M : List (List Int)} {Ds : List Nat} (h : FillW W W' B R n w ad p sl sd M Ds) {D : Nat} (hD : W'.heap[D]? = some (.deferred (some []))) (hb : W.heap.size + 3 ≤ D) (hn : D ∉ Ds) : FillW W W' B R n w ad p sl sd M (D :: Ds) where
  below := h.below
  b4 := h.b4
  b6 := h.b6
  b7 := h.b7
  mat := h.mat
  nodup := List.nodup_cons.2 ⟨hn, h.nodup⟩
  marks := fun E hE => by
    rcases List.mem_cons.1 hE with rfl | hE
    · exact ⟨hb, hD⟩
    · exact h.marks E hE

/-- A number more. -/
theorem FillW.set1 {W W' : World} {B R n w : Nat} {ad : Ads} {p : Int} {sl sd : Value} {M : List (List Int)} {Ds : List Nat} (h : FillW W W' B R n w ad p sl sd M Ds) (ha : ∀ i, i < n → (adr ad i).1 < W.heap.size) {k j : Nat} (hk : k < n) (hj : j < w) (v : Int) :
    FillW W (W'.setCell ⟨(adr ad k).1, (adr ad k).2 + j, none⟩ (.int .i64 v)) B R n w ad p sl sd (M.set k ((M[k]?.getD []).set j v)) Ds where
  below := h.below.setCell (p := ⟨(adr ad k).1, (adr ad k).2 + j, none⟩) (h.mat.base k hk).1 _
  b4 := (Below.heap_setCell _ _ _ _ (by have := ha k hk; simp only; omega)).trans h.b4
  b6 := (Below.heap_setCell _ _ _ _ (by have := ha k hk; simp only; omega)).trans h.b6
  b7 := (Below.heap_setCell _ _ _ _ (by have := ha k hk; simp only; omega)).trans h.b7
  mat := h.mat.set1 hk hj v
  nodup := h.nodup
  marks := fun D hD => ⟨(h.marks D hD).1, (Below.heap_setCell _ _ _ _ (by have := ha k hk; have := (h.marks D hD).1; simp only; omega)).trans (h.marks D hD).2⟩

theorem fill_ownIn {W : World} {B R n w : Nat} {ad : Ads} {p : Int} {sl sd : Value} {g : List (Fin 64 × Int) → List (List Int)} {Ds : List Nat} {lo k : Nat} (hB : B ≤ W.heap.size) (hR : R < W.heap.size) (ha : ∀ i, i < n → (adr ad i).1 < W.heap.size) (hlo : W.heap.size + 3 ≤ lo) (hD : ∀ D ∈ Ds, D < lo) :
    OwnIn lo k (fun pre W' => FillW W W' B R n w ad p sl sd (g pre) Ds) :=
  fun _ _ _ _ hs hg hr => hs.turn hB hR ha hg (fun r e => ⟨by have := (hr r e).1; omega, fun hm => by have := hD r hm; have := (hr r e).1; omega⟩)

theorem HI_of (a : Option Addr) (cap : Nat) (xs : List Int) (x : Int) (w : World) (B : Nat) (hx : SlI w B a xs) (hB : B ≤ w.heap.size) (hl : xs.length ≤ 1048576) (hm : x ∈ xs) :
    Calls Try.prog 179 #[.slice a xs.length cap, .int .i64 x] w fun e w' => e = .returned (.int .i64 (xs.idxOf x : Int)) ∧ w' = w :=
  (index_at a cap xs x w (hx.mono hB) hl hm).mono fun _ _ ⟨he, hw⟩ => ⟨he, hw.symm⟩

/-- The loop's state ahead of a round: k faces are done. -/
def FillInv (W : World) (B R n w cf cs b1 o1 : Nat) (ad : Ads) (p : Int) (F S : List Int) (as_ : Option Addr) (a' : Act) (W' : World) : Prop :=
  ∃ (k : Nat) (Ds : List Nat) (us : Nat → Value), a' = { tmps := #[.slice (some ⟨R, 0, none⟩) n n, .slice (some ⟨b1, o1, none⟩) n cf, .slice as_ w cs, .int .i64 p, .pointer (some ⟨W.heap.size, 0, none⟩), undef, .pointer (some ⟨W.heap.size + 1, 0, none⟩), .pointer (some ⟨W.heap.size + 1 + 1, 0, none⟩), us 8, us 9, us 10, us 11, .slice (some ⟨b1, o1, none⟩) n cf, .int .i64 (n : Int), .int .i64 (k : Int), us 15, us 16, us 17, us 18, us 19, us 20, us 21, us 22, us 23, us 24, us 25, us 26, us 27, us 28, us 29, us 30, us 31, us 32, us 33, us 34, us 35, us 36], defers := marks Ds } ∧ k ≤ n ∧ Hid (FillW W W' B R n w ad p (.slice (some ⟨R, 0, none⟩) n n) (.slice as_ w cs) (fillM F S p w k []) Ds)
theorem fillInv_of {W W' : World} {B R n w cf cs b1 o1 : Nat} {ad : Ads} {p : Int} {F S : List Int} {as_ : Option Addr} {k : Nat} {Ds : List Nat} (tm : Array Value) (ds : List Deferred) (hds : ds = marks Ds) (h : tm = #[.slice (some ⟨R, 0, none⟩) n n, .slice (some ⟨b1, o1, none⟩) n cf, .slice as_ w cs, .int .i64 p, .pointer (some ⟨W.heap.size, 0, none⟩), undef, .pointer (some ⟨W.heap.size + 1, 0, none⟩), .pointer (some ⟨W.heap.size + 1 + 1, 0, none⟩), tm.getD 8 undef, tm.getD 9 undef, tm.getD 10 undef, tm.getD 11 undef, .slice (some ⟨b1, o1, none⟩) n cf, .int .i64 (n : Int), .int .i64 (k : Int), tm.getD 15 undef, tm.getD 16 undef, tm.getD 17 undef, tm.getD 18 undef, tm.getD 19 undef, tm.getD 20 undef, tm.getD 21 undef, tm.getD 22 undef, tm.getD 23 undef, tm.getD 24 undef, tm.getD 25 undef, tm.getD 26 undef, tm.getD 27 undef, tm.getD 28 undef, tm.getD 29 undef, tm.getD 30 undef, tm.getD 31 undef, tm.getD 32 undef, tm.getD 33 undef, tm.getD 34 undef, tm.getD 35 undef, tm.getD 36 undef]) (hk : k ≤ n)
    (H : Hid (FillW W W' B R n w ad p (.slice (some ⟨R, 0, none⟩) n n) (.slice as_ w cs) (fillM F S p w k []) Ds)) : FillInv W B R n w cf cs b1 o1 ad p F S as_ { tmps := tm, defers := ds } W' :=
  ⟨k, Ds, fun i => tm.getD i undef, by rw [hds]; exact congrArg (fun t => ({ tmps := t, defers := marks Ds } : Act)) h, hk, H⟩

set_option maxRecDepth 1000000 in
set_option maxHeartbeats 4000000 in
theorem fill_in (B R n w cf cs : Nat) (ad : Ads) (p : Int) (F S : List Int) (b1 o1 : Nat) (as_ : Option Addr) (W : World) (hM : MatW W B R n w ad (List.replicate n (List.replicate w 0))) (hF : F.length = n) (hS : S.length = w)
    (hb1 : b1 < B) (cF : ∀ i, i < F.length → W.cell? ⟨b1, o1 + i, none⟩ = some (.int .i64 (F[i]?.getD 0))) (xS : SlI W B as_ S) (hB : B ≤ W.heap.size) (hp : p = 2 ∨ p = 3) (hFr : ∀ x ∈ F, 1 ≤ x ∧ x ≤ 63) (hSa : S.Pairwise (· < ·)) (hS0 : ∀ s ∈ S, 0 ≤ s)
    (hsd : ∀ f ∈ F, ∀ x ∈ signedF f.toNat, ((x.1.val : Nat) : Int) ∈ S) (hn : n ≤ 1000) (hw : w ≤ 1000) :
    CallsIn Fence.wide 10 Try.prog 174 #[.slice (some ⟨R, 0, none⟩) n n, .slice (some ⟨b1, o1, none⟩) n cf, .slice as_ w cs, .int .i64 p] W fun e W' => (∃ v, e = .returned v) ∧ MatW W' B R n w ad (F.map fun f => bndRow S p (signedF f.toNat)) ∧ Below B W W' := by
  have hRW := hM.head.2
  have haW : ∀ i, i < n → (adr ad i).1 < W.heap.size := fun i hi => (hM.base i hi).2
  have hF0 : FillW W (((W.alloc (.cells #[.slice (some ⟨R, 0, none⟩) n n] 109)).alloc (.cells #[.slice as_ w cs] 22)).alloc (.cells #[.int .i64 p] 2)) B R n w ad p (.slice (some ⟨R, 0, none⟩) n n) (.slice as_ w cs) (fillM F S p w 0 []) [] := by
    have e3 := heap_alloc_new ((W.alloc (.cells #[.slice (some ⟨R, 0, none⟩) n n] 109)).alloc (.cells #[.slice as_ w cs] 22)) (.cells #[.int .i64 p] 2)
    rw [World.size_alloc, World.size_alloc] at e3
    have e2 := heap_alloc_new (W.alloc (.cells #[.slice (some ⟨R, 0, none⟩) n n] 109)) (.cells #[.slice as_ w cs] 22)
    rw [World.size_alloc] at e2
    exact {
      below := ((((Below.refl _ W).alloc (Nat.le_refl _) _).alloc (by simp) _).alloc (by simp <;> omega) _).mono hB
      b4 := (Below.heap_alloc _ _ _ (by simp <;> omega)).trans ((Below.heap_alloc _ _ _ (by simp)).trans (heap_alloc_new _ _))
      b6 := (Below.heap_alloc _ _ _ (by simp <;> omega)).trans e2
      b7 := e3
      mat := by
        rw [fillM_zero hp hS, hF]
        have hk : ∀ b, b < W.heap.size → (((W.alloc (.cells #[.slice (some ⟨R, 0, none⟩) n n] 109)).alloc (.cells #[.slice as_ w cs] 22)).alloc (.cells #[.int .i64 p] 2)).heap[b]? = W.heap[b]? := fun b hb =>
          (Below.heap_alloc _ _ _ (by simp <;> omega)).trans ((Below.heap_alloc _ _ _ (by simp <;> omega)).trans (Below.heap_alloc _ _ _ hb))
        exact hM.keep (by simp <;> omega) (hk R hRW) (fun i hi => hk _ (haW i hi))
      nodup := by simp
      marks := by simp }
  have HF0 := hid hF0
  have HFr := hid hFr
  have CF := hid cF
  have XS := hid xS
  have Hsd := hid hsd
  have HaW := hid haW
  clear hF0 hM hFr cF xS hsd haW
  refine callsIn_of_wp_marks Try.func174 rfl trivial ?_ rfl
  simp only [Try.ntmps174, List.size_toArray, List.length_cons, List.length_nil, Nat.reduceAdd, Nat.reduceSub, Array.replicate_succ, Array.replicate_zero, List.push_toArray, List.append_toArray, List.nil_append, List.cons_append]
  gi_wp2
  refine wpIn_loop (FillInv W B R n w cf cs b1 o1 ad p F S as_) (fun a' _ => n - (intOf (a'.tmps.getD 14 undef)).toNat) ?start ?round
  case start => exact fillInv_of (k := 0) (Ds := []) _ _ rfl rfl (Nat.zero_le _) HF0
  case round =>
    rintro a Wk ⟨k, Ds, us, rfl, hk, HW⟩
    clear HF0
    have hsz := HW.out.size
    by_cases hlt : k < n
    · obtain ⟨x, hx⟩ : ∃ x, x = F[k]?.getD 0 := ⟨_, rfl⟩
      have hxm : x ∈ F := by rw [hx]; exact getD_mem (by omega)
      have hxr := HFr.out _ hxm
      have hck : Wk.cell? ⟨b1, o1 + k, none⟩ = some (.int .i64 x) := by rw [hx]; exact (HW.out.below.cell (p := ⟨b1, o1 + k, none⟩) hb1).trans (CF.out k (by omega))
      have Hsx := hid (Hsd.out x hxm)
      have Hx1 := hid hx
      have hi0 : (0 : Int) ≤ (k : Int) := by omega
      have hi1 : (k : Int) < (n : Int) := by omega
      obtain ⟨f, rfl⟩ : ∃ f : Nat, x = f := ⟨x.toNat, by omega⟩
      rw [Int.toNat_natCast] at Hsx
      have hf : f < 64 := by omega
      clear hx hxm
      gi_wp2_with (first
        | (refine ⟨trivial, ?_⟩; gi_at_call 204; refine (signedSides_in _ _ _).mono ?_; rintro e w' ⟨rfl, rfl⟩))
      obtain ⟨W2, hW2⟩ : ∃ W2, W2 = ((Wk.alloc (.cells #[.int .i64 (k : Int)] 3)).alloc (.cells #[.int .i64 (f : Int)] 2)) := ⟨_, rfl⟩
      have hbi : W2.heap[Wk.heap.size]? = some (.cells #[.int .i64 (k : Int)] 3 (0, 0)) := by rw [hW2]; exact (Below.heap_alloc _ _ _ (by simp)).trans (heap_alloc_new _ _)
      have hbf : W2.heap[Wk.heap.size + 1]? = some (.cells #[.int .i64 (f : Int)] 2 (0, 0)) := by rw [hW2]; have := heap_alloc_new (Wk.alloc (.cells #[.int .i64 (k : Int)] 3)) (.cells #[.int .i64 (f : Int)] 2); rwa [World.size_alloc] at this
      have hs2 : W2.heap.size = Wk.heap.size + 2 := by rw [hW2]; simp
      have hFW2 : FillW W W2 B R n w ad p (.slice (some ⟨R, 0, none⟩) n n) (.slice as_ w cs) (fillM F S p w k []) Ds := by
        rw [hW2]
        exact (HW.out.turn hB hRW HaW.out (World.grownBy_alloc Wk _ none) (fun r e => by cases e)).turn hB hRW HaW.out (World.grownBy_alloc _ _ none) (fun r e => by cases e)
      have hDs : ∀ D ∈ Ds, D < Wk.heap.size := fun D hD => lt_of_get (HW.out.marks D hD).2
      have HDs := hid hDs
      rw [← hW2]
      clear hW2 HW hck hDs
      refine wpIn_rangeFunc_P rfl (by decide) (gf := 218) (lb := #[.pointer (some ⟨Wk.heap.size + 1, 0, none⟩)]) rfl trivial (enters_of Try.func218 (by kernel_rfl) rfl)
        (signed_P 9 (by decide) (Wk.heap.size + 1) f hf W2 (by omega) hbf) (by simp; omega) (Below.refl _ _) (fun _ => rfl)
        (fun pre W' => FillW W W' B R n w ad p (.slice (some ⟨R, 0, none⟩) n n) (.slice as_ w cs) (fillM F S p w k pre) Ds ∧ W'.heap[Wk.heap.size]? = some (.cells #[.int .i64 (k : Int)] 3 (0, 0)))
        (fun _ _ _ => False)
        (OwnIn.and (fill_ownIn hB hRW HaW.out (by omega) (fun D hD => by have := HDs.out D hD; omega)) (ownIn_block (β := List (Fin 64 × Int)) (fun _ => _) (by omega)))
        (fun _ => ownIn_pure _ _ _)
        ⟨hFW2, hbi⟩
        (fun x => { tmps := #[.slice (some ⟨R, 0, none⟩) n n, .slice (some ⟨b1, o1, none⟩) n cf, .slice as_ w cs, .int .i64 p, .pointer (some ⟨W.heap.size, 0, none⟩), undef, .pointer (some ⟨W.heap.size + 1, 0, none⟩), .pointer (some ⟨W.heap.size + 1 + 1, 0, none⟩), .pointer (some ⟨Wk.heap.size, 0, none⟩), .int .i64 (f : Int), .int .i64 (x.1.val : Int), .int .i64 x.2, .slice (some ⟨b1, o1, none⟩) n cf, .int .i64 (n : Int), .int .i64 (k : Int), .bool true, .int .i64 (k : Int), .pointer (some ⟨b1, o1 + k, none⟩), .int .i64 (f : Int), .int .i64 (f : Int), .func (.func 218) #[] #[.pointer (some ⟨Wk.heap.size + 1, 0, none⟩)], .int .i64 (x.1.val : Int), .int .i64 x.2, us 23, us 24, us 25, us 26, us 27, us 28, us 29, us 30, us 31, us 32, us 33, us 34, us 35, us 36], defers := [] }) ?assign ?body ?done ?stop
      case assign =>
        intro l x W3 K hK
        gi_wp2
        exact hK
      case body =>
        rintro l pre x W3 hpre hsz3 ⟨hW3, hb8⟩
        have hxm : x ∈ signedF f := by
          obtain ⟨t, ht⟩ := hpre
          rw [← ht]; simp
        have hss := (signed_sub ⟨f, hf⟩ x hxm).2.2.2
        have hmS := Hsx.out x hxm
        have hnew := nodup_snoc (signed_nodup ⟨f, hf⟩) hpre
        have hst := fillM_snoc (F := F) (w := w) (p := p) (k := k) (by omega) hSa hS0 hnew hmS
        have hil := List.idxOf_lt_length_of_mem hmS
        have hq := HI_of as_ cs S ((x.1.val : Nat) : Int) W3.drew B (XS.out.below (below_drewN hW3.below 1)) (by have := hW3.size; simp; omega) (by omega) hmS
        rw [hS] at hq hil
        obtain ⟨q, hqq⟩ : ∃ q, q = S.idxOf ((x.1.val : Nat) : Int) := ⟨_, rfl⟩
        rw [← hqq] at hst hil hq
        obtain ⟨c4, _⟩ := box_cell hW3.b4
        obtain ⟨c6, _⟩ := box_cell hW3.b6
        obtain ⟨c7, _⟩ := box_cell hW3.b7
        obtain ⟨c8, _⟩ := box_cell hb8
        have crow := (hW3.mat.hd k hlt).1
        obtain ⟨cst, fst_⟩ := hW3.mat.at hlt hil
        obtain ⟨v, hv⟩ : ∃ v, v = (x.2 + p) % p := ⟨_, rfl⟩
        rw [← hv] at hst
        have hsum : IntKind.i64.wrap (x.2 + p) = x.2 + p := IntWalk.i64_in _ (by omega)
        have hrem : (x.2 + p).tmod p = v := by rw [hv, Int.tmod_eq_emod_of_nonneg (by omega)]
        have hpn : ¬ (p = 0) := by omega
        have hq0 : (0 : Int) ≤ (q : Int) := by omega
        have hq1 : (q : Int) < (w : Int) := by omega
        have hset := hW3.set1 HaW.out hlt hil v
        rw [← hst] at hset
        have Hset := hid hset
        have HQ := hid hq
        have Hb8 := hid hb8
        have Hsz3 := hid hsz3
        have HbR := hid (HaW.out k hlt)
        clear hpre hxm hmS hnew hst hv hqq hset hq hb8 hW3 hsz3
        gi_wp2
        refine wpIn_round_tail 13 (by kernel_rfl) (by kernel_rfl) (by kernel_rfl) ?_
        simp only [List.take_succ_cons, List.take_zero, List.drop_succ_cons, List.drop_zero]
        iterate 6 still_step
        still_call HQ.out
        iterate 6 still_step
        refine wpStill_nil ?_
        go_wp2
        refine ⟨rfl, ?_, ?_, ?_⟩
        · exact (KeepP.setCell _ _ _ _ (by have := HbR.out; simp <;> omega)).trans ⟨Nat.le_refl _, fun _ _ => rfl⟩
        · exact Hset.out.turn hB hRW HaW.out (grown_drewN _ 1) (fun r e => by cases e)
        · exact (Below.heap_setCell _ _ _ _ (by have := HbR.out; simp only; omega)).trans Hb8.out
      case done =>
        rintro W3 ⟨hW3, hb8⟩ hD
        have hWm := hW3.mark hD (by omega) (fun hm => by have := HDs.out _ hm; omega)
        have hnx := fillM_next (F := F) (S := S) (p := p) (w := w) (k := k) hp hS
        rw [← Hx1.out, Int.toNat_natCast] at hnx
        have hWm' : FillW W W3 B R n w ad p (.slice (some ⟨R, 0, none⟩) n n) (.slice as_ w cs) (fillM F S p w (k + 1) []) (W2.heap.size :: Ds) := by
          rw [← hnx]; exact hWm
        have HWm := hid hWm'
        clear hWm hWm' hnx hW3 hb8 hD
        gi_wp2
        refine ⟨fillInv_of (k := k + 1) (Ds := W2.heap.size :: Ds) _ _ rfl rfl (by omega) HWm, ?_⟩
        simp [intOf]
        omega
      case stop =>
        rintro c pre W3 hpre hF hD
        exact hF.elim
    · obtain rfl : k = n := by omega
      have hMd := HW.out.mat
      rw [show fillM F S p w k [] = F.map (fun f => bndRow S p (signedF f.toNat)) by rw [← hF]; exact fillM_done] at hMd
      have HMd := hid hMd
      clear hMd
      gi_wp2
      refine leaves_marks (by simp) Ds _ HW.out.nodup (fun D hD => (HW.out.marks D hD).2) (fun w' hw' => ?_)
      refine ⟨_, results_none rfl _ _ _, ⟨_, rfl⟩, ?_, HW.out.below.trans (hw'.below (fun D hD => by have := (HW.out.marks D hD).1; omega))⟩
      exact HMd.out.keep (by rw [hw'.size]; exact Nat.le_refl _) (hw'.block _ (fun hm => by have := (HW.out.marks _ hm).1; omega)) (fun i hi => hw'.block _ (fun hm => by have := (HW.out.marks _ hm).1; have := HaW.out i hi; omega))

end Go.Proofs.Ytplcbiconfpmlaa
