import Derived.Deep.LoopGhost
import Derived.Lib.Walk
import Derived.Sort.WalkB12
import Derived.Lib.SlicesMore
import Derived.Sort.OwnSortedInts
import Derived.WalkMore
import Derived.ScopeJumps
import Derived.Deep.RegionHeld3
import Derived.Deep.CutRange
import Derived.WalkSmall
import Derived.Test.YtgefpllmelpahaaMH1
import Derived.Test.YtgefpllmelpahaaMH2
/-! slices.Reverse at []int64. -/
namespace Go.Proofs.Ytgefpllmelpahaa
open Go.RowKit Go.Lib Go.Sort

set_option maxHeartbeats 1600000 in
set_option maxRecDepth 1000000 in
theorem rev_arr (blk off cap : Nat) (d : Array Int) (w : World) (hH : Holds encI w blk off d) (hsz : d.size ≤ 9223372036854775807) :
    Calls Try.prog 161 #[.slice (some ⟨blk, off, none⟩) d.size cap] w fun e w' => (∃ v, e = .returned v) ∧ ∃ n, w' = putRow encI (Sort.ahead w n) blk off d.reverse := by
  go_enter Try.func161, Try.ntmps161
  go_wp2
  go_loopg [2, 3] d.size (fun k s2 s3 wr => ∃ (i jn : Nat) (jz : Int) (dk : Array Int) (n : Nat), s2 = .int .i64 i ∧ s3 = .int .i64 jz ∧ ((i : Int) < jz → jz = jn ∧ jn < d.size) ∧ (¬ (i : Int) < jz → ¬ i < jn) ∧ jn - i ≤ k ∧
    dk.size = d.size ∧ wr = putRow encI (Sort.ahead w n) blk off dk ∧ reverseLoop i jn dk = reverseLoop 0 (d.size - 1) d)
  case atStart => exact ⟨0, d.size - 1, (d.size : Int) - 1, d, 0, rfl, rfl, fun h => ⟨by omega, by omega⟩, fun h => by omega, by omega, rfl, (putRow_self encI w blk off d hH).symm, rfl⟩
  case round =>
    obtain ⟨i, jn, jz, dk, n, rfl, rfl, h1, h2, hk, hds, hwr, heq⟩ := hrel
    by_cases hlt : (i : Int) < jz
    · obtain ⟨rfl, hjn⟩ := h1 hlt
      have hij : i < jn := by omega
      have hHk : Holds encI wr blk off dk := by rw [hwr]; exact holds_putRow encI _ blk off d dk (holds_ahead encI w n blk off d hH) hds
      obtain ⟨ci, fi⟩ := hHk i (by omega)
      obtain ⟨cj, fj⟩ := hHk jn (by omega)
      have A : Aside (wr = putRow encI (Sort.ahead w n) blk off dk) := hwr
      clear hwr hHk hH h1 h2
      go_wp2_with fail
      go_region
      go_wp2
      go_roundg (jn - 1 - (i + 1))
      case measure => omega
      case rel =>
        rw [reverseLoop, if_pos hij] at heq
        exact ⟨i + 1, jn - 1, (jn : Int) - 1, swp dk i jn, n + 1, by simp, rfl, fun h => ⟨by omega, by omega⟩, fun h => by omega, Nat.le_refl _, by rw [size_swp]; exact hds,
          swap_world encI (by omega) (by omega) A.out (by first | rfl | simp [encI, getElem!_pos, show jn < dk.size by omega]) (by first | rfl | simp [encI, getElem!_pos, show i < dk.size by omega]), heq⟩
    · have hnot := h2 hlt
      go_wp2
      go_end0
      refine ⟨⟨_, rfl⟩, n, ?_⟩
      rw [reverseLoop, if_neg hnot] at heq
      rw [← Lib.reverseLoop_reverse, ← heq]

theorem rev_empty (a : Option Addr) (cap : Nat) (w : World) :
    Calls Try.prog 161 #[.slice a 0 cap] w fun e w' => (∃ v, e = .returned v) ∧ w' = w := by
  go_enter Try.func161, Try.ntmps161
  go_wp2
  refine wp_loop_rounds 1 ?_; rw [rounds_succ]
  go_wp2
  go_end0
  exact ⟨⟨_, rfl⟩, rfl⟩

end Go.Proofs.Ytgefpllmelpahaa

/-! As XMat, for rows of any capacity. A matrix in memory: a slice of rows, each a slice of int64 of its own. -/
namespace Go.Proofs.Ytgefpllmelpahaa
open Go.RowKit Go.Lib Go.Sort

/-- Where row i lies. -/
abbrev Ads := List (Nat × Nat)
def adr (ad : Ads) (i : Nat) : Nat × Nat := ad[i]?.getD (0, 0)

/-- In block R lie the rows' slices, row i at ad i; B: what lay at the start. -/
structure MatW (W : World) (B R n w : Nat) (ad : Ads) (M : List (List Int)) : Prop where
  len : M.length = n
  adl : ad.length = n
  wid : ∀ i, i < n → (M[i]?.getD []).length = w
  hd : ∀ i, i < n → (∃ e, W.cell? ⟨R, i, none⟩ = some (.slice (some ⟨(adr ad i).1, (adr ad i).2, none⟩) w e)) ∧ W.frozen? ⟨R, i, none⟩ = false
  row : ∀ i, i < n → Holds encI W (adr ad i).1 (adr ad i).2 (M[i]?.getD []).toArray
  apart : ∀ i k, i < n → k < n → i ≠ k → (adr ad i).1 ≠ (adr ad k).1 ∨ (adr ad i).2 + w ≤ (adr ad k).2 ∨ (adr ad k).2 + w ≤ (adr ad i).2
  off : ∀ i, i < n → (adr ad i).1 ≠ R
  base : ∀ i, i < n → B ≤ (adr ad i).1 ∧ (adr ad i).1 < W.heap.size
  head : B ≤ R ∧ R < W.heap.size

theorem MatW.at {W : World} {B R n w : Nat} {ad : Ads} {M : List (List Int)} (h : MatW W B R n w ad M) {i j : Nat} (hi : i < n) (hj : j < w) :
    W.cell? ⟨(adr ad i).1, (adr ad i).2 + j, none⟩ = some (.int .i64 (ent M i j)) ∧ W.frozen? ⟨(adr ad i).1, (adr ad i).2 + j, none⟩ = false := by
  have hl := h.wid i hi
  have := h.row i hi j (by simp; omega)
  refine ⟨this.1.trans ?_, this.2⟩
  have hj' : j < (M[i]?.getD []).length := by omega
  simp only [encI, ent]
  rw [getElem!_pos (M[i]?.getD []).toArray j (by simpa using hj'), List.getElem?_eq_getElem hj']
  simp

/-- Draws alone. -/
theorem MatW.ahead {W : World} {B R n w : Nat} {ad : Ads} {M : List (List Int)} (h : MatW W B R n w ad M) (m : Nat) : MatW (Sort.ahead W m) B R n w ad M :=
  ⟨h.len, h.adl, h.wid, h.hd, h.row, h.apart, h.off, h.base, h.head⟩
theorem MatW.drewN {W : World} {B R n w : Nat} {ad : Ads} {M : List (List Int)} (h : MatW W B R n w ad M) (m : Nat) : MatW (W.drewN m) B R n w ad M :=
  ⟨h.len, h.adl, h.wid, h.hd, h.row, h.apart, h.off, h.base, h.head⟩

theorem holds_keep {w w' : World} {blk off : Nat} {d : Array Int} (h : Holds encI w blk off d) (hk : w'.heap[blk]? = w.heap[blk]?) : Holds encI w' blk off d := by
  intro j hj
  have := h j hj
  simp only [World.cell?, World.frozen?] at this ⊢
  rw [hk]
  exact this

/-- Whatever keeps the blocks. -/
theorem MatW.keep {W W' : World} {B R n w : Nat} {ad : Ads} {M : List (List Int)} (h : MatW W B R n w ad M) (hs : W.heap.size ≤ W'.heap.size) (hR : W'.heap[R]? = W.heap[R]?) (hr : ∀ i, i < n → W'.heap[(adr ad i).1]? = W.heap[(adr ad i).1]?) : MatW W' B R n w ad M where
  len := h.len
  adl := h.adl
  wid := h.wid
  hd := fun i hi => by have := h.hd i hi; simp only [World.cell?, World.frozen?] at this ⊢; rw [hR]; exact this
  row := fun i hi => holds_keep (h.row i hi) (hr i hi)
  apart := h.apart
  off := h.off
  base := fun i hi => ⟨(h.base i hi).1, Nat.lt_of_lt_of_le (h.base i hi).2 hs⟩
  head := ⟨h.head.1, Nat.lt_of_lt_of_le h.head.2 hs⟩

/-- Row k is written anew. -/
theorem MatW.put {W : World} {B R n w : Nat} {ad : Ads} {M : List (List Int)} (h : MatW W B R n w ad M) {k : Nat} (hk : k < n) (m : Nat) {row : List Int} (hl : row.length = w) :
    MatW (putRow encI (Sort.ahead W m) (adr ad k).1 (adr ad k).2 row.toArray) B R n w ad (M.set k row) where
  len := by simp [h.len]
  adl := h.adl
  wid := fun i hi => by
    by_cases e : k = i
    · subst e; rw [List.getElem?_set_self (by rw [h.len]; exact hi)]; simpa using hl
    · rw [List.getElem?_set_ne e]; exact h.wid i hi
  hd := fun i hi => by
    have := h.hd i hi
    refine ⟨?_, by rw [frozen?_putRow]; exact this.2⟩
    rw [cell?_putRow_other _ _ _ _ _ _ (.inl (fun e => h.off k hk e.symm))]
    exact this.1
  row := fun i hi => by
    by_cases e : k = i
    · subst e
      rw [List.getElem?_set_self (by rw [h.len]; exact hi)]
      exact holds_putRow encI _ _ _ _ _ (holds_ahead encI W m _ _ _ (h.row k hi)) (by simp [hl, h.wid k hi])
    · rw [List.getElem?_set_ne e]
      intro j hj
      have hj' : j < w := by have := h.wid i hi; simp at hj; omega
      have := h.row i hi j hj
      refine ⟨?_, by rw [frozen?_putRow]; exact this.2⟩
      rw [cell?_putRow_other _ _ _ _ _ _ (by
        have := h.apart i k hi hk (fun e' => e e'.symm)
        simp [hl]
        omega)]
      exact this.1
  apart := h.apart
  off := h.off
  base := fun i hi => by simpa using h.base i hi
  head := by simpa using h.head

/-- Two rows change places. -/
theorem MatW.swap {W : World} {B R n w : Nat} {ad : Ads} {M : List (List Int)} (h : MatW W B R n w ad M) {r i : Nat} (hr : r < n) (hi : i < n) {W' : World}
    (hs : W'.heap.size = W.heap.size) (hk : ∀ b, b ≠ R → W'.heap[b]? = W.heap[b]?)
    (hc : ∀ k, k < n → (∃ e, W'.cell? ⟨R, k, none⟩ = some (.slice (some ⟨(if k = i then adr ad r else if k = r then adr ad i else adr ad k).1, (if k = i then adr ad r else if k = r then adr ad i else adr ad k).2, none⟩) w e)) ∧ W'.frozen? ⟨R, k, none⟩ = false) :
    MatW W' B R n w ((ad.set r (adr ad i)).set i (adr ad r)) (swapR M r i) := by
  have ha : ∀ k, k < n → adr ((ad.set r (adr ad i)).set i (adr ad r)) k = if k = i then adr ad r else if k = r then adr ad i else adr ad k := by
    intro k hk
    unfold adr
    by_cases e1 : k = i
    · subst e1; rw [List.getElem?_set_self (by simp [h.adl]; omega), if_pos rfl]; simp
    · rw [if_neg e1, List.getElem?_set_ne (fun e => e1 e.symm)]
      by_cases e2 : k = r
      · subst e2; rw [List.getElem?_set_self (by simp [h.adl]; omega), if_pos rfl]; simp
      · rw [if_neg e2, List.getElem?_set_ne (fun e => e2 e.symm)]
  have hM : ∀ k, k < n → (swapR M r i)[k]?.getD [] = if k = i then M[r]?.getD [] else if k = r then M[i]?.getD [] else M[k]?.getD [] := by
    intro k hk
    unfold swapR
    by_cases e1 : k = i
    · subst e1; rw [List.getElem?_set_self (by simp [h.len]; omega), if_pos rfl]; simp
    · rw [if_neg e1, List.getElem?_set_ne (fun e => e1 e.symm)]
      by_cases e2 : k = r
      · subst e2; rw [List.getElem?_set_self (by simp [h.len]; omega), if_pos rfl]; simp
      · rw [if_neg e2, List.getElem?_set_ne (fun e => e2 e.symm)]
  refine ⟨by rw [swapR_len]; exact h.len, by simp [h.adl], ?_, ?_, ?_, ?_, ?_, ?_, ?_⟩
  · intro k hk'
    rw [hM k hk']
    split
    · exact h.wid r hr
    · split
      · exact h.wid i hi
      · exact h.wid k hk'
  · intro k hk'
    rw [ha k hk']
    exact hc k hk'
  · intro k hk'
    rw [ha k hk', hM k hk']
    split
    · exact holds_keep (h.row r hr) (hk _ (h.off r hr))
    · split
      · exact holds_keep (h.row i hi) (hk _ (h.off i hi))
      · exact holds_keep (h.row k hk') (hk _ (h.off k hk'))
  · intro a b ha' hb' hab
    have hp : ∀ k, k < n → ∃ k', k' < n ∧ adr ((ad.set r (adr ad i)).set i (adr ad r)) k = adr ad k' ∧ k' = (if k = i then r else if k = r then i else k) := by
      intro k hk'
      refine ⟨if k = i then r else if k = r then i else k, ?_, ?_, rfl⟩
      · split
        · exact hr
        · split
          · exact hi
          · exact hk'
      · rw [ha k hk']
        split
        · rfl
        · split <;> rfl
    obtain ⟨a', ha1, ha2, ha3⟩ := hp a ha'
    obtain ⟨b', hb1, hb2, hb3⟩ := hp b hb'
    rw [ha2, hb2]
    refine h.apart a' b' ha1 hb1 (fun e => ?_)
    rw [ha3, hb3] at e
    split at e <;> split at e <;> (try split at e) <;> (try split at e) <;> omega
  · intro k hk'
    rw [ha k hk']
    split
    · exact h.off r hr
    · split
      · exact h.off i hi
      · exact h.off k hk'
  · intro k hk'
    rw [ha k hk', hs]
    split
    · exact h.base r hr
    · split
      · exact h.base i hi
      · exact h.base k hk'
  · rw [hs]; exact h.head

end Go.Proofs.Ytgefpllmelpahaa

/-! clearColumn: a step is taken off a row. -/
namespace Go.Proofs.Ytgefpllmelpahaa
open Go.RowKit Go.Lib Go.Sort

/-- The first i numbers of a row are cleared. -/
def part (p : Int) (c : Nat) (row own : List Int) (i : Nat) : List Int := (clr p c row own).take i ++ row.drop i
theorem part_zero (p : Int) (c : Nat) (row own : List Int) : part p c row own 0 = row := by simp [part]
theorem part_len {p : Int} {c w : Nat} {row own : List Int} (h1 : row.length = w) (h2 : own.length = w) {i : Nat} (hi : i ≤ w) : (part p c row own i).length = w := by
  simp [part, clr_len h1 h2, h1]; omega
theorem part_all {p : Int} {c w : Nat} {row own : List Int} (h1 : row.length = w) (h2 : own.length = w) : part p c row own w = clr p c row own := by
  unfold part
  rw [List.take_of_length_le (by rw [clr_len h1 h2]; exact Nat.le_refl _), List.drop_of_length_le (by omega)]
  simp
theorem part_succ {p : Int} {c w : Nat} {row own : List Int} (h1 : row.length = w) (h2 : own.length = w) {i : Nat} (hi : i < w) :
    part p c row own (i + 1) = (part p c row own i).set i ((row[i]?.getD 0 + (p - (row[c]?.getD 0 * own[c]?.getD 0) % p) * own[i]?.getD 0) % p) := by
  have hl := clr_len (p := p) (c := c) h1 h2
  have e := clr_get (p := p) (c := c) h1 h2 hi
  rw [List.getElem?_eq_getElem (by omega)] at e
  simp only [Option.getD_some] at e
  unfold part
  rw [List.take_succ_eq_append_getElem (by omega), e, List.set_append_right _ _ (by simp; omega)]
  have : (List.take i (clr p c row own)).length = i := by simp; omega
  rw [this, Nat.sub_self, List.drop_eq_getElem_cons (by omega : i < row.length)]
  simp only [List.set_cons_zero, List.append_assoc, List.cons_append, List.nil_append]
theorem part_at {p : Int} {c w : Nat} {row own : List Int} (h1 : row.length = w) (h2 : own.length = w) {i : Nat} (hi : i < w) : (part p c row own i)[i]?.getD 0 = row[i]?.getD 0 := by
  have hl := clr_len (p := p) (c := c) h1 h2
  unfold part
  rw [List.getElem?_append_right (by simp; omega)]
  have : (List.take i (clr p c row own)).length = i := by simp; omega
  rw [this, Nat.sub_self]
  simp

theorem holds_at {w : World} {blk off : Nat} {l : List Int} (h : Holds encI w blk off l.toArray) {i : Nat} (hi : i < l.length) : w.cell? ⟨blk, off + i, none⟩ = some (.int .i64 (l[i]?.getD 0)) ∧ w.frozen? ⟨blk, off + i, none⟩ = false := by
  have := h i (by simpa using hi)
  refine ⟨this.1.trans ?_, this.2⟩
  simp only [encI]
  rw [getElem!_pos l.toArray i (by simpa using hi), List.getElem?_eq_getElem hi]
  simp
theorem putRow_at (W : World) (m blk off : Nat) (l : List Int) (i : Nat) (x : Int) (hi : i < l.length) :
    (putRow encI (Sort.ahead W m) blk off l.toArray).setCell ⟨blk, off + i, none⟩ (.int .i64 x) = putRow encI (Sort.ahead W m) blk off (l.set i x).toArray := by
  have := putRow_set encI (Sort.ahead W m) blk off l.toArray i x (by simpa using hi)
  simp only [encI] at this ⊢
  rw [this]
  simp

theorem small_mul {a b p : Int} (hp : p = 2 ∨ p = 3) (ha0 : 0 ≤ a) (ha : a < p) (hb0 : 0 ≤ b) (hb : b < p) : 0 ≤ a * b ∧ a * b ≤ 6 := by
  have h1 : a * b ≤ 2 * b := Int.mul_le_mul_of_nonneg_right (by omega) hb0
  exact ⟨Int.mul_nonneg ha0 hb0, by omega⟩
theorem small_mul' {t b p : Int} (hp : p = 2 ∨ p = 3) (ht : 0 ≤ t ∧ t < p) (hb : 0 ≤ b ∧ b < p) : 0 ≤ (p - t) * b ∧ (p - t) * b ≤ 9 := by
  have h1 : (p - t) * b ≤ 3 * b := Int.mul_le_mul_of_nonneg_right (by omega) hb.1
  exact ⟨Int.mul_nonneg (by omega) hb.1, by omega⟩
theorem mod_rng {a p : Int} (hp : p = 2 ∨ p = 3) : 0 ≤ a % p ∧ a % p < p := ⟨Int.emod_nonneg _ (by omega), Int.emod_lt_of_pos _ (by omega)⟩

set_option maxRecDepth 1000000 in
set_option maxHeartbeats 2000000 in
theorem clear_any (b1 o1 b2 o2 w c e1 e2 : Nat) (p : Int) (row own : List Int) (W : World) (h1 : Holds encI W b1 o1 row.toArray) (h2 : Holds encI W b2 o2 own.toArray) (l1 : row.length = w) (l2 : own.length = w) (hc : c < w) (hw : w ≤ 1048576)
    (hp : p = 2 ∨ p = 3) (r1 : ∀ x ∈ row, 0 ≤ x ∧ x < p) (r2 : ∀ x ∈ own, 0 ≤ x ∧ x < p) (hd : b1 ≠ b2 ∨ o1 + w ≤ o2 ∨ o2 + w ≤ o1) :
    Calls Try.prog 126 #[.slice (some ⟨b1, o1, none⟩) w e1, .slice (some ⟨b2, o2, none⟩) w e2, .int .i64 (c : Int), .int .i64 p] W fun e W' => (∃ v, e = .returned v) ∧ ∃ m, W' = putRow encI (Sort.ahead W m) b1 o1 (clr p c row own).toArray := by
  obtain ⟨cx, _⟩ := holds_at h1 (i := c) (by omega)
  obtain ⟨cy, _⟩ := holds_at h2 (i := c) (by omega)
  obtain ⟨x0, hx0⟩ : ∃ x, x = row[c]?.getD 0 := ⟨_, rfl⟩
  obtain ⟨y0, hy0⟩ : ∃ y, y = own[c]?.getD 0 := ⟨_, rfl⟩
  have rx := r1 _ (getD_memL (d := 0) (show c < row.length by omega))
  have ry := r2 _ (getD_memL (d := 0) (show c < own.length by omega))
  rw [← hx0] at cx rx
  rw [← hy0] at cy ry
  have hm := small_mul hp rx.1 rx.2 ry.1 ry.2
  obtain ⟨t, ht⟩ : ∃ t, t = (x0 * y0) % p := ⟨_, rfl⟩
  have hmul : IntKind.i64.wrap (x0 * y0) = x0 * y0 := IntWalk.i64_in _ (by omega)
  have hrem : (x0 * y0).tmod p = t := by rw [ht, Int.tmod_eq_emod_of_nonneg hm.1]
  have htr : 0 ≤ t ∧ t < p := by rw [ht]; exact mod_rng hp
  have hc0 : (0 : Int) ≤ (c : Int) := by omega
  have hc1 : (c : Int) < (w : Int) := by omega
  have hp0 : (p == 0) = false := by rcases hp with rfl | rfl <;> rfl
  have HX := hid hx0
  have HY := hid hy0
  have HT := hid ht
  have H1 := hid h1
  have H2 := hid h2
  have R1 := hid r1
  have R2 := hid r2
  clear hx0 hy0 ht h1 h2 r1 r2
  go_enter Try.func126, Try.ntmps126
  go_wp2
  go_quiet (fail)
  go_wp2
  clear hmul hrem hc0 hc1 cx cy hm rx ry
  go_loopg [23] w (fun k s23 wr => ∃ (i m : Nat), s23 = .int .i64 i ∧ i ≤ w ∧ w - i ≤ k ∧ wr = putRow encI (Sort.ahead W m) b1 o1 (part p c row own i).toArray)
  case atStart => exact ⟨0, nq, rfl, Nat.zero_le _, by omega, by rw [part_zero]; exact (putRow_self encI _ b1 o1 _ (holds_ahead encI W nq _ _ _ H1.out)).symm⟩
  case round =>
    obtain ⟨i, m, rfl, hi, hk, hwr⟩ := hrel
    by_cases hlt : i < w
    · have hHk : Holds encI wr b1 o1 (part p c row own i).toArray := by rw [hwr]; exact holds_putRow encI _ b1 o1 _ _ (holds_ahead encI W m b1 o1 _ H1.out) (by simp [part_len l1 l2 hi, l1])
      obtain ⟨ca, fa⟩ := holds_at hHk (i := i) (by rw [part_len l1 l2 hi]; exact hlt)
      rw [part_at l1 l2 hlt] at ca
      obtain ⟨cb0, _⟩ := holds_at H2.out (i := i) (by omega)
      have cb : wr.cell? ⟨b2, o2 + i, none⟩ = some (.int .i64 (own[i]?.getD 0)) := by
        rw [hwr, cell?_putRow_other _ _ _ _ _ _ (by simp [part_len l1 l2 hi]; omega)]
        exact cb0
      have ra := R1.out _ (getD_memL (d := 0) (show i < row.length by omega))
      have rb := R2.out _ (getD_memL (d := 0) (show i < own.length by omega))
      have Hps := hid (part_succ (p := p) (c := c) l1 l2 hlt)
      have hpl := part_len (p := p) (c := c) l1 l2 hi
      obtain ⟨a, ha⟩ : ∃ a, a = row[i]?.getD 0 := ⟨_, rfl⟩
      obtain ⟨b, hb⟩ : ∃ b, b = own[i]?.getD 0 := ⟨_, rfl⟩
      rw [← ha] at ca ra Hps
      rw [← hb] at cb rb Hps
      rw [← HX.out, ← HY.out, ← HT.out] at Hps
      have hm := small_mul' hp htr rb
      obtain ⟨v, hv⟩ : ∃ v, v = (a + (p - t) * b) % p := ⟨_, rfl⟩
      rw [← hv] at Hps
      have hrem : (a + (p - t) * b).tmod p = v := by rw [hv, Int.tmod_eq_emod_of_nonneg (by omega)]
      have hadd : IntKind.i64.wrap (a + (p - t) * b) = a + (p - t) * b := IntWalk.i64_in _ (by omega)
      have hmul : IntKind.i64.wrap ((p - t) * b) = (p - t) * b := IntWalk.i64_in _ (by omega)
      have hsub : IntKind.i64.wrap (p - t) = p - t := IntWalk.i64_in _ (by omega)
      have hi0 : (0 : Int) ≤ (i : Int) := by omega
      have hi1 : (i : Int) < (w : Int) := by omega
      have A : Aside (wr = putRow encI (Sort.ahead W m) b1 o1 (part p c row own i).toArray) := hwr
      clear hwr hHk ha hb hv cb0 hm
      go_wp2_with fail
      go_region
      go_wp2
      go_roundg (w - (i + 1))
      case measure => omega
      case rel => exact ⟨i + 1, m + 1, by go_num, by omega, Nat.le_refl _, by rw [Hps.out, ← putRow_at _ _ _ _ _ _ _ (by rw [hpl]; exact hlt), ← ahead_drew, ← putRow_drew, ← A.out]; rfl⟩
    · go_wp2
      go_end0
      obtain rfl : i = w := by omega
      exact ⟨⟨_, rfl⟩, m, by rw [part_all l1 l2]⟩

end Go.Proofs.Ytgefpllmelpahaa

/-! The program's bringToSteps: a machine with two labels. -/
namespace Go.Proofs.Ytgefpllmelpahaa
open Go.RowKit
open Go.Sort hiding Below

def swapA (ad : Ads) (r i : Nat) : Ads := (ad.set r (adr ad i)).set i (adr ad r)
theorem adr_swap_r {ad : Ads} {r i : Nat} (hr : r < ad.length) (hi : i < ad.length) : adr (swapA ad r i) r = adr ad i := by
  unfold swapA adr
  by_cases e : i = r
  · subst e; rw [List.getElem?_set_self (by simpa using hi)]; simp
  · rw [List.getElem?_set_ne e, List.getElem?_set_self hr]; simp

theorem cells_set2 {W : World} {R a b k : Nat} {u v : Value} (ha : (W.cell? ⟨R, a, none⟩).isSome) (hb : (W.cell? ⟨R, b, none⟩).isSome) :
    ((W.setCell ⟨R, a, none⟩ u).setCell ⟨R, b, none⟩ v).cell? ⟨R, k, none⟩ = if k = b then some v else if k = a then some u else W.cell? ⟨R, k, none⟩ := by
  have h1 : ((W.setCell ⟨R, a, none⟩ u).cell? ⟨R, b, none⟩).isSome := by
    by_cases e : b = a
    · subst e; rw [World.cell?_setCell_same' _ _ _ ha]; rfl
    · rw [World.cell?_setCell_other _ _ _ _ (by simp <;> omega)]; exact hb
  by_cases e : k = b
  · subst e; rw [if_pos rfl, World.cell?_setCell_same' _ _ _ h1]
  · rw [if_neg e, World.cell?_setCell_other _ _ _ _ (by simp <;> omega)]
    by_cases e2 : k = a
    · subst e2; rw [if_pos rfl, World.cell?_setCell_same' _ _ _ ha]
    · rw [if_neg e2, World.cell?_setCell_other _ _ _ _ (by simp <;> omega)]

theorem below_ahead {B : Nat} {a W : World} (h : Below B a W) (m : Nat) : Below B a (Sort.ahead W m) := h.trans ⟨rfl, rfl, rfl, Nat.le_refl _, fun _ _ => rfl⟩
theorem below_put {B : Nat} {a W : World} (h : Below B a W) (m blk off : Nat) (l : List Int) (hb : B ≤ blk) : Below B a (putRow encI (Sort.ahead W m) blk off l.toArray) := by
  exact ⟨h.os, h.tape, h.output, by simpa using h.size, fun k hk => by
    have : blk ≠ k := by omega
    rw [← h.block k hk]
    simp [putRow, mapBlock, Sort.ahead, Array.getElem?_modify, this]⟩

theorem within_ahead {B hi : Nat} {a W : World} (h : Within B hi a W) (m : Nat) : Within B hi a (Sort.ahead W m) := h.trans ⟨rfl, rfl, rfl, Nat.le_refl _, fun _ _ _ => rfl⟩
theorem within_drewN {B hi : Nat} {a W : World} (h : Within B hi a W) (m : Nat) : Within B hi a (W.drewN m) := h.trans ⟨rfl, rfl, rfl, Nat.le_refl _, fun _ _ _ => rfl⟩
theorem within_put {B hi : Nat} {a W : World} (h : Within B hi a W) (m blk off : Nat) (l : List Int) (hb : B ≤ blk) (hh : blk < hi) : Within B hi a (putRow encI (Sort.ahead W m) blk off l.toArray) := by
  exact ⟨h.os, h.tape, h.output, by simpa using h.size, fun k hk ho => by
    have : blk ≠ k := by omega
    rw [← h.block k hk ho]
    simp [putRow, mapBlock, Sort.ahead, Array.getElem?_modify, this]⟩
theorem within_set {B hi : Nat} {a W : World} (h : Within B hi a W) {p : Addr} (hb : B ≤ p.block) (hh : p.block < hi) (v : Value) : Within B hi a (W.setCell p v) :=
  ⟨h.os, h.tape, h.output, by simpa using h.size, fun k hk ho => (Below.heap_setCell _ _ _ _ (by omega)).trans (h.block k hk ho)⟩

/-- All blocks of the matrix lie below hi. -/
def Tp (hi R n : Nat) (ad : Ads) : Prop := R < hi ∧ ∀ i, i < n → (adr ad i).1 < hi
theorem tp_swap {hi R n : Nat} {ad : Ads} {r i : Nat} (h : Tp hi R n ad) (hl : ad.length = n) (hr : r < n) (hi' : i < n) : Tp hi R n (swapA ad r i) := by
  refine ⟨h.1, fun k hk => ?_⟩
  unfold swapA adr
  by_cases e1 : k = i
  · subst e1; rw [List.getElem?_set_self (by simp [hl]; omega)]; exact h.2 r hr
  · rw [List.getElem?_set_ne (fun e => e1 e.symm)]
    by_cases e2 : k = r
    · subst e2; rw [List.getElem?_set_self (by omega)]; exact h.2 i hi'
    · rw [List.getElem?_set_ne (fun e => e2 e.symm)]; exact h.2 k hk

theorem ent_swap {p : Int} {n w : Nat} {M : List (List Int)} (hG : MatG p n w M) {r b : Nat} (hr : r < n) (hb : b < n) (k j : Nat) :
    ent (swapR M r b) k j = if k = b then ent M r j else if k = r then ent M b j else ent M k j := by
  unfold ent swapR
  by_cases e1 : k = b
  · subst e1; rw [List.getElem?_set_self (by simp [hG.len]; omega), if_pos rfl]; simp
  · rw [if_neg e1, List.getElem?_set_ne (fun e => e1 e.symm)]
    by_cases e2 : k = r
    · subst e2; rw [List.getElem?_set_self (by simp [hG.len]; omega), if_pos rfl]; simp
    · rw [if_neg e2, List.getElem?_set_ne (fun e => e2 e.symm)]
theorem zeros_swap {p : Int} {n w r b c : Nat} {M : List (List Int)} (hG : MatG p n w M) (hr : r < n) (hb : b < n) (hrb : r ≤ b) (hZ : ZerosTo M r c) (hne : ent M b c ≠ 0) :
    ZerosTo (swapR M r b) r c ∧ ent (swapR M r b) r c ≠ 0 := by
  constructor
  · intro i j h1 h2 h3
    rw [swapR_len] at h2
    rw [ent_swap hG hr hb]
    split
    · exact hZ r j (Nat.le_refl _) (by rw [hG.len]; exact hr) h3
    · split
      · exact hZ b j hrb (by rw [hG.len]; exact hb) h3
      · exact hZ i j h1 h2 h3
  · rw [ent_swap hG hr hb]
    split
    · rename_i e; rw [e]; exact hne
    · rw [if_pos rfl]; exact hne

theorem zeros_sweep {p : Int} {n w r c : Nat} {M : List (List Int)} (hp : p = 2 ∨ p = 3) (hG : MatG p n w M) (hr : r < n) (hZ : ZerosTo M r c) (hc : c < w) (hne : ent M r c ≠ 0) : ZerosTo (sweepTo p c r n M) (r + 1) (c + 1) := by
  intro i j h1 h2 h3
  rw [sweepTo_len, hG.len] at h2
  unfold ent
  rw [sweepTo_get (by rw [hG.len]; exact h2), if_pos ⟨by omega, h2⟩, clr_get (hG.rowLen h2) (hG.rowLen hr) (by omega)]
  have ea := hG.ent h2 hc
  have eb := hG.ent hr hc
  by_cases e : j = c
  · subst e
    exact clear_one hp ea.1 ea.2 eb.1 eb.2 hne
  · have z1 := hZ i j (by omega) (by rw [hG.len]; exact h2) (by omega)
    have z2 := hZ r j (Nat.le_refl _) (by rw [hG.len]; exact hr) (by omega)
    unfold ent at z1 z2
    rw [z1, z2]
    simp

theorem part_start {p : Int} {c w : Nat} {row own : List Int} (h1 : row.length = w) (h2 : own.length = w) (hz : ∀ j, j < c → own[j]?.getD 0 = 0) (hr : ∀ x ∈ row, 0 ≤ x ∧ x < p) (hc : c ≤ w) : part p c row own c = row := by
  have hl := clr_len (p := p) (c := c) h1 h2
  apply List.ext_getElem?
  intro i
  unfold part
  by_cases hi : i < c
  · rw [List.getElem?_append_left (by simp; omega), List.getElem?_take_of_lt hi]
    have e := clr_get (p := p) (c := c) h1 h2 (show i < w by omega)
    rw [hz i hi] at e
    have hm := hr _ (getD_memL (d := 0) (show i < row.length by omega))
    rw [List.getElem?_eq_getElem (by omega), List.getElem?_eq_getElem (by omega : i < row.length)] at *
    simp only [Option.getD_some] at e hm
    rw [e]
    simp only [Int.mul_zero, Int.add_zero]
    rw [Int.emod_eq_of_lt hm.1 hm.2]
  · rw [List.getElem?_append_right (by simp; omega)]
    have : (List.take c (clr p c row own)).length = c := by simp; omega
    rw [this, List.getElem?_drop, Nat.add_sub_cancel' (by omega)]


/-- As Q; by a goto: what holds there. -/
def jump2 (l0 l1 : Nat) (J0 J1 : Act → World → Prop) (Q : Exit → Act → World → Prop) : Exit → Act → World → Prop
  | .goto l, a, w => (l = l0 ∧ J0 a w) ∨ (l = l1 ∧ J1 a w)
  | .normal, a, w => Q .normal a w
  | .exit id, a, w => Q (.exit id) a w
  | .ret, a, w => Q .ret a w
  | .panic ch, a, w => Q (.panic ch) a w
  | .outgrown, a, w => Q .outgrown a w

/-- A scope with two labels, one of them at its head: what holds at each jump, and what each lowers. -/
theorem wp_scope_two {P : Program} {Q : Exit → Act → World → Prop} {a : Act} {w : World} {c c1 X Y x1 x2 x3 x4 : Code} {l0 l1 : Nat} (J0 J1 : Act → World → Prop) (m0 m1 : Act → World → Nat) (hc : c = c1.seq ((Code.label l0).seq X)) (_hX : X = x1.seq (x2.seq (x3.seq (x4.seq ((Code.label l1).seq Y)))))
    (h0 : findLabel c l0 = some (Code.skip.seq X)) (h1 : findLabel c l1 = some (Code.skip.seq Y))
    (first : c1.wp P (fun e a w => e = .normal ∧ J0 a w) a w)
    (pass0 : ∀ a w, J0 a w → X.wp P (jump2 l0 l1 (fun a' w' => J0 a' w' ∧ m0 a' w' < m0 a w) (fun a' w' => J1 a' w' ∧ m1 a' w' < m0 a w) Q) a w)
    (pass1 : ∀ a w, J1 a w → Y.wp P (jump2 l0 l1 (fun a' w' => J0 a' w' ∧ m0 a' w' < m1 a w) (fun a' w' => J1 a' w' ∧ m1 a' w' < m1 a w) Q) a w) : (Code.scope c).wp P Q a w := by
  intro b k cs
  have g0 : gotoIn l0 (.inScope c :: k) = some (.code (Code.skip.seq X) :: .inScope c :: k) := by simp [gotoIn, h0]
  have g1 : gotoIn l1 (.inScope c :: k) = some (.code (Code.skip.seq Y) :: .inScope c :: k) := by simp [gotoIn, h1]
  have key : ∀ N, (∀ a w, m0 a w = N → J0 a w → ∃ e a' w', Q e a' w' ∧ Arrives P (lone (b.at a (.code (Code.skip.seq X) :: .inScope c :: k)) cs w) b k cs e a' w') ∧
      (∀ a w, m1 a w = N → J1 a w → ∃ e a' w', Q e a' w' ∧ Arrives P (lone (b.at a (.code (Code.skip.seq Y) :: .inScope c :: k)) cs w) b k cs e a' w') := by
    intro N
    induction N using Nat.strongRecOn with
    | _ N ih =>
      have go : ∀ (Z : Code) (a : Act) (w : World), Z.wp P (jump2 l0 l1 (fun a' w' => J0 a' w' ∧ m0 a' w' < N) (fun a' w' => J1 a' w' ∧ m1 a' w' < N) Q) a w → ∃ e a' w', Q e a' w' ∧ Arrives P (lone (b.at a (.code Z :: .inScope c :: k)) cs w) b k cs e a' w' := by
        intro Z a w hZ
        obtain ⟨e, a1, w1, hq, harr⟩ := hZ b (.inScope c :: k) cs
        cases e with
        | normal => exact ⟨.normal, a1, w1, hq, Steps.trans harr (.one step_inScope)⟩
        | exit id => exact ⟨.exit id, a1, w1, hq, fun k' hk => harr k' (by simp [exitTo, hk])⟩
        | goto l' =>
          rcases hq with ⟨rfl, hJ, hlt⟩ | ⟨rfl, hJ, hlt⟩
          · obtain ⟨e2, a2, w2, hq2, harr2⟩ := (ih _ hlt).1 a1 w1 rfl hJ
            exact ⟨e2, a2, w2, hq2, .of_steps (harr _ g0) harr2⟩
          · obtain ⟨e2, a2, w2, hq2, harr2⟩ := (ih _ hlt).2 a1 w1 rfl hJ
            exact ⟨e2, a2, w2, hq2, .of_steps (harr _ g1) harr2⟩
        | ret => exact ⟨_, a1, w1, hq, harr⟩
        | panic ch => exact ⟨_, a1, w1, hq, harr⟩
        | outgrown => exact ⟨_, a1, w1, hq, harr⟩
      exact ⟨fun a w hn hJ => go _ a w (wp_seq (wp_skip (by subst hn; exact pass0 a w hJ))), fun a w hn hJ => go _ a w (wp_seq (wp_skip (by subst hn; exact pass1 a w hJ)))⟩
  have hfirst : c.wp P (jump2 l0 l1 J0 J1 Q) a w := by
    rw [hc]
    refine wp_seq (wp_mono first ?_)
    rintro e a w ⟨rfl, hJ⟩
    refine wp_seq (wp_label (wp_mono (pass0 a w hJ) ?_))
    intro e a' w' hq
    cases e with
    | goto l' => rcases hq with ⟨rfl, hJ, _⟩ | ⟨rfl, hJ, _⟩; exact .inl ⟨rfl, hJ⟩; exact .inr ⟨rfl, hJ⟩
    | normal => exact hq
    | exit id => exact hq
    | ret => exact hq
    | panic ch => exact hq
    | outgrown => exact hq
  obtain ⟨e, a1, w1, hq, harr⟩ := hfirst b (.inScope c :: k) cs
  cases e with
  | normal => exact ⟨.normal, a1, w1, hq, .head step_scope (Steps.trans harr (.one step_inScope))⟩
  | exit id => exact ⟨.exit id, a1, w1, hq, fun k' hk => .head step_scope (harr k' (by simp [exitTo, hk]))⟩
  | goto l' =>
    rcases hq with ⟨rfl, hJ⟩ | ⟨rfl, hJ⟩
    · obtain ⟨e2, a2, w2, hq2, harr2⟩ := (key _).1 a1 w1 rfl hJ
      exact ⟨e2, a2, w2, hq2, .of_steps (.head step_scope (harr _ g0)) harr2⟩
    · obtain ⟨e2, a2, w2, hq2, harr2⟩ := (key _).2 a1 w1 rfl hJ
      exact ⟨e2, a2, w2, hq2, .of_steps (.head step_scope (harr _ g1)) harr2⟩
  | ret => exact ⟨_, a1, w1, hq, .of_steps (.one step_scope) harr⟩
  | panic ch => exact ⟨_, a1, w1, hq, .of_steps (.one step_scope) harr⟩
  | outgrown => exact ⟨_, a1, w1, hq, .of_steps (.one step_scope) harr⟩

section
variable {Q : Exit → Act → World → Prop} {J0 J1 : Act → World → Prop} {l0 l1 : Nat} {a : Act} {w : World}
@[go_sem] theorem jump2_normal : jump2 l0 l1 J0 J1 Q .normal a w = Q .normal a w := rfl
@[go_sem] theorem jump2_exit (id : Nat) : jump2 l0 l1 J0 J1 Q (.exit id) a w = Q (.exit id) a w := rfl
@[go_sem] theorem jump2_ret : jump2 l0 l1 J0 J1 Q .ret a w = Q .ret a w := rfl
end

/-- Two rows' slices are put at one another's places, in the program's order. -/
theorem MatW.swap3 {W : World} {B R n w : Nat} {ad : Ads} {M : List (List Int)} (h : MatW W B R n w ad M) {r i ei er : Nat} (hr : r < n) (hi : i < n) (hci : W.cell? ⟨R, i, none⟩ = some (.slice (some ⟨(adr ad i).1, (adr ad i).2, none⟩) w ei)) (hcr : W.cell? ⟨R, r, none⟩ = some (.slice (some ⟨(adr ad r).1, (adr ad r).2, none⟩) w er)) :
    MatW ((W.setCell ⟨R, r, none⟩ (.slice (some ⟨(adr ad i).1, (adr ad i).2, none⟩) w ei)).setCell ⟨R, i, none⟩ (.slice (some ⟨(adr ad r).1, (adr ad r).2, none⟩) w er)) B R n w (swapA ad r i) (swapR M r i) := by
  refine h.swap hr hi (by simp [World.setCell]) (fun b hb => ?_) (fun k hk => ⟨?_, ?_⟩)
  · rw [Below.heap_setCell _ _ _ _ (by simpa using hb), Below.heap_setCell _ _ _ _ (by simpa using hb)]
  · rw [cells_set2 (by rw [hcr]; rfl) (by rw [hci]; rfl)]
    by_cases e1 : k = i
    · exact ⟨er, by simp [e1]⟩
    · by_cases e2 : k = r
      · exact ⟨ei, by rw [if_neg e1, if_pos e2, if_neg e1, if_pos e2]⟩
      · obtain ⟨ek, hk2⟩ := (h.hd k hk).1
        exact ⟨ek, by rw [if_neg e1, if_neg e2, if_neg e1, if_neg e2]; exact hk2⟩
  · rw [World.frozen?_setCell, World.frozen?_setCell]; exact (h.hd k hk).2

/-- What holds at the label seek. -/
def Seek (B hi R n w : Nat) (W : World) (p : Int) (E r c : Nat) (wr : World) : Prop :=
  ∃ (M : List (List Int)) (ad : Ads), r ≤ n ∧ c ≤ w ∧ MatW wr B R n w ad M ∧ MatG p n w M ∧ E = elimR p (w - c) r c M ∧ Within B hi W wr ∧ Tp hi R n ad
/-- .. at the label sweep. -/
def Swp (B hi R n w : Nat) (W : World) (p : Int) (E r c : Nat) (wr : World) : Prop :=
  ∃ (M : List (List Int)) (ad : Ads), r < n ∧ c < w ∧ MatW wr B R n w ad M ∧ MatG p n w M ∧ E = elimR p (w - (c + 1)) (r + 1) (c + 1) (sweepTo p c r n M) ∧ Within B hi W wr ∧ Tp hi R n ad

/-- The machine at the label seek; at the label sweep. -/
def AtSeek (B hi R n w cap : Nat) (W : World) (p : Int) (E : Nat) (a' : Act) (w' : World) : Prop :=
  ∃ (r c : Nat) (us : Nat → Value), a' = { tmps := #[.slice (some ⟨R, 0, none⟩) n cap, .int .i64 p, undef, undef, .int .i64 0, .int .i64 (r : Int), .int .i64 (c : Int), us 7, us 8, us 9, us 10, us 11, us 12, us 13, us 14, us 15, us 16, us 17, us 18, us 19, us 20, us 21, us 22, us 23, us 24, us 25, us 26, us 27, us 28, us 29, us 30, us 31, us 32, us 33, us 34, us 35, us 36, us 37, us 38, us 39, us 40, us 41, us 42, us 43, us 44, us 45, us 46, us 47, us 48, us 49, us 50, us 51, us 52, us 53, us 54, us 55, us 56, us 57, us 58, us 59, us 60, us 61, us 62, us 63, us 64, us 65, us 66, us 67, us 68, us 69, us 70, us 71, us 72, us 73, us 74, us 75, us 76], defers := [] } ∧ Hid (Seek B hi R n w W p E r c w')
def AtSweep (B hi R n w cap : Nat) (W : World) (p : Int) (E : Nat) (a' : Act) (w' : World) : Prop :=
  ∃ (r c : Nat) (us : Nat → Value), a' = { tmps := #[.slice (some ⟨R, 0, none⟩) n cap, .int .i64 p, undef, undef, .int .i64 0, .int .i64 (r : Int), .int .i64 (c : Int), us 7, us 8, us 9, us 10, us 11, us 12, us 13, us 14, us 15, us 16, us 17, us 18, us 19, us 20, us 21, us 22, us 23, us 24, us 25, us 26, us 27, us 28, us 29, us 30, us 31, us 32, us 33, us 34, us 35, us 36, us 37, us 38, us 39, us 40, us 41, us 42, us 43, us 44, us 45, us 46, us 47, us 48, us 49, us 50, us 51, us 52, us 53, us 54, us 55, us 56, us 57, us 58, us 59, us 60, us 61, us 62, us 63, us 64, us 65, us 66, us 67, us 68, us 69, us 70, us 71, us 72, us 73, us 74, us 75, us 76], defers := [] } ∧ Hid (Swp B hi R n w W p E r c w')
theorem atSeek_of {B hi R n w cap : Nat} {W : World} {p : Int} {E r c : Nat} {w' : World} (tm : Array Value) (h : tm = #[.slice (some ⟨R, 0, none⟩) n cap, .int .i64 p, undef, undef, .int .i64 0, .int .i64 (r : Int), .int .i64 (c : Int), tm.getD 7 undef, tm.getD 8 undef, tm.getD 9 undef, tm.getD 10 undef, tm.getD 11 undef, tm.getD 12 undef, tm.getD 13 undef, tm.getD 14 undef, tm.getD 15 undef, tm.getD 16 undef, tm.getD 17 undef, tm.getD 18 undef, tm.getD 19 undef, tm.getD 20 undef, tm.getD 21 undef, tm.getD 22 undef, tm.getD 23 undef, tm.getD 24 undef, tm.getD 25 undef, tm.getD 26 undef, tm.getD 27 undef, tm.getD 28 undef, tm.getD 29 undef, tm.getD 30 undef, tm.getD 31 undef, tm.getD 32 undef, tm.getD 33 undef, tm.getD 34 undef, tm.getD 35 undef, tm.getD 36 undef, tm.getD 37 undef, tm.getD 38 undef, tm.getD 39 undef, tm.getD 40 undef, tm.getD 41 undef, tm.getD 42 undef, tm.getD 43 undef, tm.getD 44 undef, tm.getD 45 undef, tm.getD 46 undef, tm.getD 47 undef, tm.getD 48 undef, tm.getD 49 undef, tm.getD 50 undef, tm.getD 51 undef, tm.getD 52 undef, tm.getD 53 undef, tm.getD 54 undef, tm.getD 55 undef, tm.getD 56 undef, tm.getD 57 undef, tm.getD 58 undef, tm.getD 59 undef, tm.getD 60 undef, tm.getD 61 undef, tm.getD 62 undef, tm.getD 63 undef, tm.getD 64 undef, tm.getD 65 undef, tm.getD 66 undef, tm.getD 67 undef, tm.getD 68 undef, tm.getD 69 undef, tm.getD 70 undef, tm.getD 71 undef, tm.getD 72 undef, tm.getD 73 undef, tm.getD 74 undef, tm.getD 75 undef, tm.getD 76 undef]) (HK : Hid (Seek B hi R n w W p E r c w')) : AtSeek B hi R n w cap W p E { tmps := tm, defers := [] } w' :=
  ⟨r, c, fun i => tm.getD i undef, congrArg (fun t => ({ tmps := t, defers := [] } : Act)) h, HK⟩
theorem atSweep_of {B hi R n w cap : Nat} {W : World} {p : Int} {E r c : Nat} {w' : World} (tm : Array Value) (h : tm = #[.slice (some ⟨R, 0, none⟩) n cap, .int .i64 p, undef, undef, .int .i64 0, .int .i64 (r : Int), .int .i64 (c : Int), tm.getD 7 undef, tm.getD 8 undef, tm.getD 9 undef, tm.getD 10 undef, tm.getD 11 undef, tm.getD 12 undef, tm.getD 13 undef, tm.getD 14 undef, tm.getD 15 undef, tm.getD 16 undef, tm.getD 17 undef, tm.getD 18 undef, tm.getD 19 undef, tm.getD 20 undef, tm.getD 21 undef, tm.getD 22 undef, tm.getD 23 undef, tm.getD 24 undef, tm.getD 25 undef, tm.getD 26 undef, tm.getD 27 undef, tm.getD 28 undef, tm.getD 29 undef, tm.getD 30 undef, tm.getD 31 undef, tm.getD 32 undef, tm.getD 33 undef, tm.getD 34 undef, tm.getD 35 undef, tm.getD 36 undef, tm.getD 37 undef, tm.getD 38 undef, tm.getD 39 undef, tm.getD 40 undef, tm.getD 41 undef, tm.getD 42 undef, tm.getD 43 undef, tm.getD 44 undef, tm.getD 45 undef, tm.getD 46 undef, tm.getD 47 undef, tm.getD 48 undef, tm.getD 49 undef, tm.getD 50 undef, tm.getD 51 undef, tm.getD 52 undef, tm.getD 53 undef, tm.getD 54 undef, tm.getD 55 undef, tm.getD 56 undef, tm.getD 57 undef, tm.getD 58 undef, tm.getD 59 undef, tm.getD 60 undef, tm.getD 61 undef, tm.getD 62 undef, tm.getD 63 undef, tm.getD 64 undef, tm.getD 65 undef, tm.getD 66 undef, tm.getD 67 undef, tm.getD 68 undef, tm.getD 69 undef, tm.getD 70 undef, tm.getD 71 undef, tm.getD 72 undef, tm.getD 73 undef, tm.getD 74 undef, tm.getD 75 undef, tm.getD 76 undef]) (HK : Hid (Swp B hi R n w W p E r c w')) : AtSweep B hi R n w cap W p E { tmps := tm, defers := [] } w' :=
  ⟨r, c, fun i => tm.getD i undef, congrArg (fun t => ({ tmps := t, defers := [] } : Act)) h, HK⟩

set_option maxRecDepth 1000000 in
set_option maxHeartbeats 4000000 in
theorem steps_any (B hi R n w cap : Nat) (ad : Ads) (p : Int) (M : List (List Int)) (W : World) (hM : MatW W B R n w ad M) (hT : Tp hi R n ad) (hG : MatG p n w M) (hp : p = 2 ∨ p = 3) (hn : n ≤ 1048576) (hw : w ≤ 1048576) :
    Calls Try.prog 54 #[.slice (some ⟨R, 0, none⟩) n cap, .int .i64 p] W fun e W' => e = .returned (.int .i64 (elimR p w 0 0 M : Int)) ∧ Within B hi W W' := by
  obtain ⟨E, hE⟩ : ∃ E, E = elimR p w 0 0 M := ⟨_, rfl⟩
  rw [← hE]
  have HS : Hid (Seek B hi R n w W p E 0 0 W) := hid ⟨M, ad, by omega, by omega, hM, hG, hE, .refl _ _ _, hT⟩
  have HP := hid hp
  clear hM hG hE hp hT
  go_enter Try.func54, Try.ntmps54
  go_wp2
  refine wp_scope_two (l0 := 0) (l1 := 1) (AtSeek B hi R n w cap W p E) (AtSweep B hi R n w cap W p E)
    (fun a' _ => 2 * (w - (intOf (a'.tmps.getD 6 undef)).toNat) + 1) (fun a' _ => 2 * (w - (intOf (a'.tmps.getD 6 undef)).toNat)) rfl rfl (by kernel_rfl) (by kernel_rfl) ?_ ?_ ?_
  · go_wp2
    exact atSeek_of (r := 0) (c := 0) _ rfl HS
  · rintro a' wr ⟨r, c, us, rfl, HK⟩
    clear HS
    obtain ⟨M, ad, hr, hc, hM, hG, hE, hB, hT⟩ := HK.out
    have HM := hid hM
    have HG := hid hG
    have HE := hid hE
    have HB := hid hB
    have HT := hid hT
    clear hM hG hE hB HK hT
    have hr0 : (0 : Int) ≤ (r : Int) := by omega
    have hc0 : (0 : Int) ≤ (c : Int) := by omega
    by_cases hrn : r = n
    · have hd : ((r : Int) == (n : Int)) = true := by simp [hrn]
      have He : Hid (E = r) := hid (by rw [HE.out, elim_full _ _ _ _ (by rw [HG.out.len]; omega)])
      clear hrn
      go_wp2
      go_ret
      exact ⟨ret_int (by rw [He.out]), HB.out⟩
    · have hd : ((r : Int) == (n : Int)) = false := by simp; omega
      have hrlt : r < n := by omega
      have hri : (r : Int) < (n : Int) := by omega
      obtain ⟨⟨er, cr⟩, fr⟩ := HM.out.hd r hrlt
      clear hrn
      by_cases hcw : c = w
      · have hd2 : ((c : Int) == (w : Int)) = true := by simp [hcw]
        have He : Hid (E = r) := hid (by rw [HE.out, hcw, Nat.sub_self]; rfl)
        clear hcw
        go_wp2
        go_ret
        exact ⟨ret_int (by rw [He.out]), HB.out⟩
      · have hd2 : ((c : Int) == (w : Int)) = false := by simp; omega
        have hcl : c < w := by omega
        have hci : (c : Int) < (w : Int) := by omega
        clear hcw
        go_wp2
        obtain ⟨wo, rfl⟩ : ∃ wo : World, wo = wr := ⟨_, rfl⟩
        go_loopw [7] (fun s7 wx => ∃ (i : Nat), s7 = .int .i64 i ∧ r ≤ i ∧ i ≤ n ∧ Hid (∀ i', r ≤ i' → i' < i → ent M i' c = 0) ∧ wx = wo) (fun s7 _ => n - (intOf s7).toNat)
        case atStart => exact ⟨r, rfl, Nat.le_refl _, hr, hid (fun i' h1 h2 => by omega), rfl⟩
        case round =>
          obtain ⟨i, rfl, hri', hin, Hz, rfl⟩ := hrel
          by_cases hlt : i < n
          · have hi0 : (0 : Int) ≤ (i : Int) := by omega
            have hi1 : (i : Int) < (n : Int) := by omega
            obtain ⟨⟨ei, ci⟩, fi⟩ := HM.out.hd i hlt
            have cx := (HM.out.at hlt hcl).1
            by_cases hx : ent M i c = 0
            · have Hz' : Hid (∀ i', r ≤ i' → i' < i + 1 → ent M i' c = 0) := hid (fun i' h1 h2 => by
                by_cases e : i' = i
                · rw [e]; exact hx
                · exact Hz.out i' h1 (by omega))
              rw [hx] at cx
              clear hx
              go_wp2
              go_roundw
              case rel => exact ⟨i + 1, by go_num, by omega, by omega, Hz', trivial⟩
              case measure => simp [intOf]; omega
            · have hdx : (ent M i c != 0) = true := by simpa using hx
              have HE2 : Hid (E = elimR p (w - (c + 1)) (r + 1) (c + 1) (sweepTo p c r n (swapR M r i))) := hid (by
                have h1 := HE.out
                rw [show w - c = (w - (c + 1)) + 1 by omega, elim_some hri' (by rw [HG.out.len]; exact hlt) hx Hz.out, HG.out.len] at h1
                exact h1)
              have hRB := HM.out.head
              have HM2 := hid ((HM.out.swap3 hrlt hlt ci cr).drewN 1)
              have HB2 := hid (within_drewN (within_set (within_set HB.out (p := ⟨R, r, none⟩) hRB.1 HT.out.1 (.slice (some ⟨(adr ad i).1, (adr ad i).2, none⟩) w ei)) (p := ⟨R, i, none⟩) hRB.1 HT.out.1 (.slice (some ⟨(adr ad r).1, (adr ad r).2, none⟩) w er)) 1)
              have HT2 := hid (tp_swap HT.out HM.out.adl hrlt hlt)
              have HG2 := hid (swapR_good HG.out hrlt hlt)
              obtain ⟨v', ci2⟩ := cell?_setCell_some (w := wr) (p := ⟨R, r, none⟩) (x := .slice (some ⟨(adr ad i).1, (adr ad i).2, none⟩) w ei) (q := ⟨R, i, none⟩) (v := _) ci
              clear hRB
              obtain ⟨x, hxx⟩ : ∃ x, x = ent M i c := ⟨_, rfl⟩
              rw [← hxx] at cx hdx
              clear hx hxx
              go_wp2
              go_region
              go_wp2
              refine wp_goto ?_
              refine .inr ⟨rfl, atSweep_of (r := r) (c := c) _ rfl (hid ⟨_, _, hrlt, hcl, HM2.out, HG2.out, HE2.out, HB2.out, HT2.out⟩), ?_⟩
              simp [intOf]
          · obtain rfl : i = n := by omega
            have HS2 : Hid (Seek B hi R i w W p E r (c + 1) wr) := hid ⟨M, ad, hr, by omega, HM.out, HG.out, by
              have h1 := HE.out
              rw [show w - c = (w - (c + 1)) + 1 by omega, elim_none (fun i' h1 h2 => Hz.out i' h1 (by rw [← HG.out.len]; exact h2))] at h1
              exact h1, HB.out, HT.out⟩
            go_wp2
            refine wp_goto ?_
            refine .inl ⟨rfl, atSeek_of (r := r) (c := c + 1) _ rfl HS2, ?_⟩
            simp [intOf]
            omega
  · rintro a' wr ⟨r, c, us, rfl, HK⟩
    clear HS
    obtain ⟨M, ad, hr, hc, hM, hG, hE, hB, hT⟩ := HK.out
    have HM := hid hM
    have HG := hid hG
    have HE := hid hE
    have HB := hid hB
    have HT := hid hT
    clear hM hG hE hB HK hT
    have hr0 : (0 : Int) ≤ (r : Int) := by omega
    have hr1 : (r : Int) < (n : Int) := by omega
    have hc0 : (0 : Int) ≤ (c : Int) := by omega
    have hci : (c : Int) < (w : Int) := by omega
    go_wp2
    go_loopw [8] (fun s8 wx => ∃ (i : Nat), s8 = .int .i64 i ∧ r + 1 ≤ i ∧ i ≤ n ∧ Hid (MatW wx B R n w ad (sweepTo p c r i M)) ∧ Hid (Within B hi W wx)) (fun s8 _ => n - (intOf s8).toNat)
    case atStart => exact ⟨r + 1, by go_num, Nat.le_refl _, by omega, hid (by rw [sweepTo_none (Nat.le_refl _)]; exact HM.out), HB⟩
    case round =>
      clear HM HB
      obtain ⟨i, rfl, hri, hin, HM, HB⟩ := hrel
      by_cases hlt : i < n
      · have hi0 : (0 : Int) ≤ (i : Int) := by omega
        have hi1 : (i : Int) < (n : Int) := by omega
        obtain ⟨ei, ci⟩ := (HM.out.hd i hlt).1
        obtain ⟨er, cr⟩ := (HM.out.hd r hr).1
        have hrow : (sweepTo p c r i M)[i]?.getD [] = M[i]?.getD [] := sweepTo_later (by rw [HG.out.len]; exact hlt)
        have hown : (sweepTo p c r i M)[r]?.getD [] = M[r]?.getD [] := sweepTo_pivot (by rw [HG.out.len]; exact hr)
        have h1 := HM.out.row i hlt
        have h2 := HM.out.row r hr
        rw [hrow] at h1
        rw [hown] at h2
        have HC := hid (clear_any (adr ad i).1 (adr ad i).2 (adr ad r).1 (adr ad r).2 w c ei er p _ _ wr.drew (Sort.holds_ahead encI wr 1 _ _ _ h1) (Sort.holds_ahead encI wr 1 _ _ _ h2) (HG.out.rowLen hlt) (HG.out.rowLen hr) hc hw HP.out (HG.out.rng _ (HG.out.row hlt)) (HG.out.rng _ (HG.out.row hr)) (HM.out.apart i r hlt hr (by omega)))
        have Hput := hid (fun m => HM.out.put hlt m (row := clr p c (M[i]?.getD []) (M[r]?.getD [])) (clr_len (HG.out.rowLen hlt) (HG.out.rowLen hr)))
        have Hsn := hid (sweepTo_succ (p := p) (c := c) (r := r) (k := i) (M := M) (by omega))
        have Hbs := hid (HM.out.base i hlt).1
        have Hth := hid (HT.out.2 i hlt)
        clear hrow hown h1 h2
        go_wp2_with fail
        go_region_with (go_at_call 126; refine HC.out.mono ?_; rintro e w2 ⟨⟨u, rfl⟩, m, hw2⟩; have A : Aside (w2 = _) := hw2; clear hw2)
        all_goals
          have hM2 := Hput.out (m + 1)
          have hB2 := within_put HB.out (m + 1) (adr ad i).1 (adr ad i).2 (clr p c (M[i]?.getD []) (M[r]?.getD [])) Hbs.out Hth.out
          have e2 : w2 = putRow encI (Sort.ahead wr (m + 1)) (adr ad i).1 (adr ad i).2 (clr p c (M[i]?.getD []) (M[r]?.getD [])).toArray := by rw [A.out, Sort.drew_eq_ahead, Sort.ahead_ahead, Nat.add_comm 1 m]
          rw [← e2, ← Hsn.out] at hM2
          rw [← e2] at hB2
          have HM2 := hid hM2
          have HB2 := hid hB2
          clear hM2 hB2 e2 A
          go_wp2
          go_roundw
          case rel => exact ⟨i + 1, by go_num, by omega, by omega, HM2, HB2⟩
          case measure => simp [intOf]; omega
      · obtain rfl : i = n := by omega
        have HS2 : Hid (Seek B hi R i w W p E (r + 1) (c + 1) wr) := hid ⟨_, _, hr, hc, HM.out, sweepTo_good HG.out (by rcases HP.out with h | h <;> omega) hr, HE.out, HB.out, HT.out⟩
        go_wp2
        refine wp_goto ?_
        refine .inl ⟨rfl, atSeek_of (r := r + 1) (c := c + 1) _ rfl HS2, ?_⟩
        simp [intOf]
        omega

end Go.Proofs.Ytgefpllmelpahaa

/-! A list of rows is a matrix in memory. -/
namespace Go.Proofs.Ytgefpllmelpahaa
open Go.RowKit
open Go.Sort hiding Below

/-- What a block of the call's own holds, cell by cell. -/
theorem block_at {W : World} {g e : Nat} {cur : Array Value} {xs : List Value} {m : Nat} (hb : W.heap[g]? = some (.cells cur e (0, 0))) (ht : cur.toList.take m = xs) {i : Nat} (hi : i < xs.length) : W.cell? ⟨g, i, none⟩ = some (xs[i]?.getD undef) ∧ W.frozen? ⟨g, i, none⟩ = false := by
  have h1 : i < m ∧ i < cur.size := by
    rw [← ht, List.length_take, Array.length_toList] at hi
    exact ⟨by omega, by omega⟩
  have h2 : xs[i]?.getD undef = cur[i]'h1.2 := by
    rw [← ht, List.getElem?_take_of_lt h1.1]
    simp [h1.2]
  rw [h2]
  constructor
  · simp [World.cell?, hb, h1.2]
  · simp [World.frozen?, hb]

theorem matW_of {W : World} {base R cap w : Nat} {vs : List Value} {gs : List (List Int)} (h : RowsV W base (.slice (some ⟨R, 0, none⟩) gs.length cap) vs gs) (hw : 0 < w) (hwid : ∀ i, i < gs.length → (gs[i]?.getD []).length = w) : ∃ ad, MatW W base R gs.length w ad gs ∧ ∀ i, i < gs.length → (vs[i]?.getD undef).ownBlock = some (adr ad i).1 := by
  -- each row's block
  have hrow : ∀ i, i < gs.length → ∃ g c cur, vs[i]?.getD undef = .slice (some ⟨g, 0, none⟩) w c ∧ base ≤ g ∧ g < W.heap.size ∧ W.heap[g]? = some (.cells cur 2 (0, 0)) ∧ cur.toList.take w = (gs[i]?.getD []).map (Value.int .i64) := fun i hi => by
    obtain ⟨a, c, e, ho⟩ := h.at_ i hi
    rcases ho.2 with ⟨_, h0⟩ | ⟨g, cp, cur, e2, hb, hg, _, _, _, ht⟩
    · have := hwid i hi; omega
    · rw [e2] at e
      rw [hwid i hi] at e
      exact ⟨g, cp, cur, e, hb, (Array.getElem?_eq_some_iff.1 hg).1, hg, by rw [← ht, hwid i hi, Nat.mul_one]⟩
  have hout : ∃ cur, W.heap[R]? = some (.cells cur 22 (0, 0)) ∧ cur.toList.take (gs.length * 1) = vs ∧ base ≤ R := by
    rcases h.own.2 with ⟨h0, _⟩ | ⟨g, cp, cur, e, hb, hg, _, _, _, ht⟩
    · cases h0
    · cases e
      exact ⟨cur, hg, ht, hb⟩
  obtain ⟨curR, hR, htR, hbR⟩ := hout
  refine ⟨(List.range gs.length).map fun i => ((vs[i]?.getD undef).ownBlock.getD 0, 0), ?_⟩
  have hadr : ∀ i, i < gs.length → ∀ g c, vs[i]?.getD undef = .slice (some ⟨g, 0, none⟩) w c → adr ((List.range gs.length).map fun i => ((vs[i]?.getD undef).ownBlock.getD 0, 0)) i = (g, 0) := fun i hi g c e => by
    unfold adr
    rw [List.getElem?_map, List.getElem?_range hi]
    simp [e, Value.ownBlock]
  refine ⟨⟨rfl, by simp, hwid, fun i hi => ?_, fun i hi => ?_, fun i k hi hk hik => ?_, fun i hi => ?_, fun i hi => ?_, ⟨hbR, (Array.getElem?_eq_some_iff.1 hR).1⟩⟩, fun i hi => ?_⟩
  · obtain ⟨g, c, cur, e, _⟩ := hrow i hi
    rw [hadr i hi g c e]
    have := block_at hR htR (i := i) (by rw [h.len]; exact hi)
    rw [e] at this
    exact ⟨⟨c, this.1⟩, this.2⟩
  · obtain ⟨g, c, cur, e, _, _, hg, ht⟩ := hrow i hi
    rw [hadr i hi g c e]
    intro j hj
    have hj' : j < (gs[i]?.getD []).length := by simpa using hj
    have := block_at hg ht (i := j) (by simpa using hj')
    refine ⟨?_, by simpa using this.2⟩
    have h1 := this.1
    rw [List.getElem?_map, List.getElem?_eq_getElem hj'] at h1
    simp only [Option.map_some, Option.getD_some] at h1
    simp only [Nat.zero_add]
    rw [h1]
    simp [encI, getElem!_pos, hj']
  · obtain ⟨g, c, cur, e, _⟩ := hrow i hi
    obtain ⟨g', c', cur', e', _⟩ := hrow k hk
    rw [hadr i hi g c e, hadr k hk g' c' e']
    left
    rcases Nat.lt_or_gt_of_ne hik with h1 | h1
    · have := h.asc i k h1 hk g g' (by rw [e]; rfl) (by rw [e']; rfl)
      simp only; omega
    · have := h.asc k i h1 hi g' g (by rw [e']; rfl) (by rw [e]; rfl)
      simp only; omega
  · obtain ⟨g, c, cur, e, _, _, hg, _⟩ := hrow i hi
    rw [hadr i hi g c e]
    intro e2
    simp only at e2
    subst e2
    rw [hg] at hR
    simp at hR
  · obtain ⟨g, c, cur, e, hb, hl, _⟩ := hrow i hi
    rw [hadr i hi g c e]
    exact ⟨hb, hl⟩
  · obtain ⟨g, c, cur, e, hb, hl, _⟩ := hrow i hi
    rw [hadr i hi g c e, e]
    rfl

end Go.Proofs.Ytgefpllmelpahaa

/-! The rank of a list of rows, the program's. -/
namespace Go.Proofs.Ytgefpllmelpahaa
open Go.RowKit
open Go.Sort hiding Below

/-- The machine at its start. -/
def AtFlat (v : Value) (p : Int) (W : World) (a' : Act) (w' : World) : Prop :=
  ∃ us : Nat → Value, a' = { tmps := #[v, .int .i64 p, undef, undef, .int .i64 0, .int .i64 0, .int .i64 0, us 7, us 8, us 9, us 10, us 11, us 12, us 13, us 14, us 15, us 16, us 17, us 18, us 19, us 20, us 21, us 22, us 23, us 24, us 25, us 26, us 27, us 28, us 29, us 30, us 31, us 32, us 33, us 34, us 35, us 36, us 37, us 38, us 39, us 40, us 41, us 42, us 43, us 44, us 45, us 46, us 47, us 48, us 49, us 50, us 51, us 52, us 53, us 54, us 55, us 56, us 57, us 58, us 59, us 60, us 61, us 62, us 63, us 64, us 65, us 66, us 67, us 68, us 69, us 70, us 71, us 72, us 73, us 74, us 75, us 76], defers := [] } ∧ w' = W
theorem atFlat_of {v : Value} {p : Int} {W : World} (tm : Array Value) (h : tm = #[v, .int .i64 p, undef, undef, .int .i64 0, .int .i64 0, .int .i64 0, tm.getD 7 undef, tm.getD 8 undef, tm.getD 9 undef, tm.getD 10 undef, tm.getD 11 undef, tm.getD 12 undef, tm.getD 13 undef, tm.getD 14 undef, tm.getD 15 undef, tm.getD 16 undef, tm.getD 17 undef, tm.getD 18 undef, tm.getD 19 undef, tm.getD 20 undef, tm.getD 21 undef, tm.getD 22 undef, tm.getD 23 undef, tm.getD 24 undef, tm.getD 25 undef, tm.getD 26 undef, tm.getD 27 undef, tm.getD 28 undef, tm.getD 29 undef, tm.getD 30 undef, tm.getD 31 undef, tm.getD 32 undef, tm.getD 33 undef, tm.getD 34 undef, tm.getD 35 undef, tm.getD 36 undef, tm.getD 37 undef, tm.getD 38 undef, tm.getD 39 undef, tm.getD 40 undef, tm.getD 41 undef, tm.getD 42 undef, tm.getD 43 undef, tm.getD 44 undef, tm.getD 45 undef, tm.getD 46 undef, tm.getD 47 undef, tm.getD 48 undef, tm.getD 49 undef, tm.getD 50 undef, tm.getD 51 undef, tm.getD 52 undef, tm.getD 53 undef, tm.getD 54 undef, tm.getD 55 undef, tm.getD 56 undef, tm.getD 57 undef, tm.getD 58 undef, tm.getD 59 undef, tm.getD 60 undef, tm.getD 61 undef, tm.getD 62 undef, tm.getD 63 undef, tm.getD 64 undef, tm.getD 65 undef, tm.getD 66 undef, tm.getD 67 undef, tm.getD 68 undef, tm.getD 69 undef, tm.getD 70 undef, tm.getD 71 undef, tm.getD 72 undef, tm.getD 73 undef, tm.getD 74 undef, tm.getD 75 undef, tm.getD 76 undef]) : AtFlat v p W { tmps := tm, defers := [] } W :=
  ⟨fun i => tm.getD i undef, congrArg (fun t => ({ tmps := t, defers := [] } : Act)) h, rfl⟩

set_option maxRecDepth 1000000 in
set_option maxHeartbeats 4000000 in
theorem steps_none (a : Option Addr) (cap : Nat) (p : Int) (W : World) :
    Calls Try.prog 54 #[.slice a 0 cap, .int .i64 p] W fun e W' => e = .returned (.int .i64 0) ∧ W = W' := by
  go_enter Try.func54, Try.ntmps54
  go_wp2
  refine wp_scope_two (l0 := 0) (l1 := 1) (AtFlat (.slice a 0 cap) p W) (fun _ _ => False)
    (fun _ _ => 0) (fun _ _ => 0) rfl rfl (by kernel_rfl) (by kernel_rfl) ?_ ?_ ?_
  · go_wp2
    exact atFlat_of _ rfl
  · rintro a' wr ⟨us, rfl, rfl⟩
    go_wp2
    rw [jump2_ret]
    go_ret
    exact ⟨rfl, rfl⟩
  · exact fun _ _ h => h.elim

/-- Rows without numbers. -/
theorem steps_flat (R cap n : Nat) (v0 : Option Addr) (c0 : Nat) (p : Int) (W : World) (hn : 0 < n) (hn2 : n ≤ 1048576) (h0 : W.cell? ⟨R, 0, none⟩ = some (.slice v0 0 c0)) :
    Calls Try.prog 54 #[.slice (some ⟨R, 0, none⟩) n cap, .int .i64 p] W fun e W' => e = .returned (.int .i64 0) ∧ Below W.heap.size W W' := by
  have hd : ((0 : Int) == (n : Int)) = false := by simp; omega
  have hl : (0 : Int) < (n : Int) := by omega
  go_enter Try.func54, Try.ntmps54
  go_wp2
  refine wp_scope_two (l0 := 0) (l1 := 1) (AtFlat (.slice (some ⟨R, 0, none⟩) n cap) p W) (fun _ _ => False)
    (fun _ _ => 0) (fun _ _ => 0) rfl rfl (by kernel_rfl) (by kernel_rfl) ?_ ?_ ?_
  · go_wp2
    exact atFlat_of _ rfl
  · rintro a' wr ⟨us, rfl, rfl⟩
    go_wp2
    rw [jump2_ret]
    go_ret
    exact ⟨rfl, Below.refl _ _⟩
  · exact fun _ _ h => h.elim

/-- bringToSteps on a list of rows: the rank modulo 2; nothing but the rows' blocks is written. -/
theorem steps_own {W : World} {w : Nat} {t : Tb} (ht : OwnT W t) (hG : MatG 2 t.gs.length w t.gs) (hn : t.gs.length ≤ 1000) (hw : w ≤ 1000) :
    Calls Try.prog 54 #[t.v, .int .i64 2] W fun e W' => e = .returned (.int .i64 (elimR 2 w 0 0 t.gs : Int)) ∧ Within t.lo t.hi W W' := by
  have hz : ∀ {B h : Nat} {W W' : World}, Below W.heap.size W W' → Within B h W W' := fun hb => ⟨hb.os, hb.tape, hb.output, hb.size, fun k hk _ => hb.block k hk⟩
  obtain ⟨lo, hi, v, vs, gs⟩ := t
  have h := ht.rows
  simp only at h hG hn ⊢
  obtain ⟨a, c, rfl, hsh⟩ := h.shape
  rcases hsh with h0 | ⟨R, hb, hR, rfl, hc⟩
  · subst h0
    refine (steps_none a c 2 W).mono fun e W' ⟨he, hW⟩ => ?_
    subst hW
    exact ⟨by rw [he, show elimR 2 w 0 0 [] = 0 from elim_full w 0 0 [] (Nat.le_refl 0)]; rfl, .refl _ _ _⟩
  · by_cases hn0 : gs.length = 0
    · obtain rfl : gs = [] := List.eq_nil_of_length_eq_zero hn0
      refine (steps_none _ c 2 W).mono fun e W' ⟨he, hW⟩ => ?_
      subst hW
      exact ⟨by rw [he, show elimR 2 w 0 0 [] = 0 from elim_full w 0 0 [] (Nat.le_refl 0)]; rfl, .refl _ _ _⟩
    · by_cases hw0 : w = 0
      · subst hw0
        obtain ⟨a0, c0, e0, _⟩ := h.at_ 0 (by omega)
        rw [hG.rowLen (by omega)] at e0
        have h1 := hc 0 (by omega)
        rw [e0] at h1
        refine (steps_flat R c gs.length a0 c0 2 W (by omega) (by omega) (by simpa using h1)).mono fun e W' ⟨he, hW⟩ => ⟨he, hz hW⟩
      · obtain ⟨ad, hM, had⟩ := matW_of h (by omega) (fun i hi => hG.rowLen hi)
        exact steps_any lo hi R gs.length w c ad 2 gs W hM ⟨ht.ltv R rfl, fun i hi => ht.lti i hi _ (had i hi)⟩ hG (.inl rfl) (by omega) (by omega)

theorem ownT_new {W : World} {base : Nat} {v : Value} {vs : List Value} {gs : List (List Int)} (h : RowsV W base v vs gs) : OwnT W ⟨base, W.heap.size, v, vs, gs⟩ where
  rows := h
  ltv := fun g hg => (h.own.lt g hg).2
  lti := fun i hi g hg => by
    obtain ⟨a, c, e, ho⟩ := h.at_ i hi
    simp only at hg
    rw [e] at hg
    exact (ho.lt g hg).2
  le := Nat.le_refl _

/-- .. as it was stated first. -/
theorem steps_rows {W : World} {base w : Nat} {v : Value} {vs : List Value} {gs : List (List Int)} (h : RowsV W base v vs gs) (hG : MatG 2 gs.length w gs) (hn : gs.length ≤ 1000) (hw : w ≤ 1000) (hb : base ≤ W.heap.size) :
    Calls Try.prog 54 #[v, .int .i64 2] W fun e W' => e = .returned (.int .i64 (elimR 2 w 0 0 gs : Int)) ∧ Below base W W' :=
  (steps_own (ownT_new h) hG hn hw).mono fun _ _ ⟨he, hW⟩ => ⟨he, hW.below (Nat.le_refl _) hb⟩

end Go.Proofs.Ytgefpllmelpahaa

/-! The rank of a list of rows, the model's l06Rank. -/
namespace Go.Proofs.Ytgefpllmelpahaa
open Go.RowKit
open Go.Sort hiding Below

/-- Row b's slice is put at place r behind row r's at place b. -/
theorem MatW.swap4 {W : World} {B R n w : Nat} {ad : Ads} {M : List (List Int)} (h : MatW W B R n w ad M) {r b eb er : Nat} (hr : r < n) (hb : b < n) (hcb : W.cell? ⟨R, b, none⟩ = some (.slice (some ⟨(adr ad b).1, (adr ad b).2, none⟩) w eb)) (hcr : W.cell? ⟨R, r, none⟩ = some (.slice (some ⟨(adr ad r).1, (adr ad r).2, none⟩) w er)) :
    MatW ((W.setCell ⟨R, b, none⟩ (.slice (some ⟨(adr ad r).1, (adr ad r).2, none⟩) w er)).setCell ⟨R, r, none⟩ (.slice (some ⟨(adr ad b).1, (adr ad b).2, none⟩) w eb)) B R n w (swapA ad r b) (swapR M r b) := by
  refine h.swap hr hb (by simp [World.setCell]) (fun b hb => ?_) (fun k hk => ⟨?_, ?_⟩)
  · rw [Below.heap_setCell _ _ _ _ (by simpa using hb), Below.heap_setCell _ _ _ _ (by simpa using hb)]
  · rw [cells_set2 (by rw [hcb]; rfl) (by rw [hcr]; rfl)]
    by_cases e1 : k = b
    · by_cases e2 : k = r
      · refine ⟨eb, ?_⟩
        rw [if_pos e2, if_pos e1, ← e1, ← e2]
      · exact ⟨er, by rw [if_neg e2, if_pos e1, if_pos e1]⟩
    · by_cases e2 : k = r
      · exact ⟨eb, by rw [if_pos e2, if_neg e1, if_pos e2]⟩
      · obtain ⟨ek, hk2⟩ := (h.hd k hk).1
        exact ⟨ek, by rw [if_neg e2, if_neg e1, if_neg e1, if_neg e2]; exact hk2⟩
  · rw [World.frozen?_setCell, World.frozen?_setCell]; exact (h.hd k hk).2

/-- A row with 0 in the column is left as it is. -/
theorem clr_still {c w : Nat} {row own : List Int} (h1 : row.length = w) (h2 : own.length = w) (h0 : row[c]?.getD 0 = 0) (hr : ∀ x ∈ row, 0 ≤ x ∧ x < 2) : clr 2 c row own = row := by
  apply List.ext_getElem
  · rw [clr_len h1 h2, h1]
  · intro j hj hj2
    have hjw : j < w := by omega
    have e := clr_get (p := 2) (c := c) h1 h2 hjw
    rw [List.getElem?_eq_getElem hj] at e
    simp only [Option.getD_some] at e
    rw [e, h0, List.getElem?_eq_getElem hj2]
    simp only [Option.getD_some]
    have := hr _ (List.getElem_mem hj2)
    have e2 : (0 * own[c]?.getD 0) % 2 = 0 := by simp
    rw [e2]
    omega
theorem set_still {M : List (List Int)} {k : Nat} (hk : k < M.length) : M.set k (M[k]?.getD []) = M := by
  apply List.ext_getElem?
  intro i
  by_cases e : k = i
  · subst e; rw [List.getElem?_set_self hk, List.getElem?_eq_getElem hk]; rfl
  · rw [List.getElem?_set_ne e]

set_option maxRecDepth 1000000 in
set_option maxHeartbeats 4000000 in
theorem rank6_any (B R n w cap : Nat) (ad : Ads) (M : List (List Int)) (W : World) (hM : MatW W B R n w ad M) (hG : MatG 2 n w M) (hn0 : 0 < n) (hn : n ≤ 1048576) (hw : w ≤ 1048576) :
    Calls Try.prog 119 #[.slice (some ⟨R, 0, none⟩) n cap] W fun e W' => e = .returned (.int .i64 (elimR 2 w 0 0 M : Int)) ∧ Below B W W' := by
  have hg0 : decide (0 < n) = true := decide_eq_true hn0
  have hl0 : (0 : Int) < (n : Int) := by omega
  obtain ⟨E, hE⟩ : ∃ E, E = elimR 2 w 0 0 M := ⟨_, rfl⟩
  rw [← hE]
  have HM := hid hM
  have HG := hid hG
  have HE := hid hE
  clear hM hG hE
  go_enter Try.func119, Try.ntmps119
  go_wp2
  go_loopw [3, 4] (fun s5 s6 wr => ∃ (r c : Nat) (M : List (List Int)) (ad : Ads), s5 = .int .i64 r ∧ s6 = .int .i64 c ∧ r ≤ n ∧ c ≤ w ∧ Hid (MatW wr B R n w ad M) ∧ Hid (MatG 2 n w M) ∧ Hid (E = elimR 2 (w - c) r c M) ∧ Hid (Below B W wr)) (fun _ s6 _ => w - (intOf s6).toNat)
  case atStart => exact ⟨0, 0, M, ad, rfl, rfl, by omega, by omega, HM, HG, HE, hid (Below.refl _ _)⟩
  case round =>
    clear HM HG HE
    obtain ⟨r, c, M, ad, rfl, rfl, hr, hc, HM, HG, HE, HB⟩ := hrel
    obtain ⟨wo, rfl⟩ : ∃ wo : World, wo = wr := ⟨_, rfl⟩
    obtain ⟨e0, c0⟩ := (HM.out.hd 0 hn0).1
    by_cases hlt : c < w
    · have hlt' : (c : Int) < (w : Int) := by omega
      go_wp2
      go_loopw [5] (fun s5 wx => ∃ (i : Nat), s5 = .int .i64 i ∧ r ≤ i ∧ i ≤ n ∧ Hid (∀ i', r ≤ i' → i' < i → ent M i' c = 0) ∧ wx = wo) (fun s5 _ => n - (intOf s5).toNat)
      case atStart => exact ⟨r, rfl, Nat.le_refl _, hr, hid (fun i' h1 h2 => by omega), rfl⟩
      case round =>
        obtain ⟨i, rfl, hri, hin, Hz, rfl⟩ := hrel
        clear c0
        by_cases hin' : i < n
        · have hii : (i : Int) < (n : Int) := by omega
          have hi0 : (0 : Int) ≤ (i : Int) := by omega
          have hc0 : (0 : Int) ≤ (c : Int) := by omega
          obtain ⟨⟨ei, ci⟩, fi⟩ := HM.out.hd i hin'
          have cx := (HM.out.at hin' hlt).1
          by_cases hx : ent M i c = 0
          · have Hb' : Hid (∀ i', r ≤ i' → i' < i + 1 → ent M i' c = 0) := hid (fun i' h1 h2 => by
              by_cases e : i' = i
              · rw [e]; exact hx
              · exact Hz.out i' h1 (by omega))
            rw [hx] at cx
            clear hx fi
            go_wp2
            go_roundw
            case rel => exact ⟨i + 1, by go_num, by omega, by omega, Hb', trivial⟩
            case measure => simp [intOf]; omega
          · have hne := hx
            have hd : (ent M i c == 0) = false := by simpa using hx
            obtain ⟨x, hxx⟩ : ∃ x, x = ent M i c := ⟨_, rfl⟩
            rw [← hxx] at cx hd
            have hrn : r < n := by omega
            have hri0 : (0 : Int) ≤ (r : Int) := by omega
            have hri1 : (r : Int) < (n : Int) := by omega
            have hnd : ((i : Int) == (n : Int)) = false := by simp; omega
            obtain ⟨⟨er, cr⟩, fr⟩ := HM.out.hd r hrn
            have HM2 := hid (HM.out.swap4 hrn hin' ci cr)
            have HG2 := hid (swapR_good HG.out hrn hin')
            have Har := hid (adr_swap_r (ad := ad) (r := r) (i := i) (by rw [HM.out.adl]; exact hrn) (by rw [HM.out.adl]; exact hin'))
            obtain ⟨v', cr2⟩ := cell?_setCell_some (w := wr) (p := ⟨R, i, none⟩) (x := .slice (some ⟨(adr ad r).1, (adr ad r).2, none⟩) w er) (q := ⟨R, r, none⟩) (v := _) cr
            have HE2 : Hid (E = elimR 2 (w - (c + 1)) (r + 1) (c + 1) (sweepTo 2 c r n (swapR M r i))) := hid (by
              have h1 := HE.out
              rw [show w - c = (w - (c + 1)) + 1 by omega, elim_some hri (by rw [HG.out.len]; exact hin') hne Hz.out, HG.out.len] at h1
              exact h1)
            have hRb := HM.out.head
            have HB2 : Hid (Below B W ((wr.setCell ⟨R, i, none⟩ (.slice (some ⟨(adr ad r).1, (adr ad r).2, none⟩) w er)).setCell ⟨R, r, none⟩ (.slice (some ⟨(adr ad i).1, (adr ad i).2, none⟩) w ei))) := hid ((HB.out.setCell (p := ⟨R, i, none⟩) hRb.1 _).setCell (p := ⟨R, r, none⟩) hRb.1 _)
            have Hone : Hid (ent (swapR M r i) r c ≠ 0) := hid (by
              rw [ent_swap HG.out hrn hin']
              by_cases e : r = i
              · rw [if_pos e, e]; exact hne
              · rw [if_neg e, if_pos rfl]; exact hne)
            clear hne HM HG HE Hz HB hRb hx hxx
            go_wp2
            go_loopw [7] (fun s7 wx => ∃ (i3 : Nat), s7 = .int .i64 i3 ∧ r + 1 ≤ i3 ∧ i3 ≤ n ∧ Hid (MatW wx B R n w (swapA ad r i) (sweepTo 2 c r i3 (swapR M r i))) ∧ Hid (Below B W wx)) (fun s7 _ => n - (intOf s7).toNat)
            case atStart => exact ⟨r + 1, by go_num, Nat.le_refl _, by omega, hid (by rw [sweepTo_none (Nat.le_refl _)]; exact HM2.out), HB2⟩
            case round =>
              clear HM2 HB2 ci fi cr fr cr2
              obtain ⟨i3, rfl, hri3, hin3, HM3, HB3⟩ := hrel
              by_cases hlt3 : i3 < n
              · have hi30 : (0 : Int) ≤ (i3 : Int) := by omega
                have hi31 : (i3 : Int) < (n : Int) := by omega
                obtain ⟨e3, c3⟩ := (HM3.out.hd i3 hlt3).1
                have l2 : (swapR M r i).length = n := HG2.out.len
                have hrow : (sweepTo 2 c r i3 (swapR M r i))[i3]?.getD [] = (swapR M r i)[i3]?.getD [] := sweepTo_later (by rw [l2]; exact hlt3)
                have hown : (sweepTo 2 c r i3 (swapR M r i))[r]?.getD [] = (swapR M r i)[r]?.getD [] := sweepTo_pivot (by rw [l2]; exact hrn)
                have h1 := HM3.out.row i3 hlt3
                have h2 := HM3.out.row r hrn
                have hap := HM3.out.apart i3 r hlt3 hrn (by omega)
                have hbs := (HM3.out.base i3 hlt3).1
                rw [hrow] at h1
                rw [hown, Har.out] at h2
                rw [Har.out] at hap
                have l1 := HG2.out.rowLen hlt3
                have lo := HG2.out.rowLen hrn
                have r1 := HG2.out.rng _ (HG2.out.row hlt3)
                have r2 := HG2.out.rng _ (HG2.out.row hrn)
                have hsn := sweepTo_succ (p := 2) (c := c) (r := r) (k := i3) (M := swapR M r i) (by omega)
                have hone := Hone.out
                unfold ent at hone
                obtain ⟨row, hrw⟩ : ∃ row, row = (swapR M r i)[i3]?.getD [] := ⟨_, rfl⟩
                obtain ⟨own, how⟩ : ∃ own, own = (swapR M r i)[r]?.getD [] := ⟨_, rfl⟩
                rw [← hrw] at h1 l1 r1 hsn hrow
                rw [← how] at h2 lo r2 hsn hone
                obtain ⟨cx, _⟩ := holds_at h1 (i := c) (by omega)
                have rx := r1 _ (getD_memL (d := 0) (show c < row.length by omega))
                have ry := r2 _ (getD_memL (d := 0) (show c < own.length by omega))
                by_cases hx0 : row[c]?.getD 0 = 0
                · have hst := clr_still l1 lo hx0 r1
                  rw [hst, ← hrow, set_still (by rw [sweepTo_len, l2]; exact hlt3)] at hsn
                  have hM4 : Hid (MatW wr B R n w (swapA ad r i) (sweepTo 2 c r (i3 + 1) (swapR M r i))) := hid (by rw [hsn]; exact HM3.out)
                  rw [hx0] at cx
                  clear hst hsn hrow hown h1 h2 hap hbs l1 lo r1 r2 hone hrw how rx ry hx0 l2
                  go_wp2
                  go_roundw
                  case rel => exact ⟨i3 + 1, by go_num, by omega, by omega, hM4, HB3⟩
                  case measure => simp [intOf]; omega
                · have hx1 : row[c]?.getD 0 = 1 := by omega
                  have hy1 : own[c]?.getD 0 = 1 := by omega
                  have hd3 : ((1 : Int) == 0) = false := rfl
                  rw [hx1] at cx
                  have HX := hid hx1
                  have HY := hid hy1
                  have H1 := hid h1
                  have H2 := hid h2
                  have R1 := hid r1
                  have R2 := hid r2
                  have Hsn := hid hsn
                  have Hap := hid hap
                  clear h1 h2 r1 r2 hsn hap hrow hown hrw how hone rx ry hx0 hx1 hy1 l2
                  obtain ⟨w3, rfl⟩ : ∃ w3 : World, w3 = wr := ⟨_, rfl⟩
                  go_wp2
                  clear cx
                  go_loopw [9] (fun s9 wx => ∃ (j m : Nat), s9 = .int .i64 j ∧ j ≤ w ∧ Aside (wx = putRow encI (Sort.ahead w3 m) (adr (swapA ad r i) i3).1 (adr (swapA ad r i) i3).2 (part 2 c row own j).toArray)) (fun s9 _ => w - (intOf s9).toNat)
                  case atStart => exact ⟨0, 0, rfl, by omega, by rw [part_zero]; exact (Sort.putRow_self encI _ _ _ _ (Sort.holds_ahead encI _ 0 _ _ _ H1.out)).symm⟩
                  case round =>
                    obtain ⟨j, m, rfl, hjw, A⟩ := hrel
                    by_cases hltj : j < w
                    · have hHk : Sort.Holds encI wr (adr (swapA ad r i) i3).1 (adr (swapA ad r i) i3).2 (part 2 c row own j).toArray := by rw [A.out]; exact Sort.holds_putRow encI _ _ _ _ _ (Sort.holds_ahead encI _ m _ _ _ H1.out) (by simp [part_len l1 lo hjw, l1])
                      obtain ⟨cq, fq⟩ := holds_at hHk (i := j) (by rw [part_len l1 lo hjw]; exact hltj)
                      rw [part_at l1 lo hltj] at cq
                      obtain ⟨cb0, _⟩ := holds_at H2.out (i := j) (by omega)
                      have cs : wr.cell? ⟨(adr ad i).1, (adr ad i).2 + j, none⟩ = some (.int .i64 (own[j]?.getD 0)) := by
                        rw [A.out, Sort.cell?_putRow_other _ _ _ _ _ _ (by have := Hap.out; simp [part_len l1 lo hjw]; omega)]
                        exact cb0
                      have ra := R1.out _ (getD_memL (d := 0) (show j < row.length by omega))
                      have rb := R2.out _ (getD_memL (d := 0) (show j < own.length by omega))
                      have hps := part_succ (p := 2) (c := c) l1 lo hltj
                      have hpl := part_len (p := 2) (c := c) l1 lo hjw
                      obtain ⟨aa, ha⟩ : ∃ a, a = row[j]?.getD 0 := ⟨_, rfl⟩
                      obtain ⟨bb, hb⟩ : ∃ b, b = own[j]?.getD 0 := ⟨_, rfl⟩
                      rw [← ha] at cq ra hps
                      rw [← hb] at cs rb hps
                      rw [HX.out, HY.out, show (2 - (1 * 1 : Int) % 2) = 1 by decide, Int.one_mul] at hps
                      obtain ⟨vv, hv⟩ : ∃ v, v = (aa + bb) % 2 := ⟨_, rfl⟩
                      rw [← hv] at hps
                      have hrem : (aa + bb).tmod 2 = vv := by rw [hv, Int.tmod_eq_emod_of_nonneg (by omega)]
                      have hadd : IntKind.i64.wrap (aa + bb) = aa + bb := IntWalk.i64_in _ (by omega)
                      have hj0 : (0 : Int) ≤ (j : Int) := by omega
                      have hj1 : (j : Int) < (w : Int) := by omega
                      have Hps := hid hps
                      have Hpl := hid hpl
                      clear hHk ha hb hv cb0 hps hpl
                      go_wp2_with fail
                      go_region
                      go_wp2
                      go_roundw
                      case measure => simp [intOf]; omega
                      case rel => exact ⟨j + 1, m + 1, by go_num, by omega, by rw [Hps.out, ← putRow_at _ _ _ _ _ _ _ (by rw [Hpl.out]; exact hltj), ← Sort.ahead_drew, ← Sort.putRow_drew, ← A.out]; rfl⟩
                    · obtain rfl : j = w := by omega
                      have hM4 : Hid (MatW wr B R n j (swapA ad r i) (sweepTo 2 c r (i3 + 1) (swapR M r i))) := hid (by
                        have := HM3.out.put hlt3 m (row := clr 2 c row own) (clr_len l1 lo)
                        rw [← Hsn.out] at this
                        rw [A.out, part_all l1 lo]
                        exact this)
                      have hB4 : Hid (Go.RowKit.Below B W wr) := hid (by rw [A.out]; exact below_put HB3.out m _ _ _ hbs)
                      go_wp2
                      go_roundw
                      case rel => exact ⟨i3 + 1, by go_num, by omega, by omega, hM4, hB4⟩
                      case measure => simp [intOf]; omega
              · obtain rfl : i3 = n := by omega
                have HG4 := hid (sweepTo_good (c := c) (r := r) (k := i3) HG2.out (by decide) hrn)
                go_wp2
                go_roundw
                case rel => exact ⟨r + 1, c + 1, _, _, by go_num, by go_num, by omega, by omega, HM3, HG4, HE2, HB3⟩
                case measure => simp [intOf]; omega
        · obtain rfl : i = n := by omega
          have He : Hid (E = elimR 2 (w - (c + 1)) r (c + 1) M) := hid (by
            have h1 := HE.out
            rw [show w - c = (w - (c + 1)) + 1 by omega, elim_none (fun i' h1 h2 => Hz.out i' h1 (by rw [← HG.out.len]; exact h2))] at h1
            exact h1)
          clear Hz
          go_wp2
          go_roundw
          case rel => exact ⟨r, c + 1, M, ad, rfl, by go_num, hr, by omega, HM, HG, He, HB⟩
          case measure => simp [intOf]; omega
    · obtain rfl : c = w := by omega
      have He : Hid (E = r) := hid (by have := HE.out; rwa [Nat.sub_self] at this)
      go_wp2
      go_ret
      exact ⟨ret_int (by rw [He.out]), HB.out⟩

end Go.Proofs.Ytgefpllmelpahaa

/-! The rank of a list of rows, the model's, whatever the rows. -/
namespace Go.Proofs.Ytgefpllmelpahaa
open Go.RowKit
open Go.Sort hiding Below

set_option maxRecDepth 100000 in
set_option maxHeartbeats 1000000 in
theorem rank6_none (a : Option Addr) (cap : Nat) (W : World) :
    Calls Try.prog 119 #[.slice a 0 cap] W fun e W' => e = .returned (.int .i64 0) ∧ W = W' := by
  go_enter Try.func119, Try.ntmps119
  go_wp2
  refine wp_loop_rounds 1 ?_; rw [rounds_succ]
  go_wp2
  go_ret
  exact ⟨rfl, rfl⟩

set_option maxRecDepth 100000 in
set_option maxHeartbeats 1000000 in
theorem rank6_flat (R cap n : Nat) (v0 : Option Addr) (c0 : Nat) (W : World) (hn : 0 < n) (hn2 : n ≤ 1048576) (h0 : W.cell? ⟨R, 0, none⟩ = some (.slice v0 0 c0)) :
    Calls Try.prog 119 #[.slice (some ⟨R, 0, none⟩) n cap] W fun e W' => e = .returned (.int .i64 0) ∧ W = W' := by
  have hg0 : decide (0 < n) = true := decide_eq_true hn
  have hl0 : (0 : Int) < (n : Int) := by omega
  go_enter Try.func119, Try.ntmps119
  go_wp2
  refine wp_loop_rounds 1 ?_; rw [rounds_succ]
  go_wp2
  go_ret
  exact ⟨rfl, rfl⟩

/-- l06Rank on a list of rows: the rank modulo 2. -/
theorem rank6_rows {W : World} {base w : Nat} {v : Value} {vs : List Value} {gs : List (List Int)} (h : RowsV W base v vs gs) (hG : MatG 2 gs.length w gs) (hn : gs.length ≤ 1000) (hw : w ≤ 1000) :
    Calls Try.prog 119 #[v] W fun e W' => e = .returned (.int .i64 (elimR 2 w 0 0 gs : Int)) ∧ Below base W W' := by
  obtain ⟨a, c, rfl, hsh⟩ := h.shape
  by_cases hn0 : gs.length = 0
  · obtain rfl : gs = [] := List.eq_nil_of_length_eq_zero hn0
    refine (rank6_none _ c W).mono fun e W' ⟨he, hW⟩ => ?_
    subst hW
    exact ⟨by rw [he, show elimR 2 w 0 0 [] = 0 from elim_full w 0 0 [] (Nat.le_refl 0)]; rfl, Below.refl _ _⟩
  · rcases hsh with h0 | ⟨R, hb, hR, rfl, hc⟩
    · exact absurd (by rw [h0]; rfl) hn0
    · by_cases hw0 : w = 0
      · subst hw0
        obtain ⟨a0, c0, e0, _⟩ := h.at_ 0 (by omega)
        rw [hG.rowLen (by omega)] at e0
        have h1 := hc 0 (by omega)
        rw [e0] at h1
        refine (rank6_flat R c gs.length a0 c0 W (by omega) (by omega) (by simpa using h1)).mono fun e W' ⟨he, hW⟩ => ?_
        subst hW
        exact ⟨he, Below.refl _ _⟩
      · obtain ⟨ad, hM, _⟩ := matW_of h (by omega) (fun i hi => hG.rowLen hi)
        exact rank6_any base R gs.length w c ad gs W hM hG (by omega) (by omega) (by omega)

end Go.Proofs.Ytgefpllmelpahaa

/-! Gradient ways, the mathematics: what a search over the steps finds. -/
namespace Go.Proofs.Ytgefpllmelpahaa
open Go.RowKit

/-- A gradient way with at least one step. -/
inductive Way (ps : List Int) (n : Nat) (a : Int) : Int → Prop
  | one {y : Int} : y ∈ nextL ps n a → Way ps n a y
  | more {x y : Int} : Way ps n a x → y ∈ nextL ps n x → Way ps n a y

/-- All high faces are numbers below 64. -/
def HighsB (ps : List Int) (n : Nat) : Prop := ∀ a, 0 ≤ highOf ps n a ∧ highOf ps n a < 64
theorem next_range {ps : List Int} {n : Nat} (h : HighsB ps n) {a y : Int} (hy : y ∈ nextL ps n a) : 0 ≤ y ∧ y < 64 := by
  unfold nextL at hy
  split at hy
  · simp at hy
  · have hm := (List.mem_filter.1 hy).1
    obtain ⟨v, h1, _, h3, h4, h5⟩ := (mem_belowR 63 (Nat.le_refl _)).1 hm
    have h6 : 2 ^ v ≤ (highOf ps n a).toNat := by
      unfold bitN at h3
      simp at h3
      exact Classical.byContradiction fun hn => by
        rw [Nat.div_eq_of_lt (by omega)] at h3
        simp at h3
    have := h a
    have e : ((2 ^ v : Nat) : Int) = (2 : Int) ^ v := by simp
    have hp : 0 < 2 ^ v := Nat.two_pow_pos v
    omega

def metAt (met : List Bool) (y : Int) : Bool := met[y.toNat]?.getD false
/-- A search under way: what has been met, and what waits. -/
structure Srch (ps : List Int) (n : Nat) (a : Int) (met : List Bool) (st : List Int) : Prop where
  len : met.length = 64
  good : ∀ i : Nat, i < 64 → met[i]?.getD false = true → Way ps n a i
  way : ∀ x ∈ st, Way ps n a x
  rng : ∀ x ∈ st, 0 ≤ x ∧ x < 64
  c0 : ∀ y ∈ nextL ps n a, y ∈ st ∨ metAt met y = true
  c1 : ∀ i : Nat, i < 64 → met[i]?.getD false = true → ∀ y ∈ nextL ps n i, y ∈ st ∨ metAt met y = true
  small : st.length + 64 * met.countP (fun b => !b) ≤ 5000

theorem Srch.start {ps : List Int} {n : Nat} (h : HighsB ps n) (a : Int) : Srch ps n a (List.replicate 64 false) (nextL ps n a) := by
  have hz : ∀ i : Nat, (List.replicate 64 false)[i]?.getD false = false := fun i => by
    rw [List.getElem?_replicate]
    split <;> rfl
  refine ⟨by simp, fun i _ hi => ?_, fun x hx => .one hx, fun x hx => next_range h hx, fun y hy => .inl hy, fun i _ hi => ?_, ?_⟩
  · rw [hz] at hi; cases hi
  · rw [hz] at hi; cases hi
  · have := nextL_len ps n a
    have e : (List.replicate 64 false).countP (fun b => !b) = 64 := by decide
    rw [e]; omega
theorem Srch.skip {ps : List Int} {n : Nat} {a x : Int} {met : List Bool} {st : List Int} (h : Srch ps n a met (st ++ [x])) (hx : metAt met x = true) : Srch ps n a met st := by
  have hk : ∀ y, (y ∈ st ++ [x] ∨ metAt met y = true) → (y ∈ st ∨ metAt met y = true) := fun y hy => by
    rcases hy with h1 | h1
    · rcases List.mem_append.1 h1 with h2 | h2
      · exact .inl h2
      · simp at h2; subst h2; exact .inr hx
    · exact .inr h1
  refine ⟨h.len, h.good, fun y hy => h.way y (List.mem_append_left _ hy), fun y hy => h.rng y (List.mem_append_left _ hy), fun y hy => hk y (h.c0 y hy), fun i h1 h2 y hy => hk y (h.c1 i h1 h2 y hy), ?_⟩
  have := h.small
  simp at this
  omega
theorem metAt_set {met : List Bool} {x y : Int} (hl : met.length = 64) (hx : 0 ≤ x ∧ x < 64) (hy : metAt met y = true ∨ y = x) : metAt (met.set x.toNat true) y = true := by
  unfold metAt at *
  by_cases e : x.toNat = y.toNat
  · rw [← e, List.getElem?_set_self (by omega)]; rfl
  · rw [List.getElem?_set_ne e]
    rcases hy with h | h
    · exact h
    · exact absurd (by rw [h]) e
theorem Srch.step {ps : List Int} {n : Nat} (hh : HighsB ps n) {a x : Int} {met : List Bool} {st : List Int} (h : Srch ps n a met (st ++ [x])) (hx : metAt met x = false) : Srch ps n a (met.set x.toNat true) (st ++ nextL ps n x) := by
  have hr := h.rng x (by simp)
  have hw := h.way x (by simp)
  have hxe : ((x.toNat : Nat) : Int) = x := by omega
  have hk : ∀ y, (y ∈ st ++ [x] ∨ metAt met y = true) → (y ∈ st ++ nextL ps n x ∨ metAt (met.set x.toNat true) y = true) := fun y hy => by
    rcases hy with h1 | h1
    · rcases List.mem_append.1 h1 with h2 | h2
      · exact .inl (List.mem_append_left _ h2)
      · simp at h2; exact .inr (metAt_set h.len hr (.inr h2))
    · exact .inr (metAt_set h.len hr (.inl h1))
  have hg : ∀ i : Nat, (met.set x.toNat true)[i]?.getD false = true → i = x.toNat ∨ met[i]?.getD false = true := fun i hi => by
    by_cases e : x.toNat = i
    · exact .inl e.symm
    · rw [List.getElem?_set_ne e] at hi; exact .inr hi
  refine ⟨by simp [h.len], fun i hi hm => ?_, fun y hy => ?_, fun y hy => ?_, fun y hy => hk y (h.c0 y hy), fun i hi hm y hy => ?_, ?_⟩
  · rcases hg i hm with e | e
    · rw [e, hxe]; exact hw
    · exact h.good i hi e
  · rcases List.mem_append.1 hy with h1 | h1
    · exact h.way y (List.mem_append_left _ h1)
    · exact .more hw h1
  · rcases List.mem_append.1 hy with h1 | h1
    · exact h.rng y (List.mem_append_left _ h1)
    · exact next_range hh h1
  · rcases hg i hm with e | e
    · rw [e, hxe] at hy; exact .inl (List.mem_append_right _ hy)
    · exact hk y (h.c1 i hi e y hy)
  · have hs := h.small
    have hn := nextL_len ps n x
    have hxl : x.toNat < met.length := by rw [h.len]; omega
    have hf : met[x.toNat] = false := by
      unfold metAt at hx
      rw [List.getElem?_eq_getElem hxl] at hx
      simpa using hx
    have hc := List.countP_set (p := fun b : Bool => !b) (a := true) hxl
    rw [hf] at hc
    simp at hc
    have hp : 0 < met.countP (fun b => !b) := List.countP_pos_iff.2 ⟨_, List.getElem_mem hxl, by simp [hf]⟩
    simp at hs ⊢
    omega
/-- The measure falls. -/
theorem Srch.less {ps : List Int} {n : Nat} {a x : Int} {met : List Bool} {st : List Int} (h : Srch ps n a met (st ++ [x])) (hx : metAt met x = false) :
    (st ++ nextL ps n x).length + 64 * (met.set x.toNat true).countP (fun b => !b) < (st ++ [x]).length + 64 * met.countP (fun b => !b) := by
  have hr := h.rng x (by simp)
  have hn := nextL_len ps n x
  have hxl : x.toNat < met.length := by rw [h.len]; omega
  have hf : met[x.toNat] = false := by
    unfold metAt at hx
    rw [List.getElem?_eq_getElem hxl] at hx
    simpa using hx
  have hc := List.countP_set (p := fun b : Bool => !b) (a := true) hxl
  rw [hf] at hc
  simp at hc
  have hp : 0 < met.countP (fun b => !b) := List.countP_pos_iff.2 ⟨_, List.getElem_mem hxl, by simp [hf]⟩
  simp
  omega
theorem Srch.done {ps : List Int} {n : Nat} (hh : HighsB ps n) {a : Int} {met : List Bool} (h : Srch ps n a met []) {y : Int} (hy : Way ps n a y) : metAt met y = true := by
  induction hy with
  | one h1 => exact (h.c0 _ h1).resolve_left (by simp)
  | @more x y h1 h2 ih =>
    have hr : 0 ≤ x ∧ x < 64 := by
      cases h1 with
      | one h3 => exact next_range hh h3
      | more _ h3 => exact next_range hh h3
    have hxe : ((x.toNat : Nat) : Int) = x := by omega
    exact (h.c1 x.toNat (by omega) ih y (by rw [hxe]; exact h2)).resolve_left (by simp)

end Go.Proofs.Ytgefpllmelpahaa

/-! l02Reached: the model's search. -/
namespace Go.Proofs.Ytgefpllmelpahaa
open Go.RowKit

theorem info_boolR : (Try.prog.info? 4).map (fun i => (i.zero, i.size, i.bytes)) = some (some (.bool false), 1, 1) := by kernel_rfl
/-- 'make([]bool, n)'. -/
theorem make_runB (w : World) (n : Nat) (hn : n ≤ 1099511627776) : ∃ w', (Instr.makeSlice 89 (.int .i64 (n : Int)) (.int .i64 (n : Int))).run Try.prog w = .ok (.slice (some ⟨w.heap.size, 0, none⟩) n n) w' ∧
    w'.ownsRow w.heap.size 4 1 (.slice (some ⟨w.heap.size, 0, none⟩) n n) n ((List.replicate n false).map Value.bool) ∧ w.grownBy w' none ∧ Below w.heap.size w w' := by
  obtain ⟨i0, hi, hz0, hz1, hz2⟩ := info_parts info_boolR
  obtain ⟨w', hrun, hown, hg⟩ := run_make_full (P := Try.prog) w w.heap.size 89 4 i0 (.bool false) 1 Try.underlying89 hi hz0 hz1 .i64 .i64 n (by rw [hz2]; omega) (by unfold maxLen; omega) (Nat.le_refl _)
  have e : (madeCells (Value.bool false).cells (n * 1)).toList = (List.replicate n false).map Value.bool := by
    rw [Nat.mul_one]
    exact (toList_madeCells_one _ _).trans (by simp)
  rw [e] at hown
  exact ⟨w', hrun, hown, hg, (Below.refl _ w).grown hg (Nat.le_refl _) (fun k hk => by cases hk)⟩

theorem make_run64 (w : World) : ∃ w', (Instr.makeSlice 89 (.int .i64 64) (.int .i64 64)).run Try.prog w = .ok (.slice (some ⟨w.heap.size, 0, none⟩) 64 64) w' ∧
    w'.ownsRow w.heap.size 4 1 (.slice (some ⟨w.heap.size, 0, none⟩) 64 64) 64 ((List.replicate 64 false).map Value.bool) ∧ w.grownBy w' none ∧ Below w.heap.size w w' := make_runB w 64 (by omega)

/-- 'append(a, b...)' of numbers; where the row lies afterwards. -/
theorem append_ints_at {w : World} {ops : Array Oper} {rest : List Oper} {o : Oper} {a : Act} {Q : Exit → Act → World → Prop} (hgd : o.guard = none) {s y : Operand}
    (ho : o.op = .call { callee := .builtin .append, args := #[s, y], argTypes := #[22, 22] })
    {base : Nat} {v : Value} {xs ys : List Int} {g c : Nat} (hown : w.ownsRow base 2 1 v xs.length (xs.map (Value.int .i64))) (hbase : base ≤ w.heap.size) (hl : xs.length ≤ 1048576) (hly : ys.length ≤ 1048576)
    (hs : a.eval s = v) (hy : a.eval y = .slice (some ⟨g, 0, none⟩) ys.length c) (hc : ∀ i, i < ys.length → w.cell? ⟨g, i, none⟩ = some (.int .i64 (ys[i]?.getD 0)))
    (hK : ∀ v' w', w'.ownsRow base 2 1 v' (xs ++ ys).length ((xs ++ ys).map (Value.int .i64)) → w.grownBy w' v.ownBlock → (v'.ownBlock = v.ownBlock ∨ v'.ownBlock = some w.heap.size) → Below base w w' → wpList Try.prog ops Q rest (a.put o.dst v') w') :
    wpList Try.prog ops Q (o :: rest) a w := by
  obtain ⟨i0, hi, hz0, hz1, hz2⟩ := info_parts info_i64
  refine wpList_append_own_at w hgd s y 22 ho base 2 i0 (.int .i64 0) 1 8 Try.underlying22 hi hz0 hz1 hz2 rfl (by decide) v _ _ hs hown ⟨g, 0, none⟩ ys.length c (ys.map (Value.int .i64)) hy (by simp) (fun j u hj => ?_) (fun u hu => ?_) (by unfold maxLen; omega) (by omega) hbase ?_
  · have hjl : j < ys.length := by
      have := (List.getElem?_eq_some_iff.1 hj).1
      simpa using this
    have := hc j hjl
    rw [List.getElem?_map, List.getElem?_eq_getElem hjl] at hj
    rw [List.getElem?_eq_getElem hjl] at this
    simp at hj this
    have hadd : (⟨g, 0, none⟩ : Addr).add j = ⟨g, j, none⟩ := by unfold Addr.add; split <;> simp_all
    rw [hadd, this, hj]
  · obtain ⟨x, _, rfl⟩ := List.mem_map.1 hu
    rfl
  · intro v' w1 hown1 hgrow1 _ hat
    exact hK v' w1 (by simpa using hown1) hgrow1 hat ((Below.refl base w).grown hgrow1 hbase (fun k hk => (hown.lt k hk).1))

/-- The search's world: what has been met lies in block bo, what waits in v's. -/
structure RchW (w wr : World) (ps : List Int) (n : Nat) (a : Int) (bo : Nat) (met : List Bool) (st : List Int) (v : Value) : Prop where
  om : wr.ownsRow w.heap.size 4 1 (.slice (some ⟨bo, 0, none⟩) 64 64) 64 (met.map Value.bool)
  os : wr.ownsRow w.heap.size 2 1 v st.length (st.map (Value.int .i64))
  nn : v.ownBlock ≠ none
  ne : v.ownBlock ≠ some bo
  srch : Srch ps n a met st
  below : Below w.heap.size w wr

theorem snoc_of {st : List Int} (h : st ≠ []) : ∃ st' x, st = st' ++ [x] := by
  rcases List.eq_nil_or_concat st with h1 | ⟨st', x, h1⟩
  · exact absurd h1 h
  · exact ⟨st', x, by rw [h1, List.concat_eq_append]⟩
theorem RchW.pop {w wr : World} {ps : List Int} {n : Nat} {a : Int} {bo g c : Nat} {met : List Bool} {st : List Int} {x : Int} (h : RchW w wr ps n a bo met (st ++ [x]) (.slice (some ⟨g, 0, none⟩) (st.length + 1) c)) :
    wr.ownsRow w.heap.size 2 1 (.slice (some ⟨g, 0, none⟩) st.length c) st.length (st.map (Value.int .i64)) := by
  have h1 := h.os
  have e : (st ++ [x]).length = st.length + 1 := by simp
  rw [e] at h1
  exact ownsRow_pop (n := st.length) (xs := st.map (Value.int .i64)) (last := [.int .i64 x]) (by simp) (by simpa using h1)
theorem RchW.skip {w wr : World} {ps : List Int} {n : Nat} {a : Int} {bo g c : Nat} {met : List Bool} {st : List Int} {x : Int} (h : RchW w wr ps n a bo met (st ++ [x]) (.slice (some ⟨g, 0, none⟩) (st.length + 1) c)) (hx : metAt met x = true) :
    RchW w wr ps n a bo met st (.slice (some ⟨g, 0, none⟩) st.length c) :=
  ⟨h.om, h.pop, by simp [Value.ownBlock], h.ne, h.srch.skip hx, h.below⟩
theorem RchW.push {w wr w2 w3 : World} {ps : List Int} {n : Nat} {a : Int} {bo g c q : Nat} {met : List Bool} {st : List Int} (hh : HighsB ps n) (h : RchW w wr ps n a bo met (st ++ [(q : Int)]) (.slice (some ⟨g, 0, none⟩) (st.length + 1) c))
    (hx : metAt met (q : Int) = false) (hb : Below (wr.setCell ⟨bo, q, none⟩ (.bool true)).heap.size (wr.setCell ⟨bo, q, none⟩ (.bool true)) w2) {v' : Value}
    (hown : w3.ownsRow w.heap.size 2 1 v' (st ++ nextL ps n q).length ((st ++ nextL ps n q).map (Value.int .i64))) (hg : w2.grownBy w3 (some g)) (hat : v'.ownBlock = some g ∨ v'.ownBlock = some w2.heap.size) :
    RchW w w3 ps n a bo (met.set q true) (st ++ nextL ps n q) v' := by
  have hq : q < 64 := by have := h.srch.rng (q : Int) (by simp); omega
  have hst := h.om.stored q (.bool true)
  have hgb : g ≠ bo := fun e => h.ne (by rw [e]; rfl)
  have hbo := h.om.lt bo rfl
  have hgl := h.os.lt g rfl
  have hsz : (wr.setCell ⟨bo, q, none⟩ (.bool true)).heap.size = wr.heap.size := by simp [World.setCell]
  have hs2 := hb.size
  rw [hsz] at hs2
  have hm1 : (wr.setCell ⟨bo, q, none⟩ (.bool true)).ownsRow w.heap.size 4 1 (.slice (some ⟨bo, 0, none⟩) 64 64) 64 ((met.set q true).map Value.bool) := by rw [List.map_set]; exact hst.1
  have hm2 := ownsRow_below hm1 hb (fun k hk => (hm1.lt k hk).2)
  have hm3 := hm2.kept hg (.inr (by simp [Value.ownBlock]; exact fun e => hgb e.symm))
  have hbw : Below w.heap.size w (wr.setCell ⟨bo, q, none⟩ (.bool true)) := h.below.grown hst.2 h.below.size (fun r e => by cases e; exact hbo.1)
  refine ⟨hm3, hown, ?_, ?_, ?_, ?_⟩
  · rcases hat with e | e <;> rw [e] <;> simp
  · rcases hat with e | e
    · rw [e]; simpa using hgb
    · rw [e]; intro e'; injection e' with e'; omega
  · have := h.srch.step hh hx
    rwa [Int.toNat_natCast] at this
  · exact (hbw.trans (hb.mono hbw.size)).grown hg (hbw.trans (hb.mono hbw.size)).size (fun r e => by cases e; exact hgl.1)

set_option maxRecDepth 1000000 in
set_option maxHeartbeats 4000000 in
theorem reached_any (a1 : Option Addr) (n cap : Nat) (ps : List Int) (a : Int) (w : World) (hx : SlI w w.heap.size a1 ps) (hp : ps.length = 2 * n) (hl : n ≤ 1048576) (hh : HighsB ps n) :
    Calls Try.prog 117 #[.slice a1 n cap, .int .i64 a] w fun e w' => ∃ g met, e = .returned (.slice (some ⟨g, 0, none⟩) 64 64) ∧ w'.ownsRow w.heap.size 4 1 (.slice (some ⟨g, 0, none⟩) 64 64) 64 (met.map Value.bool) ∧ Hid (Srch ps n a met []) ∧ Below w.heap.size w w' := by
  have HH := hid hh
  have HN := hid (fun x w' (h : Below w.heap.size w w') => next_any a1 n cap ps x w' (hx.later h h.size) hp hl (hh x))
  have Hl := hid (fun x => nextL_len ps n x)
  clear hx hp hh
  obtain ⟨wm, hmk, hownm, hgm, hBm⟩ := make_run64 w.drew
  have hdr : Below w.heap.size w w.drew := below_drewN (Below.refl _ w) 1
  have HBw := hid hdr
  have HBwm : Hid (Below w.heap.size w wm) := hid (hdr.trans hBm)
  have HBm := hid hBm
  have Hownm := hid hownm
  clear hownm hgm hdr hBm
  go_enter Try.func117, Try.ntmps117
  go_wp2_with fail
  go_cut [5, 6] from 8 to 11 (fun p q wx => ∃ bo g c : Nat, p = .slice (some ⟨bo, 0, none⟩) 64 64 ∧ w.heap.size ≤ bo ∧ wx.ownsRow w.heap.size 4 1 (.slice (some ⟨bo, 0, none⟩) 64 64) 64 ((List.replicate 64 false).map Value.bool) ∧ q = .slice (some ⟨g, 0, none⟩) (nextL ps n a).length c ∧ wx.ownsRow w.heap.size 2 1 (.slice (some ⟨g, 0, none⟩) (nextL ps n a).length c) (nextL ps n a).length ((nextL ps n a).map (Value.int .i64)) ∧ g ≠ bo ∧ Below w.heap.size w wx)
  case first =>
    go_region_held3 (fun w' => True) (trivial) (first
      | (go_at_call 131; (with_reducible_and_instances refine (HN.out a wm HBwm.out).mono ?_); rintro e w2 ⟨g, c, rfl, hr⟩; have HR := hid hr; clear hr)
      | (go_at_call 131; (with_reducible_and_instances refine (HN.out a w.drew HBw.out).mono ?_); rintro e w2 ⟨g, c, rfl, hr⟩; obtain ⟨w3, hmk3, hown3, hg3, hB3⟩ := make_run64 w2; have HR := hid hr; have Hown3 := hid hown3; have HB3 := hid hB3; clear hr hown3 hg3 hB3)
      | (simp only [hmk3]))
    · go_wp2_with fail
      go_meet
      case rel =>
        have hlm := (Hownm.out.lt w.heap.size rfl).2
        refine ⟨w.heap.size, g, c, rfl, Nat.le_refl _, ownsRow_below Hownm.out HR.out.2 (fun g hg => (Hownm.out.lt g hg).2), rfl, ownsRow_base HR.out.1 HBwm.out.size, ?_, HBwm.out.trans (HR.out.2.mono HBwm.out.size)⟩
        have := (HR.out.1.lt g rfl).1
        omega
    · go_wp2_with fail
      go_meet
      case rel =>
        have hs2 : w.heap.size ≤ w2.heap.size := HR.out.2.size
        refine ⟨w2.heap.size, g, c, rfl, hs2, ownsRow_base Hown3.out hs2, rfl, ownsRow_base (ownsRow_below HR.out.1 HB3.out (fun g hg => (HR.out.1.lt g hg).2)) (Nat.le_refl _), ?_, (HBw.out.trans HR.out.2).trans (HB3.out.mono hs2)⟩
        have := (HR.out.1.lt g rfl).2
        omega
  case rest =>
    obtain ⟨bo, g, c, rfl, hbo, hmet, rfl, hst, hgb, hb⟩ := hcut
    have H0 : Hid (RchW w wc ps n a bo (List.replicate 64 false) (nextL ps n a) (.slice (some ⟨g, 0, none⟩) (nextL ps n a).length c)) := hid ⟨hmet, hst, by simp [Value.ownBlock], by simpa [Value.ownBlock] using hgb, Srch.start HH.out a, hb⟩
    clear hmet hst hgb hb HBw HBwm HBm Hownm hmk
    go_wp2_with fail
    go_loopg [6] 5000 (fun gg v wr => ∃ (met : List Bool) (st : List Int), Hid (RchW w wr ps n a bo met st v) ∧ st.length + 64 * met.countP (fun b => !b) ≤ gg)
    case atStart => exact ⟨_, _, H0, H0.out.srch.small⟩
    case round =>
      clear H0
      obtain ⟨met, st, HW, hgg⟩ := hrel
      by_cases hst : st = []
      · subst hst
        obtain ⟨g', c', rfl, _⟩ := owned_some HW.out.os HW.out.nn
        go_wp2_with fail
        go_ret
        exact ⟨bo, met, rfl, HW.out.om, hid HW.out.srch, HW.out.below⟩
      · obtain ⟨st', x, rfl⟩ := snoc_of hst
        obtain ⟨g', c', rfl, hcap⟩ := owned_some HW.out.os HW.out.nn
        have hxr := HW.out.srch.rng x (by simp)
        obtain ⟨q, rfl⟩ : ∃ q : Nat, x = q := ⟨x.toNat, by omega⟩
        obtain ⟨m, hm⟩ : ∃ m, m = st'.length := ⟨_, rfl⟩
        have el : (st' ++ [(q : Int)]).length = st'.length + 1 := by simp
        have hsm := HW.out.srch.small
        rw [el] at hcap HW hgg hsm ⊢
        have hcx : wr.cell? ⟨g', m, none⟩ = some (.int .i64 (q : Int)) := by
          have h := HW.out.os
          rw [el] at h
          rw [h.cellAt m (by omega), hm]
          simp
        have hml := HW.out.srch.len
        have hq64 : q < 64 := by omega
        obtain ⟨b, hb⟩ : ∃ b, b = metAt met (q : Int) := ⟨_, rfl⟩
        have hcm : wr.cell? ⟨bo, q, none⟩ = some (.bool b) := by
          rw [HW.out.om.cellAt q (by omega), hb]
          unfold metAt
          rw [Int.toNat_natCast, List.getElem?_eq_getElem (by omega : q < met.length)]
          simp [hml, hq64]
        have hfr := HW.out.om.frozenAt q
        have hi0 : (0 : Int) ≤ (q : Int) := by omega
        have hi1 : (q : Int) < 64 := by omega
        have hm0 : (0 : Int) ≤ (m : Int) := by omega
        have hm1 : (m : Int) < (m : Int) + 1 := by omega
        have hm2 : (m : Int) ≤ (c' : Int) := by omega
        have hw1 : IntKind.i64.wrap (m : Int) = m := by rw [IntKind.wrap_i64]; omega
        have hw2 : IntKind.i64.wrap ((m : Int) + 1 - 1) = m := by rw [show (m : Int) + 1 - 1 = m by omega]; exact hw1
        have hw3 : wrap64 (m : Int) = m := IntWalk.wrap64_in _ ⟨by omega, by omega⟩
        have hw4 : wrap64 ((m : Int) + 1 - 1) = m := by rw [show (m : Int) + 1 - 1 = m by omega]; exact hw3
        have HM := hid hm
        have Hb := hid hb
        rw [← hm] at HW ⊢
        clear hst el hsm hm hxr hcap hml hb
        cases b
        · have hst := HW.out.om.stored q (.bool true)
          have hbs : Below w.heap.size w (wr.setCell ⟨bo, q, none⟩ (.bool true)) := HW.out.below.grown hst.2 HW.out.below.size (fun r e => by cases e; exact hbo)
          have hW' := HW.out
          rw [HM.out] at hW'
          have hp : wr.ownsRow w.heap.size 2 1 (.slice (some ⟨g', 0, none⟩) m c') st'.length (st'.map (Value.int .i64)) := by rw [HM.out]; exact hW'.pop
          have HP := hid (ownsRow_set (a := ⟨bo, q, none⟩) hp HW.out.ne (.bool true))
          have HBs := hid hbs
          have hcq := HN.out (q : Int) _ hbs
          clear hst hbs hW' hp
          go_wp2_with fail
          refine hcq.mono ?_
          rintro e w2 ⟨g2, c2, rfl, hr⟩
          have hcs : ∀ i, i < (nextL ps n q).length → w2.cell? ⟨g2, i, none⟩ = some (.int .i64 ((nextL ps n q)[i]?.getD 0)) := fun i hi => by
            rcases owned_slI hr.1 with h | ⟨b, off, _, h1, h2⟩
            · rw [h] at hi; simp at hi
            · injection h1 with h1
              injection h1 with h1 h3
              subst h1
              subst h3
              have := h2 i hi
              rwa [Nat.zero_add] at this
          have hown2 := ownsRow_below HP.out hr.2 (fun k hk => (HP.out.lt k hk).2)
          have hsz2 : w.heap.size ≤ w2.heap.size := Nat.le_trans HBs.out.size hr.2.size
          have hly : (nextL ps n q).length ≤ 1048576 := by have := Hl.out (q : Int); omega
          have hlx : st'.length ≤ 1048576 := by have := HW.out.srch.small; simp at this; omega
          have HR := hid hr.2
          clear hr hcq
          go_wp2_with (at_builtin; refine append_ints_at rfl rfl hown2 hsz2 hlx hly rfl rfl hcs ?_; intro v' w3 hown3 hg3 hat3 hB3)
          go_roundg ((st' ++ nextL ps n q).length + 64 * (met.set q true).countP (fun b => !b))
          case measure =>
            have := HW.out.srch.less (x := (q : Int)) Hb.out.symm
            rw [Int.toNat_natCast] at this
            have e : (st' ++ [(q : Int)]).length = st'.length + 1 := by simp
            omega
          case rel =>
            have hW' := HW.out
            rw [HM.out] at hW'
            exact ⟨_, _, hid (hW'.push HH.out Hb.out.symm HR.out hown3 hg3 hat3), Nat.le_refl _⟩
        · go_wp2_with fail
          go_roundg (st'.length + 64 * met.countP (fun b => !b))
          case measure => omega
          case rel =>
            have hW' := HW.out
            rw [HM.out] at hW' ⊢
            exact ⟨_, _, hid (hW'.skip Hb.out.symm), Nat.le_refl _⟩

end Go.Proofs.Ytgefpllmelpahaa

/-! l02Acyclic: the model's word on cycles. -/
namespace Go.Proofs.Ytgefpllmelpahaa
open Go.RowKit

noncomputable def wayB (ps : List Int) (n : Nat) (a b : Int) : Bool := @decide (Way ps n a b) (Classical.propDecidable _)
theorem wayB_true {ps : List Int} {n : Nat} {a b : Int} (h : Way ps n a b) : wayB ps n a b = true := by unfold wayB; exact @decide_eq_true _ (Classical.propDecidable _) h
theorem wayB_false {ps : List Int} {n : Nat} {a b : Int} (h : ¬ Way ps n a b) : wayB ps n a b = false := by unfold wayB; exact @decide_eq_false _ (Classical.propDecidable _) h
theorem met_way {ps : List Int} {n : Nat} (hh : HighsB ps n) {a y : Int} {met : List Bool} (h : Srch ps n a met []) (hy : 0 ≤ y ∧ y < 64) : metAt met y = wayB ps n a y := by
  by_cases hw : Way ps n a y
  · rw [wayB_true hw]; exact h.done hh hw
  · rw [wayB_false hw]
    cases hm : metAt met y
    · rfl
    · have := h.good y.toNat (by omega) hm
      rw [show ((y.toNat : Nat) : Int) = y by omega] at this
      exact absurd this hw
/-- No low face of a pair lies on a cycle. -/
def NoCycle (ps : List Int) (n : Nat) : Prop := ∀ i, i < n → ¬ Way ps n (at0 ps (i * 2)) (at0 ps (i * 2))
noncomputable def acyB (ps : List Int) (n : Nat) : Bool := @decide (NoCycle ps n) (Classical.propDecidable _)
theorem acyB_true {ps : List Int} {n : Nat} (h : NoCycle ps n) : acyB ps n = true := by unfold acyB; exact @decide_eq_true _ (Classical.propDecidable _) h
theorem acyB_false {ps : List Int} {n : Nat} (h : ¬ NoCycle ps n) : acyB ps n = false := by unfold acyB; exact @decide_eq_false _ (Classical.propDecidable _) h

/-- What l02Reached says of a number. -/
theorem reached_at (a1 : Option Addr) (n cap : Nat) (ps : List Int) (a : Int) (y : Nat) (w : World) (hx : SlI w w.heap.size a1 ps) (hp : ps.length = 2 * n) (hl : n ≤ 1048576) (hh : HighsB ps n) (hy : y < 64) :
    Calls Try.prog 117 #[.slice a1 n cap, .int .i64 a] w fun e w' => ∃ g, e = .returned (.slice (some ⟨g, 0, none⟩) 64 64) ∧ w'.cell? ⟨g, y, none⟩ = some (.bool (wayB ps n a (y : Int))) ∧ Below w.heap.size w w' :=
  (reached_any a1 n cap ps a w hx hp hl hh).mono fun e w' ⟨g, met, he, hom, HS, hB⟩ => by
    refine ⟨g, he, ?_, hB⟩
    have hml := HS.out.len
    rw [hom.cellAt y (by omega), ← met_way hh HS.out (by omega)]
    unfold metAt
    rw [Int.toNat_natCast, List.getElem?_eq_getElem (by omega : y < met.length)]
    simp [hml, hy]

set_option maxRecDepth 1000000 in
set_option maxHeartbeats 4000000 in
theorem acyclicS_any (a1 : Option Addr) (n cap : Nat) (ps : List Int) (w : World) (hx : SlI w w.heap.size a1 ps) (hp : ps.length = 2 * n) (hl : n ≤ 1048576) (hh : HighsB ps n) (hlo : ∀ i, i < n → 0 ≤ at0 ps (i * 2) ∧ at0 ps (i * 2) < 64) :
    Calls Try.prog 49 #[.slice a1 n cap] w fun e w' => e = .returned (.bool (acyB ps n)) ∧ Below w.heap.size w w' := by
  obtain ⟨E, hE⟩ : ∃ E, E = acyB ps n := ⟨_, rfl⟩
  have HE := hid hE
  rw [← hE]
  clear hE
  have HR := hid (fun a y w' (h : Below w.heap.size w w') (hy : y < 64) => reached_at a1 n cap ps a y w' (hx.later h h.size) hp hl hh hy)
  have Hx := hid hx
  have Hp := hid hp
  have Hlo := hid hlo
  clear hx hp hh hlo
  go_enter Try.func49, Try.ntmps49
  go_wp2
  go_loopw [3] (fun i wr => ∃ k : Nat, k ≤ n ∧ i = .int .i64 k ∧ Hid (∀ j, j < k → ¬ Way ps n (at0 ps (j * 2)) (at0 ps (j * 2))) ∧ Below w.heap.size w wr) (fun i _ => n - (intOf i).toNat)
  case atStart => exact ⟨0, Nat.zero_le _, rfl, hid (fun j hj => absurd hj (Nat.not_lt_zero _)), Below.refl _ _⟩
  case round =>
    obtain ⟨k, hk, rfl, Hk, hB⟩ := hrel
    by_cases hlt : k < n
    · obtain ⟨b, off, hb, rfl, hc⟩ : ∃ b off, b < w.heap.size ∧ a1 = some ⟨b, off, none⟩ ∧ ∀ i, i < ps.length → w.cell? ⟨b, off + i, none⟩ = some (.int .i64 (ps[i]?.getD 0)) := by
        rcases Hx.out with h | h
        · have := Hp.out; rw [h] at this; simp at this; omega
        · exact h
      have hck : wr.cell? ⟨b, off + k * 2, none⟩ = some (.int .i64 (at0 ps (k * 2))) := (hB.cell (p := ⟨b, off + k * 2, none⟩) hb).trans (hc _ (by have := Hp.out; omega))
      have hxr := Hlo.out k hlt
      obtain ⟨x, hx⟩ : ∃ x : Nat, (x : Int) = at0 ps (k * 2) := ⟨(at0 ps (k * 2)).toNat, by omega⟩
      rw [← hx] at hck hxr
      have Hxx := hid hx
      have hx0 : (0 : Int) ≤ (x : Int) := by omega
      have hx64 : (x : Int) < 64 := by omega
      have hi0 : (0 : Int) ≤ (k : Int) := by omega
      have hi1 : (k : Int) < (n : Int) := by omega
      have HC := hid (HR.out (x : Int) x wr.drew (below_drewN hB 1) (by omega))
      have HB := hid hB
      have hbr : b < wr.heap.size := Nat.lt_of_lt_of_le hb hB.size
      obtain ⟨q, hq⟩ : ∃ q, q = wayB ps n (x : Int) (x : Int) := ⟨_, rfl⟩
      rw [← hq] at HC
      have Hq := hid hq
      clear hx hc hB hq hxr
      cases q
      · go_wp2_with fail
        go_region_with (first
          | (go_at_call 117; refine HC.out.mono ?_; rintro e w2 ⟨g, rfl, hcm, hB2⟩; have n0 := (hB2.cell (p := ⟨b, off + k * 2, none⟩) hbr).trans hck; have HB2 := hid hB2; clear hB2))
        all_goals
          have HB3 := hid ((below_drewN HB.out 1).trans (HB2.out.mono (below_drewN HB.out 1).size))
          have He : Hid (∀ j, j < k + 1 → ¬ Way ps n (at0 ps (j * 2)) (at0 ps (j * 2))) := hid (fun j hj hw => by
            by_cases e : j = k
            · subst e
              rw [← Hxx.out] at hw
              have := Hq.out
              rw [wayB_true hw] at this
              cases this
            · exact Hk.out j (by omega) hw)
          clear HB HB2 hcm n0 hck
          go_wp2_with fail
          go_roundw
          case rel => exact ⟨k + 1, by omega, by go_num, He, HB3.out⟩
          case measure => simp [intOf]; omega
      · go_wp2_with fail
        go_region_with (first
          | (go_at_call 117; refine HC.out.mono ?_; rintro e w2 ⟨g, rfl, hcm, hB2⟩; have n0 := (hB2.cell (p := ⟨b, off + k * 2, none⟩) hbr).trans hck; have HB2 := hid hB2; clear hB2))
        all_goals
          have HB3 := hid ((below_drewN HB.out 1).trans (HB2.out.mono (below_drewN HB.out 1).size))
          have He : Hid (E = false) := hid (by
            rw [HE.out]
            refine acyB_false (fun hno => ?_)
            have := Hq.out
            rw [wayB_false (by rw [Hxx.out]; exact hno k hlt)] at this
            cases this)
          clear HB HB2 hcm n0 hck
          go_wp2_with fail
          go_ret
          exact ⟨ret_bool (by rw [He.out]), HB3.out⟩
    · have He : Hid (E = true) := hid (by rw [HE.out]; exact acyB_true (fun i hi => Hk.out i (by omega)))
      go_wp2_with fail
      go_ret
      exact ⟨ret_bool (by rw [He.out]), hB⟩

end Go.Proofs.Ytgefpllmelpahaa
