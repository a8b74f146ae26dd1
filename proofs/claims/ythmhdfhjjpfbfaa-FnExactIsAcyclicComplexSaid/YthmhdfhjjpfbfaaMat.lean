import Derived.Test.YthmhdfhjjpfbfaaGaussM
import Derived.Test.YthmhdfhjjpfbfaaRev
/-! A matrix in memory: a slice of rows, each a slice of int64 of its own. -/
namespace Go.Proofs.Ythmhdfhjjpfbfaa
open Go.RowKit Go.Lib Go.Sort

/-- Where row i lies. -/
abbrev Ads := List (Nat × Nat)
def adr (ad : Ads) (i : Nat) : Nat × Nat := ad[i]?.getD (0, 0)

/-- In block R lie the rows' slices, row i at ad i; B: what lay at the start. -/
structure MatW (W : World) (B R n w : Nat) (ad : Ads) (M : List (List Int)) : Prop where
  len : M.length = n
  adl : ad.length = n
  wid : ∀ i, i < n → (M[i]?.getD []).length = w
  hd : ∀ i, i < n → W.cell? ⟨R, i, none⟩ = some (.slice (some ⟨(adr ad i).1, (adr ad i).2, none⟩) w w) ∧ W.frozen? ⟨R, i, none⟩ = false
  row : ∀ i, i < n → Holds encI W (adr ad i).1 (adr ad i).2 (M[i]?.getD []).toArray
  apart : ∀ i k, i < n → k < n → i ≠ k → (adr ad i).1 ≠ (adr ad k).1 ∨ (adr ad i).2 + w ≤ (adr ad k).2 ∨ (adr ad k).2 + w ≤ (adr ad i).2
  off : ∀ i, i < n → (adr ad i).1 ≠ R
  base : ∀ i, i < n → B ≤ (adr ad i).1 ∧ (adr ad i).1 < W.heap.size
  head : B ≤ R ∧ R < W.heap.size

theorem MatW.at {W : World} {B R n w : Nat} {ad : Ads} {M : List (List Int)} (h : MatW W B R n w ad M) {i j : Nat} (hi : i < n) (hj : j < w) :
    W.cell? ⟨(adr ad i).1, (adr ad i).2 + j, none⟩ = some (.int .i64 (ent M i j)) ∧ W.frozen? ⟨(adr ad i).1, (adr ad i).2 + j, none⟩ = false := by
  have hl := h.wid i hi
  have := h.row i hi j (by simp; omega)
  refine ⟨this.1.trans ?_, this.2⟩
  have hj' : j < (M[i]?.getD []).length := by omega
  simp only [encI, ent]
  rw [getElem!_pos (M[i]?.getD []).toArray j (by simpa using hj'), List.getElem?_eq_getElem hj']
  simp

/-- Draws alone. -/
theorem MatW.ahead {W : World} {B R n w : Nat} {ad : Ads} {M : List (List Int)} (h : MatW W B R n w ad M) (m : Nat) : MatW (Sort.ahead W m) B R n w ad M :=
  ⟨h.len, h.adl, h.wid, h.hd, h.row, h.apart, h.off, h.base, h.head⟩
theorem MatW.drewN {W : World} {B R n w : Nat} {ad : Ads} {M : List (List Int)} (h : MatW W B R n w ad M) (m : Nat) : MatW (W.drewN m) B R n w ad M :=
  ⟨h.len, h.adl, h.wid, h.hd, h.row, h.apart, h.off, h.base, h.head⟩

theorem holds_keep {w w' : World} {blk off : Nat} {d : Array Int} (h : Holds encI w blk off d) (hk : w'.heap[blk]? = w.heap[blk]?) : Holds encI w' blk off d := by
  intro j hj
  have := h j hj
  simp only [World.cell?, World.frozen?] at this ⊢
  rw [hk]
  exact this

/-- Whatever keeps the blocks. -/
theorem MatW.keep {W W' : World} {B R n w : Nat} {ad : Ads} {M : List (List Int)} (h : MatW W B R n w ad M) (hs : W.heap.size ≤ W'.heap.size) (hR : W'.heap[R]? = W.heap[R]?) (hr : ∀ i, i < n → W'.heap[(adr ad i).1]? = W.heap[(adr ad i).1]?) : MatW W' B R n w ad M where
  len := h.len
  adl := h.adl
  wid := h.wid
  hd := fun i hi => by have := h.hd i hi; simp only [World.cell?, World.frozen?] at this ⊢; rw [hR]; exact this
  row := fun i hi => holds_keep (h.row i hi) (hr i hi)
  apart := h.apart
  off := h.off
  base := fun i hi => ⟨(h.base i hi).1, Nat.lt_of_lt_of_le (h.base i hi).2 hs⟩
  head := ⟨h.head.1, Nat.lt_of_lt_of_le h.head.2 hs⟩

/-- Row k is written anew. -/
theorem MatW.put {W : World} {B R n w : Nat} {ad : Ads} {M : List (List Int)} (h : MatW W B R n w ad M) {k : Nat} (hk : k < n) (m : Nat) {row : List Int} (hl : row.length = w) :
    MatW (putRow encI (Sort.ahead W m) (adr ad k).1 (adr ad k).2 row.toArray) B R n w ad (M.set k row) where
  len := by simp [h.len]
  adl := h.adl
  wid := fun i hi => by
    by_cases e : k = i
    · subst e; rw [List.getElem?_set_self (by rw [h.len]; exact hi)]; simpa using hl
    · rw [List.getElem?_set_ne e]; exact h.wid i hi
  hd := fun i hi => by
    have := h.hd i hi
    refine ⟨?_, by rw [frozen?_putRow]; exact this.2⟩
    rw [cell?_putRow_other _ _ _ _ _ _ (.inl (fun e => h.off k hk e.symm))]
    exact this.1
  row := fun i hi => by
    by_cases e : k = i
    · subst e
      rw [List.getElem?_set_self (by rw [h.len]; exact hi)]
      exact holds_putRow encI _ _ _ _ _ (holds_ahead encI W m _ _ _ (h.row k hi)) (by simp [hl, h.wid k hi])
    · rw [List.getElem?_set_ne e]
      intro j hj
      have hj' : j < w := by have := h.wid i hi; simp at hj; omega
      have := h.row i hi j hj
      refine ⟨?_, by rw [frozen?_putRow]; exact this.2⟩
      rw [cell?_putRow_other _ _ _ _ _ _ (by
        have := h.apart i k hi hk (fun e' => e e'.symm)
        simp [hl]
        omega)]
      exact this.1
  apart := h.apart
  off := h.off
  base := fun i hi => by simpa using h.base i hi
  head := by simpa using h.head

/-- Two rows change places. -/
theorem MatW.swap {W : World} {B R n w : Nat} {ad : Ads} {M : List (List Int)} (h : MatW W B R n w ad M) {r i : Nat} (hr : r < n) (hi : i < n) {W' : World}
    (hs : W'.heap.size = W.heap.size) (hk : ∀ b, b ≠ R → W'.heap[b]? = W.heap[b]?)
    (hc : ∀ k, k < n → W'.cell? ⟨R, k, none⟩ = some (if k = i then .slice (some ⟨(adr ad r).1, (adr ad r).2, none⟩) w w else if k = r then .slice (some ⟨(adr ad i).1, (adr ad i).2, none⟩) w w else .slice (some ⟨(adr ad k).1, (adr ad k).2, none⟩) w w) ∧ W'.frozen? ⟨R, k, none⟩ = false) :
    MatW W' B R n w ((ad.set r (adr ad i)).set i (adr ad r)) (swapR M r i) := by
  have ha : ∀ k, k < n → adr ((ad.set r (adr ad i)).set i (adr ad r)) k = if k = i then adr ad r else if k = r then adr ad i else adr ad k := by
    intro k hk
    unfold adr
    by_cases e1 : k = i
    · subst e1; rw [List.getElem?_set_self (by simp [h.adl]; omega), if_pos rfl]; simp
    · rw [if_neg e1, List.getElem?_set_ne (fun e => e1 e.symm)]
      by_cases e2 : k = r
      · subst e2; rw [List.getElem?_set_self (by simp [h.adl]; omega), if_pos rfl]; simp
      · rw [if_neg e2, List.getElem?_set_ne (fun e => e2 e.symm)]
  have hM : ∀ k, k < n → (swapR M r i)[k]?.getD [] = if k = i then M[r]?.getD [] else if k = r then M[i]?.getD [] else M[k]?.getD [] := by
    intro k hk
    unfold swapR
    by_cases e1 : k = i
    · subst e1; rw [List.getElem?_set_self (by simp [h.len]; omega), if_pos rfl]; simp
    · rw [if_neg e1, List.getElem?_set_ne (fun e => e1 e.symm)]
      by_cases e2 : k = r
      · subst e2; rw [List.getElem?_set_self (by simp [h.len]; omega), if_pos rfl]; simp
      · rw [if_neg e2, List.getElem?_set_ne (fun e => e2 e.symm)]
  refine ⟨by rw [swapR_len]; exact h.len, by simp [h.adl], ?_, ?_, ?_, ?_, ?_, ?_, ?_⟩
  · intro k hk'
    rw [hM k hk']
    split
    · exact h.wid r hr
    · split
      · exact h.wid i hi
      · exact h.wid k hk'
  · intro k hk'
    rw [ha k hk']
    obtain ⟨h1, h2⟩ := hc k hk'
    refine ⟨?_, h2⟩
    rw [h1]
    split
    · rfl
    · split <;> rfl
  · intro k hk'
    rw [ha k hk', hM k hk']
    split
    · exact holds_keep (h.row r hr) (hk _ (h.off r hr))
    · split
      · exact holds_keep (h.row i hi) (hk _ (h.off i hi))
      · exact holds_keep (h.row k hk') (hk _ (h.off k hk'))
  · intro a b ha' hb' hab
    have hp : ∀ k, k < n → ∃ k', k' < n ∧ adr ((ad.set r (adr ad i)).set i (adr ad r)) k = adr ad k' ∧ k' = (if k = i then r else if k = r then i else k) := by
      intro k hk'
      refine ⟨if k = i then r else if k = r then i else k, ?_, ?_, rfl⟩
      · split
        · exact hr
        · split
          · exact hi
          · exact hk'
      · rw [ha k hk']
        split
        · rfl
        · split <;> rfl
    obtain ⟨a', ha1, ha2, ha3⟩ := hp a ha'
    obtain ⟨b', hb1, hb2, hb3⟩ := hp b hb'
    rw [ha2, hb2]
    refine h.apart a' b' ha1 hb1 (fun e => ?_)
    rw [ha3, hb3] at e
    split at e <;> split at e <;> (try split at e) <;> (try split at e) <;> omega
  · intro k hk'
    rw [ha k hk']
    split
    · exact h.off r hr
    · split
      · exact h.off i hi
      · exact h.off k hk'
  · intro k hk'
    rw [ha k hk', hs]
    split
    · exact h.base r hr
    · split
      · exact h.base i hi
      · exact h.base k hk'
  · rw [hs]; exact h.head

end Go.Proofs.Ythmhdfhjjpfbfaa
