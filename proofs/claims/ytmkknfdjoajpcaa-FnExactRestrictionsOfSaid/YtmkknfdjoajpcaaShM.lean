import Derived.Test.YtmkknfdjoajpcaaShB
import Derived.Test.YtmkknfdjoajpcaaMathF
/-! Shellings: the program's and the model's are the same. -/
namespace Go.Proofs.Ytmkknfdjoajpcaa
open Go.RowKit Go.Shelf

def gI (f o : Nat) : Nat := if ones (ndiff f o) = 1 then ndiff f o else 0
def hB (f v o : Nat) : Nat := if f &&& 2 ^ v = 2 ^ v ∧ o &&& (f - 2 ^ v) = f - 2 ^ v then 2 ^ v else 0
set_option maxRecDepth 1000000 in
theorem gI_hB : ∀ f o : Fin 64, o.val &&& f.val ≠ f.val → gI f.val o.val = (List.range 6).foldl (fun r v => r ||| hB f.val v o.val) 0 := by decide +kernel

theorem foldOr_bit {α : Type} (F : α → Nat) (k : Nat) : ∀ (L : List α) (r : Nat), (L.foldl (fun r x => r ||| F x) r).testBit k = (r.testBit k || L.any fun x => (F x).testBit k)
  | [], r => by simp
  | x :: L, r => by
    rw [List.foldl_cons, foldOr_bit F k L, Nat.testBit_or, List.any_cons, Bool.or_assoc]

/-- The model's restriction as a number. -/
def rN (f : Nat) (ns : List Nat) : Nat → Nat
  | 0 => 0
  | v + 1 => ns.foldl (fun r o => r ||| hB f v o) (rN f ns v)
theorem rN_bit (f : Nat) (ns : List Nat) (k : Nat) : ∀ n, (rN f ns n).testBit k = (List.range n).any fun v => ns.any fun o => (hB f v o).testBit k
  | 0 => by simp [rN]
  | n + 1 => by
    rw [rN, foldOr_bit (fun o => hB f n o), rN_bit f ns k n, List.range_succ, List.any_append]
    simp
theorem fR_eq (f : Nat) (L : List (Nat × Nat)) : fR f L = L.foldl (fun r o => r ||| gI f o.1) 0 := by
  unfold fR fRs
  congr 1
  funext r o
  unfold gI
  split <;> simp
theorem hB_lt {f v o : Nat} (hv : v < 6) : hB f v o < 64 := by
  unfold hB
  split
  · exact Nat.lt_of_lt_of_le (Nat.pow_lt_pow_right (by decide) hv) (by decide)
  · decide
theorem foldN_lt {F : Nat → Nat} (hF : ∀ o, F o < 64) : ∀ (L : List Nat) (r : Nat), r < 64 → L.foldl (fun r o => r ||| F o) r < 64
  | [], r, h => h
  | o :: L, r, h => by rw [List.foldl_cons]; exact foldN_lt hF L _ (or_lt h (hF o))
theorem rN_lt (f : Nat) (ns : List Nat) : ∀ n, n ≤ 6 → rN f ns n < 64
  | 0, _ => Nat.zero_lt_succ _
  | n + 1, h => by rw [rN]; exact foldN_lt (fun o => hB_lt (by omega)) ns _ (rN_lt f ns n (by omega))

/-- The chain's restriction is the model's, where no facet ahead holds f. -/
theorem rN_fR {f : Nat} {ns : List Nat} {L : List (Nat × Nat)} (hf : f < 64) (hm : ∀ o, o ∈ ns ↔ ∃ r, (o, r) ∈ L) (ho : ∀ o ∈ ns, o < 64 ∧ o &&& f ≠ f) : rN f ns 6 = fR f L := by
  apply Nat.eq_of_testBit_eq
  intro k
  rw [rN_bit, fR_eq, foldOr_bit (fun o : Nat × Nat => gI f o.1), Nat.zero_testBit, Bool.false_or, Bool.eq_iff_iff, List.any_eq_true, List.any_eq_true]
  constructor
  · rintro ⟨v, hv, h⟩
    obtain ⟨o, hon, h⟩ := List.any_eq_true.1 h
    obtain ⟨r, hr⟩ := (hm o).1 hon
    obtain ⟨o64, hne⟩ := ho o hon
    refine ⟨(o, r), hr, ?_⟩
    simp only
    rw [gI_hB ⟨f, hf⟩ ⟨o, o64⟩ hne, foldOr_bit (fun v => hB f v o), Nat.zero_testBit, Bool.false_or, List.any_eq_true]
    exact ⟨v, hv, h⟩
  · rintro ⟨⟨o, r⟩, hr, h⟩
    have hon := (hm o).2 ⟨r, hr⟩
    obtain ⟨o64, hne⟩ := ho o hon
    simp only at h
    rw [gI_hB ⟨f, hf⟩ ⟨o, o64⟩ hne, foldOr_bit (fun v => hB f v o), Nat.zero_testBit, Bool.false_or, List.any_eq_true] at h
    obtain ⟨v, hv, h⟩ := h
    exact ⟨v, hv, List.any_eq_true.2 ⟨o, hon, h⟩⟩

theorem and_bits64 {x y : Nat} (hx : x < 64) (hy : y < 64) : bits BinOp.and IntKind.i64 (x : Int) (y : Int) = ((x &&& y : Nat) : Int) := (bits_nat .i64 6 (by decide) (fun n h0 h1 => by rw [IntKind.wrap_i64]; omega) x y (by omega) (by omega)).1
theorem wrap_pow : ∀ v : Fin 6, wrap64 (2 ^ v.val) = ((2 ^ v.val : Nat) : Int) := by decide +kernel
theorem pow_le_of_bit : ∀ f : Fin 64, ∀ v : Fin 6, f.val &&& 2 ^ v.val = 2 ^ v.val → 2 ^ v.val ≤ f.val := by decide +kernel
theorem bit_zero : ∀ f : Fin 64, ∀ v : Fin 6, f.val &&& 2 ^ v.val ≠ 2 ^ v.val → f.val &&& 2 ^ v.val = 0 := by decide +kernel

theorem shF_nat {f v : Nat} (hf : f < 64) (hv : v < 6) (hb : f &&& 2 ^ v = 2 ^ v) : ∀ (ns : List Nat) (r : Nat), r < 64 → (∀ o ∈ ns, o < 64) → shF (f : Int) (wrap64 (2 ^ v)) (ns.map fun o : Nat => (o : Int)) (r : Int) = ((ns.foldl (fun r o => r ||| hB f v o) r : Nat) : Int)
  | [], r, _, _ => rfl
  | o :: ns, r, hr, ho => by
    have h1 := pow_le_of_bit ⟨f, hf⟩ ⟨v, hv⟩ hb
    simp only at h1
    have hw := wrap_pow ⟨v, hv⟩
    simp only at hw
    have ho64 := ho o (by simp)
    have hp64 : 2 ^ v < 64 := Nat.lt_of_lt_of_le (Nat.pow_lt_pow_right (by decide) hv) (by decide)
    have hd : wrap64 ((f : Int) - wrap64 (2 ^ v)) = ((f - 2 ^ v : Nat) : Int) := by
      rw [hw, ← Int.ofNat_sub h1]
      unfold wrap64
      omega
    have ih := fun r' hr' => shF_nat hf hv hb ns r' hr' (fun o h => ho o (List.mem_cons_of_mem _ h))
    unfold shF at ih ⊢
    rw [List.map_cons, List.foldl_cons, List.foldl_cons, hd, and_bits64 ho64 (by omega)]
    rw [hd] at ih
    have e : (if (((o &&& (f - 2 ^ v) : Nat) : Int) == ((f - 2 ^ v : Nat) : Int)) = true then bits BinOp.or IntKind.i64 (r : Int) (wrap64 (2 ^ v)) else (r : Int)) = ((r ||| hB f v o : Nat) : Int) := by
      unfold hB
      by_cases h : o &&& (f - 2 ^ v) = f - 2 ^ v
      · rw [if_pos (by rw [h]; simp), if_pos ⟨hb, h⟩, hw, or_bits hr hp64]
      · rw [if_neg (by simp only [beq_iff_eq, Int.natCast_inj]; exact h), if_neg (fun hh => h hh.2), Nat.or_zero]
    rw [e]
    exact ih _ (or_lt hr (hB_lt hv))

theorem shR_nat {f : Nat} (hf : f < 64) {ns : List Nat} (ho : ∀ o ∈ ns, o < 64) : ∀ n, n ≤ 6 → shR (f : Int) (ns.map fun o : Nat => (o : Int)) n = (rN f ns n : Int)
  | 0, _ => rfl
  | v + 1, h => by
    have ih := shR_nat hf ho v (by omega)
    have hv : v < 6 := by omega
    have hp64 : 2 ^ v < 64 := Nat.lt_of_lt_of_le (Nat.pow_lt_pow_right (by decide) hv) (by decide)
    have hw := wrap_pow ⟨v, hv⟩
    simp only at hw
    rw [shR, rN, ih]
    by_cases hb : f &&& 2 ^ v = 2 ^ v
    · have hne : (bits BinOp.and IntKind.i64 (f : Int) (wrap64 (2 ^ v)) == 0) = false := by
        rw [hw, and_bits64 hf hp64, hb]
        have := Nat.two_pow_pos v
        simp only [beq_eq_false_iff_ne]
        omega
      rw [if_neg (by rw [hne]; simp)]
      exact shF_nat hf hv hb ns _ (rN_lt f ns v (by omega)) ho
    · have h0 := bit_zero ⟨f, hf⟩ ⟨v, hv⟩ hb
      simp only at h0
      rw [if_pos (by rw [hw, and_bits64 hf hp64, h0]; rfl)]
      congr 1
      have : ∀ (L : List Nat) (r : Nat), L.foldl (fun r o => r ||| hB f v o) r = r := by
        intro L
        induction L with
        | nil => intro r; rfl
        | cons o L ih2 => intro r; rw [List.foldl_cons, show hB f v o = 0 from if_neg (fun h => hb h.1), Nat.or_zero]; exact ih2 r
      exact (this ns _).symm

end Go.Proofs.Ytmkknfdjoajpcaa
