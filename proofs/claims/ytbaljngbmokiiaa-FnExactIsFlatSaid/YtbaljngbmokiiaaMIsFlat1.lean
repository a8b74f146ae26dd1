import Derived.Test.YtbaljngbmokiiaaProg
import Derived.WalkKit
import Derived.WalkSpells
import Derived.WalkLawsBesides
import Derived.Deep.QuietTactic
import Derived.BigQuiet
import Derived.Deep.RegionWith
import Derived.Deep.DrawnRows
import Derived.Test.YtbaljngbmokiiaaRows
import Derived.ProofKit
import Derived.OpenShut
import Derived.ShutString
import Derived.ChangeOld
import Derived.Below
import Derived.Lib.SmallJoins
import Derived.RangeFuncNested
import Derived.RangeFuncBound
import Derived.RangeFuncCalls
import Derived.RangeFuncLeaves
import Derived.Shelf.Abstract
import Derived.Shelf.RegionOpen
import Derived.OwnWalkIn
import Derived.TacticsInMore
import Derived.LoopNIn
import Derived.LoopIn
import Derived.Maps.OwnIn
import Derived.Maps.OwnSet
import Derived.Maps.AppendAt
/-! Facts on numbers under 64, by running through all of them. -/
namespace Go.Proofs.Ytbaljngbmokiiaa

/-- The digit at place v of a number. -/
def bitN (f v : Nat) : Bool := f / 2 ^ v % 2 == 1

/-- Parts of f from p downwards, as the program finds them. -/
def chain (f : Nat) : Nat → Nat → List Nat
  | 0, _ => []
  | n + 1, p => if p = 0 then [] else p :: chain f n ((p - 1) &&& f)
def subs (f : Nat) : List Nat := chain f 64 f

theorem sub_chain : ∀ f : Fin 64, ∀ p : Fin 64, p.val ≠ 0 → p.val &&& f.val = p.val → p.val = f.val ∨ ∃ v : Fin 6, bitN f.val v.val = true ∧ f.val ≠ 2 ^ v.val ∧ p.val &&& (f.val - 2 ^ v.val) = p.val := by decide +kernel
theorem next_sub : ∀ f : Fin 64, ∀ p : Fin 64, 0 < p.val → p.val &&& f.val = p.val → ∀ q : Fin 64, q.val < p.val → q.val &&& f.val = q.val → q.val ≤ (p.val - 1) &&& f.val := by decide +kernel
theorem next_is : ∀ f : Fin 64, ∀ p : Fin 64, 0 < p.val → ((p.val - 1) &&& f.val) < p.val ∧ ((p.val - 1) &&& f.val) &&& f.val = ((p.val - 1) &&& f.val) := by decide +kernel
theorem bit_sub : ∀ f : Fin 64, ∀ v : Fin 6, bitN f.val v.val = true → (f.val - 2 ^ v.val) &&& f.val = f.val - 2 ^ v.val ∧ 2 ^ v.val ≤ f.val := by decide +kernel
theorem mem_subs' : ∀ f : Fin 64, ∀ x : Fin 64, x.val ∈ subs f.val ↔ x.val ≠ 0 ∧ x.val &&& f.val = x.val := by decide +kernel
theorem bit_big : ∀ f : Fin 64, ∀ v : Fin 63, 6 ≤ v.val → bitN f.val v.val = false := by decide +kernel

theorem subs_len' : ∀ f : Fin 64, (subs f.val).length ≤ 63 := by decide +kernel

/-- How many digits 1 a number under 64 has. -/
def ones (f : Nat) : Nat := f % 2 + f / 2 % 2 + f / 4 % 2 + f / 8 % 2 + f / 16 % 2 + f / 32 % 2

theorem ones_half {r : Nat} (h : r < 64) : ones r = r % 2 + ones (r / 2) := by unfold ones; omega
theorem ones_zero : ones 0 = 0 := rfl
theorem ones_le (f : Nat) : ones f ≤ 6 := by unfold ones; omega
theorem ones_pos : ∀ f : Fin 64, f.val ≠ 0 → 0 < ones f.val := by decide +kernel

end Go.Proofs.Ytbaljngbmokiiaa

namespace Go.Proofs.Ytbaljngbmokiiaa



/-- All vertices of a complex with V of them. -/
def allV (V : Int) : Int := 2 ^ V.toNat - 1

theorem allV_le {V : Int} (h : V ≤ 6) : allV V ≤ 63 := by
  have h1 : V.toNat ≤ 6 := by omega
  have h2 : (2 : Nat) ^ V.toNat ≤ 2 ^ 6 := Nat.pow_le_pow_right (by decide) h1
  have h3 : ((2 ^ V.toNat : Nat) : Int) ≤ 64 := by exact_mod_cast h2
  simp only [Int.natCast_pow] at h3
  unfold allV
  have : ((2 : Nat) : Int) = 2 := rfl
  rw [this] at h3
  omega

/-- (V, fs) is a complex. -/
structure IsC (V : Int) (fs : List Int) : Prop where
  lo : 1 ≤ V
  hi : V ≤ 6
  range : ∀ x ∈ fs, 1 ≤ x ∧ x ≤ allV V
  asc : fs.Pairwise (· < ·)
  closed : ∀ x ∈ fs, ∀ p : Nat, p ≠ 0 → p &&& x.toNat = p → (p : Int) ∈ fs

theorem IsC.range63 {V : Int} {fs : List Int} (h : IsC V fs) : ∀ x ∈ fs, 1 ≤ x ∧ x ≤ 63 := fun x hx => ⟨(h.range x hx).1, by have := allV_le h.hi; have := (h.range x hx).2; omega⟩

theorem and_le_left' (p x : Nat) (h : p &&& x = p) : p ≤ x := by rw [← h]; exact Nat.and_le_right

/-- One vertex less is enough. -/
theorem closed_of_step {fs : List Int} (hr : ∀ x ∈ fs, 1 ≤ x ∧ x ≤ 63)
    (hs : ∀ x ∈ fs, ∀ v : Nat, v < 6 → bitN x.toNat v = true → x ≠ 2 ^ v → x - 2 ^ v ∈ fs) :
    ∀ x ∈ fs, ∀ p : Nat, p ≠ 0 → p &&& x.toNat = p → (p : Int) ∈ fs := by
  have key : ∀ n : Nat, ∀ x ∈ fs, x.toNat ≤ n → ∀ p : Nat, p ≠ 0 → p &&& x.toNat = p → (p : Int) ∈ fs := by
    intro n
    induction n with
    | zero => intro x hx hn; have := hr x hx; omega
    | succ n ih =>
      intro x hx hn p hp hpx
      have hx1 := hr x hx
      have hple := and_le_left' _ _ hpx
      rcases sub_chain ⟨x.toNat, by omega⟩ ⟨p, by omega⟩ hp hpx with h | ⟨v, hv, hne, hsub⟩
      · simp only at h
        rw [h, Int.toNat_of_nonneg (by omega)]; exact hx
      · simp only at hv hne hsub
        have hb := (bit_sub ⟨x.toNat, by omega⟩ v hv).2
        simp only at hb
        have hpos : 0 < 2 ^ v.val := Nat.two_pow_pos _
        have hc : ((2 ^ v.val : Nat) : Int) = 2 ^ v.val := by simp
        have hm := hs x hx v.val v.isLt hv (by rw [← hc]; omega)
        refine ih (x - 2 ^ v.val) hm (by rw [← hc]; omega) p hp ?_
        rw [show (x - 2 ^ v.val : Int).toNat = x.toNat - 2 ^ v.val by rw [← hc]; omega]
        exact hsub
  exact fun x hx => key x.toNat x hx (Nat.le_refl _)

theorem step_of_closed {fs : List Int} (hr : ∀ x ∈ fs, 1 ≤ x ∧ x ≤ 63)
    (h : ∀ x ∈ fs, ∀ p : Nat, p ≠ 0 → p &&& x.toNat = p → (p : Int) ∈ fs) :
    ∀ x ∈ fs, ∀ v : Nat, v < 6 → bitN x.toNat v = true → x ≠ 2 ^ v → x - 2 ^ v ∈ fs := by
  intro x hx v hv hb hne
  have hx1 := hr x hx
  obtain ⟨h1, h2⟩ := bit_sub ⟨x.toNat, by omega⟩ ⟨v, hv⟩ hb
  simp only at h1 h2
  have hc : ((2 ^ v : Nat) : Int) = 2 ^ v := by simp
  have := h x hx (x.toNat - 2 ^ v) (by rw [← hc] at hne; omega) h1
  rwa [show ((x.toNat - 2 ^ v : Nat) : Int) = x - 2 ^ v by rw [← hc]; omega] at this




theorem chain_fuel (f : Nat) : ∀ n m p : Nat, p ≤ n → p ≤ m → chain f n p = chain f m p := by
  intro n
  induction n with
  | zero => intro m p h1 _; obtain rfl : p = 0 := by omega
            cases m <;> simp [chain]
  | succ n ih =>
    intro m p h1 h2
    cases m with
    | zero => obtain rfl : p = 0 := by omega
              simp [chain]
    | succ m =>
      unfold chain
      by_cases hp : p = 0
      · simp [hp]
      · have h3 : (p - 1) &&& f ≤ p - 1 := Nat.and_le_left
        simp only [hp, if_false]
        rw [ih m _ (by omega) (by omega)]

theorem chain_pos {f n p : Nat} (hp : 0 < p) (hn : p ≤ n) : chain f n p = p :: chain f n ((p - 1) &&& f) := by
  cases n with
  | zero => omega
  | succ n =>
    have h3 : (p - 1) &&& f ≤ p - 1 := Nat.and_le_left
    conv => lhs; unfold chain
    rw [if_neg (by omega), chain_fuel f n (n + 1) _ (by omega) (by omega)]

theorem chain_zero (f n : Nat) : chain f n 0 = [] := by cases n <;> simp [chain]

theorem mem_subs {f x : Nat} (hf : f < 64) : x ∈ subs f ↔ x ≠ 0 ∧ x &&& f = x := by
  have hle : ∀ n p, ∀ y ∈ chain f n p, y ≤ p := by
    intro n
    induction n with
    | zero => intro p y hy; simp [chain] at hy
    | succ n ih =>
      intro p y hy
      unfold chain at hy
      split at hy
      · simp at hy
      · rcases List.mem_cons.1 hy with rfl | h
        · exact Nat.le_refl _
        · have := ih _ _ h
          have h3 : (p - 1) &&& f ≤ p - 1 := Nat.and_le_left
          omega
  constructor
  · intro h
    have hx := hle _ _ _ h
    exact (mem_subs' ⟨f, hf⟩ ⟨x, by omega⟩).1 h
  · intro h
    have hx := and_le_left' _ _ h.2
    exact (mem_subs' ⟨f, hf⟩ ⟨x, by omega⟩).2 h

noncomputable def isCB (V : Int) (fs : List Int) : Bool := @decide (IsC V fs) (Classical.propDecidable _)
theorem isCB_true {V : Int} {fs : List Int} (h : IsC V fs) : isCB V fs = true := by unfold isCB; exact @decide_eq_true _ (Classical.propDecidable _) h
theorem isCB_false {V : Int} {fs : List Int} (h : ¬ IsC V fs) : isCB V fs = false := by unfold isCB; exact @decide_eq_false _ (Classical.propDecidable _) h
theorem isCB_iff {V : Int} {fs : List Int} : isCB V fs = true ↔ IsC V fs := by unfold isCB; exact @decide_eq_true_iff _ (Classical.propDecidable _)

/-! ### face by face, in order -/
theorem isC_nil {V : Int} (h1 : 1 ≤ V) (h2 : V ≤ 6) : IsC V [] := ⟨h1, h2, by simp, List.Pairwise.nil, by simp⟩

theorem isC_snoc {V : Int} {pre : List Int} {x : Int} (h : IsC V pre) (hlt : ∀ y ∈ pre, y < x) (h1 : 1 ≤ x) (h2 : x ≤ allV V)
    (hp : ∀ p : Nat, p ≠ 0 → p &&& x.toNat = p → (p : Int) ∈ pre ++ [x]) : IsC V (pre ++ [x]) := by
  refine ⟨h.lo, h.hi, ?_, ?_, ?_⟩
  · intro y hy
    rcases List.mem_append.1 hy with hy | hy
    · exact h.range y hy
    · simp at hy; subst hy; exact ⟨h1, h2⟩
  · rw [List.pairwise_append]
    exact ⟨h.asc, by simp, fun a ha b hb => by simp at hb; subst hb; exact hlt a ha⟩
  · intro y hy p hp0 hpy
    rcases List.mem_append.1 hy with hy | hy
    · exact List.mem_append.2 (.inl (h.closed y hy p hp0 hpy))
    · simp at hy; subst hy; exact hp p hp0 hpy

theorem isC_head {V : Int} {pre rest : List Int} {x : Int} (h : IsC V (pre ++ x :: rest)) : (∀ y ∈ pre, y < x) ∧ 1 ≤ x ∧ x ≤ allV V :=
  ⟨fun y hy => (List.pairwise_append.1 h.asc).2.2 y hy x (by simp), h.range x (by simp)⟩

theorem isC_parts {V : Int} {pre rest : List Int} {x : Int} (h : IsC V (pre ++ x :: rest)) {p : Nat} (hp : p ≠ 0) (hpx : p &&& x.toNat = p) : (p : Int) ∈ pre ++ [x] := by
  have hx := (h.range63 x (by simp))
  have hm := h.closed x (by simp) p hp hpx
  have hple := and_le_left' _ _ hpx
  rcases List.mem_append.1 hm with hm | hm
  · exact List.mem_append.2 (.inl hm)
  · rcases List.mem_cons.1 hm with hm | hm
    · rw [hm]; simp
    · have := (List.pairwise_cons.1 (List.pairwise_append.1 h.asc).2.1).1 _ hm
      omega

/-- What the model finds below a face: m places have been looked at, from 62 downwards. -/
def belowR (f : Nat) : Nat → List Int
  | 0 => []
  | m + 1 => belowR f m ++ (if bitN f (62 - m) && f != 2 ^ (62 - m) then [(f : Int) - 2 ^ (62 - m)] else [])

theorem belowR_len (f : Nat) : ∀ m, (belowR f m).length ≤ m
  | 0 => by simp [belowR]
  | m + 1 => by
    have := belowR_len f m
    simp only [belowR, List.length_append]
    split <;> simp <;> omega

theorem mem_belowR {f : Nat} {y : Int} : ∀ m, m ≤ 63 → (y ∈ belowR f m ↔ ∃ v, v < 63 ∧ 63 - m ≤ v ∧ bitN f v = true ∧ f ≠ 2 ^ v ∧ y = f - 2 ^ v)
  | 0, _ => by simp [belowR]; intro v h1 h2; omega
  | m + 1, hm => by
    have ih := mem_belowR (f := f) (y := y) m (by omega)
    simp only [belowR, List.mem_append, ih]
    constructor
    · rintro (⟨v, h1, h2, h3⟩ | h)
      · exact ⟨v, h1, by omega, h3⟩
      · split at h
        · rename_i hb
          simp at hb h
          exact ⟨62 - m, by omega, by omega, hb.1, hb.2, h⟩
        · simp at h
    · rintro ⟨v, h1, h2, h3, h4, h5⟩
      by_cases hv : v = 62 - m
      · subst hv
        right
        rw [if_pos (by simp [h3, h4])]
        simp [h5]
      · exact .inl ⟨v, h1, by omega, h3, h4, h5⟩


theorem getD_mem {xs : List Int} {k : Nat} (h : k < xs.length) : xs[k]?.getD 0 ∈ xs := by
  rw [List.getElem?_eq_getElem h]; simp

theorem mem_getD {xs : List Int} {x : Int} (h : x ∈ xs) : ∃ k, k < xs.length ∧ xs[k]?.getD 0 = x := by
  obtain ⟨k, hk, e⟩ := List.mem_iff_getElem.1 h
  exact ⟨k, hk, by rw [List.getElem?_eq_getElem hk]; simpa using e⟩

/-- What the model asks, face by face. -/
theorem isC_of_looks {V : Int} {fs : List Int} (h1 : 1 ≤ V) (h2 : V ≤ 6) (hr : ∀ j, j < fs.length → 1 ≤ fs[j]?.getD 0 ∧ fs[j]?.getD 0 ≤ allV V)
    (ha : ∀ j, 0 < j → j < fs.length → fs[j - 1]?.getD 0 < fs[j]?.getD 0) (hb : ∀ j, j < fs.length → ∀ y ∈ belowR (fs[j]?.getD 0).toNat 63, y ∈ fs) : IsC V fs := by
  have hrange : ∀ x ∈ fs, 1 ≤ x ∧ x ≤ allV V := fun x hx => by obtain ⟨k, hk, e⟩ := mem_getD hx; rw [← e]; exact hr k hk
  have h63 : ∀ x ∈ fs, 1 ≤ x ∧ x ≤ 63 := fun x hx => ⟨(hrange x hx).1, by have := allV_le h2; have := (hrange x hx).2; omega⟩
  refine ⟨h1, h2, hrange, ?_, closed_of_step h63 ?_⟩
  · have key : ∀ i d, i + d + 1 < fs.length → fs[i]?.getD 0 < fs[i + d + 1]?.getD 0 := by
      intro i d
      induction d with
      | zero => intro h; exact ha (i + 1) (by omega) h
      | succ d ih => intro h; have h3 := ih (by omega); have h4 := ha (i + (d + 1) + 1) (by omega) h; simp only [Nat.add_sub_cancel] at h4; have e : i + (d + 1) = i + d + 1 := by omega
                     rw [e] at h4; rw [e]; omega
    rw [List.pairwise_iff_getElem]
    intro i j hi hj hij
    have := key i (j - i - 1) (by omega)
    rw [show i + (j - i - 1) + 1 = j by omega, List.getElem?_eq_getElem hi, List.getElem?_eq_getElem hj] at this
    simpa using this
  · intro x hx v hv hbit hne
    obtain ⟨k, hk, e⟩ := mem_getD hx
    have hx1 := h63 x hx
    refine hb k hk _ ((mem_belowR 63 (Nat.le_refl _)).2 ⟨v, by omega, by omega, by rw [e]; exact hbit, ?_, ?_⟩)
    · rw [e]; intro h; apply hne; have : ((x.toNat : Nat) : Int) = ((2 ^ v : Nat) : Int) := by rw [h]
      rw [Int.toNat_of_nonneg (by omega)] at this; simpa using this
    · rw [e, Int.toNat_of_nonneg (by omega)]

theorem isC_looks_range {V : Int} {fs : List Int} (h : IsC V fs) {j : Nat} (hj : j < fs.length) : 1 ≤ fs[j]?.getD 0 ∧ fs[j]?.getD 0 ≤ allV V := h.range _ (getD_mem hj)
theorem isC_looks_asc {V : Int} {fs : List Int} (h : IsC V fs) {j : Nat} (h0 : 0 < j) (hj : j < fs.length) : fs[j - 1]?.getD 0 < fs[j]?.getD 0 := by
  have := List.pairwise_iff_getElem.1 h.asc (j - 1) j (by omega) hj (by omega)
  rw [List.getElem?_eq_getElem (show j - 1 < fs.length by omega), List.getElem?_eq_getElem hj]
  simpa using this
theorem isC_looks_below {V : Int} {fs : List Int} (h : IsC V fs) {j : Nat} (hj : j < fs.length) {y : Int} (hy : y ∈ belowR (fs[j]?.getD 0).toNat 63) : y ∈ fs := by
  have hm := getD_mem hj
  have hx := h.range63 _ hm
  obtain ⟨v, h1, _, h3, h4, h5⟩ := (mem_belowR 63 (Nat.le_refl _)).1 hy
  have hc : ((2 ^ v : Nat) : Int) = 2 ^ v := by simp
  by_cases hv : v < 6
  · have hne : fs[j]?.getD 0 ≠ 2 ^ v := by
      intro e
      apply h4
      rw [e, ← hc]
      rfl
    have := step_of_closed h.range63 h.closed _ hm v hv h3 hne
    rw [h5, Int.toNat_of_nonneg (by omega)]; exact this
  · have hb := bit_big ⟨(fs[j]?.getD 0).toNat, by omega⟩ ⟨v, h1⟩ (by simp only; omega)
    simp only at hb
    rw [hb] at h3; cases h3

end Go.Proofs.Ytbaljngbmokiiaa

/-! Small lemmas for all walks: slices of integers as lists, hidden facts, endings. -/
namespace Go.Proofs.Ytbaljngbmokiiaa
open Go.RowKit

theorem hid {p : Prop} (h : p) : Hid p := h
theorem ret_bool {a b : Bool} (h : a = b) : Ending.returned (.bool a) = .returned (.bool b) := by rw [h]
theorem ret_int {k : IntKind} {a b : Int} (h : a = b) : Ending.returned (.int k a) = .returned (.int k b) := by rw [h]

/-- At address a (of a block below B) lie the integers xs. -/
def SlI (w : World) (B : Nat) (a : Option Addr) (xs : List Int) : Prop :=
  xs = [] ∨ ∃ b off, b < B ∧ a = some ⟨b, off, none⟩ ∧ ∀ i, i < xs.length → w.cell? ⟨b, off + i, none⟩ = some (.int .i64 (xs[i]?.getD 0))

theorem SlI.mono {w : World} {B B' : Nat} {a : Option Addr} {xs : List Int} (h : SlI w B a xs) (hB : B ≤ B') : SlI w B' a xs := by
  rcases h with rfl | ⟨b, off, hb, rfl, hc⟩
  · exact .inl rfl
  · exact .inr ⟨b, off, by omega, rfl, hc⟩

theorem SlI.below {w w' : World} {B : Nat} {a : Option Addr} {xs : List Int} (h : SlI w B a xs) (hw : Below B w w') : SlI w' B a xs := by
  rcases h with rfl | ⟨b, off, hb, rfl, hc⟩
  · exact .inl rfl
  · exact .inr ⟨b, off, hb, rfl, fun i hi => (hw.cell (p := ⟨b, off + i, none⟩) hb).trans (hc i hi)⟩

/-- .. as the arguments of a later call. -/
theorem SlI.later {w w' : World} {B : Nat} {a : Option Addr} {xs : List Int} (h : SlI w B a xs) (hw : Below B w w') (hB : B ≤ w'.heap.size) : SlI w' w'.heap.size a xs :=
  (h.below hw).mono hB

/-- What a call owns reads as a slice. -/
theorem ownsRow_slI {w : World} {base e : Nat} {v : Value} {n : Nat} {xs : List Int} (h : w.ownsRow base e 1 v n (xs.map (Value.int .i64))) :
    n = xs.length ∧ ∃ a cap, v = .slice a xs.length cap ∧ SlI w w.heap.size a xs := by
  have hl := h.1
  simp at hl
  subst hl
  refine ⟨rfl, ?_⟩
  rcases h.2 with ⟨rfl, hn⟩ | ⟨g, cap, cur, rfl, _, hg, _⟩
  · have hx : xs = [] := List.eq_nil_of_length_eq_zero hn
    subst hx
    exact ⟨none, 0, rfl, .inl rfl⟩
  · refine ⟨_, cap, rfl, .inr ⟨g, 0, (Array.getElem?_eq_some_iff.1 hg).1, rfl, fun i hi => ?_⟩⟩
    have := h.cells (g := g) rfl i (.int .i64 (xs[i]?.getD 0)) (by simp [hi])
    have hadd : (⟨g, 0, none⟩ : Addr).add i = ⟨g, i, none⟩ := by unfold Addr.add; split <;> simp_all
    rw [hadd] at this
    simpa using this

theorem take_snoc {xs : List Int} {k : Nat} (h : k < xs.length) : xs.take (k + 1) = xs.take k ++ [xs[k]?.getD 0] := by
  rw [List.take_succ_eq_append_getElem h, List.getElem?_eq_getElem h]; simp

theorem split_at {xs : List Int} {k : Nat} (h : k < xs.length) : xs = xs.take k ++ xs[k]?.getD 0 :: xs.drop (k + 1) := by
  rw [List.getElem?_eq_getElem h]
  simp

theorem info_i64 : (Try.prog.info? 2).map (fun i => (i.zero, i.size, i.bytes)) = some (some (.int .i64 0), 1, 8) := by kernel_rfl

theorem all_wrap {V : Int} (h1 : 0 ≤ V) (h2 : V ≤ 6) : wrap64 (wrap64 (2 ^ V.toNat) - 1) = allV V := by
  rcases (show V = 0 ∨ V = 1 ∨ V = 2 ∨ V = 3 ∨ V = 4 ∨ V = 5 ∨ V = 6 by omega) with rfl | rfl | rfl | rfl | rfl | rfl | rfl <;> decide +kernel

theorem bit_one {f v : Nat} (hf : f < 64) : bits BinOp.and IntKind.i64 ((f : Int) / 2 ^ v) 1 = if bitN f v then 1 else 0 := by
  have e : ((f : Int) / 2 ^ v) = ((f / 2 ^ v : Nat) : Int) := by simp
  have hle : f / 2 ^ v ≤ f := Nat.div_le_self _ _
  rw [e]
  have h := (bits_nat .i64 6 (by decide) (fun n h0 h1 => by rw [IntKind.wrap_i64]; omega) (f / 2 ^ v) 1 (by omega) (by decide)).1
  have h' : bits BinOp.and IntKind.i64 ((f / 2 ^ v : Nat) : Int) 1 = ((f / 2 ^ v &&& 1 : Nat) : Int) := h
  rw [h', Nat.and_one_is_mod]
  unfold bitN
  rcases Nat.mod_two_eq_zero_or_one (f / 2 ^ v) with h0 | h0 <;> simp [h0]

theorem pow62 {v : Nat} (hv : v ≤ 62) : (2 : Nat) ^ v ≤ 4611686018427387904 := by
  have h2 : (2 : Nat) ^ v ≤ 2 ^ 62 := Nat.pow_le_pow_right (by decide) hv
  simpa using h2

theorem pow_wrap {v : Nat} (hv : v ≤ 62) : wrap64 (2 ^ v) = ((2 ^ v : Nat) : Int) := by
  have h2 := pow62 hv
  rw [show ((2 : Int) ^ v) = ((2 ^ v : Nat) : Int) by simp]
  generalize (2 : Nat) ^ v = q at *
  exact IntWalk.wrap64_in _ ⟨by omega, by omega⟩

theorem pow_cast (v : Nat) : ((2 : Int) ^ v) = ((2 ^ v : Nat) : Int) := by simp

theorem sub_wrap {f v : Nat} (hf : f < 64) (hv : v ≤ 62) : wrap64 ((f : Int) - wrap64 (2 ^ v)) = (f : Int) - 2 ^ v := by
  have h2 := pow62 hv
  rw [pow_wrap hv, pow_cast]
  generalize (2 : Nat) ^ v = q at *
  exact IntWalk.wrap64_in _ ⟨by omega, by omega⟩

theorem ne_wrap {f v : Nat} (hv : v ≤ 62) : ((f : Int) != wrap64 (2 ^ v)) = (f != 2 ^ v) := by
  rw [pow_wrap hv]
  rw [Bool.eq_iff_iff]; simp only [bne_iff_ne, ne_eq]; rw [Int.natCast_inj]

/-- 'out = append(out, x)' on a slice of int64 that the call itself has made. -/
theorem append_int {w : World} {ops : Array Oper} {rest : List Oper} {o : Oper} {a : Act} {Q : Exit → Act → World → Prop} (hgd : o.guard = none) {s y : Operand}
    (ho : o.op = .call { callee := .builtin .append, args := #[s, y], argTypes := #[22, 22] })
    {base : Nat} {v : Value} {xs : List Int} {x : Int} (hown : w.ownsRow base 2 1 v xs.length (xs.map (Value.int .i64))) (hbase : base ≤ w.heap.size) (hl : xs.length ≤ 1099511627776)
    (hs : a.eval s = v) (hy : a.eval y = .slice (some ⟨w.heap.size, 0, none⟩) 1 1)
    (hK : ∀ v' w', w'.ownsRow base 2 1 v' (xs ++ [x]).length ((xs ++ [x]).map (Value.int .i64)) → w.grownBy w' v.ownBlock → Below base w w' → wpList Try.prog ops Q rest (a.put o.dst v') w') :
    wpList Try.prog ops Q (o :: rest) a (w.alloc (.cells #[.int .i64 x] 2)) := by
  obtain ⟨i0, hi, hz0, hz1, hz2⟩ := info_parts info_i64
  refine wpList_append_own _ hgd s y 22 ho base 2 i0 (.int .i64 0) 1 8 Try.underlying22 hi hz0 hz1 hz2 rfl (by decide) v _ _ hs (hown.alloc _) ⟨w.heap.size, 0, none⟩ 1 1 [.int .i64 x] hy rfl (cell_one_new _ _ _) (by simp [Value.oneCell']) (by unfold maxLen; omega) (by omega) (by simp; omega) ?_
  intro v' w1 hown1 hgrow1 _
  have hg : w.grownBy w1 v.ownBlock := (World.grownBy_alloc w _ _).trans hgrow1
  refine hK v' w1 (by simpa using hown1) hg ((Below.refl base w).grown hg hbase (fun k hk => (hown.lt k hk).1))

/-- A callee that leaves the world alone, in a region that draws its order. -/
theorem quiet_of_eq {P : Program} {f : FuncId} {args : Array Value} {w : World} {n : Nat} {v : Value}
    (h : Calls P f args (w.drewN n) fun e w' => e = .returned v ∧ w.drewN n = w') : Calls P f args (w.drewN n) fun e w'' => e = .returned v ∧ ∃ m, w'' = w.drewN m :=
  h.mono fun _ _ ⟨he, hm⟩ => ⟨he, n, hm.symm⟩

/-- 'make([]int64, n)'. -/
theorem make_int {w : World} {ops : Array Oper} {rest : List Oper} {o : Oper} {a : Act} {Q : Exit → Act → World → Prop} (hgd : o.guard = none) {l c : Operand} (hop : o.op = Op.makeSlice 22 l c)
    {n : Nat} (hl : a.eval l = .int .i64 (n : Int)) (hc : a.eval c = .int .i64 (n : Int)) (hn : n ≤ 1099511627776)
    (hK : ∀ w', w'.ownsRow w.heap.size 2 1 (.slice (some ⟨w.heap.size, 0, none⟩) n n) n ((List.replicate n (0 : Int)).map (Value.int .i64)) → w.grownBy w' none → Below w.heap.size w w' →
      wpList Try.prog ops Q rest (a.put o.dst (.slice (some ⟨w.heap.size, 0, none⟩) n n)) w') :
    wpList Try.prog ops Q (o :: rest) a w := by
  obtain ⟨i0, hi, hz0, hz1, hz2⟩ := info_parts info_i64
  refine wpList_make_full w hgd l c 22 hop w.heap.size 2 i0 (.int .i64 0) 1 Try.underlying22 hi hz0 hz1 .i64 .i64 _ _ n hl hc rfl rfl (by rw [hz2]; omega) (by unfold maxLen; omega) (Nat.le_refl _) ?_
  intro w' hown hg
  have e : (madeCells (Value.int .i64 0).cells (n * 1)).toList = (List.replicate n (0 : Int)).map (Value.int .i64) := by
    rw [Nat.mul_one]
    exact (toList_madeCells_one _ _).trans (by simp)
  rw [e] at hown
  exact hK w' hown hg ((Below.refl _ w).grown hg (Nat.le_refl _) (fun k hk => by cases hk))

theorem grownBy_set (w : World) (a : Addr) (u : Value) : w.grownBy (w.setCell a u) (some a.block) :=
  ⟨rfl, rfl, rfl, by simp [World.setCell], fun k _ hk => Below.heap_setCell _ _ _ _ (fun e => hk (by rw [e]))⟩

theorem ownsRow_set {w : World} {base e size : Nat} {v : Value} {n : Nat} {xs : List Value} (h : w.ownsRow base e size v n xs) {a : Addr} (ha : v.ownBlock ≠ some a.block) (u : Value) : (w.setCell a u).ownsRow base e size v n xs :=
  h.kept (grownBy_set w a u) (.inr ha)

theorem ownsRow_base {w : World} {base base' e size : Nat} {v : Value} {n : Nat} {xs : List Value} (h : w.ownsRow base e size v n xs) (hb : base' ≤ base) : w.ownsRow base' e size v n xs := by
  refine ⟨h.1, ?_⟩
  rcases h.2 with hn | ⟨g, cap, cur, rfl, hg, rest⟩
  · exact .inl hn
  · exact .inr ⟨g, cap, cur, rfl, by omega, rest⟩

/-- What is owned above a number stays so while what lies below it is kept. -/
theorem ownsRow_below {w w' : World} {base B e size : Nat} {v : Value} {n : Nat} {xs : List Value} (h : w.ownsRow base e size v n xs) (hb : Below B w w') (hB : ∀ g, v.ownBlock = some g → g < B) : w'.ownsRow base e size v n xs := by
  refine ⟨h.1, ?_⟩
  rcases h.2 with hn | ⟨g, cap, cur, rfl, hg, hh, rest⟩
  · exact .inl hn
  · exact .inr ⟨g, cap, cur, rfl, hg, (hb.block g (hB g rfl)).trans hh, rest⟩

theorem owned_slI {w : World} {base e : Nat} {a : Option Addr} {n m cap : Nat} {xs : List Int} (h : w.ownsRow base e 1 (.slice a m cap) n (xs.map (Value.int .i64))) : SlI w w.heap.size a xs := by
  obtain ⟨_, a', cap', he, hs⟩ := ownsRow_slI h
  cases he
  exact hs

theorem owned_len {w : World} {base e : Nat} {v : Value} {n : Nat} {xs : List Int} (h : w.ownsRow base e 1 v n (xs.map (Value.int .i64))) : n = xs.length := (ownsRow_slI h).1

end Go.Proofs.Ytbaljngbmokiiaa

/-! What a complex that comes in is told as, for the rows of all laws. -/
namespace Go.Proofs.Ytbaljngbmokiiaa
open Go.ChangeShapes Go.WideShapes Go.ChangeAt Go.RowKit Go.Joins

theorem own : ownKnob Try.prog.godebug = none := by kernel_rfl
theorem laidOut : laidOutB Try.prog = true := by kernel_rfl

variable {H : Type} {enc : TypeId × Value → H}

/-- A slice of int64 that came in. -/
theorem slI_of_trod {W : World} {n : Nat} {v : Value} {y : DataW H × List MemPlace} (hf : DataW.trod enc Try.prog W 0 (fun _ => true) true n 22 [v] = some y) :
    ∃ a len cap xs, v = .slice a len cap ∧ xs.length = len ∧ len ≤ 9223372036854775807 ∧ SlI W W.heap.size a xs ∧ ∀ x ∈ xs, (Lit.int .i64 x).wf = true := by
  rcases open_ints Try.underlying22 Try.underlying2 (by kernel_rfl) hf with ⟨hcs, _⟩ | ⟨x, l, c, zs, hcs, _, hl, hm, hz, _, hcell, hwf⟩
  · simp at hcs
    subst hcs
    exact ⟨none, 0, 0, [], rfl, rfl, by omega, .inl rfl, by simp⟩
  · simp at hcs
    subst hcs
    simp at hz
    have hlen : (zs.take l).length = l := by simp; omega
    unfold maxLen at hm
    refine ⟨some x, l, c, zs.take l, rfl, hlen, by omega, ?_, fun y hy => hwf y (List.mem_of_mem_take hy)⟩
    by_cases h0 : l = 0
    · subst h0; exact .inl (by simp)
    · right
      obtain ⟨b, off, spot⟩ := x
      have hc0 := hcell 0 (by omega)
      have hspot : spot = none := by simpa [Addr.add] using World.cell?_spot hc0
      subst hspot
      refine ⟨b, off, ?_, rfl, fun i hi => ?_⟩
      · have := World.block_lt_of_cell? W _ hc0
        simpa [Addr.add] using this
      · rw [hlen] at hi
        have := hcell i (by omega)
        have hadd : (⟨b, off, none⟩ : Addr).add i = ⟨b, off + i, none⟩ := by unfold Addr.add; split <;> simp_all
        rw [hadd] at this
        rw [List.getElem?_take, if_pos hi]
        simpa using this

end Go.Proofs.Ytbaljngbmokiiaa

/-! Contracts of the laws' small helpers: sizes, copies, comparisons. -/
namespace Go.Proofs.Ytbaljngbmokiiaa
open Go.RowKit

theorem fill_step {xs : List Int} {k : Nat} (h : k < xs.length) :
    ((xs.take k ++ List.replicate (xs.length - k) (0 : Int)).map (Value.int .i64)).set k (.int .i64 (xs[k]?.getD 0)) = (xs.take (k + 1) ++ List.replicate (xs.length - (k + 1)) (0 : Int)).map (Value.int .i64) := by
  rw [take_snoc h, ← List.map_set]
  congr 1
  have e : xs.length - k = (xs.length - (k + 1)) + 1 := by omega
  rw [e, List.replicate_succ, List.set_append_right _ _ (by simp <;> omega)]
  simp [Nat.min_eq_left (Nat.le_of_lt h)]

set_option maxHeartbeats 400000 in
theorem toInts (a : Option Addr) (cap : Nat) (xs : List Int) (w : World) (hx : SlI w w.heap.size a xs) (hl : xs.length ≤ 1048576) :
    Calls Try.prog 18 #[.slice a xs.length cap] w fun e w' =>
      e = .returned (.slice (some ⟨w.heap.size, 0, none⟩) xs.length xs.length) ∧ w'.ownsRow w.heap.size 2 1 (.slice (some ⟨w.heap.size, 0, none⟩) xs.length xs.length) xs.length (xs.map (Value.int .i64)) ∧ Below w.heap.size w w' := by
  go_enter Try.func18, Try.ntmps18
  go_wp2_with (at_make; refine make_int rfl rfl rfl rfl (by omega) ?_; intro w1 hown hg hB)
  rcases hx with rfl | ⟨b, off, hb, rfl, hc⟩
  · refine wp_loop_rounds 1 ?_; rw [rounds_succ]
    go_wp2
    go_ret
    exact ⟨rfl, hown, hB⟩
  · go_loopw [4] (fun i wr => ∃ k : Nat, k ≤ xs.length ∧ i = .int .i64 k ∧ wr.ownsRow w.heap.size 2 1 (.slice (some ⟨w.heap.size, 0, none⟩) xs.length xs.length) xs.length ((xs.take k ++ List.replicate (xs.length - k) (0 : Int)).map (Value.int .i64)) ∧ Below w.heap.size w wr) (fun i _ => xs.length - (intOf i).toNat)
    case atStart => exact ⟨0, Nat.zero_le _, rfl, by simpa using hown, hB⟩
    case round =>
      obtain ⟨k, hk, rfl, hown, hB⟩ := hrel
      by_cases hlt : k < xs.length
      · obtain ⟨x, hx⟩ : ∃ x, x = xs[k]?.getD 0 := ⟨_, rfl⟩
        have hck : wr.cell? ⟨b, off + k, none⟩ = some (.int .i64 x) := by rw [hx]; exact (hB.cell (p := ⟨b, off + k, none⟩) hb).trans (hc k hlt)
        have hcg : wr.cell? ⟨w.heap.size, k, none⟩ = some (.int .i64 0) := by
          rw [hown.cellAt k (by omega)]
          rw [List.getElem?_map, List.getElem?_append_right (by simp <;> omega)]
          simp [List.getElem?_replicate, Nat.min_eq_left hk]
          omega
        have hfg := hown.frozenAt k
        have Hx := hid hx
        have Hc := hid hc
        clear hx hc
        have hst := hown.stored k (.int .i64 x)
        have Hst := hid hst.1
        clear hst
        go_wp2
        go_roundw
        case rel =>
          refine ⟨k + 1, by omega, by go_num, ?_, hB.setCell (p := ⟨w.heap.size, k, none⟩) (Nat.le_refl _) _⟩
          have h := Hst.out
          rw [Hx.out, fill_step hlt, ← Hx.out] at h
          exact h
        case measure => simp [intOf]; omega
      · go_wp2
        go_ret
        obtain rfl : k = xs.length := by omega
        exact ⟨rfl, by simpa using hown, hB⟩

/-- What is left of a size. -/
def szR (left : Int) (n : Nat) : Int := if left < n then -1 else left - n
theorem szR_big {left : Int} {n : Nat} (h : left < n) : szR left n = -1 := by unfold szR; rw [if_pos h]
theorem szR_fit {left : Int} {n : Nat} (h : ¬ left < n) : szR left n = left - n := by unfold szR; rw [if_neg h]

set_option maxHeartbeats 400000 in
theorem szInts (a : Option Addr) (n cap : Nat) (left : Int) (w : World) (h1 : 0 ≤ left) (h2 : left ≤ 1048576) (hn : n ≤ 9223372036854775807) :
    Calls Try.prog 57 #[.slice a n cap, .int .i64 left] w fun e w' => e = .returned (.int .i64 (szR left n)) ∧ w = w' := by
  by_cases h : left < n
  · have H := hid (szR_big h)
    go_enter Try.func57, Try.ntmps57
    go_wp2
    go_ret
    exact ⟨ret_int (by rw [H.out]), rfl⟩
  · have H := hid (szR_fit h)
    go_enter Try.func57, Try.ntmps57
    go_wp2
    go_ret
    exact ⟨ret_int (by rw [H.out]), rfl⟩

set_option maxHeartbeats 400000 in
theorem szCx (V : Int) (a : Option Addr) (n cap : Nat) (left : Int) (w : World) (h1 : 0 ≤ left) (h2 : left ≤ 1048576) (hn : n ≤ 9223372036854775807) :
    Calls Try.prog 15 #[.agg #[.int .i64 V, .slice a n cap], .int .i64 left] w fun e w' => e = .returned (.int .i64 (szR left n)) ∧ Below w.heap.size w w' := by
  have hr : szR left n = -1 ∨ 0 ≤ szR left n := by
    by_cases h : left < n
    · exact .inl (szR_big h)
    · rw [szR_fit h]; right; omega
  have hr' : szR left n < 0 ∨ 0 ≤ szR left n := by omega
  have hm : szR left n < 0 → szR left n = -1 := by omega
  have Hm := hid hm
  clear hr hm
  obtain ⟨r, hr0⟩ : ∃ r, r = szR left n := ⟨_, rfl⟩
  rw [← hr0] at hr'
  have hr := hr'
  have H := hid hr0
  clear hr0 hr'
  go_enter Try.func15, Try.ntmps15
  go_wp2_with fail
  refine (szInts a n cap left _ h1 h2 hn).mono ?_
  rintro e w' ⟨rfl, rfl⟩
  rw [← H.out]
  rcases hr with hr | hr
  · go_wp2
    go_ret
    exact ⟨ret_int (Hm.out (by rw [← H.out]; exact hr)).symm, (Below.refl _ w).alloc (Nat.le_refl _) _⟩
  · go_wp2
    go_ret
    exact ⟨ret_int H.out, (Below.refl _ w).alloc (Nat.le_refl _) _⟩

set_option maxHeartbeats 400000 in
theorem toCx (V : Int) (a : Option Addr) (cap : Nat) (xs : List Int) (w : World) (hx : SlI w w.heap.size a xs) (hl : xs.length ≤ 1048576) :
    Calls Try.prog 17 #[.agg #[.int .i64 V, .slice a xs.length cap]] w fun e w' =>
      ∃ g, e = .returned (.agg #[.int .i64 V, .slice (some ⟨g, 0, none⟩) xs.length xs.length]) ∧ w'.ownsRow w.heap.size 2 1 (.slice (some ⟨g, 0, none⟩) xs.length xs.length) xs.length (xs.map (Value.int .i64)) ∧ Below w.heap.size w w' := by
  go_enter Try.func17, Try.ntmps17
  go_wp2_with fail
  refine (toInts a cap xs _ (SlI.later hx (?hb : Below w.heap.size w _) ?hs) hl).mono ?_
  case hb => repeat (first | exact Below.refl _ _ | refine Below.alloc ?_ (by simp <;> omega) _ | refine Below.setCell ?_ (by simp <;> omega) _)
  case hs => simp <;> omega
  rintro e w1 ⟨rfl, hown, hB⟩
  have hB1 : Below w.heap.size w w1 := Below.trans (by repeat (first | exact Below.refl _ _ | refine Below.alloc ?_ (by simp <;> omega) _ | refine Below.setCell ?_ (by simp <;> omega) _)) (hB.mono (by simp <;> omega))
  have e0 : w1.cell? ⟨w.heap.size + 1 + 1, 0, none⟩ = some (.int .i64 V) := (hB.cell (p := ⟨w.heap.size + 1 + 1, 0, none⟩) (by simp)).trans (by simp [go_sem])
  have e1 : w1.cell? ⟨w.heap.size + 1 + 1, 1, none⟩ = some (.slice none 0 0) := (hB.cell (p := ⟨w.heap.size + 1 + 1, 1, none⟩) (by simp)).trans (by simp [go_sem])
  have e2 : w1.cell? ⟨w.heap.size + 1, 0, none⟩ = some (.int .i64 0) := (hB.cell (p := ⟨w.heap.size + 1, 0, none⟩) (by simp)).trans (by simp [go_sem])
  have e3 : w1.cell? ⟨w.heap.size + 1, 1, none⟩ = some (.slice none 0 0) := (hB.cell (p := ⟨w.heap.size + 1, 1, none⟩) (by simp)).trans (by simp [go_sem])
  have g1 : w1.frozen? ⟨w.heap.size + 1 + 1, 1, none⟩ = false := (hB.frozen (p := ⟨w.heap.size + 1 + 1, 1, none⟩) (by simp)).trans (by simp [go_sem])
  have g2 : w1.frozen? ⟨w.heap.size + 1, 0, none⟩ = false := (hB.frozen (p := ⟨w.heap.size + 1, 0, none⟩) (by simp)).trans (by simp [go_sem])
  have g3 : w1.frozen? ⟨w.heap.size + 1, 1, none⟩ = false := (hB.frozen (p := ⟨w.heap.size + 1, 1, none⟩) (by simp)).trans (by simp [go_sem])
  have hs1 := hB.size
  simp at hs1
  have Hown := hid (hown)
  clear hown
  go_wp2_with fail
  refine bodyPost_ret (v := .agg #[.int .i64 V, .slice (some ⟨w.heap.size + 1 + 1 + 1, 0, none⟩) xs.length xs.length]) (by simp [results, Try.results17, go_sem, e2, e3]) rfl ⟨w.heap.size + 1 + 1 + 1, rfl, ?_, ?_⟩
  · have h := Hown.out
    simp only [World.size_alloc] at h
    refine ownsRow_set (ownsRow_set (ownsRow_set (ownsRow_base h (by omega)) ?_ _) ?_ _) ?_ _ <;> (simp [Value.ownBlock] <;> omega)
  · exact ((hB1.setCell (by simp; omega) _).setCell (by simp) _).setCell (by simp) _

set_option maxHeartbeats 400000 in
theorem eqInts_any (a1 a2 : Option Addr) (c1 c2 : Nat) (xs ys : List Int) (w : World) (hx : SlI w w.heap.size a1 xs) (hy : SlI w w.heap.size a2 ys) (hl : xs.length ≤ 1048576) (hl2 : ys.length ≤ 1048576) :
    Calls Try.prog 21 #[.slice a1 xs.length c1, .slice a2 ys.length c2] w fun e w' => e = .returned (.bool (decide (xs = ys))) ∧ Below w.heap.size w w' := by
  by_cases hlen : xs.length = ys.length
  · rcases hx with rfl | ⟨b, off, hb, rfl, hc⟩
    · obtain rfl : ys = [] := List.eq_nil_of_length_eq_zero hlen.symm
      go_enter Try.func21, Try.ntmps21
      go_wp2
      refine wp_loop_rounds 1 ?_; rw [rounds_succ]
      go_wp2
      go_ret
      exact ⟨ret_bool (by simp), Below.refl _ _⟩
    · rcases hy with rfl | ⟨b2, off2, hb2, rfl, hc2⟩
      · obtain rfl : xs = [] := List.eq_nil_of_length_eq_zero hlen
        go_enter Try.func21, Try.ntmps21
        go_wp2
        refine wp_loop_rounds 1 ?_; rw [rounds_succ]
        go_wp2
        go_ret
        exact ⟨ret_bool (by simp), Below.refl _ _⟩
      · have Hc := hid hc
        have Hc2 := hid hc2
        have hne : ((xs.length : Int) != (ys.length : Int)) = false := by simp [hlen]
        have Hlen := hid hlen
        have hle : xs.length ≤ ys.length := by omega
        clear hc hc2 hlen
        go_enter Try.func21, Try.ntmps21
        go_wp2
        go_loopw [5] (fun i wr => ∃ k : Nat, k ≤ xs.length ∧ i = .int .i64 k ∧ Hid (∀ j, j < k → xs[j]?.getD 0 = ys[j]?.getD 0) ∧ Below w.heap.size w wr) (fun i _ => xs.length - (intOf i).toNat)
        case atStart => exact ⟨0, Nat.zero_le _, rfl, hid (by omega), Below.refl _ _⟩
        case round =>
          obtain ⟨k, hk, rfl, Hk, hB⟩ := hrel
          by_cases hlt : k < xs.length
          · obtain ⟨x, hx⟩ : ∃ x, x = xs[k]?.getD 0 := ⟨_, rfl⟩
            obtain ⟨y, hy⟩ : ∃ y, y = ys[k]?.getD 0 := ⟨_, rfl⟩
            have hck : wr.cell? ⟨b, off + k, none⟩ = some (.int .i64 x) := by rw [hx]; exact (hB.cell (p := ⟨b, off + k, none⟩) hb).trans (Hc.out k hlt)
            have hck2 : wr.cell? ⟨b2, off2 + k, none⟩ = some (.int .i64 y) := by rw [hy]; exact (hB.cell (p := ⟨b2, off2 + k, none⟩) hb2).trans (Hc2.out k (by omega))
            have Hx := hid hx
            have Hy := hid hy
            clear hx hy
            have hi0 : (0 : Int) ≤ (k : Int) := by omega
            have hi1 : (k : Int) < (xs.length : Int) := by omega
            have hi2 : (k : Int) < (ys.length : Int) := by omega
            by_cases hxy : x = y
            · have hd : (x != y) = false := by simp [hxy]
              have Hxy := hid hxy
              clear hxy
              go_wp2_with fail
              go_quiet (fail)
              go_wp2_with fail
              go_roundw
              case rel =>
                refine ⟨k + 1, by omega, by go_num, hid (fun j hj => ?_), hB.trans ⟨rfl, rfl, rfl, Nat.le_refl _, fun _ _ => rfl⟩⟩
                by_cases hjk : j < k
                · exact Hk.out j hjk
                · obtain rfl : j = k := by omega
                  rw [← Hx.out, ← Hy.out, Hxy.out]
              case measure => simp [intOf]; omega
            · have hd : (x != y) = true := by simp [hxy]
              go_wp2_with fail
              go_quiet (fail)
              go_wp2_with fail
              go_ret
              refine ⟨ret_bool ?_, hB.trans ⟨rfl, rfl, rfl, Nat.le_refl _, fun _ _ => rfl⟩⟩
              symm
              refine decide_eq_false (fun h => hxy ?_)
              rw [Hx.out, Hy.out, h]
          · obtain rfl : k = xs.length := by omega
            go_wp2
            go_ret
            refine ⟨ret_bool ?_, hB⟩
            symm
            refine decide_eq_true (List.ext_getElem Hlen.out (fun j h1 h2 => ?_))
            have := Hk.out j h1
            rw [List.getElem?_eq_getElem h1, List.getElem?_eq_getElem h2] at this
            simpa using this
  · have hne : ((xs.length : Int) != (ys.length : Int)) = true := by simp; omega
    have Hlen := hid hlen
    clear hlen
    go_enter Try.func21, Try.ntmps21
    go_wp2
    go_ret
    refine ⟨ret_bool ?_, Below.refl _ _⟩
    symm
    exact decide_eq_false (fun h => Hlen.out (by rw [h]))

theorem eqInts_yes (a1 a2 : Option Addr) (c1 c2 : Nat) (xs ys : List Int) (w : World) (hx : SlI w w.heap.size a1 xs) (hy : SlI w w.heap.size a2 ys) (hl : xs.length ≤ 1048576) (hl2 : ys.length ≤ 1048576) (h : xs = ys) :
    Calls Try.prog 21 #[.slice a1 xs.length c1, .slice a2 ys.length c2] w fun e w' => e = .returned (.bool true) ∧ Below w.heap.size w w' :=
  (eqInts_any a1 a2 c1 c2 xs ys w hx hy hl hl2).mono fun _ _ ⟨he, hw⟩ => ⟨by rw [he, decide_eq_true h], hw⟩

theorem eqInts_no (a1 a2 : Option Addr) (c1 c2 : Nat) (xs ys : List Int) (w : World) (hx : SlI w w.heap.size a1 xs) (hy : SlI w w.heap.size a2 ys) (hl : xs.length ≤ 1048576) (hl2 : ys.length ≤ 1048576) (h : ¬ xs = ys) :
    Calls Try.prog 21 #[.slice a1 xs.length c1, .slice a2 ys.length c2] w fun e w' => e = .returned (.bool false) ∧ Below w.heap.size w w' :=
  (eqInts_any a1 a2 c1 c2 xs ys w hx hy hl hl2).mono fun _ _ ⟨he, hw⟩ => ⟨by rw [he, decide_eq_false h], hw⟩

set_option maxHeartbeats 400000 in
theorem eqCx_yes (V : Int) (a1 a2 : Option Addr) (c1 c2 : Nat) (xs ys : List Int) (w : World) (hx : SlI w w.heap.size a1 xs) (hy : SlI w w.heap.size a2 ys) (hl : xs.length ≤ 1048576) (hl2 : ys.length ≤ 1048576) (h : xs = ys) :
    Calls Try.prog 20 #[.agg #[.int .i64 V, .slice a1 xs.length c1], .agg #[.int .i64 V, .slice a2 ys.length c2]] w fun e w' => e = .returned (.bool true) ∧ Below w.heap.size w w' := by
  have H := hid h
  clear h
  have hne : (V != V) = false := by simp
  go_enter Try.func20, Try.ntmps20
  go_wp2_with fail
  have hB : Below w.heap.size w ((w.alloc (.cells #[.int .i64 V, .slice a1 xs.length c1] 26)).alloc (.cells #[.int .i64 V, .slice a2 ys.length c2] 26)) := ((Below.refl _ w).alloc (Nat.le_refl _) _).alloc (by simp) _
  refine (eqInts_yes a1 a2 c1 c2 xs ys _ (SlI.later hx hB (by simp <;> omega)) (SlI.later hy hB (by simp <;> omega)) hl hl2 H.out).mono ?_
  rintro e w' ⟨rfl, hb⟩
  go_wp2_with fail
  go_ret
  exact ⟨rfl, hB.trans (hb.mono (by simp <;> omega))⟩

end Go.Proofs.Ytbaljngbmokiiaa

/-! Marks: what the laws write into results, and find again. -/
namespace Go.Proofs.Ytbaljngbmokiiaa
open Go.RowKit

/-- k, k + 1, .. -/
def count (k : Int) : Nat → List Int
  | 0 => []
  | n + 1 => count k n ++ [k + n]

theorem count_len (k : Int) : ∀ n, (count k n).length = n
  | 0 => rfl
  | n + 1 => by simp [count, count_len k n]

theorem count_get (k : Int) : ∀ n i, i < n → (count k n)[i]?.getD 0 = k + i
  | 0, i, h => by omega
  | n + 1, i, h => by
    unfold count
    by_cases hi : i < n
    · rw [List.getElem?_append_left (by rw [count_len]; exact hi)]
      exact count_get k n i hi
    · obtain rfl : i = n := by omega
      rw [List.getElem?_append_right (by rw [count_len]; omega), count_len]
      simp

theorem mark_step {k : Int} {xs : List Int} {j : Nat} (h : j < xs.length) :
    ((count k j ++ xs.drop j).map (Value.int .i64)).set j (.int .i64 (k + j)) = (count k (j + 1) ++ xs.drop (j + 1)).map (Value.int .i64) := by
  rw [← List.map_set]
  congr 1
  rw [List.set_append_right _ _ (by rw [count_len]; exact Nat.le_refl _), count_len, Nat.sub_self]
  rw [List.drop_eq_getElem_cons h, List.set_cons_zero]
  simp [count]

set_option maxHeartbeats 400000 in
theorem markInts (base : Nat) (a : Option Addr) (cap : Nat) (xs : List Int) (k : Int) (w : World) (hown : w.ownsRow base 2 1 (.slice a xs.length cap) xs.length (xs.map (Value.int .i64))) (hl : xs.length ≤ 1048576) (h0 : 0 ≤ k) (h1 : k ≤ 1099511627776) :
    Calls Try.prog 23 #[.slice a xs.length cap, .int .i64 k] w fun e w' => e = .returned (.int .i64 (k + xs.length)) ∧
      w'.ownsRow base 2 1 (.slice a xs.length cap) xs.length ((count k xs.length).map (Value.int .i64)) ∧ w.grownBy w' (Value.ownBlock (.slice a xs.length cap)) := by
  rcases hown.2 with ⟨hv, hn⟩ | ⟨g, cap', cur, hv, hb, hg, rest⟩
  · obtain rfl : xs = [] := List.eq_nil_of_length_eq_zero hn
    have Hown := hid hown
    clear hown hv hn
    go_enter Try.func23, Try.ntmps23
    go_wp2
    refine wp_loop_rounds 1 ?_; rw [rounds_succ]
    go_wp2
    go_ret
    exact ⟨ret_int (by simp), Hown.out, ⟨rfl, rfl, rfl, Nat.le_refl _, fun _ _ _ => rfl⟩⟩
  · cases hv
    have Hg := hid (And.intro hb hg)
    clear hb hg rest
    go_enter Try.func23, Try.ntmps23
    go_wp2
    go_loopw [1, 5] (fun m i wr => ∃ j : Nat, j ≤ xs.length ∧ i = .int .i64 j ∧ m = .int .i64 (k + j) ∧ wr.ownsRow base 2 1 (.slice (some ⟨g, 0, none⟩) xs.length cap) xs.length ((count k j ++ xs.drop j).map (Value.int .i64)) ∧ w.grownBy wr (some g)) (fun _ i _ => xs.length - (intOf i).toNat)
    case atStart => exact ⟨0, Nat.zero_le _, rfl, by simp, by simpa [count] using hown, ⟨rfl, rfl, rfl, Nat.le_refl _, fun _ _ _ => rfl⟩⟩
    case round =>
      obtain ⟨j, hj, rfl, rfl, hown, hgr⟩ := hrel
      by_cases hlt : j < xs.length
      · have hcg : ∃ u, wr.cell? ⟨g, j, none⟩ = some (.int .i64 u) := by
          rw [hown.cellAt j (by omega)]
          refine ⟨xs[j]?.getD 0, ?_⟩
          rw [List.getElem?_map, List.getElem?_append_right (by rw [count_len]; exact Nat.le_refl _), count_len, Nat.sub_self]
          simp [hlt]
        obtain ⟨u, hcu⟩ := hcg
        have hfg := hown.frozenAt j
        have hst := hown.stored j (.int .i64 (k + j))
        rw [mark_step hlt] at hst
        have Hst := hid hst
        have Hgr := hid hgr
        clear hst hown hgr
        go_wp2
        go_roundw
        case rel =>
          exact ⟨j + 1, by omega, by go_num, by go_num, Hst.out.1, Hgr.out.trans Hst.out.2⟩
        case measure => simp [intOf]; omega
      · go_wp2
        go_ret
        obtain rfl : j = xs.length := by omega
        exact ⟨rfl, by simpa using hown, hgr⟩

set_option maxHeartbeats 400000 in
theorem heldInts (a : Option Addr) (cap : Nat) (n : Nat) (xs : List Int) (k : Int) (w : World) (hxs : xs = count k n) (hx : SlI w w.heap.size a xs) (hl : n ≤ 1048576) (h0 : 0 ≤ k) (h1 : k ≤ 1099511627776) :
    Calls Try.prog 31 #[.slice a n cap, .int .i64 k] w fun e w' => e = .returned (.int .i64 (k + n)) ∧ Below w.heap.size w w' := by
  have hlen : xs.length = n := by rw [hxs, count_len]
  rcases hx with rfl | ⟨b, off, hb, rfl, hc⟩
  · obtain rfl : n = 0 := by simpa using hlen.symm
    clear hxs hlen
    go_enter Try.func31, Try.ntmps31
    go_wp2
    refine wp_loop_rounds 1 ?_; rw [rounds_succ]
    go_wp2
    go_ret
    exact ⟨ret_int (by simp), Below.refl _ _⟩
  · have Hc := hid hc
    have Hxs := hid hxs
    have Hlen := hid hlen
    clear hc hxs hlen
    go_enter Try.func31, Try.ntmps31
    go_wp2
    go_loop [1, 5] (fun m i => ∃ j : Nat, j ≤ n ∧ i = .int .i64 j ∧ m = .int .i64 (k + j)) (fun _ i => n - (intOf i).toNat)
    case atStart => exact ⟨0, Nat.zero_le _, rfl, by simp⟩
    case round =>
      obtain ⟨j, hj, rfl, rfl⟩ := hrel
      by_cases hlt : j < n
      · have hck : w.cell? ⟨b, off + j, none⟩ = some (.int .i64 (k + j)) := by
          have := Hc.out j (by rw [Hlen.out]; exact hlt)
          rw [Hxs.out, count_get _ _ _ hlt] at this
          exact this
        go_wp2
        go_round
        case rel => exact ⟨j + 1, by omega, by go_num, by go_num⟩
        case measure => simp [intOf]; omega
      · go_wp2
        go_ret
        obtain rfl : j = n := by omega
        exact ⟨rfl, Below.refl _ _⟩

/-! ### What a law keeps of the world: slices of its own, in the order in which they were made, and blocks -/

/-- A slice of int64 that lies in blocks from lo to hi. -/
structure Sl where
  lo : Nat
  hi : Nat
  v : Value
  xs : List Int

structure OwnI (w : World) (p : Sl) : Prop where
  own : w.ownsRow p.lo 2 1 p.v p.xs.length (p.xs.map (Value.int .i64))
  lt : ∀ g, p.v.ownBlock = some g → g < p.hi
  le : p.hi ≤ w.heap.size

structure Facts (w0 : World) (w : World) (A : List (Option Addr × List Int)) (bs : List (Nat × Obj)) (L : List Sl) : Prop where
  from0 : Below w0.heap.size w0 w
  args : ∀ q ∈ A, SlI w w0.heap.size q.1 q.2
  blocks : ∀ b ∈ bs, w.heap[b.1]? = some b.2
  slices : ∀ p ∈ L, OwnI w p

section
variable {w0 w w' : World} {A : List (Option Addr × List Int)} {bs : List (Nat × Obj)} {L : List Sl}

theorem Facts.ge (h : Facts w0 w A bs L) : w0.heap.size ≤ w.heap.size := h.from0.size

theorem Facts.below (h : Facts w0 w A bs L) (hb : Below w.heap.size w w') : Facts w0 w' A bs L where
  from0 := h.from0.trans (hb.mono h.ge)
  args := fun q hq => (h.args q hq).below (hb.mono h.ge)
  blocks := fun b hbm => (hb.block b.1 (Array.getElem?_eq_some_iff.1 (h.blocks b hbm)).1).trans (h.blocks b hbm)
  slices := fun p hp => ⟨ownsRow_below (h.slices p hp).own hb (fun g hg => Nat.lt_of_lt_of_le ((h.slices p hp).lt g hg) (h.slices p hp).le), (h.slices p hp).lt, Nat.le_trans (h.slices p hp).le hb.size⟩

theorem Facts.drew (h : Facts w0 w A bs L) : Facts w0 w.drew A bs L := h.below (Below.refl _ _).drew

theorem Facts.arg (h : Facts w0 w A bs L) {q : Option Addr × List Int} (hq : q ∈ A) : SlI w w.heap.size q.1 q.2 := (h.args q hq).mono h.ge

/-- A new block. -/
theorem Facts.alloc (h : Facts w0 w A bs L) (o : Obj) : Facts w0 (w.alloc o) A ((w.heap.size, o) :: bs) L where
  from0 := h.from0.alloc h.ge o
  args := fun q hq => (h.args q hq).below ((Below.refl _ w).alloc h.ge _)
  blocks := fun b hb => by
    rcases List.mem_cons.1 hb with rfl | hb
    · exact heap_alloc_new w o
    · exact (Below.heap_alloc w o _ (Array.getElem?_eq_some_iff.1 (h.blocks b hb)).1).trans (h.blocks b hb)
  slices := fun p hp => ⟨(h.slices p hp).own.alloc o, (h.slices p hp).lt, by have := (h.slices p hp).le; simp; omega⟩

/-- A new slice, out of a call. -/
theorem Facts.slice (h : Facts w0 w A bs L) {v : Value} {xs : List Int}
    (hown : w'.ownsRow w.heap.size 2 1 v xs.length (xs.map (Value.int .i64))) (hb : Below w.heap.size w w') : Facts w0 w' A bs (⟨w.heap.size, w'.heap.size, v, xs⟩ :: L) :=
  { h.below hb with
    slices := fun p hp => by
      rcases List.mem_cons.1 hp with rfl | hp
      · exact ⟨hown, fun g hg => (hown.lt g hg).2, Nat.le_refl _⟩
      · exact (h.below hb).slices p hp }

/-- A slice is marked: the others stay. -/
theorem Facts.mark {L' : List Sl} (h : Facts w0 w A bs L) {p : Sl} {ys : List Int} (hp : p ∈ L)
    (hown : w'.ownsRow p.lo 2 1 p.v ys.length (ys.map (Value.int .i64))) (hg : w.grownBy w' p.v.ownBlock)
    (hB : w0.heap.size ≤ p.lo) (hbs : ∀ b ∈ bs, b.1 < p.lo ∨ p.hi ≤ b.1) (hL : ∀ q ∈ L', q = { p with xs := ys } ∨ (q ∈ L ∧ (q.hi ≤ p.lo ∨ p.hi ≤ q.lo))) : Facts w0 w' A bs L' where
  from0 := h.from0.grown hg h.ge (fun k e => Nat.le_trans hB ((h.slices p hp).own.lt k e).1)
  args := fun q hq => (h.args q hq).below ((Below.refl _ w).grown hg h.ge (fun k e => Nat.le_trans hB ((h.slices p hp).own.lt k e).1))
  blocks := fun b hb => (hg.block b.1 (Array.getElem?_eq_some_iff.1 (h.blocks b hb)).1 (fun e => by
    have h1 := ((h.slices p hp).own.lt _ e.symm).1
    have h2 := (h.slices p hp).lt _ e.symm
    rcases hbs b hb with h3 | h3 <;> omega)).trans (h.blocks b hb)
  slices := fun q hq => by
    rcases hL q hq with rfl | ⟨hqm, hap⟩
    · exact ⟨hown, (h.slices p hp).lt, Nat.le_trans (h.slices p hp).le hg.size⟩
    · refine ⟨(h.slices q hqm).own.kept hg ?_, (h.slices q hqm).lt, Nat.le_trans (h.slices q hqm).le hg.size⟩
      cases hv : q.v.ownBlock with
      | none => exact .inl rfl
      | some g =>
        refine .inr (fun e => ?_)
        have h1 := ((h.slices p hp).own.lt _ e.symm).1
        have h2 := (h.slices p hp).lt _ e.symm
        have h3 := ((h.slices q hqm).own.lt _ hv).1
        have h4 := (h.slices q hqm).lt _ hv
        rcases hap with h5 | h5 <;> omega

theorem Facts.slI (h : Facts w0 w A bs L) {lo hi : Nat} {a : Option Addr} {m cap : Nat} {xs : List Int} (hp : (⟨lo, hi, .slice a m cap, xs⟩ : Sl) ∈ L) : SlI w w.heap.size a xs :=
  owned_slI (h.slices _ hp).own

theorem Facts.own (h : Facts w0 w A bs L) {lo hi : Nat} {v : Value} {xs : List Int} (hp : (⟨lo, hi, v, xs⟩ : Sl) ∈ L) : w.ownsRow lo 2 1 v xs.length (xs.map (Value.int .i64)) := (h.slices _ hp).own

theorem Facts.two (h : Facts w0 w A bs L) {b t : Nat} {u v : Value} (hb : (b, Obj.cells #[u, v] t (0, 0)) ∈ bs) : w.cell? ⟨b, 0, none⟩ = some u ∧ w.cell? ⟨b, 1, none⟩ = some v := by
  have := h.blocks _ hb
  constructor <;> simp [World.cell?, this]
end

set_option maxHeartbeats 400000 in
theorem markCx (V : Int) (base : Nat) (a : Option Addr) (cap : Nat) (xs : List Int) (k : Int) (w : World) (hown : w.ownsRow base 2 1 (.slice a xs.length cap) xs.length (xs.map (Value.int .i64))) (hl : xs.length ≤ 1048576) (h0 : 0 ≤ k) (h1 : k ≤ 1099511627776) :
    Calls Try.prog 22 #[.agg #[.int .i64 V, .slice a xs.length cap], .int .i64 k] w fun e w' => e = .returned (.int .i64 (k + xs.length)) ∧
      w'.ownsRow base 2 1 (.slice a xs.length cap) xs.length ((count k xs.length).map (Value.int .i64)) ∧ w.grownBy w' (Value.ownBlock (.slice a xs.length cap)) := by
  have Hown := hid (hown.alloc (.cells #[.int .i64 V, .slice a xs.length cap] 26))
  clear hown
  go_enter Try.func22, Try.ntmps22
  go_wp2_with fail
  refine (markInts base a cap xs k _ Hown.out hl h0 h1).mono ?_
  rintro e w1 ⟨rfl, hown1, hgr⟩
  go_wp2_with fail
  go_ret
  exact ⟨rfl, hown1, (World.grownBy_alloc w _ _).trans hgr⟩

set_option maxHeartbeats 400000 in
theorem heldCx (V : Int) (a : Option Addr) (cap n : Nat) (xs : List Int) (k : Int) (w : World) (hxs : xs = count k n) (hx : SlI w w.heap.size a xs) (hl : n ≤ 1048576) (h0 : 0 ≤ k) (h1 : k ≤ 1099511627776) :
    Calls Try.prog 24 #[.agg #[.int .i64 V, .slice a n cap], .int .i64 k] w fun e w' => e = .returned (.int .i64 (k + n)) ∧ Below w.heap.size w w' := by
  have hB : Below w.heap.size w (w.alloc (.cells #[.int .i64 V, .slice a n cap] 26)) := (Below.refl _ w).alloc (Nat.le_refl _) _
  have Hxs := hid hxs
  have Hx := hid (hx.later hB (by simp))
  clear hxs hx
  go_enter Try.func24, Try.ntmps24
  go_wp2_with fail
  refine (heldInts a cap n xs k _ Hxs.out Hx.out hl h0 h1).mono ?_
  rintro e w1 ⟨rfl, hB1⟩
  go_wp2_with fail
  go_ret
  exact ⟨rfl, hB.trans (hB1.mono (by simp))⟩

end Go.Proofs.Ytbaljngbmokiiaa

/-! What a law keeps of the world, for rows of any type that are read as integers (a list of n pairs: 2 * n integers). -/
namespace Go.Proofs.Ytbaljngbmokiiaa
open Go.RowKit

/-- A row that lies in blocks from lo to hi: n elements of a type and size, read as integers. -/
structure Bk where
  lo : Nat
  hi : Nat
  ty : TypeId
  sz : Nat
  n : Nat
  v : Value
  xs : List Int

structure OwnB (w : World) (p : Bk) : Prop where
  own : w.ownsRow p.lo p.ty p.sz p.v p.n (p.xs.map (Value.int .i64))
  lt : ∀ g, p.v.ownBlock = some g → g < p.hi
  le : p.hi ≤ w.heap.size

/-- What is owned reads as integers. -/
theorem flat_slI {w : World} {base e sz : Nat} {a : Option Addr} {n m cap : Nat} {xs : List Int} (h : w.ownsRow base e sz (.slice a m cap) n (xs.map (Value.int .i64))) : SlI w w.heap.size a xs := by
  have hl := h.1
  rcases h.2 with ⟨hv, hn⟩ | ⟨g, cap', cur, hv, _, hg, _⟩
  · subst hn
    exact .inl (List.eq_nil_of_length_eq_zero (by simpa using hl))
  · cases hv
    refine .inr ⟨g, 0, (Array.getElem?_eq_some_iff.1 hg).1, rfl, fun i hi => ?_⟩
    have := h.cells (g := g) rfl i (.int .i64 (xs[i]?.getD 0)) (by simp [hi])
    have hadd : (⟨g, 0, none⟩ : Addr).add i = ⟨g, i, none⟩ := by unfold Addr.add; split <;> simp_all
    rw [hadd] at this
    simpa using this

structure Book (w0 : World) (w : World) (A : List (Option Addr × List Int)) (bs : List (Nat × Obj)) (L : List Bk) : Prop where
  from0 : Below w0.heap.size w0 w
  args : ∀ q ∈ A, SlI w w0.heap.size q.1 q.2
  blocks : ∀ b ∈ bs, w.heap[b.1]? = some b.2
  rows : ∀ p ∈ L, OwnB w p

section
variable {w0 w w' : World} {A : List (Option Addr × List Int)} {bs : List (Nat × Obj)} {L : List Bk}

theorem Book.ge (h : Book w0 w A bs L) : w0.heap.size ≤ w.heap.size := h.from0.size

theorem Book.below (h : Book w0 w A bs L) (hb : Below w.heap.size w w') : Book w0 w' A bs L where
  from0 := h.from0.trans (hb.mono h.ge)
  args := fun q hq => (h.args q hq).below (hb.mono h.ge)
  blocks := fun b hbm => (hb.block b.1 (Array.getElem?_eq_some_iff.1 (h.blocks b hbm)).1).trans (h.blocks b hbm)
  rows := fun p hp => ⟨ownsRow_below (h.rows p hp).own hb (fun g hg => Nat.lt_of_lt_of_le ((h.rows p hp).lt g hg) (h.rows p hp).le), (h.rows p hp).lt, Nat.le_trans (h.rows p hp).le hb.size⟩

theorem Book.drew (h : Book w0 w A bs L) : Book w0 w.drew A bs L := h.below (Below.refl _ _).drew
theorem Book.drewN (h : Book w0 w A bs L) (n : Nat) : Book w0 (w.drewN n) A bs L := h.below ⟨rfl, rfl, rfl, Nat.le_refl _, fun _ _ => rfl⟩

theorem Book.arg (h : Book w0 w A bs L) {q : Option Addr × List Int} (hq : q ∈ A) : SlI w w.heap.size q.1 q.2 := (h.args q hq).mono h.ge

theorem Book.alloc (h : Book w0 w A bs L) (o : Obj) : Book w0 (w.alloc o) A ((w.heap.size, o) :: bs) L where
  from0 := h.from0.alloc h.ge o
  args := fun q hq => (h.args q hq).below ((Below.refl _ w).alloc h.ge _)
  blocks := fun b hb => by
    rcases List.mem_cons.1 hb with rfl | hb
    · exact heap_alloc_new w o
    · exact (Below.heap_alloc w o _ (Array.getElem?_eq_some_iff.1 (h.blocks b hb)).1).trans (h.blocks b hb)
  rows := fun p hp => ⟨(h.rows p hp).own.alloc o, (h.rows p hp).lt, by have := (h.rows p hp).le; simp; omega⟩

/-- A new row, out of a call. -/
theorem Book.row (h : Book w0 w A bs L) {ty : TypeId} {sz n : Nat} {v : Value} {xs : List Int}
    (hown : w'.ownsRow w.heap.size ty sz v n (xs.map (Value.int .i64))) (hb : Below w.heap.size w w') : Book w0 w' A bs (⟨w.heap.size, w'.heap.size, ty, sz, n, v, xs⟩ :: L) :=
  { h.below hb with
    rows := fun p hp => by
      rcases List.mem_cons.1 hp with rfl | hp
      · exact ⟨hown, fun g hg => (hown.lt g hg).2, Nat.le_refl _⟩
      · exact (h.below hb).rows p hp }

/-- A row is marked: the others stay. -/
theorem Book.mark {L' : List Bk} (h : Book w0 w A bs L) {p : Bk} {ys : List Int} (hp : p ∈ L)
    (hown : w'.ownsRow p.lo p.ty p.sz p.v p.n (ys.map (Value.int .i64))) (hg : w.grownBy w' p.v.ownBlock)
    (hB : w0.heap.size ≤ p.lo) (hbs : ∀ b ∈ bs, b.1 < p.lo ∨ p.hi ≤ b.1) (hL : ∀ q ∈ L', q = { p with xs := ys } ∨ (q ∈ L ∧ (q.hi ≤ p.lo ∨ p.hi ≤ q.lo))) : Book w0 w' A bs L' where
  from0 := h.from0.grown hg h.ge (fun k e => Nat.le_trans hB ((h.rows p hp).own.lt k e).1)
  args := fun q hq => (h.args q hq).below ((Below.refl _ w).grown hg h.ge (fun k e => Nat.le_trans hB ((h.rows p hp).own.lt k e).1))
  blocks := fun b hb => (hg.block b.1 (Array.getElem?_eq_some_iff.1 (h.blocks b hb)).1 (fun e => by
    have h1 := ((h.rows p hp).own.lt _ e.symm).1
    have h2 := (h.rows p hp).lt _ e.symm
    rcases hbs b hb with h3 | h3 <;> omega)).trans (h.blocks b hb)
  rows := fun q hq => by
    rcases hL q hq with rfl | ⟨hqm, hap⟩
    · exact ⟨hown, (h.rows p hp).lt, Nat.le_trans (h.rows p hp).le hg.size⟩
    · refine ⟨(h.rows q hqm).own.kept hg ?_, (h.rows q hqm).lt, Nat.le_trans (h.rows q hqm).le hg.size⟩
      cases hv : q.v.ownBlock with
      | none => exact .inl rfl
      | some g =>
        refine .inr (fun e => ?_)
        have h1 := ((h.rows p hp).own.lt _ e.symm).1
        have h2 := (h.rows p hp).lt _ e.symm
        have h3 := ((h.rows q hqm).own.lt _ hv).1
        have h4 := (h.rows q hqm).lt _ hv
        rcases hap with h5 | h5 <;> omega

/-- Some of it. -/
theorem Book.only {bs' : List (Nat × Obj)} {L' : List Bk} (h : Book w0 w A bs L) (hb : ∀ b ∈ bs', b ∈ bs) (hL : ∀ p ∈ L', p ∈ L) : Book w0 w A bs' L' :=
  ⟨h.from0, h.args, fun b hbm => h.blocks b (hb b hbm), fun p hp => h.rows p (hL p hp)⟩

/-- A block of another type is written. -/
theorem Book.set2 {b t : Nat} {x y u v : Value} (h : Book w0 w A ((b, .cells #[x, y] t (0, 0)) :: bs) L) (hw : w0.heap.size ≤ b) (hb : ∀ q ∈ bs, q.1 ≠ b) (hty : ∀ p ∈ L, p.ty ≠ t) :
    Book w0 ((w.setCell ⟨b, 0, none⟩ u).setCell ⟨b, 1, none⟩ v) A ((b, .cells #[u, v] t (0, 0)) :: bs) L where
  from0 := (h.from0.setCell (p := ⟨b, 0, none⟩) hw _).setCell (p := ⟨b, 1, none⟩) hw _
  args := fun q hq => (h.args q hq).below (((Below.refl _ w).setCell (p := ⟨b, 0, none⟩) hw _).setCell (p := ⟨b, 1, none⟩) hw _)
  blocks := fun q hq => by
    rcases List.mem_cons.1 hq with rfl | hq
    · have hbk := h.blocks _ (List.mem_cons_self ..)
      simp only at hbk
      simp only [World.setCell, Array.getElem?_modify, hbk]
      simp
    · exact (Below.heap_setCell _ _ _ _ (hb q hq)).trans ((Below.heap_setCell _ _ _ _ (hb q hq)).trans (h.blocks q (List.mem_cons_of_mem _ hq)))
  rows := fun p hp => by
    have hbk := h.blocks _ (List.mem_cons_self ..)
    have hn : p.v.ownBlock ≠ some b := by
      intro e
      have ho := (h.rows p hp).own
      rcases ho.2 with ⟨hv, _⟩ | ⟨g, cap, cur, hv, _, hg, _⟩
      · rw [hv] at e; simp [Value.ownBlock] at e
      · rw [hv] at e
        simp [Value.ownBlock] at e
        subst e
        rw [hg] at hbk
        simp at hbk
        exact hty p hp hbk.2
    exact ⟨ownsRow_set (ownsRow_set (h.rows p hp).own hn _) hn _, (h.rows p hp).lt, by have := (h.rows p hp).le; simpa [World.setCell] using this⟩

theorem Book.slI (h : Book w0 w A bs L) {lo hi : Nat} {ty : TypeId} {sz n : Nat} {a : Option Addr} {m cap : Nat} {xs : List Int} (hp : (⟨lo, hi, ty, sz, n, .slice a m cap, xs⟩ : Bk) ∈ L) : SlI w w.heap.size a xs :=
  flat_slI (h.rows _ hp).own

theorem Book.own (h : Book w0 w A bs L) {lo hi : Nat} {ty : TypeId} {sz n : Nat} {v : Value} {xs : List Int} (hp : (⟨lo, hi, ty, sz, n, v, xs⟩ : Bk) ∈ L) : w.ownsRow lo ty sz v n (xs.map (Value.int .i64)) := (h.rows _ hp).own

theorem Book.two (h : Book w0 w A bs L) {b t : Nat} {u v : Value} (hb : (b, Obj.cells #[u, v] t (0, 0)) ∈ bs) : w.cell? ⟨b, 0, none⟩ = some u ∧ w.cell? ⟨b, 1, none⟩ = some v := by
  have := h.blocks _ hb
  constructor <;> simp [World.cell?, this]

end

end Go.Proofs.Ytbaljngbmokiiaa

/-! Contracts of the model's functions of layer 1: has, is. -/
namespace Go.Proofs.Ytbaljngbmokiiaa
open Go.RowKit

set_option maxHeartbeats 400000 in
theorem has_any (V f : Int) (a : Option Addr) (cap : Nat) (xs : List Int) (w : World) (hx : SlI w w.heap.size a xs) (hl : xs.length ≤ 1048576) :
    Calls Try.prog 120 #[.agg #[.int .i64 V, .slice a xs.length cap], .int .i64 f] w fun e w' => e = .returned (.bool (decide (f ∈ xs))) ∧ Below w.heap.size w w' := by
  have hB : ∀ x, Below w.heap.size w (w.alloc x) := fun x => (Below.refl _ w).alloc (Nat.le_refl _) _
  rcases hx with rfl | ⟨b, off, hb, rfl, hc⟩
  · go_enter Try.func120, Try.ntmps120
    go_wp2
    refine wp_loop_rounds 1 ?_; rw [rounds_succ]
    go_wp2
    go_ret
    exact ⟨ret_bool (by simp), hB _⟩
  · have hne : b ≠ w.heap.size := by omega
    go_enter Try.func120, Try.ntmps120
    go_wp2
    go_loop [5] (fun i => ∃ k : Nat, k ≤ xs.length ∧ i = .int .i64 k ∧ ∀ j, j < k → xs[j]?.getD 0 ≠ f) (fun i => xs.length - (intOf i).toNat)
    case atStart => exact ⟨0, Nat.zero_le _, rfl, by omega⟩
    case round =>
      obtain ⟨k, hk, rfl, hno⟩ := hrel
      have Hno := hid hno
      clear hno
      by_cases hlt : k < xs.length
      · have hck := hc k hlt
        have Hc := hid hc
        clear hc
        have hm := getD_mem hlt
        go_wp2
        · go_ret
          refine ⟨ret_bool ?_, hB _⟩
          have e : (xs[k] == f) = true := by assumption
          rw [List.getElem?_eq_getElem hlt] at hm
          have e' := eq_of_beq e
          rw [← e']; symm; exact decide_eq_true (by simp)
        · go_round
          case rel =>
            have e : (xs[k] == f) = false := by assumption
            refine ⟨k + 1, by omega, by go_num, fun j hj => ?_⟩
            by_cases hjk : j = k
            · subst hjk; rw [List.getElem?_eq_getElem hlt]; simpa using e
            · exact Hno.out j (by omega)
          case measure => simp [intOf]; omega
      · go_wp2
        go_ret
        refine ⟨ret_bool ?_, hB _⟩
        symm
        refine decide_eq_false (fun hm => ?_)
        obtain ⟨j, hj, e⟩ := mem_getD hm
        exact Hno.out j (by omega) e

set_option maxHeartbeats 400000 in
theorem in_any (n lo hi : Int) (w : World) :
    Calls Try.prog 82 #[.int .i64 n, .int .i64 lo, .int .i64 hi] w fun e w' => e = .returned (.bool (decide (lo ≤ n) && decide (n ≤ hi))) ∧ w = w' := by
  go_enter Try.func82, Try.ntmps82
  go_wp2
  · have h : lo ≤ n := by assumption
    go_ret
    exact ⟨ret_bool (by simp [h]), rfl⟩
  · have h : n < lo := by assumption
    go_ret
    exact ⟨ret_bool (by rw [decide_eq_false (show ¬ lo ≤ n by omega)]; rfl), rfl⟩

set_option maxHeartbeats 400000 in
theorem all_any (V : Int) (w : World) (h1 : 0 ≤ V) (h2 : V ≤ 6) :
    Calls Try.prog 119 #[.int .i64 V] w fun e w' => e = .returned (.int .i64 (allV V)) ∧ w = w' := by
  go_enter Try.func119, Try.ntmps119
  go_wp2
  go_ret
  exact ⟨ret_int (all_wrap h1 h2), rfl⟩

set_option maxHeartbeats 400000 in
theorem below_any (f : Nat) (w : World) (h2 : f < 64) :
    Calls Try.prog 104 #[.int .i64 f] w fun e w' => ∃ v, e = .returned v ∧ w'.ownsRow w.heap.size 2 1 v (belowR f 63).length ((belowR f 63).map (Value.int .i64)) ∧ Below w.heap.size w w' := by
  go_enter Try.func104, Try.ntmps104
  go_wp2
  go_loopw [3, 4] (fun v i wr => ∃ m : Nat, m ≤ 63 ∧ i = .int .i64 (62 - m) ∧ wr.ownsRow w.heap.size 2 1 v (belowR f m).length ((belowR f m).map (Value.int .i64)) ∧ Below w.heap.size w wr) (fun _ i _ => (1 + intOf i).toNat)
  case atStart =>
    exact ⟨0, by omega, by simp, World.ownsRow_made w #[] 0 (Nat.le_refl _) (by simp [maxLen]) rfl, (Below.refl _ w).alloc (Nat.le_refl _) _⟩
  case round =>
    obtain ⟨m, hm, rfl, hown, hB⟩ := hrel
    by_cases hlt : m < 63
    · have hz : (0 : Int) ≤ 62 - m := by omega
      have hlen := belowR_len f m
      have hbit := bit_one (v := 62 - m) h2
      have hne := ne_wrap (f := f) (v := 62 - m) (by omega)
      have hsub := sub_wrap (v := 62 - m) h2 (by omega)
      have Hd : Hid (∀ b, (bitN f (62 - m) && f != 2 ^ (62 - m)) = b → belowR f (m + 1) = belowR f m ++ (if b then [(f : Int) - 2 ^ (62 - m)] else [])) := by
        intro b hb; rw [belowR, hb]
      have Hs := hid hsub
      clear hsub
      have hsz := hB.size
      by_cases hb : bitN f (62 - m) = true
      · rw [if_pos hb] at hbit
        by_cases hq : (f != 2 ^ (62 - m)) = true
        · rw [hq] at hne
          have hd := Hd.out true (by rw [hb, hq]; rfl)
          have HD := hid hd
          clear hd Hd hq hb
          go_wp2_with (first
            | (at_builtin; refine append_int rfl rfl hown hsz (by omega) rfl rfl ?_; intro v' w1 hown1 hgrow1 hB1))
          go_roundw
          case rel =>
            refine ⟨m + 1, by omega, by go_num, ?_, ?_⟩
            · rw [HD.out]
              rw [Hs.out] at hown1
              exact hown1
            · exact hB.trans hB1
          case measure => simp [intOf]; omega
        · have hq' : (f != 2 ^ (62 - m)) = false := by simpa using hq
          rw [hq'] at hne
          have HD := hid (Hd.out false (by rw [hb, hq']; rfl))
          clear Hd hq hq' hb
          go_wp2_with fail
          go_roundw
          case rel =>
            refine ⟨m + 1, by omega, by go_num, ?_, hB⟩
            rw [HD.out]; simpa using hown
          case measure => simp [intOf]; omega
      · rw [if_neg hb] at hbit
        have HD := hid (Hd.out false (by simp [hb]))
        clear Hd hb hne
        go_wp2_with fail
        go_roundw
        case rel =>
          refine ⟨m + 1, by omega, by go_num, ?_, hB⟩
          rw [HD.out]; simpa using hown
        case measure => simp [intOf]; omega
    · obtain rfl : m = 63 := by omega
      go_wp2
      go_ret
      exact ⟨_, rfl, hown, hB⟩

set_option maxHeartbeats 400000 in
theorem in_yes (n lo hi : Int) (w : World) (h1 : lo ≤ n) (h2 : n ≤ hi) :
    Calls Try.prog 82 #[.int .i64 n, .int .i64 lo, .int .i64 hi] w fun e w' => e = .returned (.bool true) ∧ w = w' :=
  (in_any n lo hi w).mono fun _ _ ⟨he, hw⟩ => ⟨by rw [he]; simp [h1, h2], hw⟩

theorem in_no (n lo hi : Int) (w : World) (h : ¬ (lo ≤ n ∧ n ≤ hi)) :
    Calls Try.prog 82 #[.int .i64 n, .int .i64 lo, .int .i64 hi] w fun e w' => e = .returned (.bool false) ∧ w = w' :=
  (in_any n lo hi w).mono fun _ _ ⟨he, hw⟩ => ⟨by rw [he]; simp at h; by_cases hx : lo ≤ n
                                                  · rw [decide_eq_false (show ¬ n ≤ hi by have := h hx; omega)]; simp
                                                  · rw [decide_eq_false hx]; simp, hw⟩

theorem has_yes (V f : Int) (a : Option Addr) (cap : Nat) (xs : List Int) (w : World) (hx : SlI w w.heap.size a xs) (hl : xs.length ≤ 1048576) (h : f ∈ xs) :
    Calls Try.prog 120 #[.agg #[.int .i64 V, .slice a xs.length cap], .int .i64 f] w fun e w' => e = .returned (.bool true) ∧ Below w.heap.size w w' :=
  (has_any V f a cap xs w hx hl).mono fun _ _ ⟨he, hw⟩ => ⟨by rw [he, decide_eq_true h], hw⟩

theorem has_no (V f : Int) (a : Option Addr) (cap : Nat) (xs : List Int) (w : World) (hx : SlI w w.heap.size a xs) (hl : xs.length ≤ 1048576) (h : f ∉ xs) :
    Calls Try.prog 120 #[.agg #[.int .i64 V, .slice a xs.length cap], .int .i64 f] w fun e w' => e = .returned (.bool false) ∧ Below w.heap.size w w' :=
  (has_any V f a cap xs w hx hl).mono fun _ _ ⟨he, hw⟩ => ⟨by rw [he, decide_eq_false h], hw⟩

end Go.Proofs.Ytbaljngbmokiiaa

/-! The model's test whether something is a complex. -/
namespace Go.Proofs.Ytbaljngbmokiiaa
open Go.RowKit

theorem below_int (x : Int) (w : World) (h0 : 0 ≤ x) (h1 : x < 64) :
    Calls Try.prog 104 #[.int .i64 x] w fun e w' => ∃ v, e = .returned v ∧ w'.ownsRow w.heap.size 2 1 v (belowR x.toNat 63).length ((belowR x.toNat 63).map (Value.int .i64)) ∧ Below w.heap.size w w' := by
  have := below_any x.toNat w (by omega)
  rwa [Int.toNat_of_nonneg h0] at this

theorem below_as (x : Int) (ys : List Int) (w : World) (h0 : 0 ≤ x) (h1 : x < 64) (hys : ys = belowR x.toNat 63) :
    Calls Try.prog 104 #[.int .i64 x] w fun e w' => ∃ a cap, e = .returned (.slice a ys.length cap) ∧ SlI w' w'.heap.size a ys ∧ Below w.heap.size w w' := by
  have h := below_int x w h0 h1
  rw [← hys] at h
  refine h.mono ?_
  rintro e w' ⟨v, rfl, hown, hb⟩
  obtain ⟨_, a, cap, rfl, hs⟩ := ownsRow_slI hown
  exact ⟨a, cap, rfl, hs, hb⟩

theorem is_no_range (V : Int) (a : Option Addr) (cap : Nat) (fs : List Int) (w : World) (h : ¬ (1 ≤ V ∧ V ≤ 6)) :
    Calls Try.prog 58 #[.agg #[.int .i64 V, .slice a fs.length cap]] w fun e w' => e = .returned (.bool false) ∧ Below w.heap.size w w' := by
  go_enter Try.func58, Try.ntmps58
  go_wp2_with (go_at_call 82; refine (in_no _ _ _ _ h).mono ?_; rintro e w' ⟨rfl, rfl⟩)
  go_ret
  exact ⟨rfl, (Below.refl _ w).alloc (Nat.le_refl _) _⟩

set_option maxHeartbeats 1000000 in
theorem is_any (V : Int) (b off : Nat) (cap : Nat) (fs : List Int) (w : World) (h1 : 1 ≤ V) (h2 : V ≤ 6) (hb : b < w.heap.size)
    (hc : ∀ i, i < fs.length → w.cell? ⟨b, off + i, none⟩ = some (.int .i64 (fs[i]?.getD 0))) (hl : fs.length ≤ 1048576) :
    Calls Try.prog 58 #[.agg #[.int .i64 V, .slice (some ⟨b, off, none⟩) fs.length cap]] w fun e w' => e = .returned (.bool (isCB V fs)) ∧ Below w.heap.size w w' := by
  have hV0 : 0 ≤ V := by omega
  have hW1 : Below w.heap.size w (w.alloc (.cells #[.int .i64 V, .slice (some ⟨b, off, none⟩) fs.length cap] 26)) := (Below.refl _ w).alloc (Nat.le_refl _) _
  go_enter Try.func58, Try.ntmps58
  go_wp2_with (go_at_call 82; refine (in_yes _ _ _ _ h1 h2).mono ?_; rintro e w' ⟨rfl, rfl⟩)
  go_loopw [3] (fun i wr => ∃ k : Nat, k ≤ fs.length ∧ i = .int .i64 k ∧ Hid (∀ j, j < k → (1 ≤ fs[j]?.getD 0 ∧ fs[j]?.getD 0 ≤ allV V) ∧ (0 < j → fs[j - 1]?.getD 0 < fs[j]?.getD 0)) ∧
      Below (w.heap.size + 1) (w.alloc (.cells #[.int .i64 V, .slice (some ⟨b, off, none⟩) fs.length cap] 26)) wr) (fun i _ => fs.length - (intOf i).toNat)
  case atStart => exact ⟨0, Nat.zero_le _, rfl, hid (by omega), Below.refl _ _⟩
  case round =>
    obtain ⟨k, hk, rfl, Hl, hB⟩ := hrel
    have c0 : wr.cell? ⟨w.heap.size, 0, none⟩ = some (.int .i64 V) := (hB.cell (p := ⟨w.heap.size, 0, none⟩) (by simp)).trans (by simp [go_sem])
    have c1 : wr.cell? ⟨w.heap.size, 1, none⟩ = some (.slice (some ⟨b, off, none⟩) fs.length cap) := (hB.cell (p := ⟨w.heap.size, 1, none⟩) (by simp)).trans (by simp [go_sem])
    by_cases hlt : k < fs.length
    · have hck : wr.cell? ⟨b, off + k, none⟩ = some (.int .i64 (fs[k]?.getD 0)) := (hB.cell (p := ⟨b, off + k, none⟩) (by simp; omega)).trans ((hW1.cell (p := ⟨b, off + k, none⟩) hb).trans (hc k hlt))
      obtain ⟨x, hx⟩ : ∃ x, x = fs[k]?.getD 0 := ⟨_, rfl⟩
      rw [← hx] at hck
      have Hx := hid hx
      clear hx
      have hi0 : (0 : Int) ≤ (k : Int) := by omega
      have hi1 : (k : Int) < (fs.length : Int) := by omega
      by_cases hr : 1 ≤ x ∧ x ≤ allV V
      · by_cases hk0 : 0 < k
        rotate_left
        · have hd : decide (0 < k) = false := decide_eq_false hk0
          have Hk := hid hk0
          clear hk0
          go_wp2_with fail
          go_quiet (first
            | (go_at_call 119; exact quiet_of_eq (all_any _ _ hV0 h2))
            | (go_at_call 82; exact quiet_of_eq (in_yes _ _ _ _ hr.1 hr.2)))
          go_wp2_with fail
          go_roundw
          case rel =>
            have hk0 := Hk.out
            have hx := Hx.out
            exact ⟨k + 1, by omega, by go_num, fun j hj => (by by_cases hjk : j < k
                                                               · exact Hl.out j hjk
                                                               · obtain rfl : j = k := by omega
                                                                 exact ⟨hx ▸ hr, fun h => absurd h hk0⟩), hB.trans ⟨rfl, rfl, rfl, Nat.le_refl _, fun _ _ => rfl⟩⟩
          case measure => simp [intOf]; omega
        · have hd : decide (0 < k) = true := decide_eq_true hk0
          obtain ⟨y, hy⟩ : ∃ y, y = fs[k - 1]?.getD 0 := ⟨_, rfl⟩
          have hck1 : wr.cell? ⟨b, off + (k - 1), none⟩ = some (.int .i64 y) := by rw [hy]; exact (hB.cell (p := ⟨b, off + (k - 1), none⟩) (by simp; omega)).trans ((hW1.cell (p := ⟨b, off + (k - 1), none⟩) hb).trans (hc (k - 1) (by omega)))
          have Hy := hid hy
          clear hy
          have hi2 : (0 : Int) ≤ (k : Int) - 1 := by omega
          have hi3 : (k : Int) - 1 < (fs.length : Int) := by omega
          by_cases hxy : x ≤ y
          · have hxd : decide (x ≤ y) = true := decide_eq_true hxy
            go_wp2_with fail
            go_quiet (first
              | (go_at_call 119; exact quiet_of_eq (all_any _ _ hV0 h2))
              | (go_at_call 82; exact quiet_of_eq (in_yes _ _ _ _ hr.1 hr.2)))
            go_wp2_with fail
            go_ret
            refine ⟨ret_bool ?_, ?_⟩
            · symm
              refine isCB_false (fun h => ?_)
              have := isC_looks_asc h hk0 hlt
              have hx := Hx.out
              have hy := Hy.out
              omega
            · exact (hW1.trans (hB.mono (by simp))).trans ⟨rfl, rfl, rfl, Nat.le_refl _, fun _ _ => rfl⟩
          · have hxd : decide (x ≤ y) = false := decide_eq_false hxy
            go_wp2_with fail
            go_quiet (first
              | (go_at_call 119; exact quiet_of_eq (all_any _ _ hV0 h2))
              | (go_at_call 82; exact quiet_of_eq (in_yes _ _ _ _ hr.1 hr.2)))
            go_wp2_with fail
            go_roundw
            case rel =>
              have hx := Hx.out
              have hy := Hy.out
              exact ⟨k + 1, by omega, by go_num, fun j hj => (by by_cases hjk : j < k
                                                                 · exact Hl.out j hjk
                                                                 · obtain rfl : j = k := by omega
                                                                   exact ⟨hx ▸ hr, fun _ => by omega⟩), hB.trans ⟨rfl, rfl, rfl, Nat.le_refl _, fun _ _ => rfl⟩⟩
            case measure => simp [intOf]; omega
      · go_wp2_with fail
        go_quiet (first
          | (go_at_call 119; exact quiet_of_eq (all_any _ _ hV0 h2))
          | (go_at_call 82; exact quiet_of_eq (in_no _ _ _ _ hr)))
        go_wp2_with fail
        go_ret
        refine ⟨ret_bool ?_, ?_⟩
        · symm
          refine isCB_false (fun h => hr ?_)
          have hx := Hx.out
          rw [hx]
          exact isC_looks_range h hlt
        · exact (hW1.trans (hB.mono (by simp))).trans ⟨rfl, rfl, rfl, Nat.le_refl _, fun _ _ => rfl⟩
    · go_wp2_with fail
      obtain rfl : k = fs.length := by omega
      have hall := Hl.out
      have Hall := hid hall
      clear hall Hl c0 c1
      have hsz0 := hB.size
      simp only [World.size_alloc] at hsz0
      obtain ⟨wo, rfl⟩ : ∃ wo : World, wo = wr := ⟨_, rfl⟩
      go_loopw [4] (fun i wr => ∃ k : Nat, k ≤ fs.length ∧ i = .int .i64 k ∧ Hid (∀ j, j < k → ∀ y ∈ belowR (fs[j]?.getD 0).toNat 63, y ∈ fs) ∧
          Below (w.heap.size + 1) wo wr) (fun i _ => fs.length - (intOf i).toNat)
      case atStart => exact ⟨0, Nat.zero_le _, rfl, hid (by omega), Below.refl _ _⟩
      case round =>
        obtain ⟨k, hk, rfl, Hl, hB2⟩ := hrel
        have hBB := hB.trans hB2
        have c0 : wr.cell? ⟨w.heap.size, 0, none⟩ = some (.int .i64 V) := (hBB.cell (p := ⟨w.heap.size, 0, none⟩) (by simp)).trans (by simp [go_sem])
        have c1 : wr.cell? ⟨w.heap.size, 1, none⟩ = some (.slice (some ⟨b, off, none⟩) fs.length cap) := (hBB.cell (p := ⟨w.heap.size, 1, none⟩) (by simp)).trans (by simp [go_sem])
        have hBW : Below w.heap.size w wr := hW1.trans (hBB.mono (by simp))
        have hsz2 := hB2.size
        by_cases hlt2 : k < fs.length
        · have hck : wr.cell? ⟨b, off + k, none⟩ = some (.int .i64 (fs[k]?.getD 0)) := (hBW.cell (p := ⟨b, off + k, none⟩) hb).trans (hc k hlt2)
          obtain ⟨x, hx⟩ : ∃ x, x = fs[k]?.getD 0 := ⟨_, rfl⟩
          have hr := (Hall.out k hlt2).1
          have h63 := allV_le h2
          rw [← hx] at hck hr
          have hx0 : 0 ≤ x := by omega
          have hx1 : x < 64 := by omega
          have Hx := hid hx
          clear hx hr h63
          have hi0 : (0 : Int) ≤ (k : Int) := by omega
          have hi1 : (k : Int) < (fs.length : Int) := by omega
          obtain ⟨ys, hys⟩ : ∃ ys, ys = belowR x.toNat 63 := ⟨_, rfl⟩
          have hyl : ys.length ≤ 63 := by rw [hys]; exact belowR_len _ _
          have Hys := hid hys
          clear hys
          have h0w := hBW.size
          go_wp2_with (go_at_call 104; refine (below_as x ys _ hx0 hx1 Hys.out).mono ?_; rintro e w2 ⟨a2, cap2, rfl, hsl, hb2⟩)
          have hB3 := hBB.trans (hb2.mono (by omega))
          have hb2s := hb2.size
          clear c0 c1 hck
          have c0 : w2.cell? ⟨w.heap.size, 0, none⟩ = some (.int .i64 V) := (hB3.cell (p := ⟨w.heap.size, 0, none⟩) (by simp)).trans (by simp [go_sem])
          have c1 : w2.cell? ⟨w.heap.size, 1, none⟩ = some (.slice (some ⟨b, off, none⟩) fs.length cap) := (hB3.cell (p := ⟨w.heap.size, 1, none⟩) (by simp)).trans (by simp [go_sem])
          have hfs : ∀ wz, Below w2.heap.size w2 wz → SlI wz wz.heap.size (some ⟨b, off, none⟩) fs := fun wz hz => by
            have hz0 := hz.size
            exact .inr ⟨b, off, by omega, rfl, fun i hi => ((hW1.trans ((hB3.trans (hz.mono (by omega))).mono (by simp))).cell (p := ⟨b, off + i, none⟩) hb).trans (hc i hi)⟩
          have Hfs := hid hfs
          clear hfs
          have hend : ∀ wz, Below w2.heap.size w2 wz → Below w.heap.size w wz := fun wz hz => (hW1.trans ((hB3.trans (hz.mono (by omega))).mono (by simp)))
          have Hend := hid hend
          have hrnd : ∀ wz, Below w2.heap.size w2 wz → Below (w.heap.size + 1) wo wz := fun wz hz => hB2.trans ((hb2.mono (by omega)).trans (hz.mono (by omega)))
          have Hrnd := hid hrnd
          have Hc := hid hc
          clear hend hrnd hB hB2 hBB hBW hB3 hb2 hc hW1
          rcases hsl with rfl | ⟨b2, off2, hb2, rfl, hc2⟩
          · refine wp_loop_rounds 1 ?_; rw [rounds_succ]
            go_wp2
            go_roundw
            case rel =>
              refine ⟨k + 1, by omega, by go_num, hid (fun j hj => ?_), Hrnd.out _ (Below.refl _ _)⟩
              by_cases hjk : j < k
              · exact Hl.out j hjk
              · obtain rfl : j = k := by omega
                rw [← Hx.out, ← Hys.out]; simp
            case measure => simp [intOf]; omega
          · obtain ⟨wq, rfl⟩ : ∃ wq : World, wq = w2 := ⟨_, rfl⟩
            obtain ⟨wp, rfl⟩ : ∃ wp : World, wp = wr := ⟨_, rfl⟩
            have Hc2 := hid hc2
            clear hc2
            go_loopw [6] (fun i wr => ∃ m : Nat, m ≤ ys.length ∧ i = .int .i64 m ∧ Hid (∀ j, j < m → ys[j]?.getD 0 ∈ fs) ∧
              Below wq.heap.size wq wr) (fun i _ => ys.length - (intOf i).toNat)
            case atStart => exact ⟨0, Nat.zero_le _, rfl, hid (by omega), Below.refl _ _⟩
            case round =>
              obtain ⟨m, hm, rfl, Hm, hB5⟩ := hrel
              have Hend5 := hid (Hend.out _ hB5)
              have Hrnd5 := hid (Hrnd.out _ hB5)
              have d0 := (hB5.cell (p := ⟨w.heap.size, 0, none⟩) (by simp; omega)).trans c0
              have d1 := (hB5.cell (p := ⟨w.heap.size, 1, none⟩) (by simp; omega)).trans c1
              by_cases hlt3 : m < ys.length
              · obtain ⟨y, hy⟩ : ∃ y, y = ys[m]?.getD 0 := ⟨_, rfl⟩
                have hcm : wr.cell? ⟨b2, off2 + m, none⟩ = some (.int .i64 y) := by rw [hy]; exact (hB5.cell (p := ⟨b2, off2 + m, none⟩) hb2).trans (Hc2.out m hlt3)
                have Hy := hid hy
                clear hy
                have hj0 : (0 : Int) ≤ (m : Int) := by omega
                have hj1 : (m : Int) < (ys.length : Int) := by omega
                have hsl5 : SlI wr wr.heap.size (some ⟨b, off, none⟩) fs := Hfs.out _ hB5
                have hsl5' : SlI wr.drew wr.drew.heap.size (some ⟨b, off, none⟩) fs := hsl5
                have Hs5 := hid hsl5'
                clear hsl5 hsl5'
                by_cases hyf : y ∈ fs
                · go_wp2_with fail
                  go_region_with (go_at_call 120; refine (has_yes V y _ cap fs _ Hs5.out hl hyf).mono ?_; rintro e w6 ⟨rfl, hb6⟩)
                  all_goals go_wp2_with fail
                  all_goals
                    have hy := Hy.out
                    have hB6 : Below wq.heap.size wq w6 := hB5.trans (Below.mono (w := wr) ⟨hb6.os, hb6.tape, hb6.output, hb6.size, hb6.block⟩ hB5.size)
                    go_roundw
                    case rel =>
                      refine ⟨m + 1, by omega, by go_num, hid (fun j hj => ?_), hB6⟩
                      by_cases hjm : j < m
                      · exact Hm.out j hjm
                      · obtain rfl : j = m := by omega
                        rw [← hy]; exact hyf
                    case measure => simp [intOf]; omega
                · go_wp2_with fail
                  go_region_with (go_at_call 120; refine (has_no V y _ cap fs _ Hs5.out hl hyf).mono ?_; rintro e w6 ⟨rfl, hb6⟩)
                  all_goals go_wp2_with fail
                  all_goals
                    have hy := Hy.out
                    have hB6 : Below wq.heap.size wq w6 := hB5.trans (Below.mono (w := wr) ⟨hb6.os, hb6.tape, hb6.output, hb6.size, hb6.block⟩ hB5.size)
                    go_ret
                    refine ⟨ret_bool ?_, Hend.out _ hB6⟩
                    symm
                    refine isCB_false (fun h => hyf ?_)
                    refine isC_looks_below h hlt2 ?_
                    rw [← Hx.out, ← Hys.out, hy]
                    exact getD_mem hlt3
              · go_wp2_with fail
                go_roundw
                case rel =>
                  refine ⟨k + 1, by omega, by go_num, hid (fun j hj => ?_), Hrnd5.out⟩
                  by_cases hjk : j < k
                  · exact Hl.out j hjk
                  · obtain rfl : j = k := by omega
                    rw [← Hx.out, ← Hys.out]
                    intro z hz
                    obtain ⟨i, hi, e⟩ := mem_getD hz
                    rw [← e]
                    exact Hm.out i (by omega)
                case measure => simp [intOf]; omega
        · go_wp2
          go_ret
          refine ⟨ret_bool ?_, hBW⟩
          symm
          refine isCB_true (isC_of_looks h1 h2 (fun j hj => (Hall.out j hj).1) (fun j h0 hj => (Hall.out j hj).2 h0) (fun j hj => Hl.out j (by omega)))
end Go.Proofs.Ytbaljngbmokiiaa

/-! The model's test whether something is a complex, at whatever comes in. -/
namespace Go.Proofs.Ytbaljngbmokiiaa
open Go.RowKit

set_option maxHeartbeats 400000 in
theorem is_nil (V : Int) (a : Option Addr) (cap : Nat) (w : World) (h1 : 1 ≤ V) (h2 : V ≤ 6) :
    Calls Try.prog 58 #[.agg #[.int .i64 V, .slice a 0 cap]] w fun e w' => e = .returned (.bool true) ∧ Below w.heap.size w w' := by
  go_enter Try.func58, Try.ntmps58
  go_wp2_with (go_at_call 82; refine (in_yes _ _ _ _ h1 h2).mono ?_; rintro e w' ⟨rfl, rfl⟩)
  refine wp_loop_rounds 1 ?_; rw [rounds_succ]
  go_wp2
  refine wp_loop_rounds 1 ?_; rw [rounds_succ]
  go_wp2
  go_ret
  exact ⟨rfl, (Below.refl _ w).alloc (Nat.le_refl _) _⟩

/-- l01Is, whatever comes in. -/
theorem is_all (V : Int) (a : Option Addr) (cap : Nat) (fs : List Int) (w : World) (hx : SlI w w.heap.size a fs) (hl : fs.length ≤ 1048576) :
    Calls Try.prog 58 #[.agg #[.int .i64 V, .slice a fs.length cap]] w fun e w' => e = .returned (.bool (isCB V fs)) ∧ Below w.heap.size w w' := by
  by_cases hV : 1 ≤ V ∧ V ≤ 6
  · rcases hx with rfl | ⟨b, off, hb, rfl, hc⟩
    · exact (is_nil V a cap w hV.1 hV.2).mono fun _ _ ⟨he, hw⟩ => ⟨by rw [he, isCB_true (isC_nil hV.1 hV.2)], hw⟩
    · exact is_any V b off cap fs w hV.1 hV.2 hb hc hl
  · exact (is_no_range V a cap fs w hV).mono fun _ _ ⟨he, hw⟩ => ⟨by rw [he, isCB_false (fun h => hV ⟨h.lo, h.hi⟩)], hw⟩

theorem is_yes (V : Int) (a : Option Addr) (cap : Nat) (fs : List Int) (w : World) (hx : SlI w w.heap.size a fs) (hl : fs.length ≤ 1048576) (h : IsC V fs) :
    Calls Try.prog 58 #[.agg #[.int .i64 V, .slice a fs.length cap]] w fun e w' => e = .returned (.bool true) ∧ Below w.heap.size w w' :=
  (is_all V a cap fs w hx hl).mono fun _ _ ⟨he, hw⟩ => ⟨by rw [he, isCB_true h], hw⟩

theorem is_no (V : Int) (a : Option Addr) (cap : Nat) (fs : List Int) (w : World) (hx : SlI w w.heap.size a fs) (hl : fs.length ≤ 1048576) (h : ¬ IsC V fs) :
    Calls Try.prog 58 #[.agg #[.int .i64 V, .slice a fs.length cap]] w fun e w' => e = .returned (.bool false) ∧ Below w.heap.size w w' :=
  (is_all V a cap fs w hx hl).mono fun _ _ ⟨he, hw⟩ => ⟨by rw [he, isCB_false h], hw⟩


end Go.Proofs.Ytbaljngbmokiiaa

/-! The parts of a set, one after the other: an iterator, and what a function that ranges over it leaves. -/
namespace Go.Proofs.Ytbaljngbmokiiaa
open Go.RowKit Go.Shelf

attribute [local go_sem] Oper.semAt_some

/-- w' is w but for the blocks Ds, which are no longer what they were. -/
structure Shut (Ds : List Nat) (w w' : World) : Prop where
  os : w'.os = w.os
  tape : w'.tape = w.tape
  output : w'.output = w.output
  size : w'.heap.size = w.heap.size
  block : ∀ k, k ∉ Ds → w'.heap[k]? = w.heap[k]?

theorem Shut.below {Ds : List Nat} {B : Nat} {w w' : World} (h : Shut Ds w w') (hB : ∀ D ∈ Ds, B ≤ D) : Below B w w' :=
  ⟨h.os, h.tape, h.output, by rw [h.size]; exact Nat.le_refl _, fun k hk => h.block k (fun hm => by have := hB k hm; omega)⟩

/-- The marks that loops over functions leave. -/
def marks (Ds : List Nat) : List Deferred := Ds.map fun D => { target := .collected D, args := #[] }

theorem leaves_marks {F : Fence} {n : Nat} {P : Program} {fn : Func} {tmps : Array Value} {R : Ending → World → Prop} {u : FrameMode} (hu : u ≠ .run) :
    ∀ (Ds : List Nat) (w : World), Ds.Nodup → (∀ D ∈ Ds, w.heap[D]? = some (.deferred (some []))) → (∀ w', Shut Ds w w' → LeavesIn F n P fn tmps R [] u w') → LeavesInM F n P fn tmps R (marks Ds) u w := by
  intro Ds
  induction Ds with
  | nil => intro w _ _ h; exact h w ⟨rfl, rfl, rfl, rfl, fun _ _ => rfl⟩
  | cons D Ds ih =>
    intro w hnd hD h
    refine ⟨hu, .inl ⟨D, _, rfl, run_takeDeferred (hD D (by simp)), ?_⟩⟩
    have hnd' := List.nodup_cons.1 hnd
    refine ih _ hnd'.2 (fun E hE => ?_) (fun w' hs => h w' ⟨hs.os, hs.tape, hs.output, hs.size.trans World.putObj_size, fun k hk => ?_⟩)
    · rw [World.putObj_heap_other (fun e => hnd'.1 (by rw [← e]; exact hE))]
      exact hD E (by simp [hE])
    · rw [hs.block k (fun hm => hk (by simp [hm])), World.putObj_heap_other (fun e => hk (by simp [e]))]

/-- The parts of a set, with what they are below. -/
def subsF (f : Nat) : List (Fin 64) := (subs f).filterMap fun p => if h : p < 64 then some ⟨p, h⟩ else none

theorem map_filterMap_fin : ∀ l : List Nat, (∀ p ∈ l, p < 64) → (l.filterMap fun p => if h : p < 64 then some (⟨p, h⟩ : Fin 64) else none).map Fin.val = l
  | [], _ => rfl
  | p :: l, h => by
    have hp : p < 64 := h p (by simp)
    rw [List.filterMap_cons]
    simp only [hp, dif_pos, List.map_cons]
    rw [map_filterMap_fin l (fun q hq => h q (by simp [hq]))]

theorem chain_le (f : Nat) : ∀ n p, ∀ y ∈ chain f n p, y ≤ p := by
  intro n
  induction n with
  | zero => intro p y hy; simp [chain] at hy
  | succ n ih =>
    intro p y hy
    unfold chain at hy
    split at hy
    · simp at hy
    · rcases List.mem_cons.1 hy with rfl | h
      · exact Nat.le_refl _
      · have := ih _ _ h
        have h3 : (p - 1) &&& f ≤ p - 1 := Nat.and_le_left
        omega

theorem subsF_map {f : Nat} (hf : f < 64) : (subsF f).map Fin.val = subs f :=
  map_filterMap_fin _ (fun p hp => by have := chain_le f 64 f p hp; omega)

theorem mem_subsF {f : Nat} (hf : f < 64) {p : Fin 64} : p ∈ subsF f ↔ p.val ≠ 0 ∧ p.val &&& f = p.val := by
  rw [← mem_subs hf, ← subsF_map hf]
  constructor
  · intro h; exact List.mem_map.2 ⟨p, h, rfl⟩
  · intro h; obtain ⟨q, hq, e⟩ := List.mem_map.1 h; rwa [← Fin.ext e]

/-- Block B lies as it lay. -/
def KeepB (B : Nat) (W W' : World) : Prop := W'.heap[B]? = W.heap[B]?
theorem keepB_t {B : Nat} {x y z : World} (h : KeepB B x y) (k : KeepB B y z) : KeepB B x z := Eq.trans k h
theorem keepB_b {B : Nat} {w : World} (hB : B < w.heap.size) (W : World) (l : Nat) (o o' : Obj) (hl : w.heap.size ≤ l) (_ : W.heap[l]? = some o) (_ : o.isCells = false) (_ : o.isWalk = false) : KeepB B W (W.putObj l o') :=
  World.putObj_heap_other (by omega)
theorem keepB_of_below {B n : Nat} {W W' : World} (h : Below n W W') (hB : B < n) : KeepB B W W' := h.block B hB

theorem box_cell {W : World} {B t : Nat} {v : Value} (h : W.heap[B]? = some (.cells #[v] t (0, 0))) : W.cell? ⟨B, 0, none⟩ = some v ∧ W.frozen? ⟨B, 0, none⟩ = false := by
  constructor <;> simp [World.cell?, World.frozen?, h]

theorem and_bits {q f : Nat} (hq0 : 0 < q) (hq : q < 64) (hf : f < 64) : bits BinOp.and IntKind.i64 ((q : Int) - 1) (f : Int) = (((q - 1) &&& f : Nat) : Int) := by
  have h := (bits_nat .i64 6 (by decide) (fun n h0 h1 => by rw [IntKind.wrap_i64]; omega) (q - 1) f (by omega) (by omega)).1
  rwa [show ((q - 1 : Nat) : Int) = (q : Int) - 1 by omega] at h

set_option maxRecDepth 100000 in
set_option maxHeartbeats 1000000 in
/-- The iterator over the parts of f: whatever the loop's body, as long as it keeps the block of f. -/
theorem parts1_in (F : Fence) (n : Nat) (hF : F.fn 182) (hro : F.round = none) (hn : 1 ≤ n) (l B0 f : Nat) (hf : f < 64) (J Jx : List (Fin 64) → World → Prop)
    (hY : ∀ pre x W, J pre W → pre.length < 64 → YieldAt F (n - 1) Try.prog l #[.int .i64 (x.val : Int)] W fun e W' =>
      (e = .returned (.bool true) ∧ J (pre ++ [x]) W' ∧ KeepB B0 W W') ∨ (e = .returned (.bool false) ∧ Jx (pre ++ [x]) W'))
    (W : World) (hB0 : W.heap[B0]? = some (.cells #[.int .i64 (f : Int)] 2 (0, 0))) (h0 : J [] W) :
    CallsIn F n Try.prog 182 #[.func (.yield l) #[] #[], .pointer (some ⟨B0, 0, none⟩)] W fun e W' => (∃ v, e = .returned v) ∧
      ((∃ ys, ys = subsF f ∧ J ys W') ∨ (∃ pre, pre <+: subsF f ∧ Jx pre W')) := by
  have hlen : (subsF f).length ≤ 63 := by
    have := subs_len' ⟨f, hf⟩
    rwa [← subsF_map hf, List.length_map] at this
  have c0 := (box_cell hB0).1
  refine callsIn_of_wp Try.func182 rfl hF ?_ hro
  simp only [Try.ntmps182, List.size_toArray, List.length_cons, List.length_nil, Nat.reduceAdd, Nat.reduceSub, Array.replicate_succ, Array.replicate_zero, List.push_toArray, List.append_toArray, List.nil_append, List.cons_append]
  gi_wp2
  gi_loopw [3] (fun p wr => ∃ (pre rest : List (Fin 64)) (q : Nat), p = .int .i64 (q : Int) ∧ q < 64 ∧ Hid (subsF f = pre ++ rest ∧ rest.map Fin.val = chain f 64 q) ∧ J pre wr ∧ wr.heap[B0]? = some (.cells #[.int .i64 (f : Int)] 2 (0, 0)))
    (fun p _ => (intOf p).toNat)
  case atStart =>
    exact ⟨[], subsF f, f, rfl, hf, hid ⟨rfl, subsF_map hf⟩, h0, hB0⟩
  case round =>
    obtain ⟨pre, rest, q, rfl, hq, Hl, hJs, hBr⟩ := hrel
    by_cases hq0 : 0 < q
    · obtain ⟨hl1, hl2⟩ := Hl.out
      rw [chain_pos hq0 (by omega)] at hl2
      cases rest with
      | nil => simp at hl2
      | cons x rest =>
        simp only [List.map_cons, List.cons.injEq] at hl2
        obtain ⟨hx, hl2⟩ := hl2
        have hpl : pre.length < 64 := by rw [hl1] at hlen; simp at hlen; omega
        obtain ⟨fn, tmps, assign, body, hy, hR⟩ := hY pre x wr hJs hpl
        rw [hx] at hy
        have hbits := and_bits hq0 hq hf
        have hand : (q - 1) &&& f ≤ q - 1 := Nat.and_le_left
        have Hl' : Hid (subsF f = pre ++ [x] ++ rest ∧ rest.map Fin.val = chain f 64 ((q - 1) &&& f)) := hid ⟨by simp [hl1], hl2⟩
        have Hpre : Hid (pre ++ [x] <+: subsF f) := hid ⟨rest, by simp [hl1]⟩
        clear hl1 hl2 Hl hx hlen
        have c0r := (box_cell hBr).1
        gi_wp2
        refine hR.mono ?_
        rintro e W3 (⟨rfl, hJ3, hk3⟩ | ⟨rfl, hJx3⟩)
        · have hBr3 : W3.heap[B0]? = some (.cells #[.int .i64 (f : Int)] 2 (0, 0)) := Eq.trans hk3 hBr
          have c03 := (box_cell hBr3).1
          gi_wp2
          go_roundw
          case rel => exact ⟨pre ++ [x], rest, (q - 1) &&& f, rfl, by omega, Hl', hJ3, hBr3⟩
          case measure => simp [intOf]; omega
        · gi_wp2
          refine bodyPost_ret (results_none rfl _ _ _) rfl ?_
          exact ⟨⟨_, rfl⟩, .inr ⟨pre ++ [x], Hpre.out, hJx3⟩⟩
    · obtain rfl : q = 0 := by omega
      obtain ⟨hl1, hl2⟩ := Hl.out
      rw [chain_zero] at hl2
      obtain rfl : rest = [] := by cases rest <;> simp_all
      have Hx : Hid (subsF f = pre) := hid (by rw [hl1]; simp)
      clear hl1 hl2 Hl
      gi_wp2
      go_end0
      exact ⟨⟨_, rfl⟩, .inl ⟨pre, Hx.out.symm, hJs⟩⟩

set_option maxHeartbeats 1000000 in
/-- partsOf: its argument is boxed; the function value captures the box. -/
theorem parts_in (F : Fence) (n : Nat) (hF : F.fn 125) (hro : F.round = none) (x : Int) (w : World) :
    CallsIn F n Try.prog 125 #[.int .i64 x] w fun e w' => e = .returned (.func (.func 182) #[] #[.pointer (some ⟨w.heap.size, 0, none⟩)]) ∧ w' = w.alloc (.cells #[.int .i64 x] 2) := by
  refine callsIn_of_wp Try.func125 rfl hF ?_ hro
  simp only [Try.ntmps125, List.size_toArray, List.length_cons, List.length_nil, Nat.reduceAdd, Nat.reduceSub, Array.replicate_succ, Array.replicate_zero, List.push_toArray, List.append_toArray, List.nil_append, List.cons_append]
  gi_wp2
  go_ret
  exact ⟨rfl, rfl⟩

theorem parts_stops (F : Fence) (n : Nat) (hF : F.fn 182) (hro : F.round = none) (hn : 1 ≤ n) (B0 f : Nat) (hf : f < 64) (w : World) (hB : B0 < w.heap.size)
    (hc : w.heap[B0]? = some (.cells #[.int .i64 (f : Int)] 2 (0, 0))) :
    SeqStopsK F n Try.prog 182 #[.pointer (some ⟨B0, 0, none⟩)] (fun x : Fin 64 => #[Value.int .i64 (x.val : Int)]) (KeepB B0) (fun ys => ys = subsF f) (fun pre => pre <+: subsF f) 64 w :=
  fun l J Jx W hW _ _ hY h0 => parts1_in F n hF hro hn l B0 f hf J Jx hY W ((hW.block B0 hB).trans hc) h0

end Go.Proofs.Ytbaljngbmokiiaa

/-! A set of integers as a map to bools. -/
namespace Go.Proofs.Ytbaljngbmokiiaa
open Go.RowKit Go.Shelf

def knownFrom (D : DataW Unit) (pre : List Int) : DataW Unit := pre.foldl (fun D x => D.put (.int .i64 x) (.lit (.bool true))) D
def knownD (pre : List Int) : DataW Unit := knownFrom (.map []) pre

theorem knownD_snoc (pre : List Int) (x : Int) : knownD (pre ++ [x]) = (knownD pre).put (.int .i64 x) (.lit (.bool true)) := by simp [knownD, knownFrom]

theorem knownFrom_at (p : Int) : ∀ (pre : List Int) (D : DataW Unit), Maps.IsMap D → (knownFrom D pre).atKey (.int .i64 p) (.lit (.bool false)) = if p ∈ pre then .lit (.bool true) else D.atKey (.int .i64 p) (.lit (.bool false))
  | [], D, _ => by simp [knownFrom]
  | x :: pre, D, hD => by
    have ih := knownFrom_at p pre (D.put (.int .i64 x) (.lit (.bool true))) (hD.put _ _)
    have e : knownFrom D (x :: pre) = knownFrom (D.put (.int .i64 x) (.lit (.bool true))) pre := rfl
    rw [e, ih]
    by_cases hp : p ∈ pre
    · simp [hp]
    · by_cases hx : p = x
      · subst hx
        rw [if_neg hp, if_pos (by simp), Maps.atKey_put_same hD (show WideAt.IsKeyLit (.int .i64 p) from trivial)]
      · rw [if_neg hp, if_neg (by simp [hp, hx]), Maps.atKey_put_other (by simpa using hx)]

theorem knownD_at (p : Int) (pre : List Int) : (knownD pre).atKey (.int .i64 p) (.lit (.bool false)) = .lit (.bool (decide (p ∈ pre))) := by
  unfold knownD
  rw [knownFrom_at p pre _ Maps.isMap_empty]
  by_cases h : p ∈ pre
  · simp [h]
  · simp [h]
    rfl

set_option maxRecDepth 100000 in
theorem bool_inv {v : Value} {c : Bool} {ps : List MemPlace} (h : plainElem (H := Unit) Try.prog 4 v = some (.lit (.bool c), ps)) : v = .bool c := by
  unfold plainElem at h
  rw [Try.underlying4] at h
  cases v <;> simp at h
  rw [h.1]

theorem zero_bool (w : World) : (zeroValue 4).run Try.prog w = .ok (.bool false) w := by kernel_rfl

theorem lookup_known {w : World} {b n : Nat} {pre : List Int} (hown : w.ownsMap Try.prog 2 (plainElem (H := Unit) Try.prog 4) b n (knownD pre)) {p : Int} (hp : (Lit.int .i64 p).wf = true) :
    (Instr.lookup 123 (.map (some b)) (.int .i64 p) false).run Try.prog w = .ok (.bool (decide (p ∈ pre))) w := by
  obtain ⟨v, ps, hrun, hv⟩ := hown.lookup (Maps.int_keyed Try.underlying2) Try.underlying123 (zero_bool w) (plainElem_bool Try.underlying4 false) (Maps.keyOf_int_mk Try.underlying2 hp)
  rw [knownD_at] at hv
  rw [bool_inv hv] at hrun
  exact hrun

/-- 'known[p]', at the operation. -/
theorem at_known {F : Fence} {nF : Nat} {w : World} {ops : Array Oper} {rest : List Oper} {o : Oper} {a : Act} {Q : Exit → Act → World → Prop} (hg : o.guard = none) {m x : Operand} (hop : o.op = Op.lookup 123 m x false)
    {b n : Nat} {pre : List Int} (hown : w.ownsMap Try.prog 2 (plainElem (H := Unit) Try.prog 4) b n (knownD pre)) {p : Int} (hp : (Lit.int .i64 p).wf = true)
    (hm : a.eval m = .map (some b)) (hx : a.eval x = .int .i64 p) {c : Bool} (hc : decide (p ∈ pre) = c) (hK : wpListIn F nF Try.prog ops Q rest (a.put o.dst (.bool c)) w) :
    wpListIn F nF Try.prog ops Q (o :: rest) a w := by
  refine wpListIn_plain hg fun K' hK' => ?_
  have hrun := lookup_known hown hp
  rw [hc] at hrun
  unfold Oper.wpIn
  refine ⟨by simp [Oper.about, hop], ?_⟩
  rw [Oper.semAt_plain F _ _ (by rw [hop]; intro c hc'; cases hc')]
  simp [execOp, hop, hm, hx, hrun, Result.andThen]
  exact hK' _ _ hK

end Go.Proofs.Ytbaljngbmokiiaa
