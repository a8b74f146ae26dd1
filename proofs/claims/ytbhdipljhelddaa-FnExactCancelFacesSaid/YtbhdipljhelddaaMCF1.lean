import Derived.Test.YtbhdipljhelddaaProg
import Derived.WalkKit
import Derived.WalkSpells
import Derived.WalkLawsBesides
import Derived.Deep.QuietTactic
import Derived.BigQuiet
import Derived.Deep.RegionWith
import Derived.Deep.DrawnRows
import Derived.RangeFuncNested
import Derived.RangeFuncBound
import Derived.RangeFuncCalls
import Derived.RangeFuncLeaves
import Derived.Shelf.Abstract
import Derived.Shelf.RegionOpen
import Derived.OwnWalkIn
import Derived.TacticsInMore
import Derived.LoopNIn
import Derived.LoopIn
import Derived.Maps.OwnIn
import Derived.Maps.OwnSet
import Derived.Maps.AppendAt
/-! Facts on numbers under 64, by running through all of them. -/
namespace Go.Proofs.Ytbhdipljhelddaa

/-- The digit at place v of a number. -/
def bitN (f v : Nat) : Bool := f / 2 ^ v % 2 == 1

/-- Parts of f from p downwards, as the program finds them. -/
def chain (f : Nat) : Nat → Nat → List Nat
  | 0, _ => []
  | n + 1, p => if p = 0 then [] else p :: chain f n ((p - 1) &&& f)
def subs (f : Nat) : List Nat := chain f 64 f

theorem sub_chain : ∀ f : Fin 64, ∀ p : Fin 64, p.val ≠ 0 → p.val &&& f.val = p.val → p.val = f.val ∨ ∃ v : Fin 6, bitN f.val v.val = true ∧ f.val ≠ 2 ^ v.val ∧ p.val &&& (f.val - 2 ^ v.val) = p.val := by decide +kernel
theorem next_sub : ∀ f : Fin 64, ∀ p : Fin 64, 0 < p.val → p.val &&& f.val = p.val → ∀ q : Fin 64, q.val < p.val → q.val &&& f.val = q.val → q.val ≤ (p.val - 1) &&& f.val := by decide +kernel
theorem next_is : ∀ f : Fin 64, ∀ p : Fin 64, 0 < p.val → ((p.val - 1) &&& f.val) < p.val ∧ ((p.val - 1) &&& f.val) &&& f.val = ((p.val - 1) &&& f.val) := by decide +kernel
theorem bit_sub : ∀ f : Fin 64, ∀ v : Fin 6, bitN f.val v.val = true → (f.val - 2 ^ v.val) &&& f.val = f.val - 2 ^ v.val ∧ 2 ^ v.val ≤ f.val := by decide +kernel
theorem mem_subs' : ∀ f : Fin 64, ∀ x : Fin 64, x.val ∈ subs f.val ↔ x.val ≠ 0 ∧ x.val &&& f.val = x.val := by decide +kernel
theorem bit_big : ∀ f : Fin 64, ∀ v : Fin 63, 6 ≤ v.val → bitN f.val v.val = false := by decide +kernel

theorem subs_len' : ∀ f : Fin 64, (subs f.val).length ≤ 63 := by decide +kernel

/-- How many digits 1 a number under 64 has. -/
def ones (f : Nat) : Nat := f % 2 + f / 2 % 2 + f / 4 % 2 + f / 8 % 2 + f / 16 % 2 + f / 32 % 2

theorem ones_half {r : Nat} (h : r < 64) : ones r = r % 2 + ones (r / 2) := by unfold ones; omega
theorem ones_zero : ones 0 = 0 := rfl
theorem ones_le (f : Nat) : ones f ≤ 6 := by unfold ones; omega
theorem ones_pos : ∀ f : Fin 64, f.val ≠ 0 → 0 < ones f.val := by decide +kernel

end Go.Proofs.Ytbhdipljhelddaa

namespace Go.Proofs.Ytbhdipljhelddaa



/-- All vertices of a complex with V of them. -/
def allV (V : Int) : Int := 2 ^ V.toNat - 1

theorem allV_le {V : Int} (h : V ≤ 6) : allV V ≤ 63 := by
  have h1 : V.toNat ≤ 6 := by omega
  have h2 : (2 : Nat) ^ V.toNat ≤ 2 ^ 6 := Nat.pow_le_pow_right (by decide) h1
  have h3 : ((2 ^ V.toNat : Nat) : Int) ≤ 64 := by exact_mod_cast h2
  simp only [Int.natCast_pow] at h3
  unfold allV
  have : ((2 : Nat) : Int) = 2 := rfl
  rw [this] at h3
  omega

/-- (V, fs) is a complex. -/
structure IsC (V : Int) (fs : List Int) : Prop where
  lo : 1 ≤ V
  hi : V ≤ 6
  range : ∀ x ∈ fs, 1 ≤ x ∧ x ≤ allV V
  asc : fs.Pairwise (· < ·)
  closed : ∀ x ∈ fs, ∀ p : Nat, p ≠ 0 → p &&& x.toNat = p → (p : Int) ∈ fs

theorem IsC.range63 {V : Int} {fs : List Int} (h : IsC V fs) : ∀ x ∈ fs, 1 ≤ x ∧ x ≤ 63 := fun x hx => ⟨(h.range x hx).1, by have := allV_le h.hi; have := (h.range x hx).2; omega⟩

theorem and_le_left' (p x : Nat) (h : p &&& x = p) : p ≤ x := by rw [← h]; exact Nat.and_le_right

/-- One vertex less is enough. -/
theorem closed_of_step {fs : List Int} (hr : ∀ x ∈ fs, 1 ≤ x ∧ x ≤ 63)
    (hs : ∀ x ∈ fs, ∀ v : Nat, v < 6 → bitN x.toNat v = true → x ≠ 2 ^ v → x - 2 ^ v ∈ fs) :
    ∀ x ∈ fs, ∀ p : Nat, p ≠ 0 → p &&& x.toNat = p → (p : Int) ∈ fs := by
  have key : ∀ n : Nat, ∀ x ∈ fs, x.toNat ≤ n → ∀ p : Nat, p ≠ 0 → p &&& x.toNat = p → (p : Int) ∈ fs := by
    intro n
    induction n with
    | zero => intro x hx hn; have := hr x hx; omega
    | succ n ih =>
      intro x hx hn p hp hpx
      have hx1 := hr x hx
      have hple := and_le_left' _ _ hpx
      rcases sub_chain ⟨x.toNat, by omega⟩ ⟨p, by omega⟩ hp hpx with h | ⟨v, hv, hne, hsub⟩
      · simp only at h
        rw [h, Int.toNat_of_nonneg (by omega)]; exact hx
      · simp only at hv hne hsub
        have hb := (bit_sub ⟨x.toNat, by omega⟩ v hv).2
        simp only at hb
        have hpos : 0 < 2 ^ v.val := Nat.two_pow_pos _
        have hc : ((2 ^ v.val : Nat) : Int) = 2 ^ v.val := by simp
        have hm := hs x hx v.val v.isLt hv (by rw [← hc]; omega)
        refine ih (x - 2 ^ v.val) hm (by rw [← hc]; omega) p hp ?_
        rw [show (x - 2 ^ v.val : Int).toNat = x.toNat - 2 ^ v.val by rw [← hc]; omega]
        exact hsub
  exact fun x hx => key x.toNat x hx (Nat.le_refl _)

theorem step_of_closed {fs : List Int} (hr : ∀ x ∈ fs, 1 ≤ x ∧ x ≤ 63)
    (h : ∀ x ∈ fs, ∀ p : Nat, p ≠ 0 → p &&& x.toNat = p → (p : Int) ∈ fs) :
    ∀ x ∈ fs, ∀ v : Nat, v < 6 → bitN x.toNat v = true → x ≠ 2 ^ v → x - 2 ^ v ∈ fs := by
  intro x hx v hv hb hne
  have hx1 := hr x hx
  obtain ⟨h1, h2⟩ := bit_sub ⟨x.toNat, by omega⟩ ⟨v, hv⟩ hb
  simp only at h1 h2
  have hc : ((2 ^ v : Nat) : Int) = 2 ^ v := by simp
  have := h x hx (x.toNat - 2 ^ v) (by rw [← hc] at hne; omega) h1
  rwa [show ((x.toNat - 2 ^ v : Nat) : Int) = x - 2 ^ v by rw [← hc]; omega] at this




theorem chain_fuel (f : Nat) : ∀ n m p : Nat, p ≤ n → p ≤ m → chain f n p = chain f m p := by
  intro n
  induction n with
  | zero => intro m p h1 _; obtain rfl : p = 0 := by omega
            cases m <;> simp [chain]
  | succ n ih =>
    intro m p h1 h2
    cases m with
    | zero => obtain rfl : p = 0 := by omega
              simp [chain]
    | succ m =>
      unfold chain
      by_cases hp : p = 0
      · simp [hp]
      · have h3 : (p - 1) &&& f ≤ p - 1 := Nat.and_le_left
        simp only [hp, if_false]
        rw [ih m _ (by omega) (by omega)]

theorem chain_pos {f n p : Nat} (hp : 0 < p) (hn : p ≤ n) : chain f n p = p :: chain f n ((p - 1) &&& f) := by
  cases n with
  | zero => omega
  | succ n =>
    have h3 : (p - 1) &&& f ≤ p - 1 := Nat.and_le_left
    conv => lhs; unfold chain
    rw [if_neg (by omega), chain_fuel f n (n + 1) _ (by omega) (by omega)]

theorem chain_zero (f n : Nat) : chain f n 0 = [] := by cases n <;> simp [chain]

theorem mem_subs {f x : Nat} (hf : f < 64) : x ∈ subs f ↔ x ≠ 0 ∧ x &&& f = x := by
  have hle : ∀ n p, ∀ y ∈ chain f n p, y ≤ p := by
    intro n
    induction n with
    | zero => intro p y hy; simp [chain] at hy
    | succ n ih =>
      intro p y hy
      unfold chain at hy
      split at hy
      · simp at hy
      · rcases List.mem_cons.1 hy with rfl | h
        · exact Nat.le_refl _
        · have := ih _ _ h
          have h3 : (p - 1) &&& f ≤ p - 1 := Nat.and_le_left
          omega
  constructor
  · intro h
    have hx := hle _ _ _ h
    exact (mem_subs' ⟨f, hf⟩ ⟨x, by omega⟩).1 h
  · intro h
    have hx := and_le_left' _ _ h.2
    exact (mem_subs' ⟨f, hf⟩ ⟨x, by omega⟩).2 h

noncomputable def isCB (V : Int) (fs : List Int) : Bool := @decide (IsC V fs) (Classical.propDecidable _)
theorem isCB_true {V : Int} {fs : List Int} (h : IsC V fs) : isCB V fs = true := by unfold isCB; exact @decide_eq_true _ (Classical.propDecidable _) h
theorem isCB_false {V : Int} {fs : List Int} (h : ¬ IsC V fs) : isCB V fs = false := by unfold isCB; exact @decide_eq_false _ (Classical.propDecidable _) h
theorem isCB_iff {V : Int} {fs : List Int} : isCB V fs = true ↔ IsC V fs := by unfold isCB; exact @decide_eq_true_iff _ (Classical.propDecidable _)

/-! ### face by face, in order -/
theorem isC_nil {V : Int} (h1 : 1 ≤ V) (h2 : V ≤ 6) : IsC V [] := ⟨h1, h2, by simp, List.Pairwise.nil, by simp⟩

theorem isC_snoc {V : Int} {pre : List Int} {x : Int} (h : IsC V pre) (hlt : ∀ y ∈ pre, y < x) (h1 : 1 ≤ x) (h2 : x ≤ allV V)
    (hp : ∀ p : Nat, p ≠ 0 → p &&& x.toNat = p → (p : Int) ∈ pre ++ [x]) : IsC V (pre ++ [x]) := by
  refine ⟨h.lo, h.hi, ?_, ?_, ?_⟩
  · intro y hy
    rcases List.mem_append.1 hy with hy | hy
    · exact h.range y hy
    · simp at hy; subst hy; exact ⟨h1, h2⟩
  · rw [List.pairwise_append]
    exact ⟨h.asc, by simp, fun a ha b hb => by simp at hb; subst hb; exact hlt a ha⟩
  · intro y hy p hp0 hpy
    rcases List.mem_append.1 hy with hy | hy
    · exact List.mem_append.2 (.inl (h.closed y hy p hp0 hpy))
    · simp at hy; subst hy; exact hp p hp0 hpy

theorem isC_head {V : Int} {pre rest : List Int} {x : Int} (h : IsC V (pre ++ x :: rest)) : (∀ y ∈ pre, y < x) ∧ 1 ≤ x ∧ x ≤ allV V :=
  ⟨fun y hy => (List.pairwise_append.1 h.asc).2.2 y hy x (by simp), h.range x (by simp)⟩

theorem isC_parts {V : Int} {pre rest : List Int} {x : Int} (h : IsC V (pre ++ x :: rest)) {p : Nat} (hp : p ≠ 0) (hpx : p &&& x.toNat = p) : (p : Int) ∈ pre ++ [x] := by
  have hx := (h.range63 x (by simp))
  have hm := h.closed x (by simp) p hp hpx
  have hple := and_le_left' _ _ hpx
  rcases List.mem_append.1 hm with hm | hm
  · exact List.mem_append.2 (.inl hm)
  · rcases List.mem_cons.1 hm with hm | hm
    · rw [hm]; simp
    · have := (List.pairwise_cons.1 (List.pairwise_append.1 h.asc).2.1).1 _ hm
      omega

/-- What the model finds below a face: m places have been looked at, from 62 downwards. -/
def belowR (f : Nat) : Nat → List Int
  | 0 => []
  | m + 1 => belowR f m ++ (if bitN f (62 - m) && f != 2 ^ (62 - m) then [(f : Int) - 2 ^ (62 - m)] else [])

theorem belowR_len (f : Nat) : ∀ m, (belowR f m).length ≤ m
  | 0 => by simp [belowR]
  | m + 1 => by
    have := belowR_len f m
    simp only [belowR, List.length_append]
    split <;> simp <;> omega

theorem mem_belowR {f : Nat} {y : Int} : ∀ m, m ≤ 63 → (y ∈ belowR f m ↔ ∃ v, v < 63 ∧ 63 - m ≤ v ∧ bitN f v = true ∧ f ≠ 2 ^ v ∧ y = f - 2 ^ v)
  | 0, _ => by simp [belowR]; intro v h1 h2; omega
  | m + 1, hm => by
    have ih := mem_belowR (f := f) (y := y) m (by omega)
    simp only [belowR, List.mem_append, ih]
    constructor
    · rintro (⟨v, h1, h2, h3⟩ | h)
      · exact ⟨v, h1, by omega, h3⟩
      · split at h
        · rename_i hb
          simp at hb h
          exact ⟨62 - m, by omega, by omega, hb.1, hb.2, h⟩
        · simp at h
    · rintro ⟨v, h1, h2, h3, h4, h5⟩
      by_cases hv : v = 62 - m
      · subst hv
        right
        rw [if_pos (by simp [h3, h4])]
        simp [h5]
      · exact .inl ⟨v, h1, by omega, h3, h4, h5⟩


theorem getD_mem {xs : List Int} {k : Nat} (h : k < xs.length) : xs[k]?.getD 0 ∈ xs := by
  rw [List.getElem?_eq_getElem h]; simp

theorem mem_getD {xs : List Int} {x : Int} (h : x ∈ xs) : ∃ k, k < xs.length ∧ xs[k]?.getD 0 = x := by
  obtain ⟨k, hk, e⟩ := List.mem_iff_getElem.1 h
  exact ⟨k, hk, by rw [List.getElem?_eq_getElem hk]; simpa using e⟩

/-- What the model asks, face by face. -/
theorem isC_of_looks {V : Int} {fs : List Int} (h1 : 1 ≤ V) (h2 : V ≤ 6) (hr : ∀ j, j < fs.length → 1 ≤ fs[j]?.getD 0 ∧ fs[j]?.getD 0 ≤ allV V)
    (ha : ∀ j, 0 < j → j < fs.length → fs[j - 1]?.getD 0 < fs[j]?.getD 0) (hb : ∀ j, j < fs.length → ∀ y ∈ belowR (fs[j]?.getD 0).toNat 63, y ∈ fs) : IsC V fs := by
  have hrange : ∀ x ∈ fs, 1 ≤ x ∧ x ≤ allV V := fun x hx => by obtain ⟨k, hk, e⟩ := mem_getD hx; rw [← e]; exact hr k hk
  have h63 : ∀ x ∈ fs, 1 ≤ x ∧ x ≤ 63 := fun x hx => ⟨(hrange x hx).1, by have := allV_le h2; have := (hrange x hx).2; omega⟩
  refine ⟨h1, h2, hrange, ?_, closed_of_step h63 ?_⟩
  · have key : ∀ i d, i + d + 1 < fs.length → fs[i]?.getD 0 < fs[i + d + 1]?.getD 0 := by
      intro i d
      induction d with
      | zero => intro h; exact ha (i + 1) (by omega) h
      | succ d ih => intro h; have h3 := ih (by omega); have h4 := ha (i + (d + 1) + 1) (by omega) h; simp only [Nat.add_sub_cancel] at h4; have e : i + (d + 1) = i + d + 1 := by omega
                     rw [e] at h4; rw [e]; omega
    rw [List.pairwise_iff_getElem]
    intro i j hi hj hij
    have := key i (j - i - 1) (by omega)
    rw [show i + (j - i - 1) + 1 = j by omega, List.getElem?_eq_getElem hi, List.getElem?_eq_getElem hj] at this
    simpa using this
  · intro x hx v hv hbit hne
    obtain ⟨k, hk, e⟩ := mem_getD hx
    have hx1 := h63 x hx
    refine hb k hk _ ((mem_belowR 63 (Nat.le_refl _)).2 ⟨v, by omega, by omega, by rw [e]; exact hbit, ?_, ?_⟩)
    · rw [e]; intro h; apply hne; have : ((x.toNat : Nat) : Int) = ((2 ^ v : Nat) : Int) := by rw [h]
      rw [Int.toNat_of_nonneg (by omega)] at this; simpa using this
    · rw [e, Int.toNat_of_nonneg (by omega)]

theorem isC_looks_range {V : Int} {fs : List Int} (h : IsC V fs) {j : Nat} (hj : j < fs.length) : 1 ≤ fs[j]?.getD 0 ∧ fs[j]?.getD 0 ≤ allV V := h.range _ (getD_mem hj)
theorem isC_looks_asc {V : Int} {fs : List Int} (h : IsC V fs) {j : Nat} (h0 : 0 < j) (hj : j < fs.length) : fs[j - 1]?.getD 0 < fs[j]?.getD 0 := by
  have := List.pairwise_iff_getElem.1 h.asc (j - 1) j (by omega) hj (by omega)
  rw [List.getElem?_eq_getElem (show j - 1 < fs.length by omega), List.getElem?_eq_getElem hj]
  simpa using this
theorem isC_looks_below {V : Int} {fs : List Int} (h : IsC V fs) {j : Nat} (hj : j < fs.length) {y : Int} (hy : y ∈ belowR (fs[j]?.getD 0).toNat 63) : y ∈ fs := by
  have hm := getD_mem hj
  have hx := h.range63 _ hm
  obtain ⟨v, h1, _, h3, h4, h5⟩ := (mem_belowR 63 (Nat.le_refl _)).1 hy
  have hc : ((2 ^ v : Nat) : Int) = 2 ^ v := by simp
  by_cases hv : v < 6
  · have hne : fs[j]?.getD 0 ≠ 2 ^ v := by
      intro e
      apply h4
      rw [e, ← hc]
      rfl
    have := step_of_closed h.range63 h.closed _ hm v hv h3 hne
    rw [h5, Int.toNat_of_nonneg (by omega)]; exact this
  · have hb := bit_big ⟨(fs[j]?.getD 0).toNat, by omega⟩ ⟨v, h1⟩ (by simp only; omega)
    simp only at hb
    rw [hb] at h3; cases h3

end Go.Proofs.Ytbhdipljhelddaa

/-! Small lemmas for all walks: slices of integers as lists, hidden facts, endings. -/
namespace Go.Proofs.Ytbhdipljhelddaa
open Go.RowKit

theorem hid {p : Prop} (h : p) : Hid p := h
theorem ret_bool {a b : Bool} (h : a = b) : Ending.returned (.bool a) = .returned (.bool b) := by rw [h]
theorem ret_int {k : IntKind} {a b : Int} (h : a = b) : Ending.returned (.int k a) = .returned (.int k b) := by rw [h]

/-- At address a (of a block below B) lie the integers xs. -/
def SlI (w : World) (B : Nat) (a : Option Addr) (xs : List Int) : Prop :=
  xs = [] ∨ ∃ b off, b < B ∧ a = some ⟨b, off, none⟩ ∧ ∀ i, i < xs.length → w.cell? ⟨b, off + i, none⟩ = some (.int .i64 (xs[i]?.getD 0))

theorem SlI.mono {w : World} {B B' : Nat} {a : Option Addr} {xs : List Int} (h : SlI w B a xs) (hB : B ≤ B') : SlI w B' a xs := by
  rcases h with rfl | ⟨b, off, hb, rfl, hc⟩
  · exact .inl rfl
  · exact .inr ⟨b, off, by omega, rfl, hc⟩

theorem SlI.below {w w' : World} {B : Nat} {a : Option Addr} {xs : List Int} (h : SlI w B a xs) (hw : Below B w w') : SlI w' B a xs := by
  rcases h with rfl | ⟨b, off, hb, rfl, hc⟩
  · exact .inl rfl
  · exact .inr ⟨b, off, hb, rfl, fun i hi => (hw.cell (p := ⟨b, off + i, none⟩) hb).trans (hc i hi)⟩

/-- .. as the arguments of a later call. -/
theorem SlI.later {w w' : World} {B : Nat} {a : Option Addr} {xs : List Int} (h : SlI w B a xs) (hw : Below B w w') (hB : B ≤ w'.heap.size) : SlI w' w'.heap.size a xs :=
  (h.below hw).mono hB

/-- What a call owns reads as a slice. -/
theorem ownsRow_slI {w : World} {base e : Nat} {v : Value} {n : Nat} {xs : List Int} (h : w.ownsRow base e 1 v n (xs.map (Value.int .i64))) :
    n = xs.length ∧ ∃ a cap, v = .slice a xs.length cap ∧ SlI w w.heap.size a xs := by
  have hl := h.1
  simp at hl
  subst hl
  refine ⟨rfl, ?_⟩
  rcases h.2 with ⟨rfl, hn⟩ | ⟨g, cap, cur, rfl, _, hg, _⟩
  · have hx : xs = [] := List.eq_nil_of_length_eq_zero hn
    subst hx
    exact ⟨none, 0, rfl, .inl rfl⟩
  · refine ⟨_, cap, rfl, .inr ⟨g, 0, (Array.getElem?_eq_some_iff.1 hg).1, rfl, fun i hi => ?_⟩⟩
    have := h.cells (g := g) rfl i (.int .i64 (xs[i]?.getD 0)) (by simp [hi])
    have hadd : (⟨g, 0, none⟩ : Addr).add i = ⟨g, i, none⟩ := by unfold Addr.add; split <;> simp_all
    rw [hadd] at this
    simpa using this

theorem take_snoc {xs : List Int} {k : Nat} (h : k < xs.length) : xs.take (k + 1) = xs.take k ++ [xs[k]?.getD 0] := by
  rw [List.take_succ_eq_append_getElem h, List.getElem?_eq_getElem h]; simp

theorem split_at {xs : List Int} {k : Nat} (h : k < xs.length) : xs = xs.take k ++ xs[k]?.getD 0 :: xs.drop (k + 1) := by
  rw [List.getElem?_eq_getElem h]
  simp

theorem info_i64 : (Try.prog.info? 2).map (fun i => (i.zero, i.size, i.bytes)) = some (some (.int .i64 0), 1, 8) := by kernel_rfl

theorem all_wrap {V : Int} (h1 : 0 ≤ V) (h2 : V ≤ 6) : wrap64 (wrap64 (2 ^ V.toNat) - 1) = allV V := by
  rcases (show V = 0 ∨ V = 1 ∨ V = 2 ∨ V = 3 ∨ V = 4 ∨ V = 5 ∨ V = 6 by omega) with rfl | rfl | rfl | rfl | rfl | rfl | rfl <;> decide +kernel

theorem bit_one {f v : Nat} (hf : f < 64) : bits BinOp.and IntKind.i64 ((f : Int) / 2 ^ v) 1 = if bitN f v then 1 else 0 := by
  have e : ((f : Int) / 2 ^ v) = ((f / 2 ^ v : Nat) : Int) := by simp
  have hle : f / 2 ^ v ≤ f := Nat.div_le_self _ _
  rw [e]
  have h := (bits_nat .i64 6 (by decide) (fun n h0 h1 => by rw [IntKind.wrap_i64]; omega) (f / 2 ^ v) 1 (by omega) (by decide)).1
  have h' : bits BinOp.and IntKind.i64 ((f / 2 ^ v : Nat) : Int) 1 = ((f / 2 ^ v &&& 1 : Nat) : Int) := h
  rw [h', Nat.and_one_is_mod]
  unfold bitN
  rcases Nat.mod_two_eq_zero_or_one (f / 2 ^ v) with h0 | h0 <;> simp [h0]

theorem pow62 {v : Nat} (hv : v ≤ 62) : (2 : Nat) ^ v ≤ 4611686018427387904 := by
  have h2 : (2 : Nat) ^ v ≤ 2 ^ 62 := Nat.pow_le_pow_right (by decide) hv
  simpa using h2

theorem pow_wrap {v : Nat} (hv : v ≤ 62) : wrap64 (2 ^ v) = ((2 ^ v : Nat) : Int) := by
  have h2 := pow62 hv
  rw [show ((2 : Int) ^ v) = ((2 ^ v : Nat) : Int) by simp]
  generalize (2 : Nat) ^ v = q at *
  exact IntWalk.wrap64_in _ ⟨by omega, by omega⟩

theorem pow_cast (v : Nat) : ((2 : Int) ^ v) = ((2 ^ v : Nat) : Int) := by simp

theorem sub_wrap {f v : Nat} (hf : f < 64) (hv : v ≤ 62) : wrap64 ((f : Int) - wrap64 (2 ^ v)) = (f : Int) - 2 ^ v := by
  have h2 := pow62 hv
  rw [pow_wrap hv, pow_cast]
  generalize (2 : Nat) ^ v = q at *
  exact IntWalk.wrap64_in _ ⟨by omega, by omega⟩

theorem ne_wrap {f v : Nat} (hv : v ≤ 62) : ((f : Int) != wrap64 (2 ^ v)) = (f != 2 ^ v) := by
  rw [pow_wrap hv]
  rw [Bool.eq_iff_iff]; simp only [bne_iff_ne, ne_eq]; rw [Int.natCast_inj]

/-- 'out = append(out, x)' on a slice of int64 that the call itself has made. -/
theorem append_int {w : World} {ops : Array Oper} {rest : List Oper} {o : Oper} {a : Act} {Q : Exit → Act → World → Prop} (hgd : o.guard = none) {s y : Operand}
    (ho : o.op = .call { callee := .builtin .append, args := #[s, y], argTypes := #[22, 22] })
    {base : Nat} {v : Value} {xs : List Int} {x : Int} (hown : w.ownsRow base 2 1 v xs.length (xs.map (Value.int .i64))) (hbase : base ≤ w.heap.size) (hl : xs.length ≤ 1099511627776)
    (hs : a.eval s = v) (hy : a.eval y = .slice (some ⟨w.heap.size, 0, none⟩) 1 1)
    (hK : ∀ v' w', w'.ownsRow base 2 1 v' (xs ++ [x]).length ((xs ++ [x]).map (Value.int .i64)) → w.grownBy w' v.ownBlock → Below base w w' → wpList Try.prog ops Q rest (a.put o.dst v') w') :
    wpList Try.prog ops Q (o :: rest) a (w.alloc (.cells #[.int .i64 x] 2)) := by
  obtain ⟨i0, hi, hz0, hz1, hz2⟩ := info_parts info_i64
  refine wpList_append_own _ hgd s y 22 ho base 2 i0 (.int .i64 0) 1 8 Try.underlying22 hi hz0 hz1 hz2 rfl (by decide) v _ _ hs (hown.alloc _) ⟨w.heap.size, 0, none⟩ 1 1 [.int .i64 x] hy rfl (cell_one_new _ _ _) (by simp [Value.oneCell']) (by unfold maxLen; omega) (by omega) (by simp; omega) ?_
  intro v' w1 hown1 hgrow1 _
  have hg : w.grownBy w1 v.ownBlock := (World.grownBy_alloc w _ _).trans hgrow1
  refine hK v' w1 (by simpa using hown1) hg ((Below.refl base w).grown hg hbase (fun k hk => (hown.lt k hk).1))

/-- A callee that leaves the world alone, in a region that draws its order. -/
theorem quiet_of_eq {P : Program} {f : FuncId} {args : Array Value} {w : World} {n : Nat} {v : Value}
    (h : Calls P f args (w.drewN n) fun e w' => e = .returned v ∧ w.drewN n = w') : Calls P f args (w.drewN n) fun e w'' => e = .returned v ∧ ∃ m, w'' = w.drewN m :=
  h.mono fun _ _ ⟨he, hm⟩ => ⟨he, n, hm.symm⟩

/-- 'make([]int64, n)'. -/
theorem make_int {w : World} {ops : Array Oper} {rest : List Oper} {o : Oper} {a : Act} {Q : Exit → Act → World → Prop} (hgd : o.guard = none) {l c : Operand} (hop : o.op = Op.makeSlice 22 l c)
    {n : Nat} (hl : a.eval l = .int .i64 (n : Int)) (hc : a.eval c = .int .i64 (n : Int)) (hn : n ≤ 1099511627776)
    (hK : ∀ w', w'.ownsRow w.heap.size 2 1 (.slice (some ⟨w.heap.size, 0, none⟩) n n) n ((List.replicate n (0 : Int)).map (Value.int .i64)) → w.grownBy w' none → Below w.heap.size w w' →
      wpList Try.prog ops Q rest (a.put o.dst (.slice (some ⟨w.heap.size, 0, none⟩) n n)) w') :
    wpList Try.prog ops Q (o :: rest) a w := by
  obtain ⟨i0, hi, hz0, hz1, hz2⟩ := info_parts info_i64
  refine wpList_make_full w hgd l c 22 hop w.heap.size 2 i0 (.int .i64 0) 1 Try.underlying22 hi hz0 hz1 .i64 .i64 _ _ n hl hc rfl rfl (by rw [hz2]; omega) (by unfold maxLen; omega) (Nat.le_refl _) ?_
  intro w' hown hg
  have e : (madeCells (Value.int .i64 0).cells (n * 1)).toList = (List.replicate n (0 : Int)).map (Value.int .i64) := by
    rw [Nat.mul_one]
    exact (toList_madeCells_one _ _).trans (by simp)
  rw [e] at hown
  exact hK w' hown hg ((Below.refl _ w).grown hg (Nat.le_refl _) (fun k hk => by cases hk))

theorem grownBy_set (w : World) (a : Addr) (u : Value) : w.grownBy (w.setCell a u) (some a.block) :=
  ⟨rfl, rfl, rfl, by simp [World.setCell], fun k _ hk => Below.heap_setCell _ _ _ _ (fun e => hk (by rw [e]))⟩

theorem ownsRow_set {w : World} {base e size : Nat} {v : Value} {n : Nat} {xs : List Value} (h : w.ownsRow base e size v n xs) {a : Addr} (ha : v.ownBlock ≠ some a.block) (u : Value) : (w.setCell a u).ownsRow base e size v n xs :=
  h.kept (grownBy_set w a u) (.inr ha)

theorem ownsRow_base {w : World} {base base' e size : Nat} {v : Value} {n : Nat} {xs : List Value} (h : w.ownsRow base e size v n xs) (hb : base' ≤ base) : w.ownsRow base' e size v n xs := by
  refine ⟨h.1, ?_⟩
  rcases h.2 with hn | ⟨g, cap, cur, rfl, hg, rest⟩
  · exact .inl hn
  · exact .inr ⟨g, cap, cur, rfl, by omega, rest⟩

/-- What is owned above a number stays so while what lies below it is kept. -/
theorem ownsRow_below {w w' : World} {base B e size : Nat} {v : Value} {n : Nat} {xs : List Value} (h : w.ownsRow base e size v n xs) (hb : Below B w w') (hB : ∀ g, v.ownBlock = some g → g < B) : w'.ownsRow base e size v n xs := by
  refine ⟨h.1, ?_⟩
  rcases h.2 with hn | ⟨g, cap, cur, rfl, hg, hh, rest⟩
  · exact .inl hn
  · exact .inr ⟨g, cap, cur, rfl, hg, (hb.block g (hB g rfl)).trans hh, rest⟩

theorem owned_slI {w : World} {base e : Nat} {a : Option Addr} {n m cap : Nat} {xs : List Int} (h : w.ownsRow base e 1 (.slice a m cap) n (xs.map (Value.int .i64))) : SlI w w.heap.size a xs := by
  obtain ⟨_, a', cap', he, hs⟩ := ownsRow_slI h
  cases he
  exact hs

theorem owned_len {w : World} {base e : Nat} {v : Value} {n : Nat} {xs : List Int} (h : w.ownsRow base e 1 v n (xs.map (Value.int .i64))) : n = xs.length := (ownsRow_slI h).1

end Go.Proofs.Ytbhdipljhelddaa

/-! Contracts of the model's functions of layer 1: has, is. -/
namespace Go.Proofs.Ytbhdipljhelddaa
open Go.RowKit

set_option maxHeartbeats 400000 in
theorem has_any (V f : Int) (a : Option Addr) (cap : Nat) (xs : List Int) (w : World) (hx : SlI w w.heap.size a xs) (hl : xs.length ≤ 1048576) :
    Calls Try.prog 94 #[.agg #[.int .i64 V, .slice a xs.length cap], .int .i64 f] w fun e w' => e = .returned (.bool (decide (f ∈ xs))) ∧ Below w.heap.size w w' := by
  have hB : ∀ x, Below w.heap.size w (w.alloc x) := fun x => (Below.refl _ w).alloc (Nat.le_refl _) _
  rcases hx with rfl | ⟨b, off, hb, rfl, hc⟩
  · go_enter Try.func94, Try.ntmps94
    go_wp2
    refine wp_loop_rounds 1 ?_; rw [rounds_succ]
    go_wp2
    go_ret
    exact ⟨ret_bool (by simp), hB _⟩
  · have hne : b ≠ w.heap.size := by omega
    go_enter Try.func94, Try.ntmps94
    go_wp2
    go_loop [5] (fun i => ∃ k : Nat, k ≤ xs.length ∧ i = .int .i64 k ∧ ∀ j, j < k → xs[j]?.getD 0 ≠ f) (fun i => xs.length - (intOf i).toNat)
    case atStart => exact ⟨0, Nat.zero_le _, rfl, by omega⟩
    case round =>
      obtain ⟨k, hk, rfl, hno⟩ := hrel
      have Hno := hid hno
      clear hno
      by_cases hlt : k < xs.length
      · have hck := hc k hlt
        have Hc := hid hc
        clear hc
        have hm := getD_mem hlt
        go_wp2
        · go_ret
          refine ⟨ret_bool ?_, hB _⟩
          have e : (xs[k] == f) = true := by assumption
          rw [List.getElem?_eq_getElem hlt] at hm
          have e' := eq_of_beq e
          rw [← e']; symm; exact decide_eq_true (by simp)
        · go_round
          case rel =>
            have e : (xs[k] == f) = false := by assumption
            refine ⟨k + 1, by omega, by go_num, fun j hj => ?_⟩
            by_cases hjk : j = k
            · subst hjk; rw [List.getElem?_eq_getElem hlt]; simpa using e
            · exact Hno.out j (by omega)
          case measure => simp [intOf]; omega
      · go_wp2
        go_ret
        refine ⟨ret_bool ?_, hB _⟩
        symm
        refine decide_eq_false (fun hm => ?_)
        obtain ⟨j, hj, e⟩ := mem_getD hm
        exact Hno.out j (by omega) e

set_option maxHeartbeats 400000 in
theorem in_any (n lo hi : Int) (w : World) :
    Calls Try.prog 70 #[.int .i64 n, .int .i64 lo, .int .i64 hi] w fun e w' => e = .returned (.bool (decide (lo ≤ n) && decide (n ≤ hi))) ∧ w = w' := by
  go_enter Try.func70, Try.ntmps70
  go_wp2
  · have h : lo ≤ n := by assumption
    go_ret
    exact ⟨ret_bool (by simp [h]), rfl⟩
  · have h : n < lo := by assumption
    go_ret
    exact ⟨ret_bool (by rw [decide_eq_false (show ¬ lo ≤ n by omega)]; rfl), rfl⟩

set_option maxHeartbeats 400000 in
theorem all_any (V : Int) (w : World) (h1 : 0 ≤ V) (h2 : V ≤ 6) :
    Calls Try.prog 93 #[.int .i64 V] w fun e w' => e = .returned (.int .i64 (allV V)) ∧ w = w' := by
  go_enter Try.func93, Try.ntmps93
  go_wp2
  go_ret
  exact ⟨ret_int (all_wrap h1 h2), rfl⟩

set_option maxHeartbeats 400000 in
theorem below_any (f : Nat) (w : World) (h2 : f < 64) :
    Calls Try.prog 52 #[.int .i64 f] w fun e w' => ∃ v, e = .returned v ∧ w'.ownsRow w.heap.size 2 1 v (belowR f 63).length ((belowR f 63).map (Value.int .i64)) ∧ Below w.heap.size w w' := by
  go_enter Try.func52, Try.ntmps52
  go_wp2
  go_loopw [3, 4] (fun v i wr => ∃ m : Nat, m ≤ 63 ∧ i = .int .i64 (62 - m) ∧ wr.ownsRow w.heap.size 2 1 v (belowR f m).length ((belowR f m).map (Value.int .i64)) ∧ Below w.heap.size w wr) (fun _ i _ => (1 + intOf i).toNat)
  case atStart =>
    exact ⟨0, by omega, by simp, World.ownsRow_made w #[] 0 (Nat.le_refl _) (by simp [maxLen]) rfl, (Below.refl _ w).alloc (Nat.le_refl _) _⟩
  case round =>
    obtain ⟨m, hm, rfl, hown, hB⟩ := hrel
    by_cases hlt : m < 63
    · have hz : (0 : Int) ≤ 62 - m := by omega
      have hlen := belowR_len f m
      have hbit := bit_one (v := 62 - m) h2
      have hne := ne_wrap (f := f) (v := 62 - m) (by omega)
      have hsub := sub_wrap (v := 62 - m) h2 (by omega)
      have Hd : Hid (∀ b, (bitN f (62 - m) && f != 2 ^ (62 - m)) = b → belowR f (m + 1) = belowR f m ++ (if b then [(f : Int) - 2 ^ (62 - m)] else [])) := by
        intro b hb; rw [belowR, hb]
      have Hs := hid hsub
      clear hsub
      have hsz := hB.size
      by_cases hb : bitN f (62 - m) = true
      · rw [if_pos hb] at hbit
        by_cases hq : (f != 2 ^ (62 - m)) = true
        · rw [hq] at hne
          have hd := Hd.out true (by rw [hb, hq]; rfl)
          have HD := hid hd
          clear hd Hd hq hb
          go_wp2_with (first
            | (at_builtin; refine append_int rfl rfl hown hsz (by omega) rfl rfl ?_; intro v' w1 hown1 hgrow1 hB1))
          go_roundw
          case rel =>
            refine ⟨m + 1, by omega, by go_num, ?_, ?_⟩
            · rw [HD.out]
              rw [Hs.out] at hown1
              exact hown1
            · exact hB.trans hB1
          case measure => simp [intOf]; omega
        · have hq' : (f != 2 ^ (62 - m)) = false := by simpa using hq
          rw [hq'] at hne
          have HD := hid (Hd.out false (by rw [hb, hq']; rfl))
          clear Hd hq hq' hb
          go_wp2_with fail
          go_roundw
          case rel =>
            refine ⟨m + 1, by omega, by go_num, ?_, hB⟩
            rw [HD.out]; simpa using hown
          case measure => simp [intOf]; omega
      · rw [if_neg hb] at hbit
        have HD := hid (Hd.out false (by simp [hb]))
        clear Hd hb hne
        go_wp2_with fail
        go_roundw
        case rel =>
          refine ⟨m + 1, by omega, by go_num, ?_, hB⟩
          rw [HD.out]; simpa using hown
        case measure => simp [intOf]; omega
    · obtain rfl : m = 63 := by omega
      go_wp2
      go_ret
      exact ⟨_, rfl, hown, hB⟩

set_option maxHeartbeats 400000 in
theorem in_yes (n lo hi : Int) (w : World) (h1 : lo ≤ n) (h2 : n ≤ hi) :
    Calls Try.prog 70 #[.int .i64 n, .int .i64 lo, .int .i64 hi] w fun e w' => e = .returned (.bool true) ∧ w = w' :=
  (in_any n lo hi w).mono fun _ _ ⟨he, hw⟩ => ⟨by rw [he]; simp [h1, h2], hw⟩

theorem in_no (n lo hi : Int) (w : World) (h : ¬ (lo ≤ n ∧ n ≤ hi)) :
    Calls Try.prog 70 #[.int .i64 n, .int .i64 lo, .int .i64 hi] w fun e w' => e = .returned (.bool false) ∧ w = w' :=
  (in_any n lo hi w).mono fun _ _ ⟨he, hw⟩ => ⟨by rw [he]; simp at h; by_cases hx : lo ≤ n
                                                  · rw [decide_eq_false (show ¬ n ≤ hi by have := h hx; omega)]; simp
                                                  · rw [decide_eq_false hx]; simp, hw⟩

theorem has_yes (V f : Int) (a : Option Addr) (cap : Nat) (xs : List Int) (w : World) (hx : SlI w w.heap.size a xs) (hl : xs.length ≤ 1048576) (h : f ∈ xs) :
    Calls Try.prog 94 #[.agg #[.int .i64 V, .slice a xs.length cap], .int .i64 f] w fun e w' => e = .returned (.bool true) ∧ Below w.heap.size w w' :=
  (has_any V f a cap xs w hx hl).mono fun _ _ ⟨he, hw⟩ => ⟨by rw [he, decide_eq_true h], hw⟩

theorem has_no (V f : Int) (a : Option Addr) (cap : Nat) (xs : List Int) (w : World) (hx : SlI w w.heap.size a xs) (hl : xs.length ≤ 1048576) (h : f ∉ xs) :
    Calls Try.prog 94 #[.agg #[.int .i64 V, .slice a xs.length cap], .int .i64 f] w fun e w' => e = .returned (.bool false) ∧ Below w.heap.size w w' :=
  (has_any V f a cap xs w hx hl).mono fun _ _ ⟨he, hw⟩ => ⟨by rw [he, decide_eq_false h], hw⟩

end Go.Proofs.Ytbhdipljhelddaa

/-! The model's test whether something is a complex. -/
namespace Go.Proofs.Ytbhdipljhelddaa
open Go.RowKit

theorem below_int (x : Int) (w : World) (h0 : 0 ≤ x) (h1 : x < 64) :
    Calls Try.prog 52 #[.int .i64 x] w fun e w' => ∃ v, e = .returned v ∧ w'.ownsRow w.heap.size 2 1 v (belowR x.toNat 63).length ((belowR x.toNat 63).map (Value.int .i64)) ∧ Below w.heap.size w w' := by
  have := below_any x.toNat w (by omega)
  rwa [Int.toNat_of_nonneg h0] at this

theorem below_as (x : Int) (ys : List Int) (w : World) (h0 : 0 ≤ x) (h1 : x < 64) (hys : ys = belowR x.toNat 63) :
    Calls Try.prog 52 #[.int .i64 x] w fun e w' => ∃ a cap, e = .returned (.slice a ys.length cap) ∧ SlI w' w'.heap.size a ys ∧ Below w.heap.size w w' := by
  have h := below_int x w h0 h1
  rw [← hys] at h
  refine h.mono ?_
  rintro e w' ⟨v, rfl, hown, hb⟩
  obtain ⟨_, a, cap, rfl, hs⟩ := ownsRow_slI hown
  exact ⟨a, cap, rfl, hs, hb⟩

theorem is_no_range (V : Int) (a : Option Addr) (cap : Nat) (fs : List Int) (w : World) (h : ¬ (1 ≤ V ∧ V ≤ 6)) :
    Calls Try.prog 42 #[.agg #[.int .i64 V, .slice a fs.length cap]] w fun e w' => e = .returned (.bool false) ∧ Below w.heap.size w w' := by
  go_enter Try.func42, Try.ntmps42
  go_wp2_with (go_at_call 70; refine (in_no _ _ _ _ h).mono ?_; rintro e w' ⟨rfl, rfl⟩)
  go_ret
  exact ⟨rfl, (Below.refl _ w).alloc (Nat.le_refl _) _⟩

set_option maxHeartbeats 1000000 in
theorem is_any (V : Int) (b off : Nat) (cap : Nat) (fs : List Int) (w : World) (h1 : 1 ≤ V) (h2 : V ≤ 6) (hb : b < w.heap.size)
    (hc : ∀ i, i < fs.length → w.cell? ⟨b, off + i, none⟩ = some (.int .i64 (fs[i]?.getD 0))) (hl : fs.length ≤ 1048576) :
    Calls Try.prog 42 #[.agg #[.int .i64 V, .slice (some ⟨b, off, none⟩) fs.length cap]] w fun e w' => e = .returned (.bool (isCB V fs)) ∧ Below w.heap.size w w' := by
  have hV0 : 0 ≤ V := by omega
  have hW1 : Below w.heap.size w (w.alloc (.cells #[.int .i64 V, .slice (some ⟨b, off, none⟩) fs.length cap] 28)) := (Below.refl _ w).alloc (Nat.le_refl _) _
  go_enter Try.func42, Try.ntmps42
  go_wp2_with (go_at_call 70; refine (in_yes _ _ _ _ h1 h2).mono ?_; rintro e w' ⟨rfl, rfl⟩)
  go_loopw [3] (fun i wr => ∃ k : Nat, k ≤ fs.length ∧ i = .int .i64 k ∧ Hid (∀ j, j < k → (1 ≤ fs[j]?.getD 0 ∧ fs[j]?.getD 0 ≤ allV V) ∧ (0 < j → fs[j - 1]?.getD 0 < fs[j]?.getD 0)) ∧
      Below (w.heap.size + 1) (w.alloc (.cells #[.int .i64 V, .slice (some ⟨b, off, none⟩) fs.length cap] 28)) wr) (fun i _ => fs.length - (intOf i).toNat)
  case atStart => exact ⟨0, Nat.zero_le _, rfl, hid (by omega), Below.refl _ _⟩
  case round =>
    obtain ⟨k, hk, rfl, Hl, hB⟩ := hrel
    have c0 : wr.cell? ⟨w.heap.size, 0, none⟩ = some (.int .i64 V) := (hB.cell (p := ⟨w.heap.size, 0, none⟩) (by simp)).trans (by simp [go_sem])
    have c1 : wr.cell? ⟨w.heap.size, 1, none⟩ = some (.slice (some ⟨b, off, none⟩) fs.length cap) := (hB.cell (p := ⟨w.heap.size, 1, none⟩) (by simp)).trans (by simp [go_sem])
    by_cases hlt : k < fs.length
    · have hck : wr.cell? ⟨b, off + k, none⟩ = some (.int .i64 (fs[k]?.getD 0)) := (hB.cell (p := ⟨b, off + k, none⟩) (by simp; omega)).trans ((hW1.cell (p := ⟨b, off + k, none⟩) hb).trans (hc k hlt))
      obtain ⟨x, hx⟩ : ∃ x, x = fs[k]?.getD 0 := ⟨_, rfl⟩
      rw [← hx] at hck
      have Hx := hid hx
      clear hx
      have hi0 : (0 : Int) ≤ (k : Int) := by omega
      have hi1 : (k : Int) < (fs.length : Int) := by omega
      by_cases hr : 1 ≤ x ∧ x ≤ allV V
      · by_cases hk0 : 0 < k
        rotate_left
        · have hd : decide (0 < k) = false := decide_eq_false hk0
          have Hk := hid hk0
          clear hk0
          go_wp2_with fail
          go_quiet (first
            | (go_at_call 93; exact quiet_of_eq (all_any _ _ hV0 h2))
            | (go_at_call 70; exact quiet_of_eq (in_yes _ _ _ _ hr.1 hr.2)))
          go_wp2_with fail
          go_roundw
          case rel =>
            have hk0 := Hk.out
            have hx := Hx.out
            exact ⟨k + 1, by omega, by go_num, fun j hj => (by by_cases hjk : j < k
                                                               · exact Hl.out j hjk
                                                               · obtain rfl : j = k := by omega
                                                                 exact ⟨hx ▸ hr, fun h => absurd h hk0⟩), hB.trans ⟨rfl, rfl, rfl, Nat.le_refl _, fun _ _ => rfl⟩⟩
          case measure => simp [intOf]; omega
        · have hd : decide (0 < k) = true := decide_eq_true hk0
          obtain ⟨y, hy⟩ : ∃ y, y = fs[k - 1]?.getD 0 := ⟨_, rfl⟩
          have hck1 : wr.cell? ⟨b, off + (k - 1), none⟩ = some (.int .i64 y) := by rw [hy]; exact (hB.cell (p := ⟨b, off + (k - 1), none⟩) (by simp; omega)).trans ((hW1.cell (p := ⟨b, off + (k - 1), none⟩) hb).trans (hc (k - 1) (by omega)))
          have Hy := hid hy
          clear hy
          have hi2 : (0 : Int) ≤ (k : Int) - 1 := by omega
          have hi3 : (k : Int) - 1 < (fs.length : Int) := by omega
          by_cases hxy : x ≤ y
          · have hxd : decide (x ≤ y) = true := decide_eq_true hxy
            go_wp2_with fail
            go_quiet (first
              | (go_at_call 93; exact quiet_of_eq (all_any _ _ hV0 h2))
              | (go_at_call 70; exact quiet_of_eq (in_yes _ _ _ _ hr.1 hr.2)))
            go_wp2_with fail
            go_ret
            refine ⟨ret_bool ?_, ?_⟩
            · symm
              refine isCB_false (fun h => ?_)
              have := isC_looks_asc h hk0 hlt
              have hx := Hx.out
              have hy := Hy.out
              omega
            · exact (hW1.trans (hB.mono (by simp))).trans ⟨rfl, rfl, rfl, Nat.le_refl _, fun _ _ => rfl⟩
          · have hxd : decide (x ≤ y) = false := decide_eq_false hxy
            go_wp2_with fail
            go_quiet (first
              | (go_at_call 93; exact quiet_of_eq (all_any _ _ hV0 h2))
              | (go_at_call 70; exact quiet_of_eq (in_yes _ _ _ _ hr.1 hr.2)))
            go_wp2_with fail
            go_roundw
            case rel =>
              have hx := Hx.out
              have hy := Hy.out
              exact ⟨k + 1, by omega, by go_num, fun j hj => (by by_cases hjk : j < k
                                                                 · exact Hl.out j hjk
                                                                 · obtain rfl : j = k := by omega
                                                                   exact ⟨hx ▸ hr, fun _ => by omega⟩), hB.trans ⟨rfl, rfl, rfl, Nat.le_refl _, fun _ _ => rfl⟩⟩
            case measure => simp [intOf]; omega
      · go_wp2_with fail
        go_quiet (first
          | (go_at_call 93; exact quiet_of_eq (all_any _ _ hV0 h2))
          | (go_at_call 70; exact quiet_of_eq (in_no _ _ _ _ hr)))
        go_wp2_with fail
        go_ret
        refine ⟨ret_bool ?_, ?_⟩
        · symm
          refine isCB_false (fun h => hr ?_)
          have hx := Hx.out
          rw [hx]
          exact isC_looks_range h hlt
        · exact (hW1.trans (hB.mono (by simp))).trans ⟨rfl, rfl, rfl, Nat.le_refl _, fun _ _ => rfl⟩
    · go_wp2_with fail
      obtain rfl : k = fs.length := by omega
      have hall := Hl.out
      have Hall := hid hall
      clear hall Hl c0 c1
      have hsz0 := hB.size
      simp only [World.size_alloc] at hsz0
      obtain ⟨wo, rfl⟩ : ∃ wo : World, wo = wr := ⟨_, rfl⟩
      go_loopw [4] (fun i wr => ∃ k : Nat, k ≤ fs.length ∧ i = .int .i64 k ∧ Hid (∀ j, j < k → ∀ y ∈ belowR (fs[j]?.getD 0).toNat 63, y ∈ fs) ∧
          Below (w.heap.size + 1) wo wr) (fun i _ => fs.length - (intOf i).toNat)
      case atStart => exact ⟨0, Nat.zero_le _, rfl, hid (by omega), Below.refl _ _⟩
      case round =>
        obtain ⟨k, hk, rfl, Hl, hB2⟩ := hrel
        have hBB := hB.trans hB2
        have c0 : wr.cell? ⟨w.heap.size, 0, none⟩ = some (.int .i64 V) := (hBB.cell (p := ⟨w.heap.size, 0, none⟩) (by simp)).trans (by simp [go_sem])
        have c1 : wr.cell? ⟨w.heap.size, 1, none⟩ = some (.slice (some ⟨b, off, none⟩) fs.length cap) := (hBB.cell (p := ⟨w.heap.size, 1, none⟩) (by simp)).trans (by simp [go_sem])
        have hBW : Below w.heap.size w wr := hW1.trans (hBB.mono (by simp))
        have hsz2 := hB2.size
        by_cases hlt2 : k < fs.length
        · have hck : wr.cell? ⟨b, off + k, none⟩ = some (.int .i64 (fs[k]?.getD 0)) := (hBW.cell (p := ⟨b, off + k, none⟩) hb).trans (hc k hlt2)
          obtain ⟨x, hx⟩ : ∃ x, x = fs[k]?.getD 0 := ⟨_, rfl⟩
          have hr := (Hall.out k hlt2).1
          have h63 := allV_le h2
          rw [← hx] at hck hr
          have hx0 : 0 ≤ x := by omega
          have hx1 : x < 64 := by omega
          have Hx := hid hx
          clear hx hr h63
          have hi0 : (0 : Int) ≤ (k : Int) := by omega
          have hi1 : (k : Int) < (fs.length : Int) := by omega
          obtain ⟨ys, hys⟩ : ∃ ys, ys = belowR x.toNat 63 := ⟨_, rfl⟩
          have hyl : ys.length ≤ 63 := by rw [hys]; exact belowR_len _ _
          have Hys := hid hys
          clear hys
          have h0w := hBW.size
          go_wp2_with (go_at_call 52; refine (below_as x ys _ hx0 hx1 Hys.out).mono ?_; rintro e w2 ⟨a2, cap2, rfl, hsl, hb2⟩)
          have hB3 := hBB.trans (hb2.mono (by omega))
          have hb2s := hb2.size
          clear c0 c1 hck
          have c0 : w2.cell? ⟨w.heap.size, 0, none⟩ = some (.int .i64 V) := (hB3.cell (p := ⟨w.heap.size, 0, none⟩) (by simp)).trans (by simp [go_sem])
          have c1 : w2.cell? ⟨w.heap.size, 1, none⟩ = some (.slice (some ⟨b, off, none⟩) fs.length cap) := (hB3.cell (p := ⟨w.heap.size, 1, none⟩) (by simp)).trans (by simp [go_sem])
          have hfs : ∀ wz, Below w2.heap.size w2 wz → SlI wz wz.heap.size (some ⟨b, off, none⟩) fs := fun wz hz => by
            have hz0 := hz.size
            exact .inr ⟨b, off, by omega, rfl, fun i hi => ((hW1.trans ((hB3.trans (hz.mono (by omega))).mono (by simp))).cell (p := ⟨b, off + i, none⟩) hb).trans (hc i hi)⟩
          have Hfs := hid hfs
          clear hfs
          have hend : ∀ wz, Below w2.heap.size w2 wz → Below w.heap.size w wz := fun wz hz => (hW1.trans ((hB3.trans (hz.mono (by omega))).mono (by simp)))
          have Hend := hid hend
          have hrnd : ∀ wz, Below w2.heap.size w2 wz → Below (w.heap.size + 1) wo wz := fun wz hz => hB2.trans ((hb2.mono (by omega)).trans (hz.mono (by omega)))
          have Hrnd := hid hrnd
          have Hc := hid hc
          clear hend hrnd hB hB2 hBB hBW hB3 hb2 hc hW1
          rcases hsl with rfl | ⟨b2, off2, hb2, rfl, hc2⟩
          · refine wp_loop_rounds 1 ?_; rw [rounds_succ]
            go_wp2
            go_roundw
            case rel =>
              refine ⟨k + 1, by omega, by go_num, hid (fun j hj => ?_), Hrnd.out _ (Below.refl _ _)⟩
              by_cases hjk : j < k
              · exact Hl.out j hjk
              · obtain rfl : j = k := by omega
                rw [← Hx.out, ← Hys.out]; simp
            case measure => simp [intOf]; omega
          · obtain ⟨wq, rfl⟩ : ∃ wq : World, wq = w2 := ⟨_, rfl⟩
            obtain ⟨wp, rfl⟩ : ∃ wp : World, wp = wr := ⟨_, rfl⟩
            have Hc2 := hid hc2
            clear hc2
            go_loopw [6] (fun i wr => ∃ m : Nat, m ≤ ys.length ∧ i = .int .i64 m ∧ Hid (∀ j, j < m → ys[j]?.getD 0 ∈ fs) ∧
              Below wq.heap.size wq wr) (fun i _ => ys.length - (intOf i).toNat)
            case atStart => exact ⟨0, Nat.zero_le _, rfl, hid (by omega), Below.refl _ _⟩
            case round =>
              obtain ⟨m, hm, rfl, Hm, hB5⟩ := hrel
              have Hend5 := hid (Hend.out _ hB5)
              have Hrnd5 := hid (Hrnd.out _ hB5)
              have d0 := (hB5.cell (p := ⟨w.heap.size, 0, none⟩) (by simp; omega)).trans c0
              have d1 := (hB5.cell (p := ⟨w.heap.size, 1, none⟩) (by simp; omega)).trans c1
              by_cases hlt3 : m < ys.length
              · obtain ⟨y, hy⟩ : ∃ y, y = ys[m]?.getD 0 := ⟨_, rfl⟩
                have hcm : wr.cell? ⟨b2, off2 + m, none⟩ = some (.int .i64 y) := by rw [hy]; exact (hB5.cell (p := ⟨b2, off2 + m, none⟩) hb2).trans (Hc2.out m hlt3)
                have Hy := hid hy
                clear hy
                have hj0 : (0 : Int) ≤ (m : Int) := by omega
                have hj1 : (m : Int) < (ys.length : Int) := by omega
                have hsl5 : SlI wr wr.heap.size (some ⟨b, off, none⟩) fs := Hfs.out _ hB5
                have hsl5' : SlI wr.drew wr.drew.heap.size (some ⟨b, off, none⟩) fs := hsl5
                have Hs5 := hid hsl5'
                clear hsl5 hsl5'
                by_cases hyf : y ∈ fs
                · go_wp2_with fail
                  go_region_with (go_at_call 94; refine (has_yes V y _ cap fs _ Hs5.out hl hyf).mono ?_; rintro e w6 ⟨rfl, hb6⟩)
                  all_goals go_wp2_with fail
                  all_goals
                    have hy := Hy.out
                    have hB6 : Below wq.heap.size wq w6 := hB5.trans (Below.mono (w := wr) ⟨hb6.os, hb6.tape, hb6.output, hb6.size, hb6.block⟩ hB5.size)
                    go_roundw
                    case rel =>
                      refine ⟨m + 1, by omega, by go_num, hid (fun j hj => ?_), hB6⟩
                      by_cases hjm : j < m
                      · exact Hm.out j hjm
                      · obtain rfl : j = m := by omega
                        rw [← hy]; exact hyf
                    case measure => simp [intOf]; omega
                · go_wp2_with fail
                  go_region_with (go_at_call 94; refine (has_no V y _ cap fs _ Hs5.out hl hyf).mono ?_; rintro e w6 ⟨rfl, hb6⟩)
                  all_goals go_wp2_with fail
                  all_goals
                    have hy := Hy.out
                    have hB6 : Below wq.heap.size wq w6 := hB5.trans (Below.mono (w := wr) ⟨hb6.os, hb6.tape, hb6.output, hb6.size, hb6.block⟩ hB5.size)
                    go_ret
                    refine ⟨ret_bool ?_, Hend.out _ hB6⟩
                    symm
                    refine isCB_false (fun h => hyf ?_)
                    refine isC_looks_below h hlt2 ?_
                    rw [← Hx.out, ← Hys.out, hy]
                    exact getD_mem hlt3
              · go_wp2_with fail
                go_roundw
                case rel =>
                  refine ⟨k + 1, by omega, by go_num, hid (fun j hj => ?_), Hrnd5.out⟩
                  by_cases hjk : j < k
                  · exact Hl.out j hjk
                  · obtain rfl : j = k := by omega
                    rw [← Hx.out, ← Hys.out]
                    intro z hz
                    obtain ⟨i, hi, e⟩ := mem_getD hz
                    rw [← e]
                    exact Hm.out i (by omega)
                case measure => simp [intOf]; omega
        · go_wp2
          go_ret
          refine ⟨ret_bool ?_, hBW⟩
          symm
          refine isCB_true (isC_of_looks h1 h2 (fun j hj => (Hall.out j hj).1) (fun j h0 hj => (Hall.out j hj).2 h0) (fun j hj => Hl.out j (by omega)))
end Go.Proofs.Ytbhdipljhelddaa

/-! The model's test whether something is a complex, at whatever comes in. -/
namespace Go.Proofs.Ytbhdipljhelddaa
open Go.RowKit

set_option maxHeartbeats 400000 in
theorem is_nil (V : Int) (a : Option Addr) (cap : Nat) (w : World) (h1 : 1 ≤ V) (h2 : V ≤ 6) :
    Calls Try.prog 42 #[.agg #[.int .i64 V, .slice a 0 cap]] w fun e w' => e = .returned (.bool true) ∧ Below w.heap.size w w' := by
  go_enter Try.func42, Try.ntmps42
  go_wp2_with (go_at_call 70; refine (in_yes _ _ _ _ h1 h2).mono ?_; rintro e w' ⟨rfl, rfl⟩)
  refine wp_loop_rounds 1 ?_; rw [rounds_succ]
  go_wp2
  refine wp_loop_rounds 1 ?_; rw [rounds_succ]
  go_wp2
  go_ret
  exact ⟨rfl, (Below.refl _ w).alloc (Nat.le_refl _) _⟩

/-- l01Is, whatever comes in. -/
theorem is_all (V : Int) (a : Option Addr) (cap : Nat) (fs : List Int) (w : World) (hx : SlI w w.heap.size a fs) (hl : fs.length ≤ 1048576) :
    Calls Try.prog 42 #[.agg #[.int .i64 V, .slice a fs.length cap]] w fun e w' => e = .returned (.bool (isCB V fs)) ∧ Below w.heap.size w w' := by
  by_cases hV : 1 ≤ V ∧ V ≤ 6
  · rcases hx with rfl | ⟨b, off, hb, rfl, hc⟩
    · exact (is_nil V a cap w hV.1 hV.2).mono fun _ _ ⟨he, hw⟩ => ⟨by rw [he, isCB_true (isC_nil hV.1 hV.2)], hw⟩
    · exact is_any V b off cap fs w hV.1 hV.2 hb hc hl
  · exact (is_no_range V a cap fs w hV).mono fun _ _ ⟨he, hw⟩ => ⟨by rw [he, isCB_false (fun h => hV ⟨h.lo, h.hi⟩)], hw⟩

theorem is_yes (V : Int) (a : Option Addr) (cap : Nat) (fs : List Int) (w : World) (hx : SlI w w.heap.size a fs) (hl : fs.length ≤ 1048576) (h : IsC V fs) :
    Calls Try.prog 42 #[.agg #[.int .i64 V, .slice a fs.length cap]] w fun e w' => e = .returned (.bool true) ∧ Below w.heap.size w w' :=
  (is_all V a cap fs w hx hl).mono fun _ _ ⟨he, hw⟩ => ⟨by rw [he, isCB_true h], hw⟩

theorem is_no (V : Int) (a : Option Addr) (cap : Nat) (fs : List Int) (w : World) (hx : SlI w w.heap.size a fs) (hl : fs.length ≤ 1048576) (h : ¬ IsC V fs) :
    Calls Try.prog 42 #[.agg #[.int .i64 V, .slice a fs.length cap]] w fun e w' => e = .returned (.bool false) ∧ Below w.heap.size w w' :=
  (is_all V a cap fs w hx hl).mono fun _ _ ⟨he, hw⟩ => ⟨by rw [he, isCB_false h], hw⟩


end Go.Proofs.Ytbhdipljhelddaa

/-! Numbers of vertices. -/
namespace Go.Proofs.Ytbhdipljhelddaa
open Go.RowKit

set_option maxHeartbeats 400000 in
theorem ones_any (f : Nat) (w : World) (hf : f < 64) :
    Calls Try.prog 95 #[.int .i64 (f : Int)] w fun e w' => e = .returned (.int .i64 (ones f : Int)) ∧ w = w' := by
  go_enter Try.func95, Try.ntmps95
  go_wp2
  go_loop [0, 3] (fun x c => ∃ r n : Nat, r ≤ 63 ∧ x = .int .i64 r ∧ c = .int .i64 n ∧ n ≤ 6 ∧ Hid (n + ones r = ones f)) (fun x _ => (intOf x).toNat)
  case atStart => exact ⟨f, 0, by omega, rfl, rfl, by omega, hid (by omega)⟩
  case round =>
    obtain ⟨r, n, hr, rfl, rfl, hn, Hn⟩ := hrel
    by_cases h0 : 0 < r
    · have h1 := ones_half (r := r) (by omega)
      have h2 := ones_le f
      have hn' : n + r % 2 ≤ 6 := by have := Hn.out; omega
      have Hn' : Hid (n + r % 2 + ones (r / 2) = ones f) := hid (by have := Hn.out; omega)
      clear h1 h2 Hn
      go_wp2
      go_round
      case rel => exact ⟨r / 2, n + r % 2, by omega, by go_num, by go_num, hn', Hn'⟩
      case measure => simp [intOf]; omega
    · obtain rfl : r = 0 := by omega
      have Hn' : Hid (n = ones f) := hid (by have := Hn.out; rw [ones_zero] at this; omega)
      go_wp2
      go_ret
      exact ⟨ret_int (by rw [← Hn'.out]), rfl⟩

set_option maxHeartbeats 400000 in
theorem oc_any (f : Nat) (w : World) (hf : f < 64) :
    Calls Try.prog 163 #[.int .u64 (f : Int)] w fun e w' => e = .returned (.int .i64 (ones f : Int)) ∧ w = w' := by
  go_enter Try.func163, Try.ntmps163
  go_wp2
  go_ret
  refine ⟨ret_int ?_, rfl⟩
  clear w
  revert hf
  revert f
  decide +kernel

set_option maxHeartbeats 400000 in
theorem dim_any (f : Nat) (w : World) (hf : f < 64) :
    Calls Try.prog 107 #[.int .i64 (f : Int)] w fun e w' => e = .returned (.int .i64 ((ones f : Int) - 1)) ∧ w = w' := by
  have ho := ones_le f
  go_enter Try.func107, Try.ntmps107
  go_wp2_with fail
  refine (oc_any f _ hf).mono ?_
  rintro e w' ⟨rfl, rfl⟩
  go_wp2_with fail
  go_ret
  exact ⟨rfl, rfl⟩

end Go.Proofs.Ytbhdipljhelddaa

/-! The parts of a set, one after the other: an iterator, and what a function that ranges over it leaves. -/
namespace Go.Proofs.Ytbhdipljhelddaa
open Go.RowKit Go.Shelf

attribute [local go_sem] Oper.semAt_some

/-- w' is w but for the blocks Ds, which are no longer what they were. -/
structure Shut (Ds : List Nat) (w w' : World) : Prop where
  os : w'.os = w.os
  tape : w'.tape = w.tape
  output : w'.output = w.output
  size : w'.heap.size = w.heap.size
  block : ∀ k, k ∉ Ds → w'.heap[k]? = w.heap[k]?

theorem Shut.below {Ds : List Nat} {B : Nat} {w w' : World} (h : Shut Ds w w') (hB : ∀ D ∈ Ds, B ≤ D) : Below B w w' :=
  ⟨h.os, h.tape, h.output, by rw [h.size]; exact Nat.le_refl _, fun k hk => h.block k (fun hm => by have := hB k hm; omega)⟩

/-- The marks that loops over functions leave. -/
def marks (Ds : List Nat) : List Deferred := Ds.map fun D => { target := .collected D, args := #[] }

theorem leaves_marks {F : Fence} {n : Nat} {P : Program} {fn : Func} {tmps : Array Value} {R : Ending → World → Prop} {u : FrameMode} (hu : u ≠ .run) :
    ∀ (Ds : List Nat) (w : World), Ds.Nodup → (∀ D ∈ Ds, w.heap[D]? = some (.deferred (some []))) → (∀ w', Shut Ds w w' → LeavesIn F n P fn tmps R [] u w') → LeavesInM F n P fn tmps R (marks Ds) u w := by
  intro Ds
  induction Ds with
  | nil => intro w _ _ h; exact h w ⟨rfl, rfl, rfl, rfl, fun _ _ => rfl⟩
  | cons D Ds ih =>
    intro w hnd hD h
    refine ⟨hu, .inl ⟨D, _, rfl, run_takeDeferred (hD D (by simp)), ?_⟩⟩
    have hnd' := List.nodup_cons.1 hnd
    refine ih _ hnd'.2 (fun E hE => ?_) (fun w' hs => h w' ⟨hs.os, hs.tape, hs.output, hs.size.trans World.putObj_size, fun k hk => ?_⟩)
    · rw [World.putObj_heap_other (fun e => hnd'.1 (by rw [← e]; exact hE))]
      exact hD E (by simp [hE])
    · rw [hs.block k (fun hm => hk (by simp [hm])), World.putObj_heap_other (fun e => hk (by simp [e]))]

/-- The parts of a set, with what they are below. -/
def subsF (f : Nat) : List (Fin 64) := (subs f).filterMap fun p => if h : p < 64 then some ⟨p, h⟩ else none

theorem map_filterMap_fin : ∀ l : List Nat, (∀ p ∈ l, p < 64) → (l.filterMap fun p => if h : p < 64 then some (⟨p, h⟩ : Fin 64) else none).map Fin.val = l
  | [], _ => rfl
  | p :: l, h => by
    have hp : p < 64 := h p (by simp)
    rw [List.filterMap_cons]
    simp only [hp, dif_pos, List.map_cons]
    rw [map_filterMap_fin l (fun q hq => h q (by simp [hq]))]

theorem chain_le (f : Nat) : ∀ n p, ∀ y ∈ chain f n p, y ≤ p := by
  intro n
  induction n with
  | zero => intro p y hy; simp [chain] at hy
  | succ n ih =>
    intro p y hy
    unfold chain at hy
    split at hy
    · simp at hy
    · rcases List.mem_cons.1 hy with rfl | h
      · exact Nat.le_refl _
      · have := ih _ _ h
        have h3 : (p - 1) &&& f ≤ p - 1 := Nat.and_le_left
        omega

theorem subsF_map {f : Nat} (hf : f < 64) : (subsF f).map Fin.val = subs f :=
  map_filterMap_fin _ (fun p hp => by have := chain_le f 64 f p hp; omega)

theorem mem_subsF {f : Nat} (hf : f < 64) {p : Fin 64} : p ∈ subsF f ↔ p.val ≠ 0 ∧ p.val &&& f = p.val := by
  rw [← mem_subs hf, ← subsF_map hf]
  constructor
  · intro h; exact List.mem_map.2 ⟨p, h, rfl⟩
  · intro h; obtain ⟨q, hq, e⟩ := List.mem_map.1 h; rwa [← Fin.ext e]

/-- Block B lies as it lay. -/
def KeepB (B : Nat) (W W' : World) : Prop := W'.heap[B]? = W.heap[B]?
theorem keepB_t {B : Nat} {x y z : World} (h : KeepB B x y) (k : KeepB B y z) : KeepB B x z := Eq.trans k h
theorem keepB_b {B : Nat} {w : World} (hB : B < w.heap.size) (W : World) (l : Nat) (o o' : Obj) (hl : w.heap.size ≤ l) (_ : W.heap[l]? = some o) (_ : o.isCells = false) (_ : o.isWalk = false) : KeepB B W (W.putObj l o') :=
  World.putObj_heap_other (by omega)
theorem keepB_of_below {B n : Nat} {W W' : World} (h : Below n W W') (hB : B < n) : KeepB B W W' := h.block B hB

theorem box_cell {W : World} {B t : Nat} {v : Value} (h : W.heap[B]? = some (.cells #[v] t (0, 0))) : W.cell? ⟨B, 0, none⟩ = some v ∧ W.frozen? ⟨B, 0, none⟩ = false := by
  constructor <;> simp [World.cell?, World.frozen?, h]

theorem and_bits {q f : Nat} (hq0 : 0 < q) (hq : q < 64) (hf : f < 64) : bits BinOp.and IntKind.i64 ((q : Int) - 1) (f : Int) = (((q - 1) &&& f : Nat) : Int) := by
  have h := (bits_nat .i64 6 (by decide) (fun n h0 h1 => by rw [IntKind.wrap_i64]; omega) (q - 1) f (by omega) (by omega)).1
  rwa [show ((q - 1 : Nat) : Int) = (q : Int) - 1 by omega] at h

set_option maxRecDepth 100000 in
set_option maxHeartbeats 1000000 in
/-- The iterator over the parts of f: whatever the loop's body, as long as it keeps the block of f. -/
theorem parts1_in (F : Fence) (n : Nat) (hF : F.fn 162) (hro : F.round = none) (hn : 1 ≤ n) (l B0 f : Nat) (hf : f < 64) (J Jx : List (Fin 64) → World → Prop)
    (hY : ∀ pre x W, J pre W → pre.length < 64 → YieldAt F (n - 1) Try.prog l #[.int .i64 (x.val : Int)] W fun e W' =>
      (e = .returned (.bool true) ∧ J (pre ++ [x]) W' ∧ KeepB B0 W W') ∨ (e = .returned (.bool false) ∧ Jx (pre ++ [x]) W'))
    (W : World) (hB0 : W.heap[B0]? = some (.cells #[.int .i64 (f : Int)] 2 (0, 0))) (h0 : J [] W) :
    CallsIn F n Try.prog 162 #[.func (.yield l) #[] #[], .pointer (some ⟨B0, 0, none⟩)] W fun e W' => (∃ v, e = .returned v) ∧
      ((∃ ys, ys = subsF f ∧ J ys W') ∨ (∃ pre, pre <+: subsF f ∧ Jx pre W')) := by
  have hlen : (subsF f).length ≤ 63 := by
    have := subs_len' ⟨f, hf⟩
    rwa [← subsF_map hf, List.length_map] at this
  have c0 := (box_cell hB0).1
  refine callsIn_of_wp Try.func162 rfl hF ?_ hro
  simp only [Try.ntmps162, List.size_toArray, List.length_cons, List.length_nil, Nat.reduceAdd, Nat.reduceSub, Array.replicate_succ, Array.replicate_zero, List.push_toArray, List.append_toArray, List.nil_append, List.cons_append]
  gi_wp2
  gi_loopw [3] (fun p wr => ∃ (pre rest : List (Fin 64)) (q : Nat), p = .int .i64 (q : Int) ∧ q < 64 ∧ Hid (subsF f = pre ++ rest ∧ rest.map Fin.val = chain f 64 q) ∧ J pre wr ∧ wr.heap[B0]? = some (.cells #[.int .i64 (f : Int)] 2 (0, 0)))
    (fun p _ => (intOf p).toNat)
  case atStart =>
    exact ⟨[], subsF f, f, rfl, hf, hid ⟨rfl, subsF_map hf⟩, h0, hB0⟩
  case round =>
    obtain ⟨pre, rest, q, rfl, hq, Hl, hJs, hBr⟩ := hrel
    by_cases hq0 : 0 < q
    · obtain ⟨hl1, hl2⟩ := Hl.out
      rw [chain_pos hq0 (by omega)] at hl2
      cases rest with
      | nil => simp at hl2
      | cons x rest =>
        simp only [List.map_cons, List.cons.injEq] at hl2
        obtain ⟨hx, hl2⟩ := hl2
        have hpl : pre.length < 64 := by rw [hl1] at hlen; simp at hlen; omega
        obtain ⟨fn, tmps, assign, body, hy, hR⟩ := hY pre x wr hJs hpl
        rw [hx] at hy
        have hbits := and_bits hq0 hq hf
        have hand : (q - 1) &&& f ≤ q - 1 := Nat.and_le_left
        have Hl' : Hid (subsF f = pre ++ [x] ++ rest ∧ rest.map Fin.val = chain f 64 ((q - 1) &&& f)) := hid ⟨by simp [hl1], hl2⟩
        have Hpre : Hid (pre ++ [x] <+: subsF f) := hid ⟨rest, by simp [hl1]⟩
        clear hl1 hl2 Hl hx hlen
        have c0r := (box_cell hBr).1
        gi_wp2
        refine hR.mono ?_
        rintro e W3 (⟨rfl, hJ3, hk3⟩ | ⟨rfl, hJx3⟩)
        · have hBr3 : W3.heap[B0]? = some (.cells #[.int .i64 (f : Int)] 2 (0, 0)) := Eq.trans hk3 hBr
          have c03 := (box_cell hBr3).1
          gi_wp2
          go_roundw
          case rel => exact ⟨pre ++ [x], rest, (q - 1) &&& f, rfl, by omega, Hl', hJ3, hBr3⟩
          case measure => simp [intOf]; omega
        · gi_wp2
          refine bodyPost_ret (results_none rfl _ _ _) rfl ?_
          exact ⟨⟨_, rfl⟩, .inr ⟨pre ++ [x], Hpre.out, hJx3⟩⟩
    · obtain rfl : q = 0 := by omega
      obtain ⟨hl1, hl2⟩ := Hl.out
      rw [chain_zero] at hl2
      obtain rfl : rest = [] := by cases rest <;> simp_all
      have Hx : Hid (subsF f = pre) := hid (by rw [hl1]; simp)
      clear hl1 hl2 Hl
      gi_wp2
      go_end0
      exact ⟨⟨_, rfl⟩, .inl ⟨pre, Hx.out.symm, hJs⟩⟩

set_option maxHeartbeats 1000000 in
/-- partsOf: its argument is boxed; the function value captures the box. -/
theorem parts_in (F : Fence) (n : Nat) (hF : F.fn 104) (hro : F.round = none) (x : Int) (w : World) :
    CallsIn F n Try.prog 104 #[.int .i64 x] w fun e w' => e = .returned (.func (.func 162) #[] #[.pointer (some ⟨w.heap.size, 0, none⟩)]) ∧ w' = w.alloc (.cells #[.int .i64 x] 2) := by
  refine callsIn_of_wp Try.func104 rfl hF ?_ hro
  simp only [Try.ntmps104, List.size_toArray, List.length_cons, List.length_nil, Nat.reduceAdd, Nat.reduceSub, Array.replicate_succ, Array.replicate_zero, List.push_toArray, List.append_toArray, List.nil_append, List.cons_append]
  gi_wp2
  go_ret
  exact ⟨rfl, rfl⟩

theorem parts_stops (F : Fence) (n : Nat) (hF : F.fn 162) (hro : F.round = none) (hn : 1 ≤ n) (B0 f : Nat) (hf : f < 64) (w : World) (hB : B0 < w.heap.size)
    (hc : w.heap[B0]? = some (.cells #[.int .i64 (f : Int)] 2 (0, 0))) :
    SeqStopsK F n Try.prog 162 #[.pointer (some ⟨B0, 0, none⟩)] (fun x : Fin 64 => #[Value.int .i64 (x.val : Int)]) (KeepB B0) (fun ys => ys = subsF f) (fun pre => pre <+: subsF f) 64 w :=
  fun l J Jx W hW _ _ hY h0 => parts1_in F n hF hro hn l B0 f hf J Jx hY W ((hW.block B0 hB).trans hc) h0

end Go.Proofs.Ytbhdipljhelddaa

/-! A set of integers as a map to bools. -/
namespace Go.Proofs.Ytbhdipljhelddaa
open Go.RowKit Go.Shelf

def knownFrom (D : DataW Unit) (pre : List Int) : DataW Unit := pre.foldl (fun D x => D.put (.int .i64 x) (.lit (.bool true))) D
def knownD (pre : List Int) : DataW Unit := knownFrom (.map []) pre

theorem knownD_snoc (pre : List Int) (x : Int) : knownD (pre ++ [x]) = (knownD pre).put (.int .i64 x) (.lit (.bool true)) := by simp [knownD, knownFrom]

theorem knownFrom_at (p : Int) : ∀ (pre : List Int) (D : DataW Unit), Maps.IsMap D → (knownFrom D pre).atKey (.int .i64 p) (.lit (.bool false)) = if p ∈ pre then .lit (.bool true) else D.atKey (.int .i64 p) (.lit (.bool false))
  | [], D, _ => by simp [knownFrom]
  | x :: pre, D, hD => by
    have ih := knownFrom_at p pre (D.put (.int .i64 x) (.lit (.bool true))) (hD.put _ _)
    have e : knownFrom D (x :: pre) = knownFrom (D.put (.int .i64 x) (.lit (.bool true))) pre := rfl
    rw [e, ih]
    by_cases hp : p ∈ pre
    · simp [hp]
    · by_cases hx : p = x
      · subst hx
        rw [if_neg hp, if_pos (by simp), Maps.atKey_put_same hD (show WideAt.IsKeyLit (.int .i64 p) from trivial)]
      · rw [if_neg hp, if_neg (by simp [hp, hx]), Maps.atKey_put_other (by simpa using hx)]

theorem knownD_at (p : Int) (pre : List Int) : (knownD pre).atKey (.int .i64 p) (.lit (.bool false)) = .lit (.bool (decide (p ∈ pre))) := by
  unfold knownD
  rw [knownFrom_at p pre _ Maps.isMap_empty]
  by_cases h : p ∈ pre
  · simp [h]
  · simp [h]
    rfl

set_option maxRecDepth 100000 in
theorem bool_inv {v : Value} {c : Bool} {ps : List MemPlace} (h : plainElem (H := Unit) Try.prog 4 v = some (.lit (.bool c), ps)) : v = .bool c := by
  unfold plainElem at h
  rw [Try.underlying4] at h
  cases v <;> simp at h
  rw [h.1]

theorem zero_bool (w : World) : (zeroValue 4).run Try.prog w = .ok (.bool false) w := by kernel_rfl

theorem lookup_known {w : World} {b n : Nat} {pre : List Int} (hown : w.ownsMap Try.prog 2 (plainElem (H := Unit) Try.prog 4) b n (knownD pre)) {p : Int} (hp : (Lit.int .i64 p).wf = true) :
    (Instr.lookup 82 (.map (some b)) (.int .i64 p) false).run Try.prog w = .ok (.bool (decide (p ∈ pre))) w := by
  obtain ⟨v, ps, hrun, hv⟩ := hown.lookup (Maps.int_keyed Try.underlying2) Try.underlying82 (zero_bool w) (plainElem_bool Try.underlying4 false) (Maps.keyOf_int_mk Try.underlying2 hp)
  rw [knownD_at] at hv
  rw [bool_inv hv] at hrun
  exact hrun

/-- 'known[p]', at the operation. -/
theorem at_known {F : Fence} {nF : Nat} {w : World} {ops : Array Oper} {rest : List Oper} {o : Oper} {a : Act} {Q : Exit → Act → World → Prop} (hg : o.guard = none) {m x : Operand} (hop : o.op = Op.lookup 82 m x false)
    {b n : Nat} {pre : List Int} (hown : w.ownsMap Try.prog 2 (plainElem (H := Unit) Try.prog 4) b n (knownD pre)) {p : Int} (hp : (Lit.int .i64 p).wf = true)
    (hm : a.eval m = .map (some b)) (hx : a.eval x = .int .i64 p) {c : Bool} (hc : decide (p ∈ pre) = c) (hK : wpListIn F nF Try.prog ops Q rest (a.put o.dst (.bool c)) w) :
    wpListIn F nF Try.prog ops Q (o :: rest) a w := by
  refine wpListIn_plain hg fun K' hK' => ?_
  have hrun := lookup_known hown hp
  rw [hc] at hrun
  unfold Oper.wpIn
  refine ⟨by simp [Oper.about, hop], ?_⟩
  rw [Oper.semAt_plain F _ _ (by rw [hop]; intro c hc'; cases hc')]
  simp [execOp, hop, hm, hx, hrun, Result.andThen]
  exact hK' _ _ hK

end Go.Proofs.Ytbhdipljhelddaa

/-! The program's test whether something is a complex. -/
namespace Go.Proofs.Ytbhdipljhelddaa
open Go.RowKit Go.Shelf

attribute [local go_sem] Oper.semAt_some

set_option maxHeartbeats 400000 in
theorem vc_any (n : Int) (w : World) :
    Calls Try.prog 102 #[.int .i64 n] w fun e w' => e = .returned (.bool (decide (1 ≤ n) && decide (n ≤ 6))) ∧ w = w' := by
  go_enter Try.func102, Try.ntmps102
  go_wp2
  · have h : 1 ≤ n := by assumption
    go_ret
    exact ⟨ret_bool (by simp [h]), rfl⟩
  · have h : n < 1 := by assumption
    go_ret
    exact ⟨ret_bool (by rw [decide_eq_false (show ¬ 1 ≤ n by omega)]; rfl), rfl⟩
theorem vc_yes (n : Int) (w : World) (h1 : 1 ≤ n) (h2 : n ≤ 6) :
    Calls Try.prog 102 #[.int .i64 n] w fun e w' => e = .returned (.bool true) ∧ w = w' :=
  (vc_any n w).mono fun _ _ ⟨he, hw⟩ => ⟨by rw [he]; simp [h1, h2], hw⟩
theorem vc_no (n : Int) (w : World) (h : ¬ (1 ≤ n ∧ n ≤ 6)) :
    Calls Try.prog 102 #[.int .i64 n] w fun e w' => e = .returned (.bool false) ∧ w = w' :=
  (vc_any n w).mono fun _ _ ⟨he, hw⟩ => by
    refine ⟨?_, hw⟩
    rw [he]
    by_cases hx : 1 ≤ n
    · rw [decide_eq_false (show ¬ n ≤ 6 from fun h' => h ⟨hx, h'⟩)]; simp
    · rw [decide_eq_false hx]; simp

set_option maxHeartbeats 400000 in
theorem av_any (V : Int) (w : World) (h1 : 0 ≤ V) (h2 : V ≤ 6) :
    Calls Try.prog 103 #[.int .i64 V] w fun e w' => e = .returned (.int .i64 (allV V)) ∧ w = w' := by
  go_enter Try.func103, Try.ntmps103
  go_wp2
  go_ret
  exact ⟨ret_int (all_wrap h1 h2), rfl⟩

/-- What the walk of IsComplex keeps of the world: B is the heap's size when the call began. -/
structure IcW (w W : World) (V : Int) (sl : Value) (pre : List Int) (Ds : List Nat) : Prop where
  below : Below w.heap.size w W
  kbox : W.heap[w.heap.size]? = some (.cells #[.int .i64 V, sl] 28 (0, 0))
  res : W.heap[w.heap.size + 1]? = some (.cells #[.bool false] 4 (0, 0))
  own : W.ownsMap Try.prog 2 (plainElem (H := Unit) Try.prog 4) (w.heap.size + 1 + 1) pre.length (knownD pre)
  mbox : W.heap[w.heap.size + 1 + 1 + 1]? = some (.cells #[.map (some (w.heap.size + 1 + 1))] 82 (0, 0))
  nodup : Ds.Nodup
  marks : ∀ D ∈ Ds, w.heap.size + 4 ≤ D ∧ W.heap[D]? = some (.deferred (some []))

theorem lt_of_get {W : World} {b : Nat} {o : Obj} (h : W.heap[b]? = some o) : b < W.heap.size := (Array.getElem?_eq_some_iff.1 h).1

theorem IcW.size {w W : World} {V : Int} {sl : Value} {pre : List Int} {Ds : List Nat} (h : IcW w W V sl pre Ds) : w.heap.size + 4 ≤ W.heap.size := by
  have := lt_of_get h.mbox; omega

theorem IcW.turn {w W W' : World} {V : Int} {sl : Value} {pre : List Int} {Ds : List Nat} (h : IcW w W V sl pre Ds) {row : Option Nat} (hg : W.grownBy W' row)
    (hr : ∀ r, row = some r → w.heap.size + 4 ≤ r ∧ r ∉ Ds) : IcW w W' V sl pre Ds where
  below := h.below.grown hg h.below.size (fun k e => by have := (hr k e).1; omega)
  kbox := (hg.block _ (lt_of_get h.kbox) (fun e => by have := (hr _ e.symm).1; omega)).trans h.kbox
  res := (hg.block _ (lt_of_get h.res) (fun e => by have := (hr _ e.symm).1; omega)).trans h.res
  own := h.own.kept hg (fun e => by have := (hr _ e.symm).1; omega)
  mbox := (hg.block _ (lt_of_get h.mbox) (fun e => by have := (hr _ e.symm).1; omega)).trans h.mbox
  nodup := h.nodup
  marks := fun D hD => ⟨(h.marks D hD).1, (hg.block _ (lt_of_get (h.marks D hD).2) (fun e => (hr _ e.symm).2 hD)).trans (h.marks D hD).2⟩

theorem icw_own {β : Type} {w : World} {V : Int} {sl : Value} {pre : List Int} {Ds : List Nat} {B : Nat} (hB : w.heap.size + 4 ≤ B) (hD : ∀ D ∈ Ds, D < B) : OwnFrom B (fun (_ : β) W => IcW w W V sl pre Ds) :=
  fun _ _ _ _ hs hg hr => hs.turn hg (fun r e => ⟨by have := (hr r e).1; omega, fun hm => by have := hD r hm; have := (hr r e).1; omega⟩)

/-- A further mark. -/
theorem IcW.mark {w W : World} {V : Int} {sl : Value} {pre : List Int} {Ds : List Nat} (h : IcW w W V sl pre Ds) {D : Nat} (hD : W.heap[D]? = some (.deferred (some []))) (hb : w.heap.size + 4 ≤ D) (hn : D ∉ Ds) : IcW w W V sl pre (D :: Ds) where
  below := h.below
  kbox := h.kbox
  res := h.res
  own := h.own
  mbox := h.mbox
  nodup := List.nodup_cons.2 ⟨hn, h.nodup⟩
  marks := fun E hE => by
    rcases List.mem_cons.1 hE with rfl | hE
    · exact ⟨hb, hD⟩
    · exact h.marks E hE

/-- A face more in the map. -/
theorem IcW.put {w W w1 : World} {V : Int} {sl : Value} {pre : List Int} {Ds : List Nat} (h : IcW w W V sl pre Ds) {x : Int} {n : Nat} (hn : n = pre.length)
    (hown : w1.ownsMap Try.prog 2 (plainElem (H := Unit) Try.prog 4) (w.heap.size + 1 + 1) (n + 1) ((knownD pre).put (.int .i64 x) (.lit (.bool true)))) (hg : W.grownBy w1 (some (w.heap.size + 1 + 1))) : IcW w w1 V sl (pre ++ [x]) Ds where
  below := h.below.grown hg h.below.size (fun k e => by cases e; omega)
  kbox := (hg.block _ (lt_of_get h.kbox) (fun e => by simp at e <;> omega)).trans h.kbox
  res := (hg.block _ (lt_of_get h.res) (fun e => by simp at e <;> omega)).trans h.res
  own := by rw [knownD_snoc]; simpa [hn] using hown
  mbox := (hg.block _ (lt_of_get h.mbox) (fun e => by simp at e)).trans h.mbox
  nodup := h.nodup
  marks := fun D hD => ⟨(h.marks D hD).1, (hg.block _ (lt_of_get (h.marks D hD).2) (fun e => by have := (h.marks D hD).1; simp at e; omega)).trans (h.marks D hD).2⟩

/-- The result's cell holds false: so it does when false is stored. -/
theorem IcW.store {w W : World} {V : Int} {sl : Value} {pre : List Int} {Ds : List Nat} (h : IcW w W V sl pre Ds) : IcW w (W.setCell ⟨w.heap.size + 1, 0, none⟩ (.bool false)) V sl pre Ds where
  below := h.below.setCell (p := ⟨w.heap.size + 1, 0, none⟩) (by simp) _
  kbox := (Below.heap_setCell _ _ _ _ (by simp)).trans h.kbox
  res := one_setCell h.res
  own := h.own.setCell (by simp <;> omega) _
  mbox := (Below.heap_setCell _ _ _ _ (by simp <;> omega)).trans h.mbox
  nodup := h.nodup
  marks := fun D hD => ⟨(h.marks D hD).1, (Below.heap_setCell _ _ _ _ (by have := (h.marks D hD).1; simp <;> omega)).trans (h.marks D hD).2⟩

def leastOf (pre : List Int) : Int := match pre.getLast? with | none => 1 | some y => y + 1

theorem leastOf_snoc (pre : List Int) (x : Int) : leastOf (pre ++ [x]) = x + 1 := by simp [leastOf]
theorem leastOf_ok {V : Int} {pre : List Int} (h : IsC V pre) {x : Int} (hx : leastOf pre ≤ x) : (∀ y ∈ pre, y < x) ∧ 1 ≤ x := by
  rcases List.eq_nil_or_concat pre with rfl | ⟨l, z, rfl⟩
  · simp [leastOf] at hx; exact ⟨by simp, hx⟩
  · simp only [List.concat_eq_append] at *
    rw [leastOf_snoc] at hx
    have hz := h.range63 z (by simp)
    refine ⟨fun y hy => ?_, by omega⟩
    rcases List.mem_append.1 hy with hy | hy
    · have := (List.pairwise_append.1 h.asc).2.2 y hy z (by simp); omega
    · simp at hy; omega
theorem leastOf_bad {V : Int} {pre : List Int} {x : Int} {rest : List Int} (h : IsC V (pre ++ x :: rest)) : leastOf pre ≤ x := by
  have h1 := isC_head h
  rcases List.eq_nil_or_concat pre with rfl | ⟨l, z, rfl⟩
  · simpa [leastOf] using h1.2.1
  · simp only [List.concat_eq_append] at *
    rw [leastOf_snoc]
    have := h1.1 z (by simp)
    omega
theorem leastOf_lt {V : Int} {pre : List Int} (h : IsC V pre) : leastOf pre ≤ 64 ∧ 1 ≤ leastOf pre := by
  rcases List.eq_nil_or_concat pre with rfl | ⟨l, z, rfl⟩
  · simp [leastOf]
  · simp only [List.concat_eq_append] at *
    rw [leastOf_snoc]
    have := h.range63 z (by simp)
    omega

theorem not_isC_take {V : Int} {fs : List Int} {k : Nat} (hk : k < fs.length) (h : IsC V fs) : IsC V (fs.take k ++ fs[k]?.getD 0 :: fs.drop (k + 1)) := by
  rw [← split_at hk]; exact h

set_option maxHeartbeats 400000 in
/-- IsComplex hands back false, out of whatever loop. -/
theorem ic_leave {w W : World} {V : Int} {fs : List Int} {sl : Value} {pre : List Int} {Ds : List Nat} (h : IcW w W V sl pre Ds) (c : Bool) (hc : isCB V fs = c) {tmps : Array Value} (ht : tmps[2]?.getD undef = .pointer (some ⟨w.heap.size + 1, 0, none⟩)) :
    LeavesInM Fence.wide 10 Try.prog Try.f47 tmps (fun e w' => e = .returned (.bool (isCB V fs)) ∧ Below w.heap.size w w') (marks Ds) .returning (W.setCell ⟨w.heap.size + 1, 0, none⟩ (.bool c)) := by
  have hs := h.size
  refine leaves_marks (by simp) Ds _ h.nodup (fun D hD => (Below.heap_setCell _ _ _ _ (by have := (h.marks D hD).1; simp <;> omega)).trans (h.marks D hD).2) (fun w' hw' => ?_)
  have hres : w'.cell? ⟨w.heap.size + 1, 0, none⟩ = some (.bool c) := by
    rw [World.cell?_of_block (hw'.block _ (fun hm => by have := (h.marks _ hm).1; simp at this <;> omega))]
    exact World.cell?_setCell_same' _ _ _ (by rw [(box_cell h.res).1]; rfl)
  have hB : Below w.heap.size w w' := (h.below.setCell (p := ⟨w.heap.size + 1, 0, none⟩) (by simp) _).trans (hw'.below (fun D hD => by have := (h.marks D hD).1; omega))
  refine ⟨.bool c, ?_, ret_bool hc.symm, hB⟩
  simp [results, Try.results47, go_sem, ht, hres]

set_option maxHeartbeats 400000 in
theorem ic_leave0 {w W : World} {V : Int} {fs : List Int} {sl : Value} {pre : List Int} {Ds : List Nat} (h : IcW w W V sl pre Ds) (hc : isCB V fs = false) {tmps : Array Value} (ht : tmps[2]?.getD undef = .pointer (some ⟨w.heap.size + 1, 0, none⟩)) :
    LeavesInM Fence.wide 10 Try.prog Try.f47 tmps (fun e w' => e = .returned (.bool (isCB V fs)) ∧ Below w.heap.size w w') (marks Ds) .returning W := by
  refine leaves_marks (by simp) Ds _ h.nodup (fun D hD => (h.marks D hD).2) (fun w' hw' => ?_)
  have hres : w'.cell? ⟨w.heap.size + 1, 0, none⟩ = some (.bool false) := by
    rw [World.cell?_of_block (w := W) (hw'.block _ (fun hm => by have := (h.marks _ hm).1; simp at this <;> omega))]
    exact (box_cell h.res).1
  have hB : Below w.heap.size w w' := h.below.trans (hw'.below (fun D hD => by have := (h.marks D hD).1; omega))
  refine ⟨.bool false, ?_, ret_bool hc.symm, hB⟩
  simp [results, Try.results47, go_sem, ht, hres]

set_option maxRecDepth 100000 in
set_option maxHeartbeats 4000000 in
theorem isc_in (V : Int) (b off : Nat) (cap : Nat) (fs : List Int) (w : World) (h1 : 1 ≤ V) (h2 : V ≤ 6) (hb : b < w.heap.size)
    (hc : ∀ i, i < fs.length → w.cell? ⟨b, off + i, none⟩ = some (.int .i64 (fs[i]?.getD 0))) (hl : fs.length ≤ 1048576) :
    CallsIn Fence.wide 10 Try.prog 47 #[.agg #[.int .i64 V, .slice (some ⟨b, off, none⟩) fs.length cap]] w fun e w' => e = .returned (.bool (isCB V fs)) ∧ Below w.heap.size w w' := by
  have hmm := @run_makeMap Try.prog
  refine callsIn_of_wp_marks Try.func47 rfl trivial ?_ rfl
  simp only [Try.ntmps47, List.size_toArray, List.length_cons, List.length_nil, Nat.reduceAdd, Nat.reduceSub, Array.replicate_succ, Array.replicate_zero, List.push_toArray, List.append_toArray, List.nil_append, List.cons_append]
  gi_wp2_with (first
    | (refine ⟨trivial, ?_⟩; gi_at_call 102; refine (callsIn_wide.2 (vc_yes V _ h1 h2)).mono ?_; rintro e w' ⟨rfl, rfl⟩))
  clear hmm
  refine wpIn_loop (fun a' W => ∃ (k : Nat) (c6 c7 c17 c18 c19 c20 c21 c22 c23 c24 c25 c26 c27 c28 c29 c30 c31 c32 c33 c34 c35 c36 c37 c38 c39 c40 c41 : Value) (Ds : List Nat),
      a' = { tmps := #[.agg #[.int .i64 V, .slice (some ⟨b, off, none⟩) fs.length cap], .pointer (some ⟨w.heap.size, 0, none⟩), .pointer (some ⟨w.heap.size + 1, 0, none⟩), .pointer (some ⟨w.heap.size + 1 + 1 + 1, 0, none⟩),
          .int .i64 (leastOf (fs.take k)), undef, c6, c7, .pointer (some ⟨w.heap.size, 0, none⟩), .int .i64 V, .bool true, .bool false, .map (some (w.heap.size + 1 + 1)), .pointer (some ⟨w.heap.size, 1, none⟩), .slice (some ⟨b, off, none⟩) fs.length cap, .int .i64 fs.length,
          .int .i64 k, c17, c18, c19, c20, c21, c22, c23, c24, c25, c26, c27, c28, c29, c30, c31, c32, c33, c34, c35, c36, c37, c38, c39, c40, c41], defers := marks Ds } ∧
      k ≤ fs.length ∧ IsC V (fs.take k) ∧ IcW w W V (.slice (some ⟨b, off, none⟩) fs.length cap) (fs.take k) Ds)
    (fun a' _ => fs.length - (intOf (a'.tmps.getD 16 undef)).toNat) ?start ?round
  case start =>
    refine ⟨0, _, _, _, _, _, _, _, _, _, _, _, _, _, _, _, _, _, _, _, _, _, _, _, _, _, _, _, [], rfl, Nat.zero_le _, isC_nil h1 h2, ?_⟩
    have e0 := World.alloc_heap_new w (.cells #[.int .i64 V, .slice (some ⟨b, off, none⟩) fs.length cap] 28)
    have e1 := World.alloc_heap_new (w.alloc (.cells #[.int .i64 V, .slice (some ⟨b, off, none⟩) fs.length cap] 28)) (.cells #[.bool false] 4)
    have e3 := World.alloc_heap_new (((w.alloc (.cells #[.int .i64 V, .slice (some ⟨b, off, none⟩) fs.length cap] 28)).alloc (.cells #[.bool false] 4)).alloc (.map #[] 0)) (.cells #[.map (some (w.heap.size + 1 + 1))] 82)
    have hown := World.ownsMap_made ((w.alloc (.cells #[.int .i64 V, .slice (some ⟨b, off, none⟩) fs.length cap] 28)).alloc (.cells #[.bool false] 4)) Try.prog 2 (plainElem (H := Unit) Try.prog 4)
    simp only [World.size_alloc] at e1 e3 hown
    exact {
      below := (((((Below.refl _ w).alloc (Nat.le_refl _) _).alloc (by simp) _).alloc (by simp <;> omega) _).alloc (by simp <;> omega) _)
      kbox := (Below.heap_alloc _ _ _ (by simp <;> omega)).trans ((Below.heap_alloc _ _ _ (by simp <;> omega)).trans ((Below.heap_alloc _ _ _ (by simp)).trans e0))
      res := (Below.heap_alloc _ _ _ (by simp <;> omega)).trans ((Below.heap_alloc _ _ _ (by simp)).trans e1)
      own := hown.alloc _
      mbox := e3
      nodup := by simp
      marks := by simp }
  case round =>
    rintro a W ⟨k, c6, c7, c17, c18, c19, c20, c21, c22, c23, c24, c25, c26, c27, c28, c29, c30, c31, c32, c33, c34, c35, c36, c37, c38, c39, c40, c41, Ds, rfl, hk, hC, hW⟩
    have hsz := hW.size
    have k0 : W.cell? ⟨w.heap.size, 0, none⟩ = some (.int .i64 V) := by simp [World.cell?, hW.kbox]
    have r0 : W.cell? ⟨w.heap.size + 1, 0, none⟩ = some (.bool false) := (box_cell hW.res).1
    have r1 : W.frozen? ⟨w.heap.size + 1, 0, none⟩ = false := (box_cell hW.res).2
    have m0 : W.cell? ⟨w.heap.size + 1 + 1 + 1, 0, none⟩ = some (.map (some (w.heap.size + 1 + 1))) := (box_cell hW.mbox).1
    have hll := leastOf_lt hC
    obtain ⟨lo, hlo⟩ : ∃ lo, lo = leastOf (fs.take k) := ⟨_, rfl⟩
    rw [← hlo] at hll ⊢
    have Hlo := hid hlo
    have HC := hid hC
    have HW := hid hW
    clear hlo hC hW
    by_cases hlt : k < fs.length
    · obtain ⟨x, hx⟩ : ∃ x, x = fs[k]?.getD 0 := ⟨_, rfl⟩
      have hck : W.cell? ⟨b, off + k, none⟩ = some (.int .i64 x) := by rw [hx]; exact (HW.out.below.cell (p := ⟨b, off + k, none⟩) hb).trans (hc k hlt)
      have Hx := hid hx
      have hi0 : (0 : Int) ≤ (k : Int) := by omega
      have hi1 : (k : Int) < (fs.length : Int) := by omega
      clear hx
      have Hc := hid hc
      clear hc
      by_cases hb1 : x < lo
      · gi_wp2_with (refine ⟨(trivial : Fence.wide.fn 103), ?_⟩)
        refine ic_leave HW.out false (isCB_false fun h => ?_) rfl
        have := leastOf_bad (not_isC_take hlt h)
        rw [← Hlo.out, ← Hx.out] at this
        omega
      · have hge : lo ≤ x := by omega
        by_cases hb2 : allV V < x
        · gi_wp2_with (first
            | (refine ⟨trivial, ?_⟩; gi_at_call 103; refine (callsIn_wide.2 (av_any V _ (by omega) h2)).mono ?_; rintro e w' ⟨rfl, rfl⟩))
          refine ic_leave HW.out false (isCB_false fun h => ?_) rfl
          have := (isC_head (not_isC_take hlt h)).2.2
          rw [← Hx.out] at this
          omega
        · have hle : x ≤ allV V := by omega
          have h63 := allV_le h2
          obtain ⟨f, rfl⟩ : ∃ f : Nat, x = f := ⟨x.toNat, by omega⟩
          have hf : f < 64 := by omega
          have hwf : (Lit.int .i64 (f : Int)).wf = true := WalkArith.wf_i64 (by omega)
          have hkm : (fs.take k).length < maxLen := by unfold maxLen; simp; omega
          gi_wp2_with (first
            | (refine ⟨trivial, ?_⟩; gi_at_call 103; refine (callsIn_wide.2 (av_any V _ (by omega) h2)).mono ?_; rintro e w' ⟨rfl, rfl⟩)
            | (gi_at_mapUpdate; refine wpListIn_mapUpdate_own _ rfl _ _ _ 82 rfl 2 4 (Maps.int_keyed Try.underlying2) Try.underlying82 _ (w.heap.size + 1 + 1) _ _ rfl HW.out.own hkm _ _ _ rfl rfl (Maps.keyOf_int_mk Try.underlying2 hwf) _ [] (plainElem_bool Try.underlying4 true) ?_; intro w1 hown1 hgrow1)
            | (refine ⟨trivial, ?_⟩; gi_at_call 104; refine (parts_in _ _ trivial rfl _ _).mono ?_; rintro e w' ⟨rfl, rfl⟩))
          obtain ⟨fs', hfs'⟩ : ∃ fs', fs' = fs.take k ++ [(f : Int)] := ⟨_, rfl⟩
          have hW1 : IcW w w1 V (.slice (some ⟨b, off, none⟩) fs.length cap) fs' Ds := by rw [hfs']; exact HW.out.put rfl hown1 hgrow1
          have hW2 : IcW w (w1.alloc (.cells #[.int .i64 (f : Int)] 2)) V (.slice (some ⟨b, off, none⟩) fs.length cap) fs' Ds := hW1.turn (World.grownBy_alloc w1 _ none) (fun r e => by cases e)
          have Hfs' := hid hfs'
          have hsz1 := hW1.size
          have hDlt : ∀ D ∈ Ds, D < (w1.alloc (.cells #[.int .i64 (f : Int)] 2)).heap.size := fun D hD => lt_of_get (hW2.marks D hD).2
          refine wpIn_rangeFunc_ownG rfl (by decide) (gf := 162) (lb := #[.pointer (some ⟨w1.heap.size, 0, none⟩)]) rfl trivial (enters_of Try.func162 (by kernel_rfl) rfl)
            (parts_stops Fence.wide 9 trivial rfl (by decide) w1.heap.size f hf _ (by simp) (World.alloc_heap_new w1 _)) keepB_t (keepB_b (by simp)) (Below.refl _ _) (fun _ => rfl)
            (fun pre W => (∀ p ∈ pre, ((p.val : Nat) : Int) ∈ fs') ∧ IcW w W V (.slice (some ⟨b, off, none⟩) fs.length cap) fs' Ds)
            (fun c pre W => (c = .ret ∧ ∃ p ∈ pre, ((p.val : Nat) : Int) ∉ fs') ∧ IcW w W V (.slice (some ⟨b, off, none⟩) fs.length cap) fs' Ds)
            (OwnFrom.and (ownFrom_pure _ _) (icw_own (by simp; omega) hDlt)) (fun c => OwnFrom.and (ownFrom_pure _ _) (icw_own (by simp; omega) hDlt))
            ⟨by simp, hW2⟩
            (fun x => { tmps := #[.agg #[.int .i64 V, .slice (some ⟨b, off, none⟩) fs.length cap], .pointer (some ⟨w.heap.size, 0, none⟩), .pointer (some ⟨w.heap.size + 1, 0, none⟩), .pointer (some ⟨w.heap.size + 1 + 1 + 1, 0, none⟩),
              .int .i64 ((f : Int) + 1), undef, .int .i64 f, .int .i64 (x.val : Int), .pointer (some ⟨w.heap.size, 0, none⟩), .int .i64 V, .bool true, .bool false, .map (some (w.heap.size + 1 + 1)), .pointer (some ⟨w.heap.size, 1, none⟩), .slice (some ⟨b, off, none⟩) fs.length cap, .int .i64 fs.length,
              .int .i64 k, .bool true, .pointer (some ⟨b, off + k, none⟩), .int .i64 f, .int .i64 f, .int .i64 lo, .bool false, .bool false, .int .i64 f, .pointer (some ⟨w.heap.size, 0, none⟩), .int .i64 V, .int .i64 (allV V), .bool (decide (allV V < (f : Int))), .bool (decide (allV V < (f : Int))), .int .i64 f, .int .i64 ((f : Int) + 1),
              .map (some (w.heap.size + 1 + 1)), .int .i64 f, .int .i64 f, .func (.func 162) #[] #[.pointer (some ⟨w1.heap.size, 0, none⟩)], .int .i64 (x.val : Int), c37, c38, c39, c40, c41], defers := [] }) ?assign ?body ?done ?stop
          case assign =>
            intro l x W3 K hK
            gi_wp2
            exact hK
          case body =>
            rintro l pre x W3 ⟨hp, hW3⟩ _
            have m3 : W3.cell? ⟨w.heap.size + 1 + 1 + 1, 0, none⟩ = some (.map (some (w.heap.size + 1 + 1))) := (box_cell hW3.mbox).1
            have r3 : W3.cell? ⟨w.heap.size + 1, 0, none⟩ = some (.bool false) := (box_cell hW3.res).1
            have r4 : W3.frozen? ⟨w.heap.size + 1, 0, none⟩ = false := (box_cell hW3.res).2
            have hxl := x.isLt
            have hwx : (Lit.int .i64 (x.val : Int)).wf = true := WalkArith.wf_i64 (by omega)
            have HW3 := hid hW3
            have Hp := hid hp
            clear hW3 hp
            by_cases hm : ((x.val : Nat) : Int) ∈ fs'
            · have Hm := hid hm
              clear hm
              gi_wp2_with (gi_at_lookup; refine at_known rfl rfl HW3.out.own hwx rfl rfl (decide_eq_true Hm.out) ?_)
              refine ⟨KeepsFrom.refl _ _, rfl, fun p hp' => ?_, HW3.out⟩
              rcases List.mem_append.1 hp' with hp' | hp'
              · exact Hp.out p hp'
              · simp at hp'; rw [hp']; exact Hm.out
            · have Hm := hid hm
              clear hm
              gi_wp2_with (gi_at_lookup; refine at_known rfl rfl HW3.out.own hwx rfl rfl (decide_eq_false Hm.out) ?_)
              exact ⟨(KeepsOthers.setCell _ _ _).from _, ⟨rfl, x, by simp, Hm.out⟩, HW3.out.store⟩
          case done =>
            rintro D ys W3 hD rfl ⟨hp, hW3⟩ hK
            have hDb : w.heap.size + 4 ≤ D := by simp at hD; omega
            have hDn : D ∉ Ds := fun hm => by have := hDlt D hm; omega
            have HW4 := hid (hW3.mark hK hDb hDn)
            have htk : fs.take (k + 1) = fs' := by rw [take_snoc hlt, ← Hx.out, Hfs'.out]
            have hC' : IsC V fs' := by
              have h := leastOf_ok HC.out (x := (f : Int)) (by rw [← Hlo.out]; exact hge)
              rw [Hfs'.out]
              refine isC_snoc HC.out h.1 h.2 hle (fun p hp0 hpf => ?_)
              rw [Int.toNat_natCast] at hpf
              rw [← Hfs'.out]
              have hp64 : p < 64 := by have := and_le_left' _ _ hpf; omega
              exact hp ⟨p, hp64⟩ ((mem_subsF hf).2 ⟨hp0, hpf⟩)
            have hlo' : (f : Int) + 1 = leastOf (fs.take (k + 1)) := by rw [htk, Hfs'.out, leastOf_snoc]
            have HC' := hid hC'
            have Hlo' := hid hlo'
            have Htk := hid htk
            clear hp hW3 hC' hlo' htk
            gi_wp2
            refine ⟨⟨k + 1, ?_⟩, ?_⟩
            · (repeat apply Exists.intro)
              refine ⟨?e, ?_⟩
              case e =>
                rw [← Hlo'.out, show ((k + 1 : Nat) : Int) = (k : Int) + 1 by omega, show ({ target := .collected D, args := #[] } :: marks Ds : List Deferred) = marks (D :: Ds) from rfl]
              exact ⟨by omega, by rw [Htk.out]; exact HC'.out, by rw [Htk.out]; exact HW4.out⟩
            · simp [intOf]; omega
          case stop =>
            rintro D c pre W3 hD hpre ⟨⟨rfl, p, hpm, hpn⟩, hW3⟩ hK
            have hDb : w.heap.size + 4 ≤ D := by simp at hD; omega
            have hDn : D ∉ Ds := fun hm => by have := hDlt D hm; omega
            have HW4 := hid (hW3.mark hK hDb hDn)
            have hps := (mem_subsF hf).1 (hpre.subset hpm)
            have Hbad : Hid (isCB V fs = false) := hid (isCB_false fun h => hpn (by
              have := isC_parts (not_isC_take hlt h) hps.1 (by rw [← Hx.out, Int.toNat_natCast]; exact hps.2)
              rwa [← Hx.out, ← Hfs'.out] at this))
            clear hW3 hpn hpm hps
            gi_wp2
            exact ic_leave0 HW4.out Hbad.out rfl
    · have Hend : Hid (isCB V fs = true) := hid (isCB_true (by have := HC.out; rwa [List.take_of_length_le (by omega)] at this))
      gi_wp2
      exact ic_leave HW.out true Hend.out rfl

end Go.Proofs.Ytbhdipljhelddaa

/-! The program's test whether something is a complex, at whatever comes in. -/
namespace Go.Proofs.Ytbhdipljhelddaa
open Go.RowKit Go.Shelf

attribute [local go_sem] Oper.semAt_some

set_option maxRecDepth 100000 in
set_option maxHeartbeats 400000 in
theorem isc_bad (V : Int) (a : Option Addr) (n cap : Nat) (w : World) (h : ¬ (1 ≤ V ∧ V ≤ 6)) :
    CallsIn Fence.wide 10 Try.prog 47 #[.agg #[.int .i64 V, .slice a n cap]] w fun e w' => e = .returned (.bool false) ∧ Below w.heap.size w w' := by
  refine callsIn_of_wp_marks Try.func47 rfl trivial ?_ rfl
  simp only [Try.ntmps47, List.size_toArray, List.length_cons, List.length_nil, Nat.reduceAdd, Nat.reduceSub, Array.replicate_succ, Array.replicate_zero, List.push_toArray, List.append_toArray, List.nil_append, List.cons_append]
  gi_wp2_with (first
    | (refine ⟨trivial, ?_⟩; gi_at_call 102; refine (callsIn_wide.2 (vc_no V _ h)).mono ?_; rintro e w' ⟨rfl, rfl⟩))
  refine ⟨.bool false, ?_, rfl, ?_⟩
  · simp [results, Try.results47, go_sem]
  · exact ((Below.refl _ w).alloc (Nat.le_refl _) _).alloc (by simp) _

set_option maxRecDepth 100000 in
set_option maxHeartbeats 400000 in
theorem isc_nil (V : Int) (a : Option Addr) (cap : Nat) (w : World) (h1 : 1 ≤ V) (h2 : V ≤ 6) :
    CallsIn Fence.wide 10 Try.prog 47 #[.agg #[.int .i64 V, .slice a 0 cap]] w fun e w' => e = .returned (.bool true) ∧ Below w.heap.size w w' := by
  have hmm := @run_makeMap Try.prog
  refine callsIn_of_wp_marks Try.func47 rfl trivial ?_ rfl
  simp only [Try.ntmps47, List.size_toArray, List.length_cons, List.length_nil, Nat.reduceAdd, Nat.reduceSub, Array.replicate_succ, Array.replicate_zero, List.push_toArray, List.append_toArray, List.nil_append, List.cons_append]
  gi_wp2_with (first
    | (refine ⟨trivial, ?_⟩; gi_at_call 102; refine (callsIn_wide.2 (vc_yes V _ h1 h2)).mono ?_; rintro e w' ⟨rfl, rfl⟩))
  refine wpIn_loop_rounds 1 ?_
  rw [roundsIn_succ]
  gi_wp2
  refine ⟨.bool true, ?_, rfl, ?_⟩
  · simp [results, Try.results47, go_sem]
  · repeat (first | exact Below.refl _ _ | refine Below.alloc ?_ (by simp <;> omega) _ | refine Below.setCell ?_ (by simp <;> omega) _)

/-- impl.IsComplex, whatever comes in. -/
theorem implIsComplex (V : Int) (a : Option Addr) (cap : Nat) (fs : List Int) (w : World) (hx : SlI w w.heap.size a fs) (hl : fs.length ≤ 1048576) :
    Calls Try.prog 47 #[.agg #[.int .i64 V, .slice a fs.length cap]] w fun e w' => e = .returned (.bool (isCB V fs)) ∧ Below w.heap.size w w' := by
  by_cases hV : 1 ≤ V ∧ V ≤ 6
  · rcases hx with rfl | ⟨b, off, hb, rfl, hc⟩
    · exact (callsIn_wide.1 (isc_nil V a cap w hV.1 hV.2)).mono fun _ _ ⟨he, hw⟩ => ⟨by rw [he, isCB_true (isC_nil hV.1 hV.2)], hw⟩
    · exact callsIn_wide.1 (isc_in V b off cap fs w hV.1 hV.2 hb hc hl)
  · exact (callsIn_wide.1 (isc_bad V a fs.length cap w hV)).mono fun _ _ ⟨he, hw⟩ => ⟨by rw [he, isCB_false (fun h => hV ⟨h.lo, h.hi⟩)], hw⟩

theorem isc_yes (V : Int) (a : Option Addr) (cap : Nat) (fs : List Int) (w : World) (hx : SlI w w.heap.size a fs) (hl : fs.length ≤ 1048576) (h : IsC V fs) :
    Calls Try.prog 47 #[.agg #[.int .i64 V, .slice a fs.length cap]] w fun e w' => e = .returned (.bool true) ∧ Below w.heap.size w w' :=
  (implIsComplex V a cap fs w hx hl).mono fun _ _ ⟨he, hw⟩ => ⟨by rw [he, isCB_true h], hw⟩

theorem isc_no (V : Int) (a : Option Addr) (cap : Nat) (fs : List Int) (w : World) (hx : SlI w w.heap.size a fs) (hl : fs.length ≤ 1048576) (h : ¬ IsC V fs) :
    Calls Try.prog 47 #[.agg #[.int .i64 V, .slice a fs.length cap]] w fun e w' => e = .returned (.bool false) ∧ Below w.heap.size w w' :=
  (implIsComplex V a cap fs w hx hl).mono fun _ _ ⟨he, hw⟩ => ⟨by rw [he, isCB_false h], hw⟩

end Go.Proofs.Ytbhdipljhelddaa

/-! Faces that are wanted: the program's loop over them, whatever it asks. -/
namespace Go.Proofs.Ytbhdipljhelddaa
open Go.RowKit

/-- A result: a slice of int64 in new memory. -/
def Res (w w' : World) (v : Value) (xs : List Int) : Prop := w'.ownsRow w.heap.size 2 1 v xs.length (xs.map (Value.int .i64)) ∧ Below w.heap.size w w'

theorem Res.later {w0 w w' : World} {v : Value} {xs : List Int} (h : Res w w' v xs) (h0 : Below w0.heap.size w0 w) : Res w0 w' v xs :=
  ⟨ownsRow_base h.1 h0.size, h0.trans (h.2.mono h0.size)⟩

theorem Res.after {w w' w2 : World} {v : Value} {xs : List Int} (h : Res w w' v xs) (h2 : Below w'.heap.size w' w2) : Res w w2 v xs :=
  ⟨ownsRow_below h.1 h2 (fun g hg => (h.1.lt g hg).2), h.2.trans (h2.mono h.2.size)⟩

theorem res_nil (w w' : World) (h : Below w.heap.size w w') : Res w w' (.slice none 0 0) [] := ⟨World.ownsRow_nil _ _ _ _, h⟩

set_option maxHeartbeats 1000000 in
theorem fw_any (V : Int) (a : Option Addr) (cap : Nat) (fs : List Int) (w : World) (fid : Nat) (c1 : Value) (p : Int → Bool) (hx : SlI w w.heap.size a fs) (hl : fs.length ≤ 1048576)
    (hent : ∀ args w, (callFunc fid args).run Try.prog w = .ok (.enter fid args) w)
    (hcl : ∀ W' x, Below w.heap.size w W' → x ∈ fs → Calls Try.prog fid #[.int .i64 x, c1] W' fun e w' => e = .returned (.bool (p x)) ∧ Below W'.heap.size W' w') :
    Calls Try.prog 105 #[.agg #[.int .i64 V, .slice a fs.length cap], .func (.func fid) #[] #[c1]] w fun e w' => ∃ v, e = .returned v ∧ Res w w' v (fs.filter p) := by
  have hB0 : Below w.heap.size w (w.alloc (.cells #[.int .i64 V, .slice a fs.length cap] 28)) := (Below.refl _ w).alloc (Nat.le_refl _) _
  rcases hx with rfl | ⟨b, off, hb, rfl, hc⟩
  · clear hcl
    go_enter Try.func105, Try.ntmps105
    go_wp2
    refine wp_loop_rounds 1 ?_; rw [rounds_succ]
    go_wp2
    go_ret
    exact ⟨_, rfl, res_nil _ _ hB0⟩
  · have Hcl := hid hcl
    have Hc := hid hc
    clear hcl hc
    go_enter Try.func105, Try.ntmps105
    go_wp2
    go_loopw [5, 11] (fun v i wr => ∃ k : Nat, k ≤ fs.length ∧ i = .int .i64 k ∧ wr.ownsRow w.heap.size 2 1 v ((fs.take k).filter p).length (((fs.take k).filter p).map (Value.int .i64)) ∧
        Below w.heap.size w wr) (fun _ i _ => fs.length - (intOf i).toNat)
    case atStart => exact ⟨0, Nat.zero_le _, rfl, World.ownsRow_nil _ _ _ _, hB0⟩
    case round =>
      obtain ⟨k, hk, rfl, hown, hB⟩ := hrel
      by_cases hlt : k < fs.length
      · obtain ⟨x, hx⟩ : ∃ x, x = fs[k]?.getD 0 := ⟨_, rfl⟩
        have hck : wr.cell? ⟨b, off + k, none⟩ = some (.int .i64 x) := by rw [hx]; exact (hB.cell (p := ⟨b, off + k, none⟩) hb).trans (Hc.out k hlt)
        have hxm : x ∈ fs := by rw [hx]; exact getD_mem hlt
        have Hx := hid hx
        have hi0 : (0 : Int) ≤ (k : Int) := by omega
        have hi1 : (k : Int) < (fs.length : Int) := by omega
        have hcall := Hcl.out wr x hB hxm
        have Hcall := hid hcall
        clear hx hcall hxm
        have hsz := hB.size
        have hfl : ((fs.take k).filter p).length ≤ 1048576 := Nat.le_trans (List.length_filter_le _ _) (by simp; omega)
        go_wp2_with fail
        refine Hcall.out.mono ?_
        rintro e w1 ⟨rfl, hB1⟩
        have hB1' : Below w.heap.size w w1 := hB.trans (hB1.mono hsz)
        have hsz1 := hB1'.size
        have hown1 := ownsRow_below hown hB1 (fun g hg => (hown.lt g hg).2)
        have Hp : Hid (∀ c, p x = c → (fs.take (k + 1)).filter p = (fs.take k).filter p ++ (if c then [x] else [])) := hid (fun c hc => by
          rw [take_snoc hlt, List.filter_append, ← Hx.out]
          cases c <;> simp [hc])
        clear hown hck
        by_cases hpx : p x = true
        · have HP := hid (Hp.out true hpx)
          go_wp2_with (at_builtin; refine append_int rfl rfl hown1 hsz1 (by omega) rfl rfl ?_; intro v' w2 hown2 hgrow2 hB2)
          go_roundw
          case rel => exact ⟨k + 1, by omega, by go_num, by rw [HP.out]; exact hown2, hB1'.trans hB2⟩
          case measure => simp [intOf]; omega
        · have hpf : p x = false := by simpa using hpx
          have HP := hid (Hp.out false hpf)
          go_wp2_with fail
          go_roundw
          case rel => exact ⟨k + 1, by omega, by go_num, by rw [HP.out]; simpa using hown1, hB1'⟩
          case measure => simp [intOf]; omega
      · go_wp2
        go_ret
        obtain rfl : k = fs.length := by omega
        exact ⟨_, rfl, by simpa using hown, hB⟩

set_option maxHeartbeats 1000000 in
theorem fw_any2 (V : Int) (a : Option Addr) (cap : Nat) (fs : List Int) (w : World) (fid : Nat) (c1 c2 : Value) (p : Int → Bool) (hx : SlI w w.heap.size a fs) (hl : fs.length ≤ 1048576)
    (hent : ∀ args w, (callFunc fid args).run Try.prog w = .ok (.enter fid args) w)
    (hcl : ∀ W' x, Below w.heap.size w W' → x ∈ fs → Calls Try.prog fid #[.int .i64 x, c1, c2] W' fun e w' => e = .returned (.bool (p x)) ∧ Below W'.heap.size W' w') :
    Calls Try.prog 105 #[.agg #[.int .i64 V, .slice a fs.length cap], .func (.func fid) #[] #[c1, c2]] w fun e w' => ∃ v, e = .returned v ∧ Res w w' v (fs.filter p) := by
  have hB0 : Below w.heap.size w (w.alloc (.cells #[.int .i64 V, .slice a fs.length cap] 28)) := (Below.refl _ w).alloc (Nat.le_refl _) _
  rcases hx with rfl | ⟨b, off, hb, rfl, hc⟩
  · clear hcl
    go_enter Try.func105, Try.ntmps105
    go_wp2
    refine wp_loop_rounds 1 ?_; rw [rounds_succ]
    go_wp2
    go_ret
    exact ⟨_, rfl, res_nil _ _ hB0⟩
  · have Hcl := hid hcl
    have Hc := hid hc
    clear hcl hc
    go_enter Try.func105, Try.ntmps105
    go_wp2
    go_loopw [5, 11] (fun v i wr => ∃ k : Nat, k ≤ fs.length ∧ i = .int .i64 k ∧ wr.ownsRow w.heap.size 2 1 v ((fs.take k).filter p).length (((fs.take k).filter p).map (Value.int .i64)) ∧
        Below w.heap.size w wr) (fun _ i _ => fs.length - (intOf i).toNat)
    case atStart => exact ⟨0, Nat.zero_le _, rfl, World.ownsRow_nil _ _ _ _, hB0⟩
    case round =>
      obtain ⟨k, hk, rfl, hown, hB⟩ := hrel
      by_cases hlt : k < fs.length
      · obtain ⟨x, hx⟩ : ∃ x, x = fs[k]?.getD 0 := ⟨_, rfl⟩
        have hck : wr.cell? ⟨b, off + k, none⟩ = some (.int .i64 x) := by rw [hx]; exact (hB.cell (p := ⟨b, off + k, none⟩) hb).trans (Hc.out k hlt)
        have hxm : x ∈ fs := by rw [hx]; exact getD_mem hlt
        have Hx := hid hx
        have hi0 : (0 : Int) ≤ (k : Int) := by omega
        have hi1 : (k : Int) < (fs.length : Int) := by omega
        have hcall := Hcl.out wr x hB hxm
        have Hcall := hid hcall
        clear hx hcall hxm
        have hsz := hB.size
        have hfl : ((fs.take k).filter p).length ≤ 1048576 := Nat.le_trans (List.length_filter_le _ _) (by simp; omega)
        go_wp2_with fail
        refine Hcall.out.mono ?_
        rintro e w1 ⟨rfl, hB1⟩
        have hB1' : Below w.heap.size w w1 := hB.trans (hB1.mono hsz)
        have hsz1 := hB1'.size
        have hown1 := ownsRow_below hown hB1 (fun g hg => (hown.lt g hg).2)
        have Hp : Hid (∀ c, p x = c → (fs.take (k + 1)).filter p = (fs.take k).filter p ++ (if c then [x] else [])) := hid (fun c hc => by
          rw [take_snoc hlt, List.filter_append, ← Hx.out]
          cases c <;> simp [hc])
        clear hown hck
        by_cases hpx : p x = true
        · have HP := hid (Hp.out true hpx)
          go_wp2_with (at_builtin; refine append_int rfl rfl hown1 hsz1 (by omega) rfl rfl ?_; intro v' w2 hown2 hgrow2 hB2)
          go_roundw
          case rel => exact ⟨k + 1, by omega, by go_num, by rw [HP.out]; exact hown2, hB1'.trans hB2⟩
          case measure => simp [intOf]; omega
        · have hpf : p x = false := by simpa using hpx
          have HP := hid (Hp.out false hpf)
          go_wp2_with fail
          go_roundw
          case rel => exact ⟨k + 1, by omega, by go_num, by rw [HP.out]; simpa using hown1, hB1'⟩
          case measure => simp [intOf]; omega
      · go_wp2
        go_ret
        obtain rfl : k = fs.length := by omega
        exact ⟨_, rfl, by simpa using hown, hB⟩

end Go.Proofs.Ytbhdipljhelddaa
