import Derived.Test.YtbgkalkipalndaaDoorProg
import Derived.WalkKit
import Derived.WalkSpells
import Derived.WalkLawsBesides
import Derived.Deep.QuietTactic
import Derived.BigQuiet
import Derived.Deep.RegionWith
import Derived.Deep.DrawnRows
import Derived.Lib.Split
import Derived.Lib.Join
import Derived.Laws.BytesArg
import Derived.Laws.IdiomStrings
import Derived.RangeFuncNested
import Derived.RangeFuncBound
import Derived.RangeFuncCalls
import Derived.RangeFuncLeaves
import Derived.Shelf.Abstract
import Derived.Shelf.RegionOpen
import Derived.OwnWalkIn
import Derived.TacticsInMore
import Derived.LoopNIn
import Derived.LoopIn
import Derived.Maps.OwnIn
import Derived.Maps.OwnSet
import Derived.Maps.AppendAt
/-! Facts on numbers under 64, by running through all of them. -/
namespace Go.Proofs.YtbgkalkipalndaaDoor

/-- The digit at place v of a number. -/
def bitN (f v : Nat) : Bool := f / 2 ^ v % 2 == 1

/-- Parts of f from p downwards, as the program finds them. -/
def chain (f : Nat) : Nat → Nat → List Nat
  | 0, _ => []
  | n + 1, p => if p = 0 then [] else p :: chain f n ((p - 1) &&& f)
def subs (f : Nat) : List Nat := chain f 64 f

theorem sub_chain : ∀ f : Fin 64, ∀ p : Fin 64, p.val ≠ 0 → p.val &&& f.val = p.val → p.val = f.val ∨ ∃ v : Fin 6, bitN f.val v.val = true ∧ f.val ≠ 2 ^ v.val ∧ p.val &&& (f.val - 2 ^ v.val) = p.val := by decide +kernel
theorem next_sub : ∀ f : Fin 64, ∀ p : Fin 64, 0 < p.val → p.val &&& f.val = p.val → ∀ q : Fin 64, q.val < p.val → q.val &&& f.val = q.val → q.val ≤ (p.val - 1) &&& f.val := by decide +kernel
theorem next_is : ∀ f : Fin 64, ∀ p : Fin 64, 0 < p.val → ((p.val - 1) &&& f.val) < p.val ∧ ((p.val - 1) &&& f.val) &&& f.val = ((p.val - 1) &&& f.val) := by decide +kernel
theorem bit_sub : ∀ f : Fin 64, ∀ v : Fin 6, bitN f.val v.val = true → (f.val - 2 ^ v.val) &&& f.val = f.val - 2 ^ v.val ∧ 2 ^ v.val ≤ f.val := by decide +kernel
theorem mem_subs' : ∀ f : Fin 64, ∀ x : Fin 64, x.val ∈ subs f.val ↔ x.val ≠ 0 ∧ x.val &&& f.val = x.val := by decide +kernel
theorem bit_big : ∀ f : Fin 64, ∀ v : Fin 63, 6 ≤ v.val → bitN f.val v.val = false := by decide +kernel

theorem subs_len' : ∀ f : Fin 64, (subs f.val).length ≤ 63 := by decide +kernel

/-- How many digits 1 a number under 64 has. -/
def ones (f : Nat) : Nat := f % 2 + f / 2 % 2 + f / 4 % 2 + f / 8 % 2 + f / 16 % 2 + f / 32 % 2

theorem ones_half {r : Nat} (h : r < 64) : ones r = r % 2 + ones (r / 2) := by unfold ones; omega
theorem ones_zero : ones 0 = 0 := rfl
theorem ones_le (f : Nat) : ones f ≤ 6 := by unfold ones; omega
theorem ones_pos : ∀ f : Fin 64, f.val ≠ 0 → 0 < ones f.val := by decide +kernel

end Go.Proofs.YtbgkalkipalndaaDoor

namespace Go.Proofs.YtbgkalkipalndaaDoor



/-- All vertices of a complex with V of them. -/
def allV (V : Int) : Int := 2 ^ V.toNat - 1

theorem allV_le {V : Int} (h : V ≤ 6) : allV V ≤ 63 := by
  have h1 : V.toNat ≤ 6 := by omega
  have h2 : (2 : Nat) ^ V.toNat ≤ 2 ^ 6 := Nat.pow_le_pow_right (by decide) h1
  have h3 : ((2 ^ V.toNat : Nat) : Int) ≤ 64 := by exact_mod_cast h2
  simp only [Int.natCast_pow] at h3
  unfold allV
  have : ((2 : Nat) : Int) = 2 := rfl
  rw [this] at h3
  omega

/-- (V, fs) is a complex. -/
structure IsC (V : Int) (fs : List Int) : Prop where
  lo : 1 ≤ V
  hi : V ≤ 6
  range : ∀ x ∈ fs, 1 ≤ x ∧ x ≤ allV V
  asc : fs.Pairwise (· < ·)
  closed : ∀ x ∈ fs, ∀ p : Nat, p ≠ 0 → p &&& x.toNat = p → (p : Int) ∈ fs

theorem IsC.range63 {V : Int} {fs : List Int} (h : IsC V fs) : ∀ x ∈ fs, 1 ≤ x ∧ x ≤ 63 := fun x hx => ⟨(h.range x hx).1, by have := allV_le h.hi; have := (h.range x hx).2; omega⟩

theorem and_le_left' (p x : Nat) (h : p &&& x = p) : p ≤ x := by rw [← h]; exact Nat.and_le_right

/-- One vertex less is enough. -/
theorem closed_of_step {fs : List Int} (hr : ∀ x ∈ fs, 1 ≤ x ∧ x ≤ 63)
    (hs : ∀ x ∈ fs, ∀ v : Nat, v < 6 → bitN x.toNat v = true → x ≠ 2 ^ v → x - 2 ^ v ∈ fs) :
    ∀ x ∈ fs, ∀ p : Nat, p ≠ 0 → p &&& x.toNat = p → (p : Int) ∈ fs := by
  have key : ∀ n : Nat, ∀ x ∈ fs, x.toNat ≤ n → ∀ p : Nat, p ≠ 0 → p &&& x.toNat = p → (p : Int) ∈ fs := by
    intro n
    induction n with
    | zero => intro x hx hn; have := hr x hx; omega
    | succ n ih =>
      intro x hx hn p hp hpx
      have hx1 := hr x hx
      have hple := and_le_left' _ _ hpx
      rcases sub_chain ⟨x.toNat, by omega⟩ ⟨p, by omega⟩ hp hpx with h | ⟨v, hv, hne, hsub⟩
      · simp only at h
        rw [h, Int.toNat_of_nonneg (by omega)]; exact hx
      · simp only at hv hne hsub
        have hb := (bit_sub ⟨x.toNat, by omega⟩ v hv).2
        simp only at hb
        have hpos : 0 < 2 ^ v.val := Nat.two_pow_pos _
        have hc : ((2 ^ v.val : Nat) : Int) = 2 ^ v.val := by simp
        have hm := hs x hx v.val v.isLt hv (by rw [← hc]; omega)
        refine ih (x - 2 ^ v.val) hm (by rw [← hc]; omega) p hp ?_
        rw [show (x - 2 ^ v.val : Int).toNat = x.toNat - 2 ^ v.val by rw [← hc]; omega]
        exact hsub
  exact fun x hx => key x.toNat x hx (Nat.le_refl _)

theorem step_of_closed {fs : List Int} (hr : ∀ x ∈ fs, 1 ≤ x ∧ x ≤ 63)
    (h : ∀ x ∈ fs, ∀ p : Nat, p ≠ 0 → p &&& x.toNat = p → (p : Int) ∈ fs) :
    ∀ x ∈ fs, ∀ v : Nat, v < 6 → bitN x.toNat v = true → x ≠ 2 ^ v → x - 2 ^ v ∈ fs := by
  intro x hx v hv hb hne
  have hx1 := hr x hx
  obtain ⟨h1, h2⟩ := bit_sub ⟨x.toNat, by omega⟩ ⟨v, hv⟩ hb
  simp only at h1 h2
  have hc : ((2 ^ v : Nat) : Int) = 2 ^ v := by simp
  have := h x hx (x.toNat - 2 ^ v) (by rw [← hc] at hne; omega) h1
  rwa [show ((x.toNat - 2 ^ v : Nat) : Int) = x - 2 ^ v by rw [← hc]; omega] at this




theorem chain_fuel (f : Nat) : ∀ n m p : Nat, p ≤ n → p ≤ m → chain f n p = chain f m p := by
  intro n
  induction n with
  | zero => intro m p h1 _; obtain rfl : p = 0 := by omega
            cases m <;> simp [chain]
  | succ n ih =>
    intro m p h1 h2
    cases m with
    | zero => obtain rfl : p = 0 := by omega
              simp [chain]
    | succ m =>
      unfold chain
      by_cases hp : p = 0
      · simp [hp]
      · have h3 : (p - 1) &&& f ≤ p - 1 := Nat.and_le_left
        simp only [hp, if_false]
        rw [ih m _ (by omega) (by omega)]

theorem chain_pos {f n p : Nat} (hp : 0 < p) (hn : p ≤ n) : chain f n p = p :: chain f n ((p - 1) &&& f) := by
  cases n with
  | zero => omega
  | succ n =>
    have h3 : (p - 1) &&& f ≤ p - 1 := Nat.and_le_left
    conv => lhs; unfold chain
    rw [if_neg (by omega), chain_fuel f n (n + 1) _ (by omega) (by omega)]

theorem chain_zero (f n : Nat) : chain f n 0 = [] := by cases n <;> simp [chain]

theorem mem_subs {f x : Nat} (hf : f < 64) : x ∈ subs f ↔ x ≠ 0 ∧ x &&& f = x := by
  have hle : ∀ n p, ∀ y ∈ chain f n p, y ≤ p := by
    intro n
    induction n with
    | zero => intro p y hy; simp [chain] at hy
    | succ n ih =>
      intro p y hy
      unfold chain at hy
      split at hy
      · simp at hy
      · rcases List.mem_cons.1 hy with rfl | h
        · exact Nat.le_refl _
        · have := ih _ _ h
          have h3 : (p - 1) &&& f ≤ p - 1 := Nat.and_le_left
          omega
  constructor
  · intro h
    have hx := hle _ _ _ h
    exact (mem_subs' ⟨f, hf⟩ ⟨x, by omega⟩).1 h
  · intro h
    have hx := and_le_left' _ _ h.2
    exact (mem_subs' ⟨f, hf⟩ ⟨x, by omega⟩).2 h

noncomputable def isCB (V : Int) (fs : List Int) : Bool := @decide (IsC V fs) (Classical.propDecidable _)
theorem isCB_true {V : Int} {fs : List Int} (h : IsC V fs) : isCB V fs = true := by unfold isCB; exact @decide_eq_true _ (Classical.propDecidable _) h
theorem isCB_false {V : Int} {fs : List Int} (h : ¬ IsC V fs) : isCB V fs = false := by unfold isCB; exact @decide_eq_false _ (Classical.propDecidable _) h
theorem isCB_iff {V : Int} {fs : List Int} : isCB V fs = true ↔ IsC V fs := by unfold isCB; exact @decide_eq_true_iff _ (Classical.propDecidable _)

/-! ### face by face, in order -/
theorem isC_nil {V : Int} (h1 : 1 ≤ V) (h2 : V ≤ 6) : IsC V [] := ⟨h1, h2, by simp, List.Pairwise.nil, by simp⟩

theorem isC_snoc {V : Int} {pre : List Int} {x : Int} (h : IsC V pre) (hlt : ∀ y ∈ pre, y < x) (h1 : 1 ≤ x) (h2 : x ≤ allV V)
    (hp : ∀ p : Nat, p ≠ 0 → p &&& x.toNat = p → (p : Int) ∈ pre ++ [x]) : IsC V (pre ++ [x]) := by
  refine ⟨h.lo, h.hi, ?_, ?_, ?_⟩
  · intro y hy
    rcases List.mem_append.1 hy with hy | hy
    · exact h.range y hy
    · simp at hy; subst hy; exact ⟨h1, h2⟩
  · rw [List.pairwise_append]
    exact ⟨h.asc, by simp, fun a ha b hb => by simp at hb; subst hb; exact hlt a ha⟩
  · intro y hy p hp0 hpy
    rcases List.mem_append.1 hy with hy | hy
    · exact List.mem_append.2 (.inl (h.closed y hy p hp0 hpy))
    · simp at hy; subst hy; exact hp p hp0 hpy

theorem isC_head {V : Int} {pre rest : List Int} {x : Int} (h : IsC V (pre ++ x :: rest)) : (∀ y ∈ pre, y < x) ∧ 1 ≤ x ∧ x ≤ allV V :=
  ⟨fun y hy => (List.pairwise_append.1 h.asc).2.2 y hy x (by simp), h.range x (by simp)⟩

theorem isC_parts {V : Int} {pre rest : List Int} {x : Int} (h : IsC V (pre ++ x :: rest)) {p : Nat} (hp : p ≠ 0) (hpx : p &&& x.toNat = p) : (p : Int) ∈ pre ++ [x] := by
  have hx := (h.range63 x (by simp))
  have hm := h.closed x (by simp) p hp hpx
  have hple := and_le_left' _ _ hpx
  rcases List.mem_append.1 hm with hm | hm
  · exact List.mem_append.2 (.inl hm)
  · rcases List.mem_cons.1 hm with hm | hm
    · rw [hm]; simp
    · have := (List.pairwise_cons.1 (List.pairwise_append.1 h.asc).2.1).1 _ hm
      omega

/-- What the model finds below a face: m places have been looked at, from 62 downwards. -/
def belowR (f : Nat) : Nat → List Int
  | 0 => []
  | m + 1 => belowR f m ++ (if bitN f (62 - m) && f != 2 ^ (62 - m) then [(f : Int) - 2 ^ (62 - m)] else [])

theorem belowR_len (f : Nat) : ∀ m, (belowR f m).length ≤ m
  | 0 => by simp [belowR]
  | m + 1 => by
    have := belowR_len f m
    simp only [belowR, List.length_append]
    split <;> simp <;> omega

theorem mem_belowR {f : Nat} {y : Int} : ∀ m, m ≤ 63 → (y ∈ belowR f m ↔ ∃ v, v < 63 ∧ 63 - m ≤ v ∧ bitN f v = true ∧ f ≠ 2 ^ v ∧ y = f - 2 ^ v)
  | 0, _ => by simp [belowR]; intro v h1 h2; omega
  | m + 1, hm => by
    have ih := mem_belowR (f := f) (y := y) m (by omega)
    simp only [belowR, List.mem_append, ih]
    constructor
    · rintro (⟨v, h1, h2, h3⟩ | h)
      · exact ⟨v, h1, by omega, h3⟩
      · split at h
        · rename_i hb
          simp at hb h
          exact ⟨62 - m, by omega, by omega, hb.1, hb.2, h⟩
        · simp at h
    · rintro ⟨v, h1, h2, h3, h4, h5⟩
      by_cases hv : v = 62 - m
      · subst hv
        right
        rw [if_pos (by simp [h3, h4])]
        simp [h5]
      · exact .inl ⟨v, h1, by omega, h3, h4, h5⟩


theorem getD_mem {xs : List Int} {k : Nat} (h : k < xs.length) : xs[k]?.getD 0 ∈ xs := by
  rw [List.getElem?_eq_getElem h]; simp

theorem mem_getD {xs : List Int} {x : Int} (h : x ∈ xs) : ∃ k, k < xs.length ∧ xs[k]?.getD 0 = x := by
  obtain ⟨k, hk, e⟩ := List.mem_iff_getElem.1 h
  exact ⟨k, hk, by rw [List.getElem?_eq_getElem hk]; simpa using e⟩

/-- What the model asks, face by face. -/
theorem isC_of_looks {V : Int} {fs : List Int} (h1 : 1 ≤ V) (h2 : V ≤ 6) (hr : ∀ j, j < fs.length → 1 ≤ fs[j]?.getD 0 ∧ fs[j]?.getD 0 ≤ allV V)
    (ha : ∀ j, 0 < j → j < fs.length → fs[j - 1]?.getD 0 < fs[j]?.getD 0) (hb : ∀ j, j < fs.length → ∀ y ∈ belowR (fs[j]?.getD 0).toNat 63, y ∈ fs) : IsC V fs := by
  have hrange : ∀ x ∈ fs, 1 ≤ x ∧ x ≤ allV V := fun x hx => by obtain ⟨k, hk, e⟩ := mem_getD hx; rw [← e]; exact hr k hk
  have h63 : ∀ x ∈ fs, 1 ≤ x ∧ x ≤ 63 := fun x hx => ⟨(hrange x hx).1, by have := allV_le h2; have := (hrange x hx).2; omega⟩
  refine ⟨h1, h2, hrange, ?_, closed_of_step h63 ?_⟩
  · have key : ∀ i d, i + d + 1 < fs.length → fs[i]?.getD 0 < fs[i + d + 1]?.getD 0 := by
      intro i d
      induction d with
      | zero => intro h; exact ha (i + 1) (by omega) h
      | succ d ih => intro h; have h3 := ih (by omega); have h4 := ha (i + (d + 1) + 1) (by omega) h; simp only [Nat.add_sub_cancel] at h4; have e : i + (d + 1) = i + d + 1 := by omega
                     rw [e] at h4; rw [e]; omega
    rw [List.pairwise_iff_getElem]
    intro i j hi hj hij
    have := key i (j - i - 1) (by omega)
    rw [show i + (j - i - 1) + 1 = j by omega, List.getElem?_eq_getElem hi, List.getElem?_eq_getElem hj] at this
    simpa using this
  · intro x hx v hv hbit hne
    obtain ⟨k, hk, e⟩ := mem_getD hx
    have hx1 := h63 x hx
    refine hb k hk _ ((mem_belowR 63 (Nat.le_refl _)).2 ⟨v, by omega, by omega, by rw [e]; exact hbit, ?_, ?_⟩)
    · rw [e]; intro h; apply hne; have : ((x.toNat : Nat) : Int) = ((2 ^ v : Nat) : Int) := by rw [h]
      rw [Int.toNat_of_nonneg (by omega)] at this; simpa using this
    · rw [e, Int.toNat_of_nonneg (by omega)]

theorem isC_looks_range {V : Int} {fs : List Int} (h : IsC V fs) {j : Nat} (hj : j < fs.length) : 1 ≤ fs[j]?.getD 0 ∧ fs[j]?.getD 0 ≤ allV V := h.range _ (getD_mem hj)
theorem isC_looks_asc {V : Int} {fs : List Int} (h : IsC V fs) {j : Nat} (h0 : 0 < j) (hj : j < fs.length) : fs[j - 1]?.getD 0 < fs[j]?.getD 0 := by
  have := List.pairwise_iff_getElem.1 h.asc (j - 1) j (by omega) hj (by omega)
  rw [List.getElem?_eq_getElem (show j - 1 < fs.length by omega), List.getElem?_eq_getElem hj]
  simpa using this
theorem isC_looks_below {V : Int} {fs : List Int} (h : IsC V fs) {j : Nat} (hj : j < fs.length) {y : Int} (hy : y ∈ belowR (fs[j]?.getD 0).toNat 63) : y ∈ fs := by
  have hm := getD_mem hj
  have hx := h.range63 _ hm
  obtain ⟨v, h1, _, h3, h4, h5⟩ := (mem_belowR 63 (Nat.le_refl _)).1 hy
  have hc : ((2 ^ v : Nat) : Int) = 2 ^ v := by simp
  by_cases hv : v < 6
  · have hne : fs[j]?.getD 0 ≠ 2 ^ v := by
      intro e
      apply h4
      rw [e, ← hc]
      rfl
    have := step_of_closed h.range63 h.closed _ hm v hv h3 hne
    rw [h5, Int.toNat_of_nonneg (by omega)]; exact this
  · have hb := bit_big ⟨(fs[j]?.getD 0).toNat, by omega⟩ ⟨v, h1⟩ (by simp only; omega)
    simp only at hb
    rw [hb] at h3; cases h3

end Go.Proofs.YtbgkalkipalndaaDoor

/-! Small lemmas for all walks: slices of integers as lists, hidden facts, endings. -/
namespace Go.Proofs.YtbgkalkipalndaaDoor
open Go.RowKit

theorem hid {p : Prop} (h : p) : Hid p := h
theorem ret_bool {a b : Bool} (h : a = b) : Ending.returned (.bool a) = .returned (.bool b) := by rw [h]
theorem ret_int {k : IntKind} {a b : Int} (h : a = b) : Ending.returned (.int k a) = .returned (.int k b) := by rw [h]

/-- At address a (of a block below B) lie the integers xs. -/
def SlI (w : World) (B : Nat) (a : Option Addr) (xs : List Int) : Prop :=
  xs = [] ∨ ∃ b off, b < B ∧ a = some ⟨b, off, none⟩ ∧ ∀ i, i < xs.length → w.cell? ⟨b, off + i, none⟩ = some (.int .i64 (xs[i]?.getD 0))

theorem SlI.mono {w : World} {B B' : Nat} {a : Option Addr} {xs : List Int} (h : SlI w B a xs) (hB : B ≤ B') : SlI w B' a xs := by
  rcases h with rfl | ⟨b, off, hb, rfl, hc⟩
  · exact .inl rfl
  · exact .inr ⟨b, off, by omega, rfl, hc⟩

theorem SlI.below {w w' : World} {B : Nat} {a : Option Addr} {xs : List Int} (h : SlI w B a xs) (hw : Below B w w') : SlI w' B a xs := by
  rcases h with rfl | ⟨b, off, hb, rfl, hc⟩
  · exact .inl rfl
  · exact .inr ⟨b, off, hb, rfl, fun i hi => (hw.cell (p := ⟨b, off + i, none⟩) hb).trans (hc i hi)⟩

/-- .. as the arguments of a later call. -/
theorem SlI.later {w w' : World} {B : Nat} {a : Option Addr} {xs : List Int} (h : SlI w B a xs) (hw : Below B w w') (hB : B ≤ w'.heap.size) : SlI w' w'.heap.size a xs :=
  (h.below hw).mono hB

/-- What a call owns reads as a slice. -/
theorem ownsRow_slI {w : World} {base e : Nat} {v : Value} {n : Nat} {xs : List Int} (h : w.ownsRow base e 1 v n (xs.map (Value.int .i64))) :
    n = xs.length ∧ ∃ a cap, v = .slice a xs.length cap ∧ SlI w w.heap.size a xs := by
  have hl := h.1
  simp at hl
  subst hl
  refine ⟨rfl, ?_⟩
  rcases h.2 with ⟨rfl, hn⟩ | ⟨g, cap, cur, rfl, _, hg, _⟩
  · have hx : xs = [] := List.eq_nil_of_length_eq_zero hn
    subst hx
    exact ⟨none, 0, rfl, .inl rfl⟩
  · refine ⟨_, cap, rfl, .inr ⟨g, 0, (Array.getElem?_eq_some_iff.1 hg).1, rfl, fun i hi => ?_⟩⟩
    have := h.cells (g := g) rfl i (.int .i64 (xs[i]?.getD 0)) (by simp [hi])
    have hadd : (⟨g, 0, none⟩ : Addr).add i = ⟨g, i, none⟩ := by unfold Addr.add; split <;> simp_all
    rw [hadd] at this
    simpa using this

theorem take_snoc {xs : List Int} {k : Nat} (h : k < xs.length) : xs.take (k + 1) = xs.take k ++ [xs[k]?.getD 0] := by
  rw [List.take_succ_eq_append_getElem h, List.getElem?_eq_getElem h]; simp

theorem split_at {xs : List Int} {k : Nat} (h : k < xs.length) : xs = xs.take k ++ xs[k]?.getD 0 :: xs.drop (k + 1) := by
  rw [List.getElem?_eq_getElem h]
  simp

theorem info_i64 : (Tryd.prog.info? 2).map (fun i => (i.zero, i.size, i.bytes)) = some (some (.int .i64 0), 1, 8) := by kernel_rfl

theorem all_wrap {V : Int} (h1 : 0 ≤ V) (h2 : V ≤ 6) : wrap64 (wrap64 (2 ^ V.toNat) - 1) = allV V := by
  rcases (show V = 0 ∨ V = 1 ∨ V = 2 ∨ V = 3 ∨ V = 4 ∨ V = 5 ∨ V = 6 by omega) with rfl | rfl | rfl | rfl | rfl | rfl | rfl <;> decide +kernel

theorem bit_one {f v : Nat} (hf : f < 64) : bits BinOp.and IntKind.i64 ((f : Int) / 2 ^ v) 1 = if bitN f v then 1 else 0 := by
  have e : ((f : Int) / 2 ^ v) = ((f / 2 ^ v : Nat) : Int) := by simp
  have hle : f / 2 ^ v ≤ f := Nat.div_le_self _ _
  rw [e]
  have h := (bits_nat .i64 6 (by decide) (fun n h0 h1 => by rw [IntKind.wrap_i64]; omega) (f / 2 ^ v) 1 (by omega) (by decide)).1
  have h' : bits BinOp.and IntKind.i64 ((f / 2 ^ v : Nat) : Int) 1 = ((f / 2 ^ v &&& 1 : Nat) : Int) := h
  rw [h', Nat.and_one_is_mod]
  unfold bitN
  rcases Nat.mod_two_eq_zero_or_one (f / 2 ^ v) with h0 | h0 <;> simp [h0]

theorem pow62 {v : Nat} (hv : v ≤ 62) : (2 : Nat) ^ v ≤ 4611686018427387904 := by
  have h2 : (2 : Nat) ^ v ≤ 2 ^ 62 := Nat.pow_le_pow_right (by decide) hv
  simpa using h2

theorem pow_wrap {v : Nat} (hv : v ≤ 62) : wrap64 (2 ^ v) = ((2 ^ v : Nat) : Int) := by
  have h2 := pow62 hv
  rw [show ((2 : Int) ^ v) = ((2 ^ v : Nat) : Int) by simp]
  generalize (2 : Nat) ^ v = q at *
  exact IntWalk.wrap64_in _ ⟨by omega, by omega⟩

theorem pow_cast (v : Nat) : ((2 : Int) ^ v) = ((2 ^ v : Nat) : Int) := by simp

theorem sub_wrap {f v : Nat} (hf : f < 64) (hv : v ≤ 62) : wrap64 ((f : Int) - wrap64 (2 ^ v)) = (f : Int) - 2 ^ v := by
  have h2 := pow62 hv
  rw [pow_wrap hv, pow_cast]
  generalize (2 : Nat) ^ v = q at *
  exact IntWalk.wrap64_in _ ⟨by omega, by omega⟩

theorem ne_wrap {f v : Nat} (hv : v ≤ 62) : ((f : Int) != wrap64 (2 ^ v)) = (f != 2 ^ v) := by
  rw [pow_wrap hv]
  rw [Bool.eq_iff_iff]; simp only [bne_iff_ne, ne_eq]; rw [Int.natCast_inj]

/-- 'out = append(out, x)' on a slice of int64 that the call itself has made. -/
theorem append_int {w : World} {ops : Array Oper} {rest : List Oper} {o : Oper} {a : Act} {Q : Exit → Act → World → Prop} (hgd : o.guard = none) {s y : Operand}
    (ho : o.op = .call { callee := .builtin .append, args := #[s, y], argTypes := #[22, 22] })
    {base : Nat} {v : Value} {xs : List Int} {x : Int} (hown : w.ownsRow base 2 1 v xs.length (xs.map (Value.int .i64))) (hbase : base ≤ w.heap.size) (hl : xs.length ≤ 1099511627776)
    (hs : a.eval s = v) (hy : a.eval y = .slice (some ⟨w.heap.size, 0, none⟩) 1 1)
    (hK : ∀ v' w', w'.ownsRow base 2 1 v' (xs ++ [x]).length ((xs ++ [x]).map (Value.int .i64)) → w.grownBy w' v.ownBlock → Below base w w' → wpList Tryd.prog ops Q rest (a.put o.dst v') w') :
    wpList Tryd.prog ops Q (o :: rest) a (w.alloc (.cells #[.int .i64 x] 2)) := by
  obtain ⟨i0, hi, hz0, hz1, hz2⟩ := info_parts info_i64
  refine wpList_append_own _ hgd s y 22 ho base 2 i0 (.int .i64 0) 1 8 Tryd.underlying22 hi hz0 hz1 hz2 rfl (by decide) v _ _ hs (hown.alloc _) ⟨w.heap.size, 0, none⟩ 1 1 [.int .i64 x] hy rfl (cell_one_new _ _ _) (by simp [Value.oneCell']) (by unfold maxLen; omega) (by omega) (by simp; omega) ?_
  intro v' w1 hown1 hgrow1 _
  have hg : w.grownBy w1 v.ownBlock := (World.grownBy_alloc w _ _).trans hgrow1
  refine hK v' w1 (by simpa using hown1) hg ((Below.refl base w).grown hg hbase (fun k hk => (hown.lt k hk).1))

/-- A callee that leaves the world alone, in a region that draws its order. -/
theorem quiet_of_eq {P : Program} {f : FuncId} {args : Array Value} {w : World} {n : Nat} {v : Value}
    (h : Calls P f args (w.drewN n) fun e w' => e = .returned v ∧ w.drewN n = w') : Calls P f args (w.drewN n) fun e w'' => e = .returned v ∧ ∃ m, w'' = w.drewN m :=
  h.mono fun _ _ ⟨he, hm⟩ => ⟨he, n, hm.symm⟩

/-- 'make([]int64, n)'. -/
theorem make_int {w : World} {ops : Array Oper} {rest : List Oper} {o : Oper} {a : Act} {Q : Exit → Act → World → Prop} (hgd : o.guard = none) {l c : Operand} (hop : o.op = Op.makeSlice 22 l c)
    {n : Nat} (hl : a.eval l = .int .i64 (n : Int)) (hc : a.eval c = .int .i64 (n : Int)) (hn : n ≤ 1099511627776)
    (hK : ∀ w', w'.ownsRow w.heap.size 2 1 (.slice (some ⟨w.heap.size, 0, none⟩) n n) n ((List.replicate n (0 : Int)).map (Value.int .i64)) → w.grownBy w' none → Below w.heap.size w w' →
      wpList Tryd.prog ops Q rest (a.put o.dst (.slice (some ⟨w.heap.size, 0, none⟩) n n)) w') :
    wpList Tryd.prog ops Q (o :: rest) a w := by
  obtain ⟨i0, hi, hz0, hz1, hz2⟩ := info_parts info_i64
  refine wpList_make_full w hgd l c 22 hop w.heap.size 2 i0 (.int .i64 0) 1 Tryd.underlying22 hi hz0 hz1 .i64 .i64 _ _ n hl hc rfl rfl (by rw [hz2]; omega) (by unfold maxLen; omega) (Nat.le_refl _) ?_
  intro w' hown hg
  have e : (madeCells (Value.int .i64 0).cells (n * 1)).toList = (List.replicate n (0 : Int)).map (Value.int .i64) := by
    rw [Nat.mul_one]
    exact (toList_madeCells_one _ _).trans (by simp)
  rw [e] at hown
  exact hK w' hown hg ((Below.refl _ w).grown hg (Nat.le_refl _) (fun k hk => by cases hk))

theorem grownBy_set (w : World) (a : Addr) (u : Value) : w.grownBy (w.setCell a u) (some a.block) :=
  ⟨rfl, rfl, rfl, by simp [World.setCell], fun k _ hk => Below.heap_setCell _ _ _ _ (fun e => hk (by rw [e]))⟩

theorem ownsRow_set {w : World} {base e size : Nat} {v : Value} {n : Nat} {xs : List Value} (h : w.ownsRow base e size v n xs) {a : Addr} (ha : v.ownBlock ≠ some a.block) (u : Value) : (w.setCell a u).ownsRow base e size v n xs :=
  h.kept (grownBy_set w a u) (.inr ha)

theorem ownsRow_base {w : World} {base base' e size : Nat} {v : Value} {n : Nat} {xs : List Value} (h : w.ownsRow base e size v n xs) (hb : base' ≤ base) : w.ownsRow base' e size v n xs := by
  refine ⟨h.1, ?_⟩
  rcases h.2 with hn | ⟨g, cap, cur, rfl, hg, rest⟩
  · exact .inl hn
  · exact .inr ⟨g, cap, cur, rfl, by omega, rest⟩

/-- What is owned above a number stays so while what lies below it is kept. -/
theorem ownsRow_below {w w' : World} {base B e size : Nat} {v : Value} {n : Nat} {xs : List Value} (h : w.ownsRow base e size v n xs) (hb : Below B w w') (hB : ∀ g, v.ownBlock = some g → g < B) : w'.ownsRow base e size v n xs := by
  refine ⟨h.1, ?_⟩
  rcases h.2 with hn | ⟨g, cap, cur, rfl, hg, hh, rest⟩
  · exact .inl hn
  · exact .inr ⟨g, cap, cur, rfl, hg, (hb.block g (hB g rfl)).trans hh, rest⟩

theorem owned_slI {w : World} {base e : Nat} {a : Option Addr} {n m cap : Nat} {xs : List Int} (h : w.ownsRow base e 1 (.slice a m cap) n (xs.map (Value.int .i64))) : SlI w w.heap.size a xs := by
  obtain ⟨_, a', cap', he, hs⟩ := ownsRow_slI h
  cases he
  exact hs

theorem owned_len {w : World} {base e : Nat} {v : Value} {n : Nat} {xs : List Int} (h : w.ownsRow base e 1 v n (xs.map (Value.int .i64))) : n = xs.length := (ownsRow_slI h).1

end Go.Proofs.YtbgkalkipalndaaDoor

/-! Contracts of the model's functions of layer 1: has, is. -/
namespace Go.Proofs.YtbgkalkipalndaaDoor
open Go.RowKit

set_option maxHeartbeats 400000 in
theorem has_any (V f : Int) (a : Option Addr) (cap : Nat) (xs : List Int) (w : World) (hx : SlI w w.heap.size a xs) (hl : xs.length ≤ 1048576) :
    Calls Tryd.prog 56 #[.agg #[.int .i64 V, .slice a xs.length cap], .int .i64 f] w fun e w' => e = .returned (.bool (decide (f ∈ xs))) ∧ Below w.heap.size w w' := by
  have hB : ∀ x, Below w.heap.size w (w.alloc x) := fun x => (Below.refl _ w).alloc (Nat.le_refl _) _
  rcases hx with rfl | ⟨b, off, hb, rfl, hc⟩
  · go_enter Tryd.func56, Tryd.ntmps56
    go_wp2
    refine wp_loop_rounds 1 ?_; rw [rounds_succ]
    go_wp2
    go_ret
    exact ⟨ret_bool (by simp), hB _⟩
  · have hne : b ≠ w.heap.size := by omega
    go_enter Tryd.func56, Tryd.ntmps56
    go_wp2
    go_loop [5] (fun i => ∃ k : Nat, k ≤ xs.length ∧ i = .int .i64 k ∧ ∀ j, j < k → xs[j]?.getD 0 ≠ f) (fun i => xs.length - (intOf i).toNat)
    case atStart => exact ⟨0, Nat.zero_le _, rfl, by omega⟩
    case round =>
      obtain ⟨k, hk, rfl, hno⟩ := hrel
      have Hno := hid hno
      clear hno
      by_cases hlt : k < xs.length
      · have hck := hc k hlt
        have Hc := hid hc
        clear hc
        have hm := getD_mem hlt
        go_wp2
        · go_ret
          refine ⟨ret_bool ?_, hB _⟩
          have e : (xs[k] == f) = true := by assumption
          rw [List.getElem?_eq_getElem hlt] at hm
          have e' := eq_of_beq e
          rw [← e']; symm; exact decide_eq_true (by simp)
        · go_round
          case rel =>
            have e : (xs[k] == f) = false := by assumption
            refine ⟨k + 1, by omega, by go_num, fun j hj => ?_⟩
            by_cases hjk : j = k
            · subst hjk; rw [List.getElem?_eq_getElem hlt]; simpa using e
            · exact Hno.out j (by omega)
          case measure => simp [intOf]; omega
      · go_wp2
        go_ret
        refine ⟨ret_bool ?_, hB _⟩
        symm
        refine decide_eq_false (fun hm => ?_)
        obtain ⟨j, hj, e⟩ := mem_getD hm
        exact Hno.out j (by omega) e

set_option maxHeartbeats 400000 in
theorem in_any (n lo hi : Int) (w : World) :
    Calls Tryd.prog 53 #[.int .i64 n, .int .i64 lo, .int .i64 hi] w fun e w' => e = .returned (.bool (decide (lo ≤ n) && decide (n ≤ hi))) ∧ w = w' := by
  go_enter Tryd.func53, Tryd.ntmps53
  go_wp2
  · have h : lo ≤ n := by assumption
    go_ret
    exact ⟨ret_bool (by simp [h]), rfl⟩
  · have h : n < lo := by assumption
    go_ret
    exact ⟨ret_bool (by rw [decide_eq_false (show ¬ lo ≤ n by omega)]; rfl), rfl⟩

set_option maxHeartbeats 400000 in
theorem all_any (V : Int) (w : World) (h1 : 0 ≤ V) (h2 : V ≤ 6) :
    Calls Tryd.prog 54 #[.int .i64 V] w fun e w' => e = .returned (.int .i64 (allV V)) ∧ w = w' := by
  go_enter Tryd.func54, Tryd.ntmps54
  go_wp2
  go_ret
  exact ⟨ret_int (all_wrap h1 h2), rfl⟩

set_option maxHeartbeats 400000 in
theorem below_any (f : Nat) (w : World) (h2 : f < 64) :
    Calls Tryd.prog 55 #[.int .i64 f] w fun e w' => ∃ v, e = .returned v ∧ w'.ownsRow w.heap.size 2 1 v (belowR f 63).length ((belowR f 63).map (Value.int .i64)) ∧ Below w.heap.size w w' := by
  go_enter Tryd.func55, Tryd.ntmps55
  go_wp2
  go_loopw [3, 4] (fun v i wr => ∃ m : Nat, m ≤ 63 ∧ i = .int .i64 (62 - m) ∧ wr.ownsRow w.heap.size 2 1 v (belowR f m).length ((belowR f m).map (Value.int .i64)) ∧ Below w.heap.size w wr) (fun _ i _ => (1 + intOf i).toNat)
  case atStart =>
    exact ⟨0, by omega, by simp, World.ownsRow_made w #[] 0 (Nat.le_refl _) (by simp [maxLen]) rfl, (Below.refl _ w).alloc (Nat.le_refl _) _⟩
  case round =>
    obtain ⟨m, hm, rfl, hown, hB⟩ := hrel
    by_cases hlt : m < 63
    · have hz : (0 : Int) ≤ 62 - m := by omega
      have hlen := belowR_len f m
      have hbit := bit_one (v := 62 - m) h2
      have hne := ne_wrap (f := f) (v := 62 - m) (by omega)
      have hsub := sub_wrap (v := 62 - m) h2 (by omega)
      have Hd : Hid (∀ b, (bitN f (62 - m) && f != 2 ^ (62 - m)) = b → belowR f (m + 1) = belowR f m ++ (if b then [(f : Int) - 2 ^ (62 - m)] else [])) := by
        intro b hb; rw [belowR, hb]
      have Hs := hid hsub
      clear hsub
      have hsz := hB.size
      by_cases hb : bitN f (62 - m) = true
      · rw [if_pos hb] at hbit
        by_cases hq : (f != 2 ^ (62 - m)) = true
        · rw [hq] at hne
          have hd := Hd.out true (by rw [hb, hq]; rfl)
          have HD := hid hd
          clear hd Hd hq hb
          go_wp2_with (first
            | (at_builtin; refine append_int rfl rfl hown hsz (by omega) rfl rfl ?_; intro v' w1 hown1 hgrow1 hB1))
          go_roundw
          case rel =>
            refine ⟨m + 1, by omega, by go_num, ?_, ?_⟩
            · rw [HD.out]
              rw [Hs.out] at hown1
              exact hown1
            · exact hB.trans hB1
          case measure => simp [intOf]; omega
        · have hq' : (f != 2 ^ (62 - m)) = false := by simpa using hq
          rw [hq'] at hne
          have HD := hid (Hd.out false (by rw [hb, hq']; rfl))
          clear Hd hq hq' hb
          go_wp2_with fail
          go_roundw
          case rel =>
            refine ⟨m + 1, by omega, by go_num, ?_, hB⟩
            rw [HD.out]; simpa using hown
          case measure => simp [intOf]; omega
      · rw [if_neg hb] at hbit
        have HD := hid (Hd.out false (by simp [hb]))
        clear Hd hb hne
        go_wp2_with fail
        go_roundw
        case rel =>
          refine ⟨m + 1, by omega, by go_num, ?_, hB⟩
          rw [HD.out]; simpa using hown
        case measure => simp [intOf]; omega
    · obtain rfl : m = 63 := by omega
      go_wp2
      go_ret
      exact ⟨_, rfl, hown, hB⟩

set_option maxHeartbeats 400000 in
theorem in_yes (n lo hi : Int) (w : World) (h1 : lo ≤ n) (h2 : n ≤ hi) :
    Calls Tryd.prog 53 #[.int .i64 n, .int .i64 lo, .int .i64 hi] w fun e w' => e = .returned (.bool true) ∧ w = w' :=
  (in_any n lo hi w).mono fun _ _ ⟨he, hw⟩ => ⟨by rw [he]; simp [h1, h2], hw⟩

theorem in_no (n lo hi : Int) (w : World) (h : ¬ (lo ≤ n ∧ n ≤ hi)) :
    Calls Tryd.prog 53 #[.int .i64 n, .int .i64 lo, .int .i64 hi] w fun e w' => e = .returned (.bool false) ∧ w = w' :=
  (in_any n lo hi w).mono fun _ _ ⟨he, hw⟩ => ⟨by rw [he]; simp at h; by_cases hx : lo ≤ n
                                                  · rw [decide_eq_false (show ¬ n ≤ hi by have := h hx; omega)]; simp
                                                  · rw [decide_eq_false hx]; simp, hw⟩

theorem has_yes (V f : Int) (a : Option Addr) (cap : Nat) (xs : List Int) (w : World) (hx : SlI w w.heap.size a xs) (hl : xs.length ≤ 1048576) (h : f ∈ xs) :
    Calls Tryd.prog 56 #[.agg #[.int .i64 V, .slice a xs.length cap], .int .i64 f] w fun e w' => e = .returned (.bool true) ∧ Below w.heap.size w w' :=
  (has_any V f a cap xs w hx hl).mono fun _ _ ⟨he, hw⟩ => ⟨by rw [he, decide_eq_true h], hw⟩

theorem has_no (V f : Int) (a : Option Addr) (cap : Nat) (xs : List Int) (w : World) (hx : SlI w w.heap.size a xs) (hl : xs.length ≤ 1048576) (h : f ∉ xs) :
    Calls Tryd.prog 56 #[.agg #[.int .i64 V, .slice a xs.length cap], .int .i64 f] w fun e w' => e = .returned (.bool false) ∧ Below w.heap.size w w' :=
  (has_any V f a cap xs w hx hl).mono fun _ _ ⟨he, hw⟩ => ⟨by rw [he, decide_eq_false h], hw⟩

end Go.Proofs.YtbgkalkipalndaaDoor

/-! Texts as mathematics: pieces between bytes, digits, sets. -/
namespace Go.Proofs.YtbgkalkipalndaaDoor
open Go.RowKit

/-- The pieces of l between the bytes c. -/
def spl (c : UInt8) : List UInt8 → List (List UInt8)
  | [] => [[]]
  | b :: l => if b = c then [] :: spl c l else (match spl c l with | h :: t => (b :: h) :: t | [] => [[b]])

theorem spl_ne (c : UInt8) : ∀ l, spl c l ≠ []
  | [] => by simp [spl]
  | b :: l => by
    unfold spl
    by_cases h : b = c
    · simp [h]
    · rw [if_neg h]
      cases spl c l <;> simp

/-- One pass with the pieces found and the piece begun. -/
def splF (c : UInt8) : List (List UInt8) → List UInt8 → List UInt8 → List (List UInt8)
  | out, cur, [] => out ++ [cur]
  | out, cur, b :: l => if b = c then splF c (out ++ [cur]) [] l else splF c out (cur ++ [b]) l

theorem splF_spl (c : UInt8) : ∀ (l : List UInt8) (out : List (List UInt8)) (cur : List UInt8), splF c out cur l = out ++ (match spl c l with | h :: t => (cur ++ h) :: t | [] => [cur])
  | [], out, cur => by simp [splF, spl]
  | b :: l, out, cur => by
    unfold splF spl
    by_cases h : b = c
    · rw [if_pos h, if_pos h, splF_spl c l]
      have := spl_ne c l
      cases hs : spl c l with
      | nil => exact absurd hs this
      | cons x t => simp
    · rw [if_neg h, if_neg h, splF_spl c l]
      have := spl_ne c l
      cases hs : spl c l with
      | nil => exact absurd hs this
      | cons x t => simp

theorem splF_all (c : UInt8) (l : List UInt8) : splF c [] [] l = spl c l := by
  rw [splF_spl]
  have := spl_ne c l
  cases hs : spl c l with
  | nil => exact absurd hs this
  | cons x t => simp

theorem spl_free (c : UInt8) : ∀ l, (∀ b ∈ l, b ≠ c) → spl c l = [l]
  | [], _ => rfl
  | b :: l, h => by
    unfold spl
    rw [if_neg (h b (by simp)), spl_free c l (fun x hx => h x (by simp [hx]))]

theorem spl_at (c : UInt8) : ∀ (l r : List UInt8), (∀ b ∈ l, b ≠ c) → spl c (l ++ c :: r) = l :: spl c r
  | [], r, _ => by simp [spl]
  | b :: l, r, h => by
    rw [List.cons_append, spl, if_neg (h b (by simp)), spl_at c l r (fun x hx => h x (by simp [hx]))]

theorem join_cons2 (x y : List UInt8) (r : List (List UInt8)) (s : List UInt8) : Lib.join (x :: y :: r) s = x ++ (s ++ Lib.join (y :: r) s) := by
  rw [Lib.join_cons, Lib.join_cons]
  simp [Lib.joinTail]

theorem spl_join (c : UInt8) : ∀ (xs : List (List UInt8)), xs ≠ [] → (∀ x ∈ xs, ∀ b ∈ x, b ≠ c) → spl c (Lib.join xs [c]) = xs
  | [], h, _ => absurd rfl h
  | [x], _, h => by rw [Lib.join_one]; exact spl_free c x (h x (by simp))
  | x :: y :: r, _, h => by
    rw [join_cons2]
    show spl c (x ++ c :: Lib.join (y :: r) [c]) = _
    rw [spl_at c x _ (h x (by simp)), spl_join c (y :: r) (by simp) (fun z hz => h z (by simp [hz]))]

theorem join_snoc (s : List UInt8) : ∀ (xs : List (List UInt8)) (x : List UInt8), xs ≠ [] → Lib.join (xs ++ [x]) s = Lib.join xs s ++ (s ++ x)
  | [], _, h => absurd rfl h
  | [y], x, _ => by rw [List.singleton_append, join_cons2, Lib.join_one, Lib.join_one]
  | y :: z :: r, x, _ => by
    rw [List.cons_append, List.cons_append, join_cons2, join_cons2, ← List.cons_append, join_snoc s (z :: r) x (by simp)]
    simp

/-- The digits of the vertices below k of a set. -/
def digK (f k : Nat) : List UInt8 := ((List.range k).filter (fun v => bitN f v)).map (fun v => UInt8.ofNat (48 + v))
/-- The digits of a set. -/
def digL (x : Int) : List UInt8 := digK x.toNat 6

theorem digK_succ (f k : Nat) : digK f (k + 1) = digK f k ++ (if bitN f k then [UInt8.ofNat (48 + k)] else []) := by
  unfold digK
  rw [List.range_succ, List.filter_append, List.map_append]
  congr 1
  cases h : bitN f k <;> simp [h]

theorem digK_ten : ∀ f < 64, digK f 10 = digK f 6 := by decide +kernel
theorem digK_len : ∀ f < 64, (digK f 6).length ≤ 6 := by decide +kernel

/-- The text of a complex. -/
def textL (V : Int) (fac : List Int) : List UInt8 := UInt8.ofNat (48 + V.toNat) :: 58 :: Lib.join (fac.map digL) [44]

/-- A set read: digits of vertices less than n, in any order; at least one. -/
def rdF (n : Nat) : Nat → List UInt8 → Option Nat
  | x, [] => some x
  | x, b :: l => if 48 ≤ b.toNat ∧ b.toNat < 48 + n then rdF n (x ||| 2 ^ (b.toNat - 48)) l else none
def rdSet (n : Nat) (l : List UInt8) : Option Nat := match rdF n 0 l with | some x => if x = 0 then none else some x | none => none

/-- A set read: ascending digits. -/
def stF (n : Nat) : Nat → Nat → List UInt8 → Option Nat
  | x, _, [] => some x
  | x, lo, b :: l => if lo ≤ b.toNat ∧ b.toNat < 48 + n then stF n (x ||| 2 ^ (b.toNat - 48)) (b.toNat + 1) l else none
def stSet (n : Nat) (l : List UInt8) : Option Nat := match stF n 0 48 l with | some x => if x = 0 then none else some x | none => none

theorem stF_rdF (n : Nat) : ∀ (l : List UInt8) (x lo y : Nat), 48 ≤ lo → stF n x lo l = some y → rdF n x l = some y
  | [], x, lo, y, _, h => by simpa [stF, rdF] using h
  | b :: l, x, lo, y, hlo, h => by
    unfold stF at h
    by_cases hb : lo ≤ b.toNat ∧ b.toNat < 48 + n
    · rw [if_pos hb] at h
      unfold rdF
      rw [if_pos ⟨by omega, hb.2⟩]
      exact stF_rdF n l _ _ y (by omega) h
    · rw [if_neg hb] at h; cases h

theorem st_rd {n : Nat} {l : List UInt8} {x : Nat} (h : stSet n l = some x) : rdSet n l = some x := by
  unfold stSet at h
  unfold rdSet
  cases hs : stF n 0 48 l with
  | none => rw [hs] at h; cases h
  | some y => rw [hs] at h; rw [stF_rdF n l 0 48 y (Nat.le_refl _) hs]; exact h

/-- What is read of a set's own digits is the set, both ways. -/
theorem st_dig : ∀ n ≤ 6, ∀ f < 64, f ≠ 0 → f < 2 ^ n → stSet n (digK f 6) = some f := by decide +kernel

/-- All sets of some pieces. -/
def setsOf (rd : List UInt8 → Option Nat) : List (List UInt8) → Option (List Int)
  | [] => some []
  | p :: r => match rd p, setsOf rd r with | some x, some xs => some ((x : Int) :: xs) | _, _ => none

theorem sets_mono {r1 r2 : List UInt8 → Option Nat} (h : ∀ p x, r1 p = some x → r2 p = some x) : ∀ (ps : List (List UInt8)) (xs : List Int), setsOf r1 ps = some xs → setsOf r2 ps = some xs
  | [], xs, hx => hx
  | p :: r, xs, hx => by
    unfold setsOf at hx ⊢
    cases h1 : r1 p with
    | none => rw [h1] at hx; cases hx
    | some x =>
      cases h2 : setsOf r1 r with
      | none => rw [h1, h2] at hx; cases hx
      | some ys => rw [h1, h2] at hx; rw [h p x h1, sets_mono h r ys h2]; exact hx

theorem sets_dig {n : Nat} (hn : n ≤ 6) : ∀ (xs : List Int), (∀ x ∈ xs, 1 ≤ x ∧ x < 2 ^ n) → setsOf (stSet n) (xs.map digL) = some xs
  | [], _ => rfl
  | x :: xs, h => by
    have hx := h x (by simp)
    have h64 : (2 : Int) ^ n ≤ 64 := by
      have : (2 : Nat) ^ n ≤ 2 ^ 6 := Nat.pow_le_pow_right (by decide) hn
      have h2 : ((2 ^ n : Nat) : Int) ≤ 64 := by omega
      simpa using h2
    have hp : x.toNat < 2 ^ n := by
      have : ((x.toNat : Nat) : Int) < ((2 ^ n : Nat) : Int) := by rw [Int.toNat_of_nonneg (by omega)]; simpa using hx.2
      omega
    unfold setsOf digL at *
    rw [List.map_cons]
    show (match stSet n (digK x.toNat 6), setsOf (stSet n) (xs.map digL) with | some x, some xs => some ((x : Int) :: xs) | _, _ => none) = _
    rw [st_dig n hn x.toNat (by omega) (by omega) hp, sets_dig hn xs (fun y hy => h y (by simp [hy]))]
    simp; omega

end Go.Proofs.YtbgkalkipalndaaDoor

/-! The model's small functions on texts: l01Dec (one digit), l01Digits, l01Set, l01Number, l01Split. -/
namespace Go.Proofs.YtbgkalkipalndaaDoor
open Go.RowKit

theorem or_bitsX : ∀ f : Fin 64, ∀ v : Fin 6, bits BinOp.or IntKind.i64 (f.val : Int) (wrap64 (2 ^ v.val)) = ((f.val ||| 2 ^ v.val : Nat) : Int) := by decide +kernel
theorem u64_sm {x : Nat} (h : x < 64) : IntKind.u64.wrap (x : Int) = (x : Int) := by
  have : ∀ y : Fin 64, IntKind.u64.wrap (y.val : Int) = (y.val : Int) := by decide +kernel
  exact this ⟨x, h⟩

/-- A byte alone, made a string. -/
theorem conv1 (w : World) (c : Nat) : (convert 69 9 (.slice (some ⟨w.heap.size, 0, none⟩) 1 1)).run Tryd.prog (w.alloc (.cells #[.int .u8 (c : Int)] 5)) = .ok (.string ⟨#[UInt8.ofNat c]⟩) (w.alloc (.cells #[.int .u8 (c : Int)] 5)) := by
  have h := run_convert_bytes_arg (P := Tryd.prog) (w.alloc (.cells #[.int .u8 (c : Int)] 5)) 69 5 Tryd.underlying69 Tryd.underlying5 w.heap.size 0 1 1 [(c : Int)] rfl (fun i hi => by
    obtain rfl : i = 0 := by omega
    simp [go_sem]) 9 Tryd.underlying9
  rw [h]
  congr 2

/-- A byte of a text. -/
theorem idx_any (l : List UInt8) (k : Nat) (hk : k < l.length) (w : World) : (Instr.index 9 (.string ⟨l.toArray⟩) (.int .i64 (k : Int))).run Tryd.prog w = .ok (.int .u8 ((l[k]?.getD 0).toNat : Int)) w := by
  rw [run_index_string w _ _ _ _ Tryd.underlying9]
  have hs : (⟨l.toArray⟩ : ByteArray).size = l.length := rfl
  rw [dif_pos ⟨by omega, by rw [hs]; omega⟩]
  congr 4
  rw [List.getElem?_eq_getElem hk]
  rfl

set_option maxRecDepth 100000 in
theorem dec_any (n : Nat) (hn : n < 10) (w : World) : Calls Tryd.prog 57 #[.int .i64 (n : Int)] w fun e w' => e = .returned (.string ⟨#[UInt8.ofNat (48 + n)]⟩) ∧ Below w.heap.size w w' := by
  have hc := conv1 w (48 + n)
  obtain ⟨d, hd⟩ : ∃ d : ByteArray, d = ⟨#[UInt8.ofNat (48 + n)]⟩ := ⟨_, rfl⟩
  rw [← hd] at hc ⊢
  clear hd
  have e1 : ((48 + n : Nat) : Int) = 48 + (n : Int) := by omega
  rw [e1] at hc
  have hu : IntKind.u8.wrap (48 + (n : Int)) = 48 + (n : Int) := by
    have : ∀ y : Fin 10, IntKind.u8.wrap (48 + (y.val : Int)) = 48 + (y.val : Int) := by decide +kernel
    exact this ⟨n, hn⟩
  have h0 : (0 : Int) ≤ (n : Int) := by omega
  have h1 : (n : Int) < 10 := by omega
  clear e1
  go_enter Tryd.func57, Tryd.ntmps57
  go_wp2_with fail
  go_ret
  exact ⟨rfl, (Below.refl _ w).alloc (Nat.le_refl _) _⟩

set_option maxRecDepth 100000 in
set_option maxHeartbeats 1000000 in
theorem digits_any (f : Nat) (hf : f < 64) (w : World) : Calls Tryd.prog 59 #[.int .i64 (f : Int)] w fun e w' => e = .returned (.string ⟨(digL (f : Int)).toArray⟩) ∧ Below w.heap.size w w' := by
  have HE : Hid (digL (f : Int) = digK f 10) := hid (by unfold digL; rw [Int.toNat_natCast, digK_ten f hf])
  have HL : Hid (∀ k, k ≤ 10 → (digK f k).length ≤ 10) := hid (fun k hk => by
    unfold digK
    rw [List.length_map]
    exact Nat.le_trans (List.length_filter_le _ _) (by simpa using hk))
  rw [HE.out]
  go_enter Tryd.func59, Tryd.ntmps59
  go_wp2_with fail
  go_loopw [3, 4] (fun tv iv wr => ∃ k : Nat, k ≤ 10 ∧ tv = .string ⟨(digK f k).toArray⟩ ∧ iv = .int .i64 k ∧ Below w.heap.size w wr) (fun _ iv _ => 10 - (intOf iv).toNat)
  case atStart => exact ⟨0, by omega, rfl, rfl, Below.refl _ _⟩
  case round =>
    obtain ⟨k, hk, rfl, rfl, hB⟩ := hrel
    have HB := hid hB
    have hsz := hB.size
    clear hB
    by_cases hlt : k < 10
    · have hbit := bit_one (v := k) hf
      have hu1 : IntKind.u64.wrap (k : Int) = (k : Int) := u64_sm (by omega)
      have hi0 : (0 : Int) ≤ (k : Int) := by omega
      have hi1 : (k : Int) < 10 := by omega
      have Hs := hid (digK_succ f k)
      have Hd := hid (dec_any k hlt wr)
      cases hb1 : bitN f k
      · rw [hb1] at hbit Hs
        simp only [Bool.false_eq_true, if_false] at hbit
        clear hb1
        go_wp2_with fail
        go_roundw
        case rel => exact ⟨k + 1, by omega, by rw [Hs.out]; simp, by go_num, HB.out⟩
        case measure => simp [intOf]; omega
      · rw [hb1] at hbit Hs
        simp only [if_true] at hbit
        clear hb1
        obtain ⟨s, hs⟩ : ∃ s : ByteArray, s = ⟨(digK f k).toArray⟩ := ⟨_, rfl⟩
        obtain ⟨d, hd⟩ : ∃ d : ByteArray, d = ⟨#[UInt8.ofNat (48 + k)]⟩ := ⟨_, rfl⟩
        have hz1 : s.size ≤ 10 := by rw [hs]; exact HL.out k hk
        have hz2 : d.size = 1 := by rw [hd]; rfl
        have hadd : ∀ W : World, (Op.stringOp .add s d).run Tryd.prog W = .ok (.string (s ++ d)) W := fun W => run_string_add_sum W s d (by omega)
        have HF : Hid (s ++ d = ⟨(digK f (k + 1)).toArray⟩) := hid (by rw [hs, hd, Hs.out]; exact ByteArray.mk_append_mk _ [_])
        rw [← hs]
        rw [← hd] at Hd
        clear hs hd hz1 hz2
        go_wp2_with fail
        refine Hd.out.mono ?_
        rintro e w1 ⟨rfl, hB1⟩
        have HB1 := hid (HB.out.trans (hB1.mono hsz))
        clear hB1
        go_wp2_with fail
        go_roundw
        case rel => exact ⟨k + 1, by omega, by rw [HF.out], by go_num, HB1.out⟩
        case measure => simp [intOf]; omega
    · obtain rfl : k = 10 := by omega
      go_wp2_with fail
      go_ret
      exact ⟨rfl, HB.out⟩

set_option maxRecDepth 100000 in
set_option maxHeartbeats 1000000 in
theorem set_any (l : List UInt8) (n : Nat) (h1 : 1 ≤ n) (h6 : n ≤ 6) (hl : l.length ≤ 9223372036854775807) (w : World) :
    Calls Tryd.prog 47 #[.string ⟨l.toArray⟩, .int .i64 (n : Int)] w fun e w' => e = .returned (.tuple #[.int .i64 (((stSet n l).getD 0 : Nat) : Int), .bool (stSet n l).isSome]) ∧ w = w' := by
  obtain ⟨s, hs⟩ : ∃ s : ByteArray, s = ⟨l.toArray⟩ := ⟨_, rfl⟩
  have hsz : s.size = l.length := by rw [hs]; rfl
  have Hidx : Hid (∀ (k : Nat) (_ : k < l.length) (w : World), (Instr.index 9 (.string s) (.int .i64 (k : Int))).run Tryd.prog w = .ok (.int .u8 ((l[k]?.getD 0).toNat : Int)) w) := hid (fun k hk w => by rw [hs]; exact idx_any l k hk w)
  rw [← hs]
  clear hs
  go_enter Tryd.func47, Tryd.ntmps47
  go_wp2_with fail
  go_loop [6, 7, 8] (fun ov bv iv => ∃ k x lo : Nat, k ≤ l.length ∧ iv = .int .i64 k ∧ ov = .int .i64 (x : Int) ∧ bv = .int .i64 ((lo : Int) - 49) ∧ 48 ≤ lo ∧ lo ≤ 48 + n ∧ Hid (x < 64 ∧ stF n 0 48 l = stF n x lo (l.drop k))) (fun _ _ iv => l.length - (intOf iv).toNat)
  case atStart => exact ⟨0, 0, 48, Nat.zero_le _, rfl, rfl, rfl, by omega, by omega, hid ⟨by decide, rfl⟩⟩
  case round =>
    obtain ⟨k, x, lo, hk, rfl, rfl, rfl, hlo1, hlo2, HS⟩ := hrel
    by_cases hlt : k < l.length
    · have hix := Hidx.out k hlt
      obtain ⟨b, hb⟩ : ∃ b : UInt8, b = l[k]?.getD 0 := ⟨_, rfl⟩
      have Hdr : Hid (l.drop k = b :: l.drop (k + 1)) := hid (by
        rw [List.drop_eq_getElem_cons hlt, hb, List.getElem?_eq_getElem hlt]; rfl)
      rw [← hb] at hix
      clear hb
      obtain ⟨c, hc⟩ : ∃ c : Nat, c = b.toNat := ⟨_, rfl⟩
      have hc256 : c < 256 := by rw [hc]; exact b.toNat_lt
      rw [← hc] at hix
      have hi0 : (0 : Int) ≤ (k : Int) := by omega
      have hi1 : (k : Int) < (l.length : Int) := by omega
      by_cases hin : lo ≤ c ∧ c < 48 + n
      · obtain ⟨v, rfl⟩ : ∃ v, c = 48 + v := ⟨c - 48, by omega⟩
        have hv6 : v < 6 := by omega
        have hor := or_bitsX ⟨x, HS.out.1⟩ ⟨v, hv6⟩
        simp only at hor
        have hu1 : IntKind.u64.wrap (v : Int) = (v : Int) := u64_sm (by omega)
        have HN : Hid (x ||| 2 ^ v < 64 ∧ stF n 0 48 l = stF n (x ||| 2 ^ v) (48 + v + 1) (l.drop (k + 1))) := hid ⟨by
          have h2 : 2 ^ v < 2 ^ 6 := Nat.pow_lt_pow_right (by decide) hv6
          exact Nat.or_lt_two_pow (n := 6) HS.out.1 h2, by
          rw [HS.out.2, Hdr.out, stF, ← hc, if_pos hin, Nat.add_sub_cancel_left]⟩
        have hsub : (48 : Int) + (v : Int) - 48 = (v : Int) := by omega
        have hd1 : ((48 + v : Nat) : Int) = 48 + (v : Int) := by omega
        rw [hd1] at hix
        have hv0 : (0 : Int) ≤ (v : Int) := by omega
        have hv1 : (v : Int) < 6 := by omega
        have Hin := hid (fun W => in_yes (v : Int) ((lo : Int) - 49 + 1) ((n : Int) - 1) W (by omega) (by omega))
        have Hvn := hid (show v < n by omega)
        clear hd1 hc hin
        go_wp2_with (go_at_call 53; refine (Hin.out _).mono ?_; rintro e w1 ⟨rfl, rfl⟩)
        go_round
        case rel => exact ⟨k + 1, x ||| 2 ^ v, 48 + v + 1, by omega, by go_num, rfl, by congr 1; omega, by omega, (by have := Hvn.out; omega), HN.out⟩
        case measure => simp [intOf]; omega
      · have HR : Hid (stSet n l = none) := hid (by
          unfold stSet
          rw [HS.out.2, Hdr.out, stF, ← hc, if_neg hin])
        have hw1 : wrap64 ((c : Int) - 48) = (c : Int) - 48 := IntWalk.wrap64_in _ ⟨by omega, by omega⟩
        have Hin := hid (fun W => in_no ((c : Int) - 48) ((lo : Int) - 49 + 1) ((n : Int) - 1) W (by omega))
        have hc0 : (0 : Int) ≤ (c : Int) := by omega
        have hc1 : (c : Int) < 256 := by omega
        clear hc hin
        go_wp2_with (go_at_call 53; refine (Hin.out _).mono ?_; rintro e w1 ⟨rfl, rfl⟩)
        go_ret2
        exact ⟨by rw [HR.out]; rfl, rfl⟩
    · obtain rfl : k = l.length := by omega
      have HE : Hid (stSet n l = if x = 0 then none else some x) := hid (by
        unfold stSet
        rw [HS.out.2, List.drop_length, stF])
      by_cases hx0 : x = 0
      · subst hx0
        go_wp2_with fail
        go_ret2
        exact ⟨by rw [HE.out]; rfl, rfl⟩
      · have hgt : decide (0 < x) = true := decide_eq_true (by omega)
        go_wp2_with fail
        go_ret2
        exact ⟨by rw [HE.out, if_neg hx0]; rfl, rfl⟩

end Go.Proofs.YtbgkalkipalndaaDoor

/-! The model's l01Number and l01Split. -/
namespace Go.Proofs.YtbgkalkipalndaaDoor
open Go.RowKit

/-- Decimal digits read on. -/
def valF : Nat → List UInt8 → Option Nat
  | x, [] => some x
  | x, b :: l => if 48 ≤ b.toNat ∧ b.toNat ≤ 57 then valF (x * 10 + (b.toNat - 48)) l else none
/-- A number of at most nine digits without leading zeros. -/
def numN (l : List UInt8) : Option Nat := if l.length = 0 ∨ 9 < l.length ∨ (1 < l.length ∧ (l[0]?.getD 0).toNat = 48) then none else valF 0 l
def numR (l : List UInt8) : Int := match numN l with | some x => (x : Int) | none => -1

theorem ten9 {k : Nat} (h : k ≤ 9) : 10 ^ k ≤ 1000000000 := Nat.le_trans (Nat.pow_le_pow_right (by decide) h) (by decide)

set_option maxRecDepth 100000 in
set_option maxHeartbeats 2000000 in
theorem number_any (l : List UInt8) (hl : l.length ≤ 9223372036854775807) (w : World) :
    Calls Tryd.prog 68 #[.string ⟨l.toArray⟩] w fun e w' => e = .returned (.int .i64 (numR l)) ∧ w = w' := by
  obtain ⟨s, hs⟩ : ∃ s : ByteArray, s = ⟨l.toArray⟩ := ⟨_, rfl⟩
  have hsz : s.size = l.length := by rw [hs]; rfl
  have Hidx : Hid (∀ (k : Nat) (_ : k < l.length) (w : World), (Instr.index 9 (.string s) (.int .i64 (k : Int))).run Tryd.prog w = .ok (.int .u8 ((l[k]?.getD 0).toNat : Int)) w) := hid (fun k hk w => by rw [hs]; exact idx_any l k hk w)
  rw [← hs]
  clear hs
  by_cases h0 : l.length = 0
  · have HR : Hid (numR l = -1) := hid (by unfold numR numN; rw [if_pos (.inl h0)])
    rw [h0] at hsz
    clear hl Hidx h0
    go_enter Tryd.func68, Tryd.ntmps68
    go_wp2_with fail
    go_ret
    exact ⟨by rw [HR.out]; rfl, rfl⟩
  by_cases h9 : 9 < l.length
  · have HR : Hid (numR l = -1) := hid (by unfold numR numN; rw [if_pos (.inr (.inl h9))])
    have hd0 : ((l.length : Int) == 0) = false := by rw [beq_eq_false_iff_ne]; omega
    have hd9 : decide ((9 : Int) < (l.length : Int)) = true := decide_eq_true (by omega)
    clear hl Hidx h0 h9
    go_enter Tryd.func68, Tryd.ntmps68
    go_wp2_with fail
    go_ret
    exact ⟨by rw [HR.out]; rfl, rfl⟩
  have hd0 : ((l.length : Int) == 0) = false := by rw [beq_eq_false_iff_ne]; omega
  have hd9 : decide ((9 : Int) < (l.length : Int)) = false := decide_eq_false (by omega)
  have hix0 := Hidx.out 0 (by omega)
  obtain ⟨c0, hc0⟩ : ∃ c : Nat, c = (l[0]?.getD 0).toNat := ⟨_, rfl⟩
  rw [← hc0] at hix0
  have e00 : ((0 : Nat) : Int) = 0 := rfl
  rw [e00] at hix0
  clear e00
  by_cases hz : 1 < l.length ∧ c0 = 48
  · have HR : Hid (numR l = -1) := hid (by unfold numR numN; rw [if_pos (.inr (.inr ⟨hz.1, hc0 ▸ hz.2⟩))])
    have hd1 : decide ((1 : Int) < (l.length : Int)) = true := decide_eq_true (by omega)
    have hz2 := hz.2
    subst hz2
    clear hl Hidx h0 h9 hz hc0
    go_enter Tryd.func68, Tryd.ntmps68
    go_wp2_with fail
    go_ret
    exact ⟨by rw [HR.out]; rfl, rfl⟩
  · have HE : Hid (numR l = match valF 0 l with | some x => (x : Int) | none => -1) := hid (by
      unfold numR numN
      rw [if_neg]
      rintro (h | h | h)
      · exact h0 h
      · exact h9 h
      · exact hz ⟨h.1, hc0 ▸ h.2⟩)
    have hstart : ∀ Q : Bool, Q = (decide ((1 : Int) < (l.length : Int)) && ((c0 : Int) == 48)) → Q = false := by
      rintro Q rfl
      by_cases h1 : 1 < l.length
      · have : ¬ c0 = 48 := fun h => hz ⟨h1, h⟩
        have h2 : ((c0 : Int) == 48) = false := by simp; omega
        rw [h2, Bool.and_false]
      · rw [decide_eq_false (by omega), Bool.false_and]
    have hl9 : l.length ≤ 9 := by omega
    obtain ⟨q1, hq1⟩ : ∃ q1, decide ((1 : Int) < (l.length : Int)) = q1 := ⟨_, rfl⟩
    obtain ⟨q2, hq2⟩ : ∃ q2, ((c0 : Int) == 48) = q2 := ⟨_, rfl⟩
    have hq := hstart _ rfl
    rw [hq1, hq2] at hq
    have Hlp : Hid (∀ Q : Exit → Act → World → Prop, True) := hid (fun _ => trivial)
    clear hstart h0 h9 hz hc0 Hlp
    cases q1
    all_goals
      first
        | (cases q2
           all_goals first | exact absurd hq (by decide) | skip)
        | skip
    all_goals
      go_enter Tryd.func68, Tryd.ntmps68
      go_wp2_with fail
      clear hix0 hq1 hq2 hd0 hd9
      go_loop [3, 4] (fun nv iv => ∃ k x : Nat, k ≤ l.length ∧ iv = .int .i64 k ∧ nv = .int .i64 (x : Int) ∧ Hid (x < 10 ^ k ∧ valF 0 l = valF x (l.drop k))) (fun _ iv => l.length - (intOf iv).toNat)
      case atStart => exact ⟨0, 0, Nat.zero_le _, rfl, rfl, hid ⟨by decide, rfl⟩⟩
      case round =>
        obtain ⟨k, x, hk, rfl, rfl, HS⟩ := hrel
        have hx9 : x < 1000000000 := Nat.lt_of_lt_of_le HS.out.1 (ten9 (Nat.le_trans hk hl9))
        by_cases hlt : k < l.length
        · have hix := Hidx.out k hlt
          obtain ⟨b, hb⟩ : ∃ b : UInt8, b = l[k]?.getD 0 := ⟨_, rfl⟩
          have Hdr : Hid (l.drop k = b :: l.drop (k + 1)) := hid (by
            rw [List.drop_eq_getElem_cons hlt, hb, List.getElem?_eq_getElem hlt]; rfl)
          rw [← hb] at hix
          clear hb
          obtain ⟨c, hc⟩ : ∃ c : Nat, c = b.toNat := ⟨_, rfl⟩
          have hc256 : c < 256 := by rw [hc]; exact b.toNat_lt
          rw [← hc] at hix
          have hi0 : (0 : Int) ≤ (k : Int) := by omega
          have hi1 : (k : Int) < (l.length : Int) := by omega
          by_cases hin : 48 ≤ c ∧ c ≤ 57
          · have hda : decide ((c : Int) < 48) = false := decide_eq_false (by omega)
            have hdb : decide ((57 : Int) < (c : Int)) = false := decide_eq_false (by omega)
            have h8 : IntKind.u8.wrap ((c : Int) - 48) = (c : Int) - 48 := by
              have : ∀ y : Fin 10, IntKind.u8.wrap (((48 + y.val : Nat) : Int) - 48) = ((48 + y.val : Nat) : Int) - 48 := by decide +kernel
              have h := this ⟨c - 48, by omega⟩
              simp only at h
              rw [show 48 + (c - 48) = c by omega] at h
              exact h
            have HN : Hid (x * 10 + (c - 48) < 10 ^ (k + 1) ∧ valF 0 l = valF (x * 10 + (c - 48)) (l.drop (k + 1))) := hid ⟨by
              have := HS.out.1
              rw [Nat.pow_succ]
              omega, by rw [HS.out.2, Hdr.out, valF, ← hc, if_pos hin]⟩
            have hcl : (48 : Int) ≤ (c : Int) := by omega
            have hcu : (c : Int) ≤ 57 := by omega
            have hx0 : (0 : Int) ≤ (x : Int) := by omega
            have hx1 : (x : Int) < 1000000000 := by omega
            clear hc hin
            go_wp2_with fail
            go_round
            case rel => exact ⟨k + 1, x * 10 + (c - 48), by omega, by go_num, by congr 1; omega, HN.out⟩
            case measure => simp [intOf]; omega
          · have HR : Hid (numR l = -1) := hid (by
              rw [HE.out, HS.out.2, Hdr.out, valF, ← hc, if_neg hin])
            by_cases hlo : c < 48
            · have hda : decide ((c : Int) < 48) = true := decide_eq_true (by omega)
              clear hc hin hlo
              go_wp2_with fail
              go_ret
              exact ⟨by rw [HR.out]; rfl, rfl⟩
            · have hda : decide ((c : Int) < 48) = false := decide_eq_false (by omega)
              have hdb : decide ((57 : Int) < (c : Int)) = true := decide_eq_true (by omega)
              clear hc hin hlo
              go_wp2_with fail
              go_ret
              exact ⟨by rw [HR.out]; rfl, rfl⟩
        · obtain rfl : k = l.length := by omega
          have HR : Hid (numR l = (x : Int)) := hid (by rw [HE.out, HS.out.2, List.drop_length, valF])
          go_wp2_with fail
          go_ret
          exact ⟨by rw [HR.out]; rfl, rfl⟩

/-- A text in a cell. -/
def strV (l : List UInt8) : Value := .string ⟨l.toArray⟩

theorem info_str : (Tryd.prog.info? 9).map (fun i => (i.zero, i.size, i.bytes)) = some (some (.string ByteArray.empty), 1, 16) := by kernel_rfl

/-- 'out = append(out, x)' on a slice of strings that the call itself has made. -/
theorem append_str {w : World} {ops : Array Oper} {rest : List Oper} {o : Oper} {a : Act} {Q : Exit → Act → World → Prop} (hgd : o.guard = none) {s y : Operand}
    (ho : o.op = .call { callee := .builtin .append, args := #[s, y], argTypes := #[55, 55] })
    {base : Nat} {v : Value} {xs : List (List UInt8)} {x : List UInt8} (hown : w.ownsRow base 9 1 v xs.length (xs.map strV)) (hbase : base ≤ w.heap.size) (hl : xs.length ≤ 1099511627776)
    (hs : a.eval s = v) (hy : a.eval y = .slice (some ⟨w.heap.size, 0, none⟩) 1 1)
    (hK : ∀ v' w', w'.ownsRow base 9 1 v' (xs ++ [x]).length ((xs ++ [x]).map strV) → w.grownBy w' v.ownBlock → Below base w w' → wpList Tryd.prog ops Q rest (a.put o.dst v') w') :
    wpList Tryd.prog ops Q (o :: rest) a (w.alloc (.cells #[strV x] 9)) := by
  obtain ⟨i0, hi, hz0, hz1, hz2⟩ := info_parts info_str
  refine wpList_append_own _ hgd s y 55 ho base 9 i0 (.string ByteArray.empty) 1 16 Tryd.underlying55 hi hz0 hz1 hz2 rfl (by decide) v _ _ hs (hown.alloc _) ⟨w.heap.size, 0, none⟩ 1 1 [strV x] hy rfl (cell_one_new _ _ _) (by simp [Value.oneCell', strV]) (by unfold maxLen; omega) (by omega) (by simp; omega) ?_
  intro v' w1 hown1 hgrow1 _
  have hg : w.grownBy w1 v.ownBlock := (World.grownBy_alloc w _ _).trans hgrow1
  refine hK v' w1 (by simpa using hown1) hg ((Below.refl base w).grown hg hbase (fun k hk => (hown.lt k hk).1))

theorem sp_cut (l : List UInt8) (a b : Nat) : (⟨l.toArray⟩ : ByteArray).extract a b = ⟨((l.drop a).take (b - a)).toArray⟩ := by
  rw [Lib.extract_eq]

theorem take_next {l : List UInt8} {a k : Nat} (hak : a ≤ k) (hk : k < l.length) : (l.drop a).take (k + 1 - a) = (l.drop a).take (k - a) ++ [l[k]?.getD 0] := by
  have e : k + 1 - a = (k - a) + 1 := by omega
  rw [e, List.take_succ_eq_append_getElem (by simp; omega)]
  congr 2
  rw [List.getElem_drop, List.getElem?_eq_getElem hk]
  simp only [Option.getD_some]
  congr 1
  omega

set_option maxRecDepth 100000 in
set_option maxHeartbeats 2000000 in
theorem splitS_any (l : List UInt8) (c : UInt8) (hl : l.length ≤ 1048576) (w : World) :
    Calls Tryd.prog 46 #[.string ⟨l.toArray⟩, .int .u8 (c.toNat : Int)] w fun e w' => ∃ v, e = .returned v ∧ w'.ownsRow w.heap.size 9 1 v (spl c l).length ((spl c l).map strV) ∧ Below w.heap.size w w' := by
  have hown0 := World.ownsRow_made (base := w.heap.size) (e := 9) (size := 1) w #[] 0 (Nat.le_refl _) (by simp [maxLen]) rfl
  have Hown0 := hid hown0
  have HB0 := hid ((Below.refl _ w).alloc (Nat.le_refl _) (.cells #[] 9))
  have HF := hid (splF_all c l)
  obtain ⟨s, hs⟩ : ∃ s : ByteArray, s = ⟨l.toArray⟩ := ⟨_, rfl⟩
  have hsz : s.size = l.length := by rw [hs]; rfl
  have Hidx : Hid (∀ (k : Nat) (_ : k < l.length) (w : World), (Instr.index 9 (.string s) (.int .i64 (k : Int))).run Tryd.prog w = .ok (.int .u8 ((l[k]?.getD 0).toNat : Int)) w) := hid (fun k hk w => by rw [hs]; exact idx_any l k hk w)
  have Hcut : Hid (∀ a b, s.extract a b = ⟨((l.drop a).take (b - a)).toArray⟩) := hid (fun a b => by rw [hs]; exact sp_cut l a b)
  rw [← hs]
  obtain ⟨cn, hcn⟩ : ∃ cn : Nat, cn = c.toNat := ⟨_, rfl⟩
  rw [← hcn]
  clear hs hown0
  go_enter Tryd.func46, Tryd.ntmps46
  go_wp2_with fail
  go_loopw [5, 6, 7] (fun v av iv wr => ∃ (k at_ : Nat) (out : List (List UInt8)), k ≤ l.length ∧ at_ ≤ k ∧ iv = .int .i64 k ∧ av = .int .i64 at_ ∧ wr.ownsRow w.heap.size 9 1 v out.length (out.map strV) ∧ Hid (out.length ≤ k) ∧
      Hid (splF c out ((l.drop at_).take (k - at_)) (l.drop k) = spl c l) ∧ Below w.heap.size w wr) (fun _ _ iv _ => l.length - (intOf iv).toNat)
  case atStart => exact ⟨0, 0, [], Nat.zero_le _, Nat.le_refl _, rfl, rfl, by simpa using Hown0.out, hid (Nat.le_refl _), hid (by simpa using HF.out), HB0.out⟩
  case round =>
    obtain ⟨k, at_, out, hk, hak, rfl, rfl, hown, HO, HS, hB⟩ := hrel
    have hsz1 := hB.size
    have hol := HO.out
    have hi0 : (0 : Int) ≤ (k : Int) := by omega
    have ha0 : (0 : Int) ≤ (at_ : Int) := by omega
    have ha1 : (at_ : Int) ≤ (k : Int) := by omega
    have hkl : (k : Int) ≤ (l.length : Int) := by omega
    by_cases hlt : k < l.length
    · have hix := Hidx.out k hlt
      obtain ⟨b, hb⟩ : ∃ b : UInt8, b = l[k]?.getD 0 := ⟨_, rfl⟩
      have Hdr : Hid (l.drop k = b :: l.drop (k + 1)) := hid (by
        rw [List.drop_eq_getElem_cons hlt, hb, List.getElem?_eq_getElem hlt]; rfl)
      have Htk : Hid ((l.drop at_).take (k + 1 - at_) = (l.drop at_).take (k - at_) ++ [b]) := hid (by rw [take_next hak hlt, hb])
      rw [← hb] at hix
      clear hb
      have hi1 : (k : Int) < (l.length : Int) := by omega
      by_cases hbc : b = c
      · have hde : ((b.toNat : Int) == (cn : Int)) = true := by rw [hbc, hcn]; simp
        have HN : Hid (splF c (out ++ [(l.drop at_).take (k - at_)]) ((l.drop (k + 1)).take (k + 1 - (k + 1))) (l.drop (k + 1)) = spl c l) := hid (by
          rw [← HS.out, Hdr.out]
          conv => rhs; unfold splF
          rw [if_pos hbc]
          simp)
        have HX : Hid (Value.string (s.extract at_ k) = strV ((l.drop at_).take (k - at_))) := hid (by rw [Hcut.out]; rfl)
        have hoL : out.length ≤ 1099511627776 := by omega
        clear hbc hcn
        go_wp2_with (first
          | (at_builtin; rw [HX.out]; refine append_str rfl rfl hown hsz1 hoL rfl rfl ?_; intro v' w2 hown2 hgrow2 hB2)
          | fail)
        go_roundw
        case rel => exact ⟨k + 1, k + 1, _, by omega, Nat.le_refl _, by go_num, by go_num, hown2, hid (by simp; omega), HN.out, hB.trans hB2⟩
        case measure => simp [intOf]; omega
      · have hde : ((b.toNat : Int) == (cn : Int)) = false := by
          rw [hcn]
          simp only [beq_eq_false_iff_ne, ne_eq, Int.natCast_inj]
          exact fun h => hbc (UInt8.toNat_inj.1 h)
        have HN : Hid (splF c out ((l.drop at_).take (k + 1 - at_)) (l.drop (k + 1)) = spl c l) := hid (by
          rw [← HS.out, Hdr.out, Htk.out]
          conv => rhs; unfold splF
          rw [if_neg hbc])
        clear hbc hcn
        go_wp2_with fail
        go_roundw
        case rel => exact ⟨k + 1, at_, out, by omega, by omega, by go_num, rfl, hown, hid (by omega), HN.out, hB⟩
        case measure => simp [intOf]; omega
    · obtain rfl : k = l.length := by omega
      have HX : Hid (Value.string (s.extract at_ l.length) = strV ((l.drop at_).take (l.length - at_))) := hid (by rw [Hcut.out]; rfl)
      have HE : Hid (spl c l = out ++ [(l.drop at_).take (l.length - at_)]) := hid (by rw [← HS.out, List.drop_length, splF])
      have hoL : out.length ≤ 1099511627776 := by omega
      go_wp2_with (first
        | (at_builtin; rw [HX.out]; refine append_str rfl rfl hown hsz1 hoL rfl rfl ?_; intro v' w2 hown2 hgrow2 hB2)
        | fail)
      go_ret
      exact ⟨_, rfl, by rw [HE.out]; exact hown2, hB.trans hB2⟩

end Go.Proofs.YtbgkalkipalndaaDoor

/-! The parts of a set, one after the other: an iterator, and what a function that ranges over it leaves. -/
namespace Go.Proofs.YtbgkalkipalndaaDoor
open Go.RowKit Go.Shelf

attribute [local go_sem] Oper.semAt_some

/-- w' is w but for the blocks Ds, which are no longer what they were. -/
structure Shut (Ds : List Nat) (w w' : World) : Prop where
  os : w'.os = w.os
  tape : w'.tape = w.tape
  output : w'.output = w.output
  size : w'.heap.size = w.heap.size
  block : ∀ k, k ∉ Ds → w'.heap[k]? = w.heap[k]?

theorem Shut.below {Ds : List Nat} {B : Nat} {w w' : World} (h : Shut Ds w w') (hB : ∀ D ∈ Ds, B ≤ D) : Below B w w' :=
  ⟨h.os, h.tape, h.output, by rw [h.size]; exact Nat.le_refl _, fun k hk => h.block k (fun hm => by have := hB k hm; omega)⟩

/-- The marks that loops over functions leave. -/
def marks (Ds : List Nat) : List Deferred := Ds.map fun D => { target := .collected D, args := #[] }

theorem leaves_marks {F : Fence} {n : Nat} {P : Program} {fn : Func} {tmps : Array Value} {R : Ending → World → Prop} {u : FrameMode} (hu : u ≠ .run) :
    ∀ (Ds : List Nat) (w : World), Ds.Nodup → (∀ D ∈ Ds, w.heap[D]? = some (.deferred (some []))) → (∀ w', Shut Ds w w' → LeavesIn F n P fn tmps R [] u w') → LeavesInM F n P fn tmps R (marks Ds) u w := by
  intro Ds
  induction Ds with
  | nil => intro w _ _ h; exact h w ⟨rfl, rfl, rfl, rfl, fun _ _ => rfl⟩
  | cons D Ds ih =>
    intro w hnd hD h
    refine ⟨hu, .inl ⟨D, _, rfl, run_takeDeferred (hD D (by simp)), ?_⟩⟩
    have hnd' := List.nodup_cons.1 hnd
    refine ih _ hnd'.2 (fun E hE => ?_) (fun w' hs => h w' ⟨hs.os, hs.tape, hs.output, hs.size.trans World.putObj_size, fun k hk => ?_⟩)
    · rw [World.putObj_heap_other (fun e => hnd'.1 (by rw [← e]; exact hE))]
      exact hD E (by simp [hE])
    · rw [hs.block k (fun hm => hk (by simp [hm])), World.putObj_heap_other (fun e => hk (by simp [e]))]

/-- The parts of a set, with what they are below. -/
def subsF (f : Nat) : List (Fin 64) := (subs f).filterMap fun p => if h : p < 64 then some ⟨p, h⟩ else none

theorem map_filterMap_fin : ∀ l : List Nat, (∀ p ∈ l, p < 64) → (l.filterMap fun p => if h : p < 64 then some (⟨p, h⟩ : Fin 64) else none).map Fin.val = l
  | [], _ => rfl
  | p :: l, h => by
    have hp : p < 64 := h p (by simp)
    rw [List.filterMap_cons]
    simp only [hp, dif_pos, List.map_cons]
    rw [map_filterMap_fin l (fun q hq => h q (by simp [hq]))]

theorem chain_le (f : Nat) : ∀ n p, ∀ y ∈ chain f n p, y ≤ p := by
  intro n
  induction n with
  | zero => intro p y hy; simp [chain] at hy
  | succ n ih =>
    intro p y hy
    unfold chain at hy
    split at hy
    · simp at hy
    · rcases List.mem_cons.1 hy with rfl | h
      · exact Nat.le_refl _
      · have := ih _ _ h
        have h3 : (p - 1) &&& f ≤ p - 1 := Nat.and_le_left
        omega

theorem subsF_map {f : Nat} (hf : f < 64) : (subsF f).map Fin.val = subs f :=
  map_filterMap_fin _ (fun p hp => by have := chain_le f 64 f p hp; omega)

theorem mem_subsF {f : Nat} (hf : f < 64) {p : Fin 64} : p ∈ subsF f ↔ p.val ≠ 0 ∧ p.val &&& f = p.val := by
  rw [← mem_subs hf, ← subsF_map hf]
  constructor
  · intro h; exact List.mem_map.2 ⟨p, h, rfl⟩
  · intro h; obtain ⟨q, hq, e⟩ := List.mem_map.1 h; rwa [← Fin.ext e]

/-- Block B lies as it lay. -/
def KeepB (B : Nat) (W W' : World) : Prop := W'.heap[B]? = W.heap[B]?
theorem keepB_t {B : Nat} {x y z : World} (h : KeepB B x y) (k : KeepB B y z) : KeepB B x z := Eq.trans k h
theorem keepB_b {B : Nat} {w : World} (hB : B < w.heap.size) (W : World) (l : Nat) (o o' : Obj) (hl : w.heap.size ≤ l) (_ : W.heap[l]? = some o) (_ : o.isCells = false) (_ : o.isWalk = false) : KeepB B W (W.putObj l o') :=
  World.putObj_heap_other (by omega)
theorem keepB_of_below {B n : Nat} {W W' : World} (h : Below n W W') (hB : B < n) : KeepB B W W' := h.block B hB

theorem box_cell {W : World} {B t : Nat} {v : Value} (h : W.heap[B]? = some (.cells #[v] t (0, 0))) : W.cell? ⟨B, 0, none⟩ = some v ∧ W.frozen? ⟨B, 0, none⟩ = false := by
  constructor <;> simp [World.cell?, World.frozen?, h]

theorem and_bits {q f : Nat} (hq0 : 0 < q) (hq : q < 64) (hf : f < 64) : bits BinOp.and IntKind.i64 ((q : Int) - 1) (f : Int) = (((q - 1) &&& f : Nat) : Int) := by
  have h := (bits_nat .i64 6 (by decide) (fun n h0 h1 => by rw [IntKind.wrap_i64]; omega) (q - 1) f (by omega) (by omega)).1
  rwa [show ((q - 1 : Nat) : Int) = (q : Int) - 1 by omega] at h

set_option maxRecDepth 100000 in
set_option maxHeartbeats 1000000 in
/-- The iterator over the parts of f: whatever the loop's body, as long as it keeps the block of f. -/
theorem parts1_in (F : Fence) (n : Nat) (hF : F.fn 74) (hro : F.round = none) (hn : 1 ≤ n) (l B0 f : Nat) (hf : f < 64) (J Jx : List (Fin 64) → World → Prop)
    (hY : ∀ pre x W, J pre W → pre.length < 64 → YieldAt F (n - 1) Tryd.prog l #[.int .i64 (x.val : Int)] W fun e W' =>
      (e = .returned (.bool true) ∧ J (pre ++ [x]) W' ∧ KeepB B0 W W') ∨ (e = .returned (.bool false) ∧ Jx (pre ++ [x]) W'))
    (W : World) (hB0 : W.heap[B0]? = some (.cells #[.int .i64 (f : Int)] 2 (0, 0))) (h0 : J [] W) :
    CallsIn F n Tryd.prog 74 #[.func (.yield l) #[] #[], .pointer (some ⟨B0, 0, none⟩)] W fun e W' => (∃ v, e = .returned v) ∧
      ((∃ ys, ys = subsF f ∧ J ys W') ∨ (∃ pre, pre <+: subsF f ∧ Jx pre W')) := by
  have hlen : (subsF f).length ≤ 63 := by
    have := subs_len' ⟨f, hf⟩
    rwa [← subsF_map hf, List.length_map] at this
  have c0 := (box_cell hB0).1
  refine callsIn_of_wp Tryd.func74 rfl hF ?_ hro
  simp only [Tryd.ntmps74, List.size_toArray, List.length_cons, List.length_nil, Nat.reduceAdd, Nat.reduceSub, Array.replicate_succ, Array.replicate_zero, List.push_toArray, List.append_toArray, List.nil_append, List.cons_append]
  gi_wp2
  gi_loopw [3] (fun p wr => ∃ (pre rest : List (Fin 64)) (q : Nat), p = .int .i64 (q : Int) ∧ q < 64 ∧ Hid (subsF f = pre ++ rest ∧ rest.map Fin.val = chain f 64 q) ∧ J pre wr ∧ wr.heap[B0]? = some (.cells #[.int .i64 (f : Int)] 2 (0, 0)))
    (fun p _ => (intOf p).toNat)
  case atStart =>
    exact ⟨[], subsF f, f, rfl, hf, hid ⟨rfl, subsF_map hf⟩, h0, hB0⟩
  case round =>
    obtain ⟨pre, rest, q, rfl, hq, Hl, hJs, hBr⟩ := hrel
    by_cases hq0 : 0 < q
    · obtain ⟨hl1, hl2⟩ := Hl.out
      rw [chain_pos hq0 (by omega)] at hl2
      cases rest with
      | nil => simp at hl2
      | cons x rest =>
        simp only [List.map_cons, List.cons.injEq] at hl2
        obtain ⟨hx, hl2⟩ := hl2
        have hpl : pre.length < 64 := by rw [hl1] at hlen; simp at hlen; omega
        obtain ⟨fn, tmps, assign, body, hy, hR⟩ := hY pre x wr hJs hpl
        rw [hx] at hy
        have hbits := and_bits hq0 hq hf
        have hand : (q - 1) &&& f ≤ q - 1 := Nat.and_le_left
        have Hl' : Hid (subsF f = pre ++ [x] ++ rest ∧ rest.map Fin.val = chain f 64 ((q - 1) &&& f)) := hid ⟨by simp [hl1], hl2⟩
        have Hpre : Hid (pre ++ [x] <+: subsF f) := hid ⟨rest, by simp [hl1]⟩
        clear hl1 hl2 Hl hx hlen
        have c0r := (box_cell hBr).1
        gi_wp2
        refine hR.mono ?_
        rintro e W3 (⟨rfl, hJ3, hk3⟩ | ⟨rfl, hJx3⟩)
        · have hBr3 : W3.heap[B0]? = some (.cells #[.int .i64 (f : Int)] 2 (0, 0)) := Eq.trans hk3 hBr
          have c03 := (box_cell hBr3).1
          gi_wp2
          go_roundw
          case rel => exact ⟨pre ++ [x], rest, (q - 1) &&& f, rfl, by omega, Hl', hJ3, hBr3⟩
          case measure => simp [intOf]; omega
        · gi_wp2
          refine bodyPost_ret (results_none rfl _ _ _) rfl ?_
          exact ⟨⟨_, rfl⟩, .inr ⟨pre ++ [x], Hpre.out, hJx3⟩⟩
    · obtain rfl : q = 0 := by omega
      obtain ⟨hl1, hl2⟩ := Hl.out
      rw [chain_zero] at hl2
      obtain rfl : rest = [] := by cases rest <;> simp_all
      have Hx : Hid (subsF f = pre) := hid (by rw [hl1]; simp)
      clear hl1 hl2 Hl
      gi_wp2
      go_end0
      exact ⟨⟨_, rfl⟩, .inl ⟨pre, Hx.out.symm, hJs⟩⟩

set_option maxHeartbeats 1000000 in
/-- partsOf: its argument is boxed; the function value captures the box. -/
theorem parts_in (F : Fence) (n : Nat) (hF : F.fn 61) (hro : F.round = none) (x : Int) (w : World) :
    CallsIn F n Tryd.prog 61 #[.int .i64 x] w fun e w' => e = .returned (.func (.func 74) #[] #[.pointer (some ⟨w.heap.size, 0, none⟩)]) ∧ w' = w.alloc (.cells #[.int .i64 x] 2) := by
  refine callsIn_of_wp Tryd.func61 rfl hF ?_ hro
  simp only [Tryd.ntmps61, List.size_toArray, List.length_cons, List.length_nil, Nat.reduceAdd, Nat.reduceSub, Array.replicate_succ, Array.replicate_zero, List.push_toArray, List.append_toArray, List.nil_append, List.cons_append]
  gi_wp2
  go_ret
  exact ⟨rfl, rfl⟩

theorem parts_stops (F : Fence) (n : Nat) (hF : F.fn 74) (hro : F.round = none) (hn : 1 ≤ n) (B0 f : Nat) (hf : f < 64) (w : World) (hB : B0 < w.heap.size)
    (hc : w.heap[B0]? = some (.cells #[.int .i64 (f : Int)] 2 (0, 0))) :
    SeqStopsK F n Tryd.prog 74 #[.pointer (some ⟨B0, 0, none⟩)] (fun x : Fin 64 => #[Value.int .i64 (x.val : Int)]) (KeepB B0) (fun ys => ys = subsF f) (fun pre => pre <+: subsF f) 64 w :=
  fun l J Jx W hW _ _ hY h0 => parts1_in F n hF hro hn l B0 f hf J Jx hY W ((hW.block B0 hB).trans hc) h0

end Go.Proofs.YtbgkalkipalndaaDoor

/-! A set of integers as a map to bools. -/
namespace Go.Proofs.YtbgkalkipalndaaDoor
open Go.RowKit Go.Shelf

def knownFrom (D : DataW Unit) (pre : List Int) : DataW Unit := pre.foldl (fun D x => D.put (.int .i64 x) (.lit (.bool true))) D
def knownD (pre : List Int) : DataW Unit := knownFrom (.map []) pre

theorem knownD_snoc (pre : List Int) (x : Int) : knownD (pre ++ [x]) = (knownD pre).put (.int .i64 x) (.lit (.bool true)) := by simp [knownD, knownFrom]

theorem knownFrom_at (p : Int) : ∀ (pre : List Int) (D : DataW Unit), Maps.IsMap D → (knownFrom D pre).atKey (.int .i64 p) (.lit (.bool false)) = if p ∈ pre then .lit (.bool true) else D.atKey (.int .i64 p) (.lit (.bool false))
  | [], D, _ => by simp [knownFrom]
  | x :: pre, D, hD => by
    have ih := knownFrom_at p pre (D.put (.int .i64 x) (.lit (.bool true))) (hD.put _ _)
    have e : knownFrom D (x :: pre) = knownFrom (D.put (.int .i64 x) (.lit (.bool true))) pre := rfl
    rw [e, ih]
    by_cases hp : p ∈ pre
    · simp [hp]
    · by_cases hx : p = x
      · subst hx
        rw [if_neg hp, if_pos (by simp), Maps.atKey_put_same hD (show WideAt.IsKeyLit (.int .i64 p) from trivial)]
      · rw [if_neg hp, if_neg (by simp [hp, hx]), Maps.atKey_put_other (by simpa using hx)]

theorem knownD_at (p : Int) (pre : List Int) : (knownD pre).atKey (.int .i64 p) (.lit (.bool false)) = .lit (.bool (decide (p ∈ pre))) := by
  unfold knownD
  rw [knownFrom_at p pre _ Maps.isMap_empty]
  by_cases h : p ∈ pre
  · simp [h]
  · simp [h]
    rfl

set_option maxRecDepth 100000 in
theorem bool_inv {v : Value} {c : Bool} {ps : List MemPlace} (h : plainElem (H := Unit) Tryd.prog 4 v = some (.lit (.bool c), ps)) : v = .bool c := by
  unfold plainElem at h
  rw [Tryd.underlying4] at h
  cases v <;> simp at h
  rw [h.1]

theorem zero_bool (w : World) : (zeroValue 4).run Tryd.prog w = .ok (.bool false) w := by kernel_rfl

theorem lookup_known {w : World} {b n : Nat} {pre : List Int} (hown : w.ownsMap Tryd.prog 2 (plainElem (H := Unit) Tryd.prog 4) b n (knownD pre)) {p : Int} (hp : (Lit.int .i64 p).wf = true) :
    (Instr.lookup 77 (.map (some b)) (.int .i64 p) false).run Tryd.prog w = .ok (.bool (decide (p ∈ pre))) w := by
  obtain ⟨v, ps, hrun, hv⟩ := hown.lookup (Maps.int_keyed Tryd.underlying2) Tryd.underlying77 (zero_bool w) (plainElem_bool Tryd.underlying4 false) (Maps.keyOf_int_mk Tryd.underlying2 hp)
  rw [knownD_at] at hv
  rw [bool_inv hv] at hrun
  exact hrun

/-- 'known[p]', at the operation. -/
theorem at_known {F : Fence} {nF : Nat} {w : World} {ops : Array Oper} {rest : List Oper} {o : Oper} {a : Act} {Q : Exit → Act → World → Prop} (hg : o.guard = none) {m x : Operand} (hop : o.op = Op.lookup 77 m x false)
    {b n : Nat} {pre : List Int} (hown : w.ownsMap Tryd.prog 2 (plainElem (H := Unit) Tryd.prog 4) b n (knownD pre)) {p : Int} (hp : (Lit.int .i64 p).wf = true)
    (hm : a.eval m = .map (some b)) (hx : a.eval x = .int .i64 p) {c : Bool} (hc : decide (p ∈ pre) = c) (hK : wpListIn F nF Tryd.prog ops Q rest (a.put o.dst (.bool c)) w) :
    wpListIn F nF Tryd.prog ops Q (o :: rest) a w := by
  refine wpListIn_plain hg fun K' hK' => ?_
  have hrun := lookup_known hown hp
  rw [hc] at hrun
  unfold Oper.wpIn
  refine ⟨by simp [Oper.about, hop], ?_⟩
  rw [Oper.semAt_plain F _ _ (by rw [hop]; intro c hc'; cases hc')]
  simp [execOp, hop, hm, hx, hrun, Result.andThen]
  exact hK' _ _ hK

end Go.Proofs.YtbgkalkipalndaaDoor

/-! The program's test whether something is a complex. -/
namespace Go.Proofs.YtbgkalkipalndaaDoor
open Go.RowKit Go.Shelf

attribute [local go_sem] Oper.semAt_some

set_option maxHeartbeats 400000 in
theorem vc_any (n : Int) (w : World) :
    Calls Tryd.prog 49 #[.int .i64 n] w fun e w' => e = .returned (.bool (decide (1 ≤ n) && decide (n ≤ 6))) ∧ w = w' := by
  go_enter Tryd.func49, Tryd.ntmps49
  go_wp2
  · have h : 1 ≤ n := by assumption
    go_ret
    exact ⟨ret_bool (by simp [h]), rfl⟩
  · have h : n < 1 := by assumption
    go_ret
    exact ⟨ret_bool (by rw [decide_eq_false (show ¬ 1 ≤ n by omega)]; rfl), rfl⟩
theorem vc_yes (n : Int) (w : World) (h1 : 1 ≤ n) (h2 : n ≤ 6) :
    Calls Tryd.prog 49 #[.int .i64 n] w fun e w' => e = .returned (.bool true) ∧ w = w' :=
  (vc_any n w).mono fun _ _ ⟨he, hw⟩ => ⟨by rw [he]; simp [h1, h2], hw⟩
theorem vc_no (n : Int) (w : World) (h : ¬ (1 ≤ n ∧ n ≤ 6)) :
    Calls Tryd.prog 49 #[.int .i64 n] w fun e w' => e = .returned (.bool false) ∧ w = w' :=
  (vc_any n w).mono fun _ _ ⟨he, hw⟩ => by
    refine ⟨?_, hw⟩
    rw [he]
    by_cases hx : 1 ≤ n
    · rw [decide_eq_false (show ¬ n ≤ 6 from fun h' => h ⟨hx, h'⟩)]; simp
    · rw [decide_eq_false hx]; simp

set_option maxHeartbeats 400000 in
theorem av_any (V : Int) (w : World) (h1 : 0 ≤ V) (h2 : V ≤ 6) :
    Calls Tryd.prog 73 #[.int .i64 V] w fun e w' => e = .returned (.int .i64 (allV V)) ∧ w = w' := by
  go_enter Tryd.func73, Tryd.ntmps73
  go_wp2
  go_ret
  exact ⟨ret_int (all_wrap h1 h2), rfl⟩

/-- What the walk of IsComplex keeps of the world: B is the heap's size when the call began. -/
structure IcW (w W : World) (V : Int) (sl : Value) (pre : List Int) (Ds : List Nat) : Prop where
  below : Below w.heap.size w W
  kbox : W.heap[w.heap.size]? = some (.cells #[.int .i64 V, sl] 24 (0, 0))
  res : W.heap[w.heap.size + 1]? = some (.cells #[.bool false] 4 (0, 0))
  own : W.ownsMap Tryd.prog 2 (plainElem (H := Unit) Tryd.prog 4) (w.heap.size + 1 + 1) pre.length (knownD pre)
  mbox : W.heap[w.heap.size + 1 + 1 + 1]? = some (.cells #[.map (some (w.heap.size + 1 + 1))] 77 (0, 0))
  nodup : Ds.Nodup
  marks : ∀ D ∈ Ds, w.heap.size + 4 ≤ D ∧ W.heap[D]? = some (.deferred (some []))

theorem lt_of_get {W : World} {b : Nat} {o : Obj} (h : W.heap[b]? = some o) : b < W.heap.size := (Array.getElem?_eq_some_iff.1 h).1

theorem IcW.size {w W : World} {V : Int} {sl : Value} {pre : List Int} {Ds : List Nat} (h : IcW w W V sl pre Ds) : w.heap.size + 4 ≤ W.heap.size := by
  have := lt_of_get h.mbox; omega

theorem IcW.turn {w W W' : World} {V : Int} {sl : Value} {pre : List Int} {Ds : List Nat} (h : IcW w W V sl pre Ds) {row : Option Nat} (hg : W.grownBy W' row)
    (hr : ∀ r, row = some r → w.heap.size + 4 ≤ r ∧ r ∉ Ds) : IcW w W' V sl pre Ds where
  below := h.below.grown hg h.below.size (fun k e => by have := (hr k e).1; omega)
  kbox := (hg.block _ (lt_of_get h.kbox) (fun e => by have := (hr _ e.symm).1; omega)).trans h.kbox
  res := (hg.block _ (lt_of_get h.res) (fun e => by have := (hr _ e.symm).1; omega)).trans h.res
  own := h.own.kept hg (fun e => by have := (hr _ e.symm).1; omega)
  mbox := (hg.block _ (lt_of_get h.mbox) (fun e => by have := (hr _ e.symm).1; omega)).trans h.mbox
  nodup := h.nodup
  marks := fun D hD => ⟨(h.marks D hD).1, (hg.block _ (lt_of_get (h.marks D hD).2) (fun e => (hr _ e.symm).2 hD)).trans (h.marks D hD).2⟩

theorem icw_own {β : Type} {w : World} {V : Int} {sl : Value} {pre : List Int} {Ds : List Nat} {B : Nat} (hB : w.heap.size + 4 ≤ B) (hD : ∀ D ∈ Ds, D < B) : OwnFrom B (fun (_ : β) W => IcW w W V sl pre Ds) :=
  fun _ _ _ _ hs hg hr => hs.turn hg (fun r e => ⟨by have := (hr r e).1; omega, fun hm => by have := hD r hm; have := (hr r e).1; omega⟩)

/-- A further mark. -/
theorem IcW.mark {w W : World} {V : Int} {sl : Value} {pre : List Int} {Ds : List Nat} (h : IcW w W V sl pre Ds) {D : Nat} (hD : W.heap[D]? = some (.deferred (some []))) (hb : w.heap.size + 4 ≤ D) (hn : D ∉ Ds) : IcW w W V sl pre (D :: Ds) where
  below := h.below
  kbox := h.kbox
  res := h.res
  own := h.own
  mbox := h.mbox
  nodup := List.nodup_cons.2 ⟨hn, h.nodup⟩
  marks := fun E hE => by
    rcases List.mem_cons.1 hE with rfl | hE
    · exact ⟨hb, hD⟩
    · exact h.marks E hE

/-- A face more in the map. -/
theorem IcW.put {w W w1 : World} {V : Int} {sl : Value} {pre : List Int} {Ds : List Nat} (h : IcW w W V sl pre Ds) {x : Int} {n : Nat} (hn : n = pre.length)
    (hown : w1.ownsMap Tryd.prog 2 (plainElem (H := Unit) Tryd.prog 4) (w.heap.size + 1 + 1) (n + 1) ((knownD pre).put (.int .i64 x) (.lit (.bool true)))) (hg : W.grownBy w1 (some (w.heap.size + 1 + 1))) : IcW w w1 V sl (pre ++ [x]) Ds where
  below := h.below.grown hg h.below.size (fun k e => by cases e; omega)
  kbox := (hg.block _ (lt_of_get h.kbox) (fun e => by simp at e <;> omega)).trans h.kbox
  res := (hg.block _ (lt_of_get h.res) (fun e => by simp at e <;> omega)).trans h.res
  own := by rw [knownD_snoc]; simpa [hn] using hown
  mbox := (hg.block _ (lt_of_get h.mbox) (fun e => by simp at e)).trans h.mbox
  nodup := h.nodup
  marks := fun D hD => ⟨(h.marks D hD).1, (hg.block _ (lt_of_get (h.marks D hD).2) (fun e => by have := (h.marks D hD).1; simp at e; omega)).trans (h.marks D hD).2⟩

/-- The result's cell holds false: so it does when false is stored. -/
theorem IcW.store {w W : World} {V : Int} {sl : Value} {pre : List Int} {Ds : List Nat} (h : IcW w W V sl pre Ds) : IcW w (W.setCell ⟨w.heap.size + 1, 0, none⟩ (.bool false)) V sl pre Ds where
  below := h.below.setCell (p := ⟨w.heap.size + 1, 0, none⟩) (by simp) _
  kbox := (Below.heap_setCell _ _ _ _ (by simp)).trans h.kbox
  res := one_setCell h.res
  own := h.own.setCell (by simp <;> omega) _
  mbox := (Below.heap_setCell _ _ _ _ (by simp <;> omega)).trans h.mbox
  nodup := h.nodup
  marks := fun D hD => ⟨(h.marks D hD).1, (Below.heap_setCell _ _ _ _ (by have := (h.marks D hD).1; simp <;> omega)).trans (h.marks D hD).2⟩

def leastOf (pre : List Int) : Int := match pre.getLast? with | none => 1 | some y => y + 1

theorem leastOf_snoc (pre : List Int) (x : Int) : leastOf (pre ++ [x]) = x + 1 := by simp [leastOf]
theorem leastOf_ok {V : Int} {pre : List Int} (h : IsC V pre) {x : Int} (hx : leastOf pre ≤ x) : (∀ y ∈ pre, y < x) ∧ 1 ≤ x := by
  rcases List.eq_nil_or_concat pre with rfl | ⟨l, z, rfl⟩
  · simp [leastOf] at hx; exact ⟨by simp, hx⟩
  · simp only [List.concat_eq_append] at *
    rw [leastOf_snoc] at hx
    have hz := h.range63 z (by simp)
    refine ⟨fun y hy => ?_, by omega⟩
    rcases List.mem_append.1 hy with hy | hy
    · have := (List.pairwise_append.1 h.asc).2.2 y hy z (by simp); omega
    · simp at hy; omega
theorem leastOf_bad {V : Int} {pre : List Int} {x : Int} {rest : List Int} (h : IsC V (pre ++ x :: rest)) : leastOf pre ≤ x := by
  have h1 := isC_head h
  rcases List.eq_nil_or_concat pre with rfl | ⟨l, z, rfl⟩
  · simpa [leastOf] using h1.2.1
  · simp only [List.concat_eq_append] at *
    rw [leastOf_snoc]
    have := h1.1 z (by simp)
    omega
theorem leastOf_lt {V : Int} {pre : List Int} (h : IsC V pre) : leastOf pre ≤ 64 ∧ 1 ≤ leastOf pre := by
  rcases List.eq_nil_or_concat pre with rfl | ⟨l, z, rfl⟩
  · simp [leastOf]
  · simp only [List.concat_eq_append] at *
    rw [leastOf_snoc]
    have := h.range63 z (by simp)
    omega

theorem not_isC_take {V : Int} {fs : List Int} {k : Nat} (hk : k < fs.length) (h : IsC V fs) : IsC V (fs.take k ++ fs[k]?.getD 0 :: fs.drop (k + 1)) := by
  rw [← split_at hk]; exact h

set_option maxHeartbeats 400000 in
/-- IsComplex hands back false, out of whatever loop. -/
theorem ic_leave {w W : World} {V : Int} {fs : List Int} {sl : Value} {pre : List Int} {Ds : List Nat} (h : IcW w W V sl pre Ds) (c : Bool) (hc : isCB V fs = c) {tmps : Array Value} (ht : tmps[2]?.getD undef = .pointer (some ⟨w.heap.size + 1, 0, none⟩)) :
    LeavesInM Fence.wide 10 Tryd.prog Tryd.f60 tmps (fun e w' => e = .returned (.bool (isCB V fs)) ∧ Below w.heap.size w w') (marks Ds) .returning (W.setCell ⟨w.heap.size + 1, 0, none⟩ (.bool c)) := by
  have hs := h.size
  refine leaves_marks (by simp) Ds _ h.nodup (fun D hD => (Below.heap_setCell _ _ _ _ (by have := (h.marks D hD).1; simp <;> omega)).trans (h.marks D hD).2) (fun w' hw' => ?_)
  have hres : w'.cell? ⟨w.heap.size + 1, 0, none⟩ = some (.bool c) := by
    rw [World.cell?_of_block (hw'.block _ (fun hm => by have := (h.marks _ hm).1; simp at this <;> omega))]
    exact World.cell?_setCell_same' _ _ _ (by rw [(box_cell h.res).1]; rfl)
  have hB : Below w.heap.size w w' := (h.below.setCell (p := ⟨w.heap.size + 1, 0, none⟩) (by simp) _).trans (hw'.below (fun D hD => by have := (h.marks D hD).1; omega))
  refine ⟨.bool c, ?_, ret_bool hc.symm, hB⟩
  simp [results, Tryd.results60, go_sem, ht, hres]

set_option maxHeartbeats 400000 in
theorem ic_leave0 {w W : World} {V : Int} {fs : List Int} {sl : Value} {pre : List Int} {Ds : List Nat} (h : IcW w W V sl pre Ds) (hc : isCB V fs = false) {tmps : Array Value} (ht : tmps[2]?.getD undef = .pointer (some ⟨w.heap.size + 1, 0, none⟩)) :
    LeavesInM Fence.wide 10 Tryd.prog Tryd.f60 tmps (fun e w' => e = .returned (.bool (isCB V fs)) ∧ Below w.heap.size w w') (marks Ds) .returning W := by
  refine leaves_marks (by simp) Ds _ h.nodup (fun D hD => (h.marks D hD).2) (fun w' hw' => ?_)
  have hres : w'.cell? ⟨w.heap.size + 1, 0, none⟩ = some (.bool false) := by
    rw [World.cell?_of_block (w := W) (hw'.block _ (fun hm => by have := (h.marks _ hm).1; simp at this <;> omega))]
    exact (box_cell h.res).1
  have hB : Below w.heap.size w w' := h.below.trans (hw'.below (fun D hD => by have := (h.marks D hD).1; omega))
  refine ⟨.bool false, ?_, ret_bool hc.symm, hB⟩
  simp [results, Tryd.results60, go_sem, ht, hres]

set_option maxRecDepth 100000 in
set_option maxHeartbeats 4000000 in
theorem isc_in (V : Int) (b off : Nat) (cap : Nat) (fs : List Int) (w : World) (h1 : 1 ≤ V) (h2 : V ≤ 6) (hb : b < w.heap.size)
    (hc : ∀ i, i < fs.length → w.cell? ⟨b, off + i, none⟩ = some (.int .i64 (fs[i]?.getD 0))) (hl : fs.length ≤ 1048576) :
    CallsIn Fence.wide 10 Tryd.prog 60 #[.agg #[.int .i64 V, .slice (some ⟨b, off, none⟩) fs.length cap]] w fun e w' => e = .returned (.bool (isCB V fs)) ∧ Below w.heap.size w w' := by
  have hmm := @run_makeMap Tryd.prog
  refine callsIn_of_wp_marks Tryd.func60 rfl trivial ?_ rfl
  simp only [Tryd.ntmps60, List.size_toArray, List.length_cons, List.length_nil, Nat.reduceAdd, Nat.reduceSub, Array.replicate_succ, Array.replicate_zero, List.push_toArray, List.append_toArray, List.nil_append, List.cons_append]
  gi_wp2_with (first
    | (refine ⟨trivial, ?_⟩; gi_at_call 49; refine (callsIn_wide.2 (vc_yes V _ h1 h2)).mono ?_; rintro e w' ⟨rfl, rfl⟩))
  clear hmm
  refine wpIn_loop (fun a' W => ∃ (k : Nat) (c6 c7 c17 c18 c19 c20 c21 c22 c23 c24 c25 c26 c27 c28 c29 c30 c31 c32 c33 c34 c35 c36 c37 c38 c39 c40 c41 : Value) (Ds : List Nat),
      a' = { tmps := #[.agg #[.int .i64 V, .slice (some ⟨b, off, none⟩) fs.length cap], .pointer (some ⟨w.heap.size, 0, none⟩), .pointer (some ⟨w.heap.size + 1, 0, none⟩), .pointer (some ⟨w.heap.size + 1 + 1 + 1, 0, none⟩),
          .int .i64 (leastOf (fs.take k)), undef, c6, c7, .pointer (some ⟨w.heap.size, 0, none⟩), .int .i64 V, .bool true, .bool false, .map (some (w.heap.size + 1 + 1)), .pointer (some ⟨w.heap.size, 1, none⟩), .slice (some ⟨b, off, none⟩) fs.length cap, .int .i64 fs.length,
          .int .i64 k, c17, c18, c19, c20, c21, c22, c23, c24, c25, c26, c27, c28, c29, c30, c31, c32, c33, c34, c35, c36, c37, c38, c39, c40, c41], defers := marks Ds } ∧
      k ≤ fs.length ∧ IsC V (fs.take k) ∧ IcW w W V (.slice (some ⟨b, off, none⟩) fs.length cap) (fs.take k) Ds)
    (fun a' _ => fs.length - (intOf (a'.tmps.getD 16 undef)).toNat) ?start ?round
  case start =>
    refine ⟨0, _, _, _, _, _, _, _, _, _, _, _, _, _, _, _, _, _, _, _, _, _, _, _, _, _, _, _, [], rfl, Nat.zero_le _, isC_nil h1 h2, ?_⟩
    have e0 := World.alloc_heap_new w (.cells #[.int .i64 V, .slice (some ⟨b, off, none⟩) fs.length cap] 24)
    have e1 := World.alloc_heap_new (w.alloc (.cells #[.int .i64 V, .slice (some ⟨b, off, none⟩) fs.length cap] 24)) (.cells #[.bool false] 4)
    have e3 := World.alloc_heap_new (((w.alloc (.cells #[.int .i64 V, .slice (some ⟨b, off, none⟩) fs.length cap] 24)).alloc (.cells #[.bool false] 4)).alloc (.map #[] 0)) (.cells #[.map (some (w.heap.size + 1 + 1))] 77)
    have hown := World.ownsMap_made ((w.alloc (.cells #[.int .i64 V, .slice (some ⟨b, off, none⟩) fs.length cap] 24)).alloc (.cells #[.bool false] 4)) Tryd.prog 2 (plainElem (H := Unit) Tryd.prog 4)
    simp only [World.size_alloc] at e1 e3 hown
    exact {
      below := (((((Below.refl _ w).alloc (Nat.le_refl _) _).alloc (by simp) _).alloc (by simp <;> omega) _).alloc (by simp <;> omega) _)
      kbox := (Below.heap_alloc _ _ _ (by simp <;> omega)).trans ((Below.heap_alloc _ _ _ (by simp <;> omega)).trans ((Below.heap_alloc _ _ _ (by simp)).trans e0))
      res := (Below.heap_alloc _ _ _ (by simp <;> omega)).trans ((Below.heap_alloc _ _ _ (by simp)).trans e1)
      own := hown.alloc _
      mbox := e3
      nodup := by simp
      marks := by simp }
  case round =>
    rintro a W ⟨k, c6, c7, c17, c18, c19, c20, c21, c22, c23, c24, c25, c26, c27, c28, c29, c30, c31, c32, c33, c34, c35, c36, c37, c38, c39, c40, c41, Ds, rfl, hk, hC, hW⟩
    have hsz := hW.size
    have k0 : W.cell? ⟨w.heap.size, 0, none⟩ = some (.int .i64 V) := by simp [World.cell?, hW.kbox]
    have r0 : W.cell? ⟨w.heap.size + 1, 0, none⟩ = some (.bool false) := (box_cell hW.res).1
    have r1 : W.frozen? ⟨w.heap.size + 1, 0, none⟩ = false := (box_cell hW.res).2
    have m0 : W.cell? ⟨w.heap.size + 1 + 1 + 1, 0, none⟩ = some (.map (some (w.heap.size + 1 + 1))) := (box_cell hW.mbox).1
    have hll := leastOf_lt hC
    obtain ⟨lo, hlo⟩ : ∃ lo, lo = leastOf (fs.take k) := ⟨_, rfl⟩
    rw [← hlo] at hll ⊢
    have Hlo := hid hlo
    have HC := hid hC
    have HW := hid hW
    clear hlo hC hW
    by_cases hlt : k < fs.length
    · obtain ⟨x, hx⟩ : ∃ x, x = fs[k]?.getD 0 := ⟨_, rfl⟩
      have hck : W.cell? ⟨b, off + k, none⟩ = some (.int .i64 x) := by rw [hx]; exact (HW.out.below.cell (p := ⟨b, off + k, none⟩) hb).trans (hc k hlt)
      have Hx := hid hx
      have hi0 : (0 : Int) ≤ (k : Int) := by omega
      have hi1 : (k : Int) < (fs.length : Int) := by omega
      clear hx
      have Hc := hid hc
      clear hc
      by_cases hb1 : x < lo
      · gi_wp2_with (refine ⟨(trivial : Fence.wide.fn 73), ?_⟩)
        refine ic_leave HW.out false (isCB_false fun h => ?_) rfl
        have := leastOf_bad (not_isC_take hlt h)
        rw [← Hlo.out, ← Hx.out] at this
        omega
      · have hge : lo ≤ x := by omega
        by_cases hb2 : allV V < x
        · gi_wp2_with (first
            | (refine ⟨trivial, ?_⟩; gi_at_call 73; refine (callsIn_wide.2 (av_any V _ (by omega) h2)).mono ?_; rintro e w' ⟨rfl, rfl⟩))
          refine ic_leave HW.out false (isCB_false fun h => ?_) rfl
          have := (isC_head (not_isC_take hlt h)).2.2
          rw [← Hx.out] at this
          omega
        · have hle : x ≤ allV V := by omega
          have h63 := allV_le h2
          obtain ⟨f, rfl⟩ : ∃ f : Nat, x = f := ⟨x.toNat, by omega⟩
          have hf : f < 64 := by omega
          have hwf : (Lit.int .i64 (f : Int)).wf = true := WalkArith.wf_i64 (by omega)
          have hkm : (fs.take k).length < maxLen := by unfold maxLen; simp; omega
          gi_wp2_with (first
            | (refine ⟨trivial, ?_⟩; gi_at_call 73; refine (callsIn_wide.2 (av_any V _ (by omega) h2)).mono ?_; rintro e w' ⟨rfl, rfl⟩)
            | (gi_at_mapUpdate; refine wpListIn_mapUpdate_own _ rfl _ _ _ 77 rfl 2 4 (Maps.int_keyed Tryd.underlying2) Tryd.underlying77 _ (w.heap.size + 1 + 1) _ _ rfl HW.out.own hkm _ _ _ rfl rfl (Maps.keyOf_int_mk Tryd.underlying2 hwf) _ [] (plainElem_bool Tryd.underlying4 true) ?_; intro w1 hown1 hgrow1)
            | (refine ⟨trivial, ?_⟩; gi_at_call 61; refine (parts_in _ _ trivial rfl _ _).mono ?_; rintro e w' ⟨rfl, rfl⟩))
          obtain ⟨fs', hfs'⟩ : ∃ fs', fs' = fs.take k ++ [(f : Int)] := ⟨_, rfl⟩
          have hW1 : IcW w w1 V (.slice (some ⟨b, off, none⟩) fs.length cap) fs' Ds := by rw [hfs']; exact HW.out.put rfl hown1 hgrow1
          have hW2 : IcW w (w1.alloc (.cells #[.int .i64 (f : Int)] 2)) V (.slice (some ⟨b, off, none⟩) fs.length cap) fs' Ds := hW1.turn (World.grownBy_alloc w1 _ none) (fun r e => by cases e)
          have Hfs' := hid hfs'
          have hsz1 := hW1.size
          have hDlt : ∀ D ∈ Ds, D < (w1.alloc (.cells #[.int .i64 (f : Int)] 2)).heap.size := fun D hD => lt_of_get (hW2.marks D hD).2
          refine wpIn_rangeFunc_ownG rfl (by decide) (gf := 74) (lb := #[.pointer (some ⟨w1.heap.size, 0, none⟩)]) rfl trivial (enters_of Tryd.func74 (by kernel_rfl) rfl)
            (parts_stops Fence.wide 9 trivial rfl (by decide) w1.heap.size f hf _ (by simp) (World.alloc_heap_new w1 _)) keepB_t (keepB_b (by simp)) (Below.refl _ _) (fun _ => rfl)
            (fun pre W => (∀ p ∈ pre, ((p.val : Nat) : Int) ∈ fs') ∧ IcW w W V (.slice (some ⟨b, off, none⟩) fs.length cap) fs' Ds)
            (fun c pre W => (c = .ret ∧ ∃ p ∈ pre, ((p.val : Nat) : Int) ∉ fs') ∧ IcW w W V (.slice (some ⟨b, off, none⟩) fs.length cap) fs' Ds)
            (OwnFrom.and (ownFrom_pure _ _) (icw_own (by simp; omega) hDlt)) (fun c => OwnFrom.and (ownFrom_pure _ _) (icw_own (by simp; omega) hDlt))
            ⟨by simp, hW2⟩
            (fun x => { tmps := #[.agg #[.int .i64 V, .slice (some ⟨b, off, none⟩) fs.length cap], .pointer (some ⟨w.heap.size, 0, none⟩), .pointer (some ⟨w.heap.size + 1, 0, none⟩), .pointer (some ⟨w.heap.size + 1 + 1 + 1, 0, none⟩),
              .int .i64 ((f : Int) + 1), undef, .int .i64 f, .int .i64 (x.val : Int), .pointer (some ⟨w.heap.size, 0, none⟩), .int .i64 V, .bool true, .bool false, .map (some (w.heap.size + 1 + 1)), .pointer (some ⟨w.heap.size, 1, none⟩), .slice (some ⟨b, off, none⟩) fs.length cap, .int .i64 fs.length,
              .int .i64 k, .bool true, .pointer (some ⟨b, off + k, none⟩), .int .i64 f, .int .i64 f, .int .i64 lo, .bool false, .bool false, .int .i64 f, .pointer (some ⟨w.heap.size, 0, none⟩), .int .i64 V, .int .i64 (allV V), .bool (decide (allV V < (f : Int))), .bool (decide (allV V < (f : Int))), .int .i64 f, .int .i64 ((f : Int) + 1),
              .map (some (w.heap.size + 1 + 1)), .int .i64 f, .int .i64 f, .func (.func 74) #[] #[.pointer (some ⟨w1.heap.size, 0, none⟩)], .int .i64 (x.val : Int), c37, c38, c39, c40, c41], defers := [] }) ?assign ?body ?done ?stop
          case assign =>
            intro l x W3 K hK
            gi_wp2
            exact hK
          case body =>
            rintro l pre x W3 ⟨hp, hW3⟩ _
            have m3 : W3.cell? ⟨w.heap.size + 1 + 1 + 1, 0, none⟩ = some (.map (some (w.heap.size + 1 + 1))) := (box_cell hW3.mbox).1
            have r3 : W3.cell? ⟨w.heap.size + 1, 0, none⟩ = some (.bool false) := (box_cell hW3.res).1
            have r4 : W3.frozen? ⟨w.heap.size + 1, 0, none⟩ = false := (box_cell hW3.res).2
            have hxl := x.isLt
            have hwx : (Lit.int .i64 (x.val : Int)).wf = true := WalkArith.wf_i64 (by omega)
            have HW3 := hid hW3
            have Hp := hid hp
            clear hW3 hp
            by_cases hm : ((x.val : Nat) : Int) ∈ fs'
            · have Hm := hid hm
              clear hm
              gi_wp2_with (gi_at_lookup; refine at_known rfl rfl HW3.out.own hwx rfl rfl (decide_eq_true Hm.out) ?_)
              refine ⟨KeepsFrom.refl _ _, rfl, fun p hp' => ?_, HW3.out⟩
              rcases List.mem_append.1 hp' with hp' | hp'
              · exact Hp.out p hp'
              · simp at hp'; rw [hp']; exact Hm.out
            · have Hm := hid hm
              clear hm
              gi_wp2_with (gi_at_lookup; refine at_known rfl rfl HW3.out.own hwx rfl rfl (decide_eq_false Hm.out) ?_)
              exact ⟨(KeepsOthers.setCell _ _ _).from _, ⟨rfl, x, by simp, Hm.out⟩, HW3.out.store⟩
          case done =>
            rintro D ys W3 hD rfl ⟨hp, hW3⟩ hK
            have hDb : w.heap.size + 4 ≤ D := by simp at hD; omega
            have hDn : D ∉ Ds := fun hm => by have := hDlt D hm; omega
            have HW4 := hid (hW3.mark hK hDb hDn)
            have htk : fs.take (k + 1) = fs' := by rw [take_snoc hlt, ← Hx.out, Hfs'.out]
            have hC' : IsC V fs' := by
              have h := leastOf_ok HC.out (x := (f : Int)) (by rw [← Hlo.out]; exact hge)
              rw [Hfs'.out]
              refine isC_snoc HC.out h.1 h.2 hle (fun p hp0 hpf => ?_)
              rw [Int.toNat_natCast] at hpf
              rw [← Hfs'.out]
              have hp64 : p < 64 := by have := and_le_left' _ _ hpf; omega
              exact hp ⟨p, hp64⟩ ((mem_subsF hf).2 ⟨hp0, hpf⟩)
            have hlo' : (f : Int) + 1 = leastOf (fs.take (k + 1)) := by rw [htk, Hfs'.out, leastOf_snoc]
            have HC' := hid hC'
            have Hlo' := hid hlo'
            have Htk := hid htk
            clear hp hW3 hC' hlo' htk
            gi_wp2
            refine ⟨⟨k + 1, ?_⟩, ?_⟩
            · (repeat apply Exists.intro)
              refine ⟨?e, ?_⟩
              case e =>
                rw [← Hlo'.out, show ((k + 1 : Nat) : Int) = (k : Int) + 1 by omega, show ({ target := .collected D, args := #[] } :: marks Ds : List Deferred) = marks (D :: Ds) from rfl]
              exact ⟨by omega, by rw [Htk.out]; exact HC'.out, by rw [Htk.out]; exact HW4.out⟩
            · simp [intOf]; omega
          case stop =>
            rintro D c pre W3 hD hpre ⟨⟨rfl, p, hpm, hpn⟩, hW3⟩ hK
            have hDb : w.heap.size + 4 ≤ D := by simp at hD; omega
            have hDn : D ∉ Ds := fun hm => by have := hDlt D hm; omega
            have HW4 := hid (hW3.mark hK hDb hDn)
            have hps := (mem_subsF hf).1 (hpre.subset hpm)
            have Hbad : Hid (isCB V fs = false) := hid (isCB_false fun h => hpn (by
              have := isC_parts (not_isC_take hlt h) hps.1 (by rw [← Hx.out, Int.toNat_natCast]; exact hps.2)
              rwa [← Hx.out, ← Hfs'.out] at this))
            clear hW3 hpn hpm hps
            gi_wp2
            exact ic_leave0 HW4.out Hbad.out rfl
    · have Hend : Hid (isCB V fs = true) := hid (isCB_true (by have := HC.out; rwa [List.take_of_length_le (by omega)] at this))
      gi_wp2
      exact ic_leave HW.out true Hend.out rfl

end Go.Proofs.YtbgkalkipalndaaDoor
