import Derived.Test.YtbaljngbmokiiaaProg
import Derived.WalkKit
import Derived.WalkSpells
import Derived.WalkLawsBesides
import Derived.Deep.QuietTactic
import Derived.BigQuiet
import Derived.Deep.RegionWith
import Derived.Deep.DrawnRows
import Derived.Test.YtbaljngbmokiiaaRows
import Derived.ProofKit
import Derived.OpenShut
import Derived.ShutString
import Derived.ChangeOld
import Derived.Below
import Derived.Lib.SmallJoins
import Derived.RangeFuncNested
import Derived.RangeFuncBound
import Derived.RangeFuncCalls
import Derived.RangeFuncLeaves
import Derived.Shelf.Abstract
import Derived.Shelf.RegionOpen
import Derived.OwnWalkIn
import Derived.TacticsInMore
import Derived.LoopNIn
import Derived.LoopIn
import Derived.Maps.OwnIn
import Derived.Maps.OwnSet
import Derived.Maps.AppendAt
import Derived.Deep.RegionHeld3
import Derived.Deep.AppendLies
import Derived.Deep.RegionLaw
import Derived.Laws.ResultCell
import Derived.Lib.QuietBelow
/-! Facts on numbers under 64, by running through all of them. -/
namespace Go.Proofs.Ytbaljngbmokiiaa

/-- The digit at place v of a number. -/
def bitN (f v : Nat) : Bool := f / 2 ^ v % 2 == 1

/-- Parts of f from p downwards, as the program finds them. -/
def chain (f : Nat) : Nat → Nat → List Nat
  | 0, _ => []
  | n + 1, p => if p = 0 then [] else p :: chain f n ((p - 1) &&& f)
def subs (f : Nat) : List Nat := chain f 64 f

theorem sub_chain : ∀ f : Fin 64, ∀ p : Fin 64, p.val ≠ 0 → p.val &&& f.val = p.val → p.val = f.val ∨ ∃ v : Fin 6, bitN f.val v.val = true ∧ f.val ≠ 2 ^ v.val ∧ p.val &&& (f.val - 2 ^ v.val) = p.val := by decide +kernel
theorem next_sub : ∀ f : Fin 64, ∀ p : Fin 64, 0 < p.val → p.val &&& f.val = p.val → ∀ q : Fin 64, q.val < p.val → q.val &&& f.val = q.val → q.val ≤ (p.val - 1) &&& f.val := by decide +kernel
theorem next_is : ∀ f : Fin 64, ∀ p : Fin 64, 0 < p.val → ((p.val - 1) &&& f.val) < p.val ∧ ((p.val - 1) &&& f.val) &&& f.val = ((p.val - 1) &&& f.val) := by decide +kernel
theorem bit_sub : ∀ f : Fin 64, ∀ v : Fin 6, bitN f.val v.val = true → (f.val - 2 ^ v.val) &&& f.val = f.val - 2 ^ v.val ∧ 2 ^ v.val ≤ f.val := by decide +kernel
theorem mem_subs' : ∀ f : Fin 64, ∀ x : Fin 64, x.val ∈ subs f.val ↔ x.val ≠ 0 ∧ x.val &&& f.val = x.val := by decide +kernel
theorem bit_big : ∀ f : Fin 64, ∀ v : Fin 63, 6 ≤ v.val → bitN f.val v.val = false := by decide +kernel

theorem subs_len' : ∀ f : Fin 64, (subs f.val).length ≤ 63 := by decide +kernel

/-- How many digits 1 a number under 64 has. -/
def ones (f : Nat) : Nat := f % 2 + f / 2 % 2 + f / 4 % 2 + f / 8 % 2 + f / 16 % 2 + f / 32 % 2

theorem ones_half {r : Nat} (h : r < 64) : ones r = r % 2 + ones (r / 2) := by unfold ones; omega
theorem ones_zero : ones 0 = 0 := rfl
theorem ones_le (f : Nat) : ones f ≤ 6 := by unfold ones; omega
theorem ones_pos : ∀ f : Fin 64, f.val ≠ 0 → 0 < ones f.val := by decide +kernel

end Go.Proofs.Ytbaljngbmokiiaa

namespace Go.Proofs.Ytbaljngbmokiiaa



/-- All vertices of a complex with V of them. -/
def allV (V : Int) : Int := 2 ^ V.toNat - 1

theorem allV_le {V : Int} (h : V ≤ 6) : allV V ≤ 63 := by
  have h1 : V.toNat ≤ 6 := by omega
  have h2 : (2 : Nat) ^ V.toNat ≤ 2 ^ 6 := Nat.pow_le_pow_right (by decide) h1
  have h3 : ((2 ^ V.toNat : Nat) : Int) ≤ 64 := by exact_mod_cast h2
  simp only [Int.natCast_pow] at h3
  unfold allV
  have : ((2 : Nat) : Int) = 2 := rfl
  rw [this] at h3
  omega

/-- (V, fs) is a complex. -/
structure IsC (V : Int) (fs : List Int) : Prop where
  lo : 1 ≤ V
  hi : V ≤ 6
  range : ∀ x ∈ fs, 1 ≤ x ∧ x ≤ allV V
  asc : fs.Pairwise (· < ·)
  closed : ∀ x ∈ fs, ∀ p : Nat, p ≠ 0 → p &&& x.toNat = p → (p : Int) ∈ fs

theorem IsC.range63 {V : Int} {fs : List Int} (h : IsC V fs) : ∀ x ∈ fs, 1 ≤ x ∧ x ≤ 63 := fun x hx => ⟨(h.range x hx).1, by have := allV_le h.hi; have := (h.range x hx).2; omega⟩

theorem and_le_left' (p x : Nat) (h : p &&& x = p) : p ≤ x := by rw [← h]; exact Nat.and_le_right

/-- One vertex less is enough. -/
theorem closed_of_step {fs : List Int} (hr : ∀ x ∈ fs, 1 ≤ x ∧ x ≤ 63)
    (hs : ∀ x ∈ fs, ∀ v : Nat, v < 6 → bitN x.toNat v = true → x ≠ 2 ^ v → x - 2 ^ v ∈ fs) :
    ∀ x ∈ fs, ∀ p : Nat, p ≠ 0 → p &&& x.toNat = p → (p : Int) ∈ fs := by
  have key : ∀ n : Nat, ∀ x ∈ fs, x.toNat ≤ n → ∀ p : Nat, p ≠ 0 → p &&& x.toNat = p → (p : Int) ∈ fs := by
    intro n
    induction n with
    | zero => intro x hx hn; have := hr x hx; omega
    | succ n ih =>
      intro x hx hn p hp hpx
      have hx1 := hr x hx
      have hple := and_le_left' _ _ hpx
      rcases sub_chain ⟨x.toNat, by omega⟩ ⟨p, by omega⟩ hp hpx with h | ⟨v, hv, hne, hsub⟩
      · simp only at h
        rw [h, Int.toNat_of_nonneg (by omega)]; exact hx
      · simp only at hv hne hsub
        have hb := (bit_sub ⟨x.toNat, by omega⟩ v hv).2
        simp only at hb
        have hpos : 0 < 2 ^ v.val := Nat.two_pow_pos _
        have hc : ((2 ^ v.val : Nat) : Int) = 2 ^ v.val := by simp
        have hm := hs x hx v.val v.isLt hv (by rw [← hc]; omega)
        refine ih (x - 2 ^ v.val) hm (by rw [← hc]; omega) p hp ?_
        rw [show (x - 2 ^ v.val : Int).toNat = x.toNat - 2 ^ v.val by rw [← hc]; omega]
        exact hsub
  exact fun x hx => key x.toNat x hx (Nat.le_refl _)

theorem step_of_closed {fs : List Int} (hr : ∀ x ∈ fs, 1 ≤ x ∧ x ≤ 63)
    (h : ∀ x ∈ fs, ∀ p : Nat, p ≠ 0 → p &&& x.toNat = p → (p : Int) ∈ fs) :
    ∀ x ∈ fs, ∀ v : Nat, v < 6 → bitN x.toNat v = true → x ≠ 2 ^ v → x - 2 ^ v ∈ fs := by
  intro x hx v hv hb hne
  have hx1 := hr x hx
  obtain ⟨h1, h2⟩ := bit_sub ⟨x.toNat, by omega⟩ ⟨v, hv⟩ hb
  simp only at h1 h2
  have hc : ((2 ^ v : Nat) : Int) = 2 ^ v := by simp
  have := h x hx (x.toNat - 2 ^ v) (by rw [← hc] at hne; omega) h1
  rwa [show ((x.toNat - 2 ^ v : Nat) : Int) = x - 2 ^ v by rw [← hc]; omega] at this




theorem chain_fuel (f : Nat) : ∀ n m p : Nat, p ≤ n → p ≤ m → chain f n p = chain f m p := by
  intro n
  induction n with
  | zero => intro m p h1 _; obtain rfl : p = 0 := by omega
            cases m <;> simp [chain]
  | succ n ih =>
    intro m p h1 h2
    cases m with
    | zero => obtain rfl : p = 0 := by omega
              simp [chain]
    | succ m =>
      unfold chain
      by_cases hp : p = 0
      · simp [hp]
      · have h3 : (p - 1) &&& f ≤ p - 1 := Nat.and_le_left
        simp only [hp, if_false]
        rw [ih m _ (by omega) (by omega)]

theorem chain_pos {f n p : Nat} (hp : 0 < p) (hn : p ≤ n) : chain f n p = p :: chain f n ((p - 1) &&& f) := by
  cases n with
  | zero => omega
  | succ n =>
    have h3 : (p - 1) &&& f ≤ p - 1 := Nat.and_le_left
    conv => lhs; unfold chain
    rw [if_neg (by omega), chain_fuel f n (n + 1) _ (by omega) (by omega)]

theorem chain_zero (f n : Nat) : chain f n 0 = [] := by cases n <;> simp [chain]

theorem mem_subs {f x : Nat} (hf : f < 64) : x ∈ subs f ↔ x ≠ 0 ∧ x &&& f = x := by
  have hle : ∀ n p, ∀ y ∈ chain f n p, y ≤ p := by
    intro n
    induction n with
    | zero => intro p y hy; simp [chain] at hy
    | succ n ih =>
      intro p y hy
      unfold chain at hy
      split at hy
      · simp at hy
      · rcases List.mem_cons.1 hy with rfl | h
        · exact Nat.le_refl _
        · have := ih _ _ h
          have h3 : (p - 1) &&& f ≤ p - 1 := Nat.and_le_left
          omega
  constructor
  · intro h
    have hx := hle _ _ _ h
    exact (mem_subs' ⟨f, hf⟩ ⟨x, by omega⟩).1 h
  · intro h
    have hx := and_le_left' _ _ h.2
    exact (mem_subs' ⟨f, hf⟩ ⟨x, by omega⟩).2 h

noncomputable def isCB (V : Int) (fs : List Int) : Bool := @decide (IsC V fs) (Classical.propDecidable _)
theorem isCB_true {V : Int} {fs : List Int} (h : IsC V fs) : isCB V fs = true := by unfold isCB; exact @decide_eq_true _ (Classical.propDecidable _) h
theorem isCB_false {V : Int} {fs : List Int} (h : ¬ IsC V fs) : isCB V fs = false := by unfold isCB; exact @decide_eq_false _ (Classical.propDecidable _) h
theorem isCB_iff {V : Int} {fs : List Int} : isCB V fs = true ↔ IsC V fs := by unfold isCB; exact @decide_eq_true_iff _ (Classical.propDecidable _)

/-! ### face by face, in order -/
theorem isC_nil {V : Int} (h1 : 1 ≤ V) (h2 : V ≤ 6) : IsC V [] := ⟨h1, h2, by simp, List.Pairwise.nil, by simp⟩

theorem isC_snoc {V : Int} {pre : List Int} {x : Int} (h : IsC V pre) (hlt : ∀ y ∈ pre, y < x) (h1 : 1 ≤ x) (h2 : x ≤ allV V)
    (hp : ∀ p : Nat, p ≠ 0 → p &&& x.toNat = p → (p : Int) ∈ pre ++ [x]) : IsC V (pre ++ [x]) := by
  refine ⟨h.lo, h.hi, ?_, ?_, ?_⟩
  · intro y hy
    rcases List.mem_append.1 hy with hy | hy
    · exact h.range y hy
    · simp at hy; subst hy; exact ⟨h1, h2⟩
  · rw [List.pairwise_append]
    exact ⟨h.asc, by simp, fun a ha b hb => by simp at hb; subst hb; exact hlt a ha⟩
  · intro y hy p hp0 hpy
    rcases List.mem_append.1 hy with hy | hy
    · exact List.mem_append.2 (.inl (h.closed y hy p hp0 hpy))
    · simp at hy; subst hy; exact hp p hp0 hpy

theorem isC_head {V : Int} {pre rest : List Int} {x : Int} (h : IsC V (pre ++ x :: rest)) : (∀ y ∈ pre, y < x) ∧ 1 ≤ x ∧ x ≤ allV V :=
  ⟨fun y hy => (List.pairwise_append.1 h.asc).2.2 y hy x (by simp), h.range x (by simp)⟩

theorem isC_parts {V : Int} {pre rest : List Int} {x : Int} (h : IsC V (pre ++ x :: rest)) {p : Nat} (hp : p ≠ 0) (hpx : p &&& x.toNat = p) : (p : Int) ∈ pre ++ [x] := by
  have hx := (h.range63 x (by simp))
  have hm := h.closed x (by simp) p hp hpx
  have hple := and_le_left' _ _ hpx
  rcases List.mem_append.1 hm with hm | hm
  · exact List.mem_append.2 (.inl hm)
  · rcases List.mem_cons.1 hm with hm | hm
    · rw [hm]; simp
    · have := (List.pairwise_cons.1 (List.pairwise_append.1 h.asc).2.1).1 _ hm
      omega

/-- What the model finds below a face: m places have been looked at, from 62 downwards. -/
def belowR (f : Nat) : Nat → List Int
  | 0 => []
  | m + 1 => belowR f m ++ (if bitN f (62 - m) && f != 2 ^ (62 - m) then [(f : Int) - 2 ^ (62 - m)] else [])

theorem belowR_len (f : Nat) : ∀ m, (belowR f m).length ≤ m
  | 0 => by simp [belowR]
  | m + 1 => by
    have := belowR_len f m
    simp only [belowR, List.length_append]
    split <;> simp <;> omega

theorem mem_belowR {f : Nat} {y : Int} : ∀ m, m ≤ 63 → (y ∈ belowR f m ↔ ∃ v, v < 63 ∧ 63 - m ≤ v ∧ bitN f v = true ∧ f ≠ 2 ^ v ∧ y = f - 2 ^ v)
  | 0, _ => by simp [belowR]; intro v h1 h2; omega
  | m + 1, hm => by
    have ih := mem_belowR (f := f) (y := y) m (by omega)
    simp only [belowR, List.mem_append, ih]
    constructor
    · rintro (⟨v, h1, h2, h3⟩ | h)
      · exact ⟨v, h1, by omega, h3⟩
      · split at h
        · rename_i hb
          simp at hb h
          exact ⟨62 - m, by omega, by omega, hb.1, hb.2, h⟩
        · simp at h
    · rintro ⟨v, h1, h2, h3, h4, h5⟩
      by_cases hv : v = 62 - m
      · subst hv
        right
        rw [if_pos (by simp [h3, h4])]
        simp [h5]
      · exact .inl ⟨v, h1, by omega, h3, h4, h5⟩


theorem getD_mem {xs : List Int} {k : Nat} (h : k < xs.length) : xs[k]?.getD 0 ∈ xs := by
  rw [List.getElem?_eq_getElem h]; simp

theorem mem_getD {xs : List Int} {x : Int} (h : x ∈ xs) : ∃ k, k < xs.length ∧ xs[k]?.getD 0 = x := by
  obtain ⟨k, hk, e⟩ := List.mem_iff_getElem.1 h
  exact ⟨k, hk, by rw [List.getElem?_eq_getElem hk]; simpa using e⟩

/-- What the model asks, face by face. -/
theorem isC_of_looks {V : Int} {fs : List Int} (h1 : 1 ≤ V) (h2 : V ≤ 6) (hr : ∀ j, j < fs.length → 1 ≤ fs[j]?.getD 0 ∧ fs[j]?.getD 0 ≤ allV V)
    (ha : ∀ j, 0 < j → j < fs.length → fs[j - 1]?.getD 0 < fs[j]?.getD 0) (hb : ∀ j, j < fs.length → ∀ y ∈ belowR (fs[j]?.getD 0).toNat 63, y ∈ fs) : IsC V fs := by
  have hrange : ∀ x ∈ fs, 1 ≤ x ∧ x ≤ allV V := fun x hx => by obtain ⟨k, hk, e⟩ := mem_getD hx; rw [← e]; exact hr k hk
  have h63 : ∀ x ∈ fs, 1 ≤ x ∧ x ≤ 63 := fun x hx => ⟨(hrange x hx).1, by have := allV_le h2; have := (hrange x hx).2; omega⟩
  refine ⟨h1, h2, hrange, ?_, closed_of_step h63 ?_⟩
  · have key : ∀ i d, i + d + 1 < fs.length → fs[i]?.getD 0 < fs[i + d + 1]?.getD 0 := by
      intro i d
      induction d with
      | zero => intro h; exact ha (i + 1) (by omega) h
      | succ d ih => intro h; have h3 := ih (by omega); have h4 := ha (i + (d + 1) + 1) (by omega) h; simp only [Nat.add_sub_cancel] at h4; have e : i + (d + 1) = i + d + 1 := by omega
                     rw [e] at h4; rw [e]; omega
    rw [List.pairwise_iff_getElem]
    intro i j hi hj hij
    have := key i (j - i - 1) (by omega)
    rw [show i + (j - i - 1) + 1 = j by omega, List.getElem?_eq_getElem hi, List.getElem?_eq_getElem hj] at this
    simpa using this
  · intro x hx v hv hbit hne
    obtain ⟨k, hk, e⟩ := mem_getD hx
    have hx1 := h63 x hx
    refine hb k hk _ ((mem_belowR 63 (Nat.le_refl _)).2 ⟨v, by omega, by omega, by rw [e]; exact hbit, ?_, ?_⟩)
    · rw [e]; intro h; apply hne; have : ((x.toNat : Nat) : Int) = ((2 ^ v : Nat) : Int) := by rw [h]
      rw [Int.toNat_of_nonneg (by omega)] at this; simpa using this
    · rw [e, Int.toNat_of_nonneg (by omega)]

theorem isC_looks_range {V : Int} {fs : List Int} (h : IsC V fs) {j : Nat} (hj : j < fs.length) : 1 ≤ fs[j]?.getD 0 ∧ fs[j]?.getD 0 ≤ allV V := h.range _ (getD_mem hj)
theorem isC_looks_asc {V : Int} {fs : List Int} (h : IsC V fs) {j : Nat} (h0 : 0 < j) (hj : j < fs.length) : fs[j - 1]?.getD 0 < fs[j]?.getD 0 := by
  have := List.pairwise_iff_getElem.1 h.asc (j - 1) j (by omega) hj (by omega)
  rw [List.getElem?_eq_getElem (show j - 1 < fs.length by omega), List.getElem?_eq_getElem hj]
  simpa using this
theorem isC_looks_below {V : Int} {fs : List Int} (h : IsC V fs) {j : Nat} (hj : j < fs.length) {y : Int} (hy : y ∈ belowR (fs[j]?.getD 0).toNat 63) : y ∈ fs := by
  have hm := getD_mem hj
  have hx := h.range63 _ hm
  obtain ⟨v, h1, _, h3, h4, h5⟩ := (mem_belowR 63 (Nat.le_refl _)).1 hy
  have hc : ((2 ^ v : Nat) : Int) = 2 ^ v := by simp
  by_cases hv : v < 6
  · have hne : fs[j]?.getD 0 ≠ 2 ^ v := by
      intro e
      apply h4
      rw [e, ← hc]
      rfl
    have := step_of_closed h.range63 h.closed _ hm v hv h3 hne
    rw [h5, Int.toNat_of_nonneg (by omega)]; exact this
  · have hb := bit_big ⟨(fs[j]?.getD 0).toNat, by omega⟩ ⟨v, h1⟩ (by simp only; omega)
    simp only at hb
    rw [hb] at h3; cases h3

end Go.Proofs.Ytbaljngbmokiiaa

/-! Small lemmas for all walks: slices of integers as lists, hidden facts, endings. -/
namespace Go.Proofs.Ytbaljngbmokiiaa
open Go.RowKit

theorem hid {p : Prop} (h : p) : Hid p := h
theorem ret_bool {a b : Bool} (h : a = b) : Ending.returned (.bool a) = .returned (.bool b) := by rw [h]
theorem ret_int {k : IntKind} {a b : Int} (h : a = b) : Ending.returned (.int k a) = .returned (.int k b) := by rw [h]

/-- At address a (of a block below B) lie the integers xs. -/
def SlI (w : World) (B : Nat) (a : Option Addr) (xs : List Int) : Prop :=
  xs = [] ∨ ∃ b off, b < B ∧ a = some ⟨b, off, none⟩ ∧ ∀ i, i < xs.length → w.cell? ⟨b, off + i, none⟩ = some (.int .i64 (xs[i]?.getD 0))

theorem SlI.mono {w : World} {B B' : Nat} {a : Option Addr} {xs : List Int} (h : SlI w B a xs) (hB : B ≤ B') : SlI w B' a xs := by
  rcases h with rfl | ⟨b, off, hb, rfl, hc⟩
  · exact .inl rfl
  · exact .inr ⟨b, off, by omega, rfl, hc⟩

theorem SlI.below {w w' : World} {B : Nat} {a : Option Addr} {xs : List Int} (h : SlI w B a xs) (hw : Below B w w') : SlI w' B a xs := by
  rcases h with rfl | ⟨b, off, hb, rfl, hc⟩
  · exact .inl rfl
  · exact .inr ⟨b, off, hb, rfl, fun i hi => (hw.cell (p := ⟨b, off + i, none⟩) hb).trans (hc i hi)⟩

/-- .. as the arguments of a later call. -/
theorem SlI.later {w w' : World} {B : Nat} {a : Option Addr} {xs : List Int} (h : SlI w B a xs) (hw : Below B w w') (hB : B ≤ w'.heap.size) : SlI w' w'.heap.size a xs :=
  (h.below hw).mono hB

/-- What a call owns reads as a slice. -/
theorem ownsRow_slI {w : World} {base e : Nat} {v : Value} {n : Nat} {xs : List Int} (h : w.ownsRow base e 1 v n (xs.map (Value.int .i64))) :
    n = xs.length ∧ ∃ a cap, v = .slice a xs.length cap ∧ SlI w w.heap.size a xs := by
  have hl := h.1
  simp at hl
  subst hl
  refine ⟨rfl, ?_⟩
  rcases h.2 with ⟨rfl, hn⟩ | ⟨g, cap, cur, rfl, _, hg, _⟩
  · have hx : xs = [] := List.eq_nil_of_length_eq_zero hn
    subst hx
    exact ⟨none, 0, rfl, .inl rfl⟩
  · refine ⟨_, cap, rfl, .inr ⟨g, 0, (Array.getElem?_eq_some_iff.1 hg).1, rfl, fun i hi => ?_⟩⟩
    have := h.cells (g := g) rfl i (.int .i64 (xs[i]?.getD 0)) (by simp [hi])
    have hadd : (⟨g, 0, none⟩ : Addr).add i = ⟨g, i, none⟩ := by unfold Addr.add; split <;> simp_all
    rw [hadd] at this
    simpa using this

theorem take_snoc {xs : List Int} {k : Nat} (h : k < xs.length) : xs.take (k + 1) = xs.take k ++ [xs[k]?.getD 0] := by
  rw [List.take_succ_eq_append_getElem h, List.getElem?_eq_getElem h]; simp

theorem split_at {xs : List Int} {k : Nat} (h : k < xs.length) : xs = xs.take k ++ xs[k]?.getD 0 :: xs.drop (k + 1) := by
  rw [List.getElem?_eq_getElem h]
  simp

theorem info_i64 : (Try.prog.info? 2).map (fun i => (i.zero, i.size, i.bytes)) = some (some (.int .i64 0), 1, 8) := by kernel_rfl

theorem all_wrap {V : Int} (h1 : 0 ≤ V) (h2 : V ≤ 6) : wrap64 (wrap64 (2 ^ V.toNat) - 1) = allV V := by
  rcases (show V = 0 ∨ V = 1 ∨ V = 2 ∨ V = 3 ∨ V = 4 ∨ V = 5 ∨ V = 6 by omega) with rfl | rfl | rfl | rfl | rfl | rfl | rfl <;> decide +kernel

theorem bit_one {f v : Nat} (hf : f < 64) : bits BinOp.and IntKind.i64 ((f : Int) / 2 ^ v) 1 = if bitN f v then 1 else 0 := by
  have e : ((f : Int) / 2 ^ v) = ((f / 2 ^ v : Nat) : Int) := by simp
  have hle : f / 2 ^ v ≤ f := Nat.div_le_self _ _
  rw [e]
  have h := (bits_nat .i64 6 (by decide) (fun n h0 h1 => by rw [IntKind.wrap_i64]; omega) (f / 2 ^ v) 1 (by omega) (by decide)).1
  have h' : bits BinOp.and IntKind.i64 ((f / 2 ^ v : Nat) : Int) 1 = ((f / 2 ^ v &&& 1 : Nat) : Int) := h
  rw [h', Nat.and_one_is_mod]
  unfold bitN
  rcases Nat.mod_two_eq_zero_or_one (f / 2 ^ v) with h0 | h0 <;> simp [h0]

theorem pow62 {v : Nat} (hv : v ≤ 62) : (2 : Nat) ^ v ≤ 4611686018427387904 := by
  have h2 : (2 : Nat) ^ v ≤ 2 ^ 62 := Nat.pow_le_pow_right (by decide) hv
  simpa using h2

theorem pow_wrap {v : Nat} (hv : v ≤ 62) : wrap64 (2 ^ v) = ((2 ^ v : Nat) : Int) := by
  have h2 := pow62 hv
  rw [show ((2 : Int) ^ v) = ((2 ^ v : Nat) : Int) by simp]
  generalize (2 : Nat) ^ v = q at *
  exact IntWalk.wrap64_in _ ⟨by omega, by omega⟩

theorem pow_cast (v : Nat) : ((2 : Int) ^ v) = ((2 ^ v : Nat) : Int) := by simp

theorem sub_wrap {f v : Nat} (hf : f < 64) (hv : v ≤ 62) : wrap64 ((f : Int) - wrap64 (2 ^ v)) = (f : Int) - 2 ^ v := by
  have h2 := pow62 hv
  rw [pow_wrap hv, pow_cast]
  generalize (2 : Nat) ^ v = q at *
  exact IntWalk.wrap64_in _ ⟨by omega, by omega⟩

theorem ne_wrap {f v : Nat} (hv : v ≤ 62) : ((f : Int) != wrap64 (2 ^ v)) = (f != 2 ^ v) := by
  rw [pow_wrap hv]
  rw [Bool.eq_iff_iff]; simp only [bne_iff_ne, ne_eq]; rw [Int.natCast_inj]

/-- 'out = append(out, x)' on a slice of int64 that the call itself has made. -/
theorem append_int {w : World} {ops : Array Oper} {rest : List Oper} {o : Oper} {a : Act} {Q : Exit → Act → World → Prop} (hgd : o.guard = none) {s y : Operand}
    (ho : o.op = .call { callee := .builtin .append, args := #[s, y], argTypes := #[22, 22] })
    {base : Nat} {v : Value} {xs : List Int} {x : Int} (hown : w.ownsRow base 2 1 v xs.length (xs.map (Value.int .i64))) (hbase : base ≤ w.heap.size) (hl : xs.length ≤ 1099511627776)
    (hs : a.eval s = v) (hy : a.eval y = .slice (some ⟨w.heap.size, 0, none⟩) 1 1)
    (hK : ∀ v' w', w'.ownsRow base 2 1 v' (xs ++ [x]).length ((xs ++ [x]).map (Value.int .i64)) → w.grownBy w' v.ownBlock → Below base w w' → wpList Try.prog ops Q rest (a.put o.dst v') w') :
    wpList Try.prog ops Q (o :: rest) a (w.alloc (.cells #[.int .i64 x] 2)) := by
  obtain ⟨i0, hi, hz0, hz1, hz2⟩ := info_parts info_i64
  refine wpList_append_own _ hgd s y 22 ho base 2 i0 (.int .i64 0) 1 8 Try.underlying22 hi hz0 hz1 hz2 rfl (by decide) v _ _ hs (hown.alloc _) ⟨w.heap.size, 0, none⟩ 1 1 [.int .i64 x] hy rfl (cell_one_new _ _ _) (by simp [Value.oneCell']) (by unfold maxLen; omega) (by omega) (by simp; omega) ?_
  intro v' w1 hown1 hgrow1 _
  have hg : w.grownBy w1 v.ownBlock := (World.grownBy_alloc w _ _).trans hgrow1
  refine hK v' w1 (by simpa using hown1) hg ((Below.refl base w).grown hg hbase (fun k hk => (hown.lt k hk).1))

/-- A callee that leaves the world alone, in a region that draws its order. -/
theorem quiet_of_eq {P : Program} {f : FuncId} {args : Array Value} {w : World} {n : Nat} {v : Value}
    (h : Calls P f args (w.drewN n) fun e w' => e = .returned v ∧ w.drewN n = w') : Calls P f args (w.drewN n) fun e w'' => e = .returned v ∧ ∃ m, w'' = w.drewN m :=
  h.mono fun _ _ ⟨he, hm⟩ => ⟨he, n, hm.symm⟩

/-- 'make([]int64, n)'. -/
theorem make_int {w : World} {ops : Array Oper} {rest : List Oper} {o : Oper} {a : Act} {Q : Exit → Act → World → Prop} (hgd : o.guard = none) {l c : Operand} (hop : o.op = Op.makeSlice 22 l c)
    {n : Nat} (hl : a.eval l = .int .i64 (n : Int)) (hc : a.eval c = .int .i64 (n : Int)) (hn : n ≤ 1099511627776)
    (hK : ∀ w', w'.ownsRow w.heap.size 2 1 (.slice (some ⟨w.heap.size, 0, none⟩) n n) n ((List.replicate n (0 : Int)).map (Value.int .i64)) → w.grownBy w' none → Below w.heap.size w w' →
      wpList Try.prog ops Q rest (a.put o.dst (.slice (some ⟨w.heap.size, 0, none⟩) n n)) w') :
    wpList Try.prog ops Q (o :: rest) a w := by
  obtain ⟨i0, hi, hz0, hz1, hz2⟩ := info_parts info_i64
  refine wpList_make_full w hgd l c 22 hop w.heap.size 2 i0 (.int .i64 0) 1 Try.underlying22 hi hz0 hz1 .i64 .i64 _ _ n hl hc rfl rfl (by rw [hz2]; omega) (by unfold maxLen; omega) (Nat.le_refl _) ?_
  intro w' hown hg
  have e : (madeCells (Value.int .i64 0).cells (n * 1)).toList = (List.replicate n (0 : Int)).map (Value.int .i64) := by
    rw [Nat.mul_one]
    exact (toList_madeCells_one _ _).trans (by simp)
  rw [e] at hown
  exact hK w' hown hg ((Below.refl _ w).grown hg (Nat.le_refl _) (fun k hk => by cases hk))

theorem grownBy_set (w : World) (a : Addr) (u : Value) : w.grownBy (w.setCell a u) (some a.block) :=
  ⟨rfl, rfl, rfl, by simp [World.setCell], fun k _ hk => Below.heap_setCell _ _ _ _ (fun e => hk (by rw [e]))⟩

theorem ownsRow_set {w : World} {base e size : Nat} {v : Value} {n : Nat} {xs : List Value} (h : w.ownsRow base e size v n xs) {a : Addr} (ha : v.ownBlock ≠ some a.block) (u : Value) : (w.setCell a u).ownsRow base e size v n xs :=
  h.kept (grownBy_set w a u) (.inr ha)

theorem ownsRow_base {w : World} {base base' e size : Nat} {v : Value} {n : Nat} {xs : List Value} (h : w.ownsRow base e size v n xs) (hb : base' ≤ base) : w.ownsRow base' e size v n xs := by
  refine ⟨h.1, ?_⟩
  rcases h.2 with hn | ⟨g, cap, cur, rfl, hg, rest⟩
  · exact .inl hn
  · exact .inr ⟨g, cap, cur, rfl, by omega, rest⟩

/-- What is owned above a number stays so while what lies below it is kept. -/
theorem ownsRow_below {w w' : World} {base B e size : Nat} {v : Value} {n : Nat} {xs : List Value} (h : w.ownsRow base e size v n xs) (hb : Below B w w') (hB : ∀ g, v.ownBlock = some g → g < B) : w'.ownsRow base e size v n xs := by
  refine ⟨h.1, ?_⟩
  rcases h.2 with hn | ⟨g, cap, cur, rfl, hg, hh, rest⟩
  · exact .inl hn
  · exact .inr ⟨g, cap, cur, rfl, hg, (hb.block g (hB g rfl)).trans hh, rest⟩

theorem owned_slI {w : World} {base e : Nat} {a : Option Addr} {n m cap : Nat} {xs : List Int} (h : w.ownsRow base e 1 (.slice a m cap) n (xs.map (Value.int .i64))) : SlI w w.heap.size a xs := by
  obtain ⟨_, a', cap', he, hs⟩ := ownsRow_slI h
  cases he
  exact hs

theorem owned_len {w : World} {base e : Nat} {v : Value} {n : Nat} {xs : List Int} (h : w.ownsRow base e 1 v n (xs.map (Value.int .i64))) : n = xs.length := (ownsRow_slI h).1

end Go.Proofs.Ytbaljngbmokiiaa

/-! What a complex that comes in is told as, for the rows of all laws. -/
namespace Go.Proofs.Ytbaljngbmokiiaa
open Go.ChangeShapes Go.WideShapes Go.ChangeAt Go.RowKit Go.Joins

theorem own : ownKnob Try.prog.godebug = none := by kernel_rfl
theorem laidOut : laidOutB Try.prog = true := by kernel_rfl

variable {H : Type} {enc : TypeId × Value → H}

/-- A slice of int64 that came in. -/
theorem slI_of_trod {W : World} {n : Nat} {v : Value} {y : DataW H × List MemPlace} (hf : DataW.trod enc Try.prog W 0 (fun _ => true) true n 22 [v] = some y) :
    ∃ a len cap xs, v = .slice a len cap ∧ xs.length = len ∧ len ≤ 9223372036854775807 ∧ SlI W W.heap.size a xs ∧ ∀ x ∈ xs, (Lit.int .i64 x).wf = true := by
  rcases open_ints Try.underlying22 Try.underlying2 (by kernel_rfl) hf with ⟨hcs, _⟩ | ⟨x, l, c, zs, hcs, _, hl, hm, hz, _, hcell, hwf⟩
  · simp at hcs
    subst hcs
    exact ⟨none, 0, 0, [], rfl, rfl, by omega, .inl rfl, by simp⟩
  · simp at hcs
    subst hcs
    simp at hz
    have hlen : (zs.take l).length = l := by simp; omega
    unfold maxLen at hm
    refine ⟨some x, l, c, zs.take l, rfl, hlen, by omega, ?_, fun y hy => hwf y (List.mem_of_mem_take hy)⟩
    by_cases h0 : l = 0
    · subst h0; exact .inl (by simp)
    · right
      obtain ⟨b, off, spot⟩ := x
      have hc0 := hcell 0 (by omega)
      have hspot : spot = none := by simpa [Addr.add] using World.cell?_spot hc0
      subst hspot
      refine ⟨b, off, ?_, rfl, fun i hi => ?_⟩
      · have := World.block_lt_of_cell? W _ hc0
        simpa [Addr.add] using this
      · rw [hlen] at hi
        have := hcell i (by omega)
        have hadd : (⟨b, off, none⟩ : Addr).add i = ⟨b, off + i, none⟩ := by unfold Addr.add; split <;> simp_all
        rw [hadd] at this
        rw [List.getElem?_take, if_pos hi]
        simpa using this

end Go.Proofs.Ytbaljngbmokiiaa

/-! Contracts of the laws' small helpers: sizes, copies, comparisons. -/
namespace Go.Proofs.Ytbaljngbmokiiaa
open Go.RowKit

theorem fill_step {xs : List Int} {k : Nat} (h : k < xs.length) :
    ((xs.take k ++ List.replicate (xs.length - k) (0 : Int)).map (Value.int .i64)).set k (.int .i64 (xs[k]?.getD 0)) = (xs.take (k + 1) ++ List.replicate (xs.length - (k + 1)) (0 : Int)).map (Value.int .i64) := by
  rw [take_snoc h, ← List.map_set]
  congr 1
  have e : xs.length - k = (xs.length - (k + 1)) + 1 := by omega
  rw [e, List.replicate_succ, List.set_append_right _ _ (by simp <;> omega)]
  simp [Nat.min_eq_left (Nat.le_of_lt h)]

set_option maxHeartbeats 400000 in
theorem toInts (a : Option Addr) (cap : Nat) (xs : List Int) (w : World) (hx : SlI w w.heap.size a xs) (hl : xs.length ≤ 1048576) :
    Calls Try.prog 18 #[.slice a xs.length cap] w fun e w' =>
      e = .returned (.slice (some ⟨w.heap.size, 0, none⟩) xs.length xs.length) ∧ w'.ownsRow w.heap.size 2 1 (.slice (some ⟨w.heap.size, 0, none⟩) xs.length xs.length) xs.length (xs.map (Value.int .i64)) ∧ Below w.heap.size w w' := by
  go_enter Try.func18, Try.ntmps18
  go_wp2_with (at_make; refine make_int rfl rfl rfl rfl (by omega) ?_; intro w1 hown hg hB)
  rcases hx with rfl | ⟨b, off, hb, rfl, hc⟩
  · refine wp_loop_rounds 1 ?_; rw [rounds_succ]
    go_wp2
    go_ret
    exact ⟨rfl, hown, hB⟩
  · go_loopw [4] (fun i wr => ∃ k : Nat, k ≤ xs.length ∧ i = .int .i64 k ∧ wr.ownsRow w.heap.size 2 1 (.slice (some ⟨w.heap.size, 0, none⟩) xs.length xs.length) xs.length ((xs.take k ++ List.replicate (xs.length - k) (0 : Int)).map (Value.int .i64)) ∧ Below w.heap.size w wr) (fun i _ => xs.length - (intOf i).toNat)
    case atStart => exact ⟨0, Nat.zero_le _, rfl, by simpa using hown, hB⟩
    case round =>
      obtain ⟨k, hk, rfl, hown, hB⟩ := hrel
      by_cases hlt : k < xs.length
      · obtain ⟨x, hx⟩ : ∃ x, x = xs[k]?.getD 0 := ⟨_, rfl⟩
        have hck : wr.cell? ⟨b, off + k, none⟩ = some (.int .i64 x) := by rw [hx]; exact (hB.cell (p := ⟨b, off + k, none⟩) hb).trans (hc k hlt)
        have hcg : wr.cell? ⟨w.heap.size, k, none⟩ = some (.int .i64 0) := by
          rw [hown.cellAt k (by omega)]
          rw [List.getElem?_map, List.getElem?_append_right (by simp <;> omega)]
          simp [List.getElem?_replicate, Nat.min_eq_left hk]
          omega
        have hfg := hown.frozenAt k
        have Hx := hid hx
        have Hc := hid hc
        clear hx hc
        have hst := hown.stored k (.int .i64 x)
        have Hst := hid hst.1
        clear hst
        go_wp2
        go_roundw
        case rel =>
          refine ⟨k + 1, by omega, by go_num, ?_, hB.setCell (p := ⟨w.heap.size, k, none⟩) (Nat.le_refl _) _⟩
          have h := Hst.out
          rw [Hx.out, fill_step hlt, ← Hx.out] at h
          exact h
        case measure => simp [intOf]; omega
      · go_wp2
        go_ret
        obtain rfl : k = xs.length := by omega
        exact ⟨rfl, by simpa using hown, hB⟩

/-- What is left of a size. -/
def szR (left : Int) (n : Nat) : Int := if left < n then -1 else left - n
theorem szR_big {left : Int} {n : Nat} (h : left < n) : szR left n = -1 := by unfold szR; rw [if_pos h]
theorem szR_fit {left : Int} {n : Nat} (h : ¬ left < n) : szR left n = left - n := by unfold szR; rw [if_neg h]

set_option maxHeartbeats 400000 in
theorem szInts (a : Option Addr) (n cap : Nat) (left : Int) (w : World) (h1 : 0 ≤ left) (h2 : left ≤ 1048576) (hn : n ≤ 9223372036854775807) :
    Calls Try.prog 57 #[.slice a n cap, .int .i64 left] w fun e w' => e = .returned (.int .i64 (szR left n)) ∧ w = w' := by
  by_cases h : left < n
  · have H := hid (szR_big h)
    go_enter Try.func57, Try.ntmps57
    go_wp2
    go_ret
    exact ⟨ret_int (by rw [H.out]), rfl⟩
  · have H := hid (szR_fit h)
    go_enter Try.func57, Try.ntmps57
    go_wp2
    go_ret
    exact ⟨ret_int (by rw [H.out]), rfl⟩

set_option maxHeartbeats 400000 in
theorem szCx (V : Int) (a : Option Addr) (n cap : Nat) (left : Int) (w : World) (h1 : 0 ≤ left) (h2 : left ≤ 1048576) (hn : n ≤ 9223372036854775807) :
    Calls Try.prog 15 #[.agg #[.int .i64 V, .slice a n cap], .int .i64 left] w fun e w' => e = .returned (.int .i64 (szR left n)) ∧ Below w.heap.size w w' := by
  have hr : szR left n = -1 ∨ 0 ≤ szR left n := by
    by_cases h : left < n
    · exact .inl (szR_big h)
    · rw [szR_fit h]; right; omega
  have hr' : szR left n < 0 ∨ 0 ≤ szR left n := by omega
  have hm : szR left n < 0 → szR left n = -1 := by omega
  have Hm := hid hm
  clear hr hm
  obtain ⟨r, hr0⟩ : ∃ r, r = szR left n := ⟨_, rfl⟩
  rw [← hr0] at hr'
  have hr := hr'
  have H := hid hr0
  clear hr0 hr'
  go_enter Try.func15, Try.ntmps15
  go_wp2_with fail
  refine (szInts a n cap left _ h1 h2 hn).mono ?_
  rintro e w' ⟨rfl, rfl⟩
  rw [← H.out]
  rcases hr with hr | hr
  · go_wp2
    go_ret
    exact ⟨ret_int (Hm.out (by rw [← H.out]; exact hr)).symm, (Below.refl _ w).alloc (Nat.le_refl _) _⟩
  · go_wp2
    go_ret
    exact ⟨ret_int H.out, (Below.refl _ w).alloc (Nat.le_refl _) _⟩

set_option maxHeartbeats 400000 in
theorem toCx (V : Int) (a : Option Addr) (cap : Nat) (xs : List Int) (w : World) (hx : SlI w w.heap.size a xs) (hl : xs.length ≤ 1048576) :
    Calls Try.prog 17 #[.agg #[.int .i64 V, .slice a xs.length cap]] w fun e w' =>
      ∃ g, e = .returned (.agg #[.int .i64 V, .slice (some ⟨g, 0, none⟩) xs.length xs.length]) ∧ w'.ownsRow w.heap.size 2 1 (.slice (some ⟨g, 0, none⟩) xs.length xs.length) xs.length (xs.map (Value.int .i64)) ∧ Below w.heap.size w w' := by
  go_enter Try.func17, Try.ntmps17
  go_wp2_with fail
  refine (toInts a cap xs _ (SlI.later hx (?hb : Below w.heap.size w _) ?hs) hl).mono ?_
  case hb => repeat (first | exact Below.refl _ _ | refine Below.alloc ?_ (by simp <;> omega) _ | refine Below.setCell ?_ (by simp <;> omega) _)
  case hs => simp <;> omega
  rintro e w1 ⟨rfl, hown, hB⟩
  have hB1 : Below w.heap.size w w1 := Below.trans (by repeat (first | exact Below.refl _ _ | refine Below.alloc ?_ (by simp <;> omega) _ | refine Below.setCell ?_ (by simp <;> omega) _)) (hB.mono (by simp <;> omega))
  have e0 : w1.cell? ⟨w.heap.size + 1 + 1, 0, none⟩ = some (.int .i64 V) := (hB.cell (p := ⟨w.heap.size + 1 + 1, 0, none⟩) (by simp)).trans (by simp [go_sem])
  have e1 : w1.cell? ⟨w.heap.size + 1 + 1, 1, none⟩ = some (.slice none 0 0) := (hB.cell (p := ⟨w.heap.size + 1 + 1, 1, none⟩) (by simp)).trans (by simp [go_sem])
  have e2 : w1.cell? ⟨w.heap.size + 1, 0, none⟩ = some (.int .i64 0) := (hB.cell (p := ⟨w.heap.size + 1, 0, none⟩) (by simp)).trans (by simp [go_sem])
  have e3 : w1.cell? ⟨w.heap.size + 1, 1, none⟩ = some (.slice none 0 0) := (hB.cell (p := ⟨w.heap.size + 1, 1, none⟩) (by simp)).trans (by simp [go_sem])
  have g1 : w1.frozen? ⟨w.heap.size + 1 + 1, 1, none⟩ = false := (hB.frozen (p := ⟨w.heap.size + 1 + 1, 1, none⟩) (by simp)).trans (by simp [go_sem])
  have g2 : w1.frozen? ⟨w.heap.size + 1, 0, none⟩ = false := (hB.frozen (p := ⟨w.heap.size + 1, 0, none⟩) (by simp)).trans (by simp [go_sem])
  have g3 : w1.frozen? ⟨w.heap.size + 1, 1, none⟩ = false := (hB.frozen (p := ⟨w.heap.size + 1, 1, none⟩) (by simp)).trans (by simp [go_sem])
  have hs1 := hB.size
  simp at hs1
  have Hown := hid (hown)
  clear hown
  go_wp2_with fail
  refine bodyPost_ret (v := .agg #[.int .i64 V, .slice (some ⟨w.heap.size + 1 + 1 + 1, 0, none⟩) xs.length xs.length]) (by simp [results, Try.results17, go_sem, e2, e3]) rfl ⟨w.heap.size + 1 + 1 + 1, rfl, ?_, ?_⟩
  · have h := Hown.out
    simp only [World.size_alloc] at h
    refine ownsRow_set (ownsRow_set (ownsRow_set (ownsRow_base h (by omega)) ?_ _) ?_ _) ?_ _ <;> (simp [Value.ownBlock] <;> omega)
  · exact ((hB1.setCell (by simp; omega) _).setCell (by simp) _).setCell (by simp) _

set_option maxHeartbeats 400000 in
theorem eqInts_any (a1 a2 : Option Addr) (c1 c2 : Nat) (xs ys : List Int) (w : World) (hx : SlI w w.heap.size a1 xs) (hy : SlI w w.heap.size a2 ys) (hl : xs.length ≤ 1048576) (hl2 : ys.length ≤ 1048576) :
    Calls Try.prog 21 #[.slice a1 xs.length c1, .slice a2 ys.length c2] w fun e w' => e = .returned (.bool (decide (xs = ys))) ∧ Below w.heap.size w w' := by
  by_cases hlen : xs.length = ys.length
  · rcases hx with rfl | ⟨b, off, hb, rfl, hc⟩
    · obtain rfl : ys = [] := List.eq_nil_of_length_eq_zero hlen.symm
      go_enter Try.func21, Try.ntmps21
      go_wp2
      refine wp_loop_rounds 1 ?_; rw [rounds_succ]
      go_wp2
      go_ret
      exact ⟨ret_bool (by simp), Below.refl _ _⟩
    · rcases hy with rfl | ⟨b2, off2, hb2, rfl, hc2⟩
      · obtain rfl : xs = [] := List.eq_nil_of_length_eq_zero hlen
        go_enter Try.func21, Try.ntmps21
        go_wp2
        refine wp_loop_rounds 1 ?_; rw [rounds_succ]
        go_wp2
        go_ret
        exact ⟨ret_bool (by simp), Below.refl _ _⟩
      · have Hc := hid hc
        have Hc2 := hid hc2
        have hne : ((xs.length : Int) != (ys.length : Int)) = false := by simp [hlen]
        have Hlen := hid hlen
        have hle : xs.length ≤ ys.length := by omega
        clear hc hc2 hlen
        go_enter Try.func21, Try.ntmps21
        go_wp2
        go_loopw [5] (fun i wr => ∃ k : Nat, k ≤ xs.length ∧ i = .int .i64 k ∧ Hid (∀ j, j < k → xs[j]?.getD 0 = ys[j]?.getD 0) ∧ Below w.heap.size w wr) (fun i _ => xs.length - (intOf i).toNat)
        case atStart => exact ⟨0, Nat.zero_le _, rfl, hid (by omega), Below.refl _ _⟩
        case round =>
          obtain ⟨k, hk, rfl, Hk, hB⟩ := hrel
          by_cases hlt : k < xs.length
          · obtain ⟨x, hx⟩ : ∃ x, x = xs[k]?.getD 0 := ⟨_, rfl⟩
            obtain ⟨y, hy⟩ : ∃ y, y = ys[k]?.getD 0 := ⟨_, rfl⟩
            have hck : wr.cell? ⟨b, off + k, none⟩ = some (.int .i64 x) := by rw [hx]; exact (hB.cell (p := ⟨b, off + k, none⟩) hb).trans (Hc.out k hlt)
            have hck2 : wr.cell? ⟨b2, off2 + k, none⟩ = some (.int .i64 y) := by rw [hy]; exact (hB.cell (p := ⟨b2, off2 + k, none⟩) hb2).trans (Hc2.out k (by omega))
            have Hx := hid hx
            have Hy := hid hy
            clear hx hy
            have hi0 : (0 : Int) ≤ (k : Int) := by omega
            have hi1 : (k : Int) < (xs.length : Int) := by omega
            have hi2 : (k : Int) < (ys.length : Int) := by omega
            by_cases hxy : x = y
            · have hd : (x != y) = false := by simp [hxy]
              have Hxy := hid hxy
              clear hxy
              go_wp2_with fail
              go_quiet (fail)
              go_wp2_with fail
              go_roundw
              case rel =>
                refine ⟨k + 1, by omega, by go_num, hid (fun j hj => ?_), hB.trans ⟨rfl, rfl, rfl, Nat.le_refl _, fun _ _ => rfl⟩⟩
                by_cases hjk : j < k
                · exact Hk.out j hjk
                · obtain rfl : j = k := by omega
                  rw [← Hx.out, ← Hy.out, Hxy.out]
              case measure => simp [intOf]; omega
            · have hd : (x != y) = true := by simp [hxy]
              go_wp2_with fail
              go_quiet (fail)
              go_wp2_with fail
              go_ret
              refine ⟨ret_bool ?_, hB.trans ⟨rfl, rfl, rfl, Nat.le_refl _, fun _ _ => rfl⟩⟩
              symm
              refine decide_eq_false (fun h => hxy ?_)
              rw [Hx.out, Hy.out, h]
          · obtain rfl : k = xs.length := by omega
            go_wp2
            go_ret
            refine ⟨ret_bool ?_, hB⟩
            symm
            refine decide_eq_true (List.ext_getElem Hlen.out (fun j h1 h2 => ?_))
            have := Hk.out j h1
            rw [List.getElem?_eq_getElem h1, List.getElem?_eq_getElem h2] at this
            simpa using this
  · have hne : ((xs.length : Int) != (ys.length : Int)) = true := by simp; omega
    have Hlen := hid hlen
    clear hlen
    go_enter Try.func21, Try.ntmps21
    go_wp2
    go_ret
    refine ⟨ret_bool ?_, Below.refl _ _⟩
    symm
    exact decide_eq_false (fun h => Hlen.out (by rw [h]))

theorem eqInts_yes (a1 a2 : Option Addr) (c1 c2 : Nat) (xs ys : List Int) (w : World) (hx : SlI w w.heap.size a1 xs) (hy : SlI w w.heap.size a2 ys) (hl : xs.length ≤ 1048576) (hl2 : ys.length ≤ 1048576) (h : xs = ys) :
    Calls Try.prog 21 #[.slice a1 xs.length c1, .slice a2 ys.length c2] w fun e w' => e = .returned (.bool true) ∧ Below w.heap.size w w' :=
  (eqInts_any a1 a2 c1 c2 xs ys w hx hy hl hl2).mono fun _ _ ⟨he, hw⟩ => ⟨by rw [he, decide_eq_true h], hw⟩

theorem eqInts_no (a1 a2 : Option Addr) (c1 c2 : Nat) (xs ys : List Int) (w : World) (hx : SlI w w.heap.size a1 xs) (hy : SlI w w.heap.size a2 ys) (hl : xs.length ≤ 1048576) (hl2 : ys.length ≤ 1048576) (h : ¬ xs = ys) :
    Calls Try.prog 21 #[.slice a1 xs.length c1, .slice a2 ys.length c2] w fun e w' => e = .returned (.bool false) ∧ Below w.heap.size w w' :=
  (eqInts_any a1 a2 c1 c2 xs ys w hx hy hl hl2).mono fun _ _ ⟨he, hw⟩ => ⟨by rw [he, decide_eq_false h], hw⟩

set_option maxHeartbeats 400000 in
theorem eqCx_yes (V : Int) (a1 a2 : Option Addr) (c1 c2 : Nat) (xs ys : List Int) (w : World) (hx : SlI w w.heap.size a1 xs) (hy : SlI w w.heap.size a2 ys) (hl : xs.length ≤ 1048576) (hl2 : ys.length ≤ 1048576) (h : xs = ys) :
    Calls Try.prog 20 #[.agg #[.int .i64 V, .slice a1 xs.length c1], .agg #[.int .i64 V, .slice a2 ys.length c2]] w fun e w' => e = .returned (.bool true) ∧ Below w.heap.size w w' := by
  have H := hid h
  clear h
  have hne : (V != V) = false := by simp
  go_enter Try.func20, Try.ntmps20
  go_wp2_with fail
  have hB : Below w.heap.size w ((w.alloc (.cells #[.int .i64 V, .slice a1 xs.length c1] 26)).alloc (.cells #[.int .i64 V, .slice a2 ys.length c2] 26)) := ((Below.refl _ w).alloc (Nat.le_refl _) _).alloc (by simp) _
  refine (eqInts_yes a1 a2 c1 c2 xs ys _ (SlI.later hx hB (by simp <;> omega)) (SlI.later hy hB (by simp <;> omega)) hl hl2 H.out).mono ?_
  rintro e w' ⟨rfl, hb⟩
  go_wp2_with fail
  go_ret
  exact ⟨rfl, hB.trans (hb.mono (by simp <;> omega))⟩

end Go.Proofs.Ytbaljngbmokiiaa

/-! Marks: what the laws write into results, and find again. -/
namespace Go.Proofs.Ytbaljngbmokiiaa
open Go.RowKit

/-- k, k + 1, .. -/
def count (k : Int) : Nat → List Int
  | 0 => []
  | n + 1 => count k n ++ [k + n]

theorem count_len (k : Int) : ∀ n, (count k n).length = n
  | 0 => rfl
  | n + 1 => by simp [count, count_len k n]

theorem count_get (k : Int) : ∀ n i, i < n → (count k n)[i]?.getD 0 = k + i
  | 0, i, h => by omega
  | n + 1, i, h => by
    unfold count
    by_cases hi : i < n
    · rw [List.getElem?_append_left (by rw [count_len]; exact hi)]
      exact count_get k n i hi
    · obtain rfl : i = n := by omega
      rw [List.getElem?_append_right (by rw [count_len]; omega), count_len]
      simp

theorem mark_step {k : Int} {xs : List Int} {j : Nat} (h : j < xs.length) :
    ((count k j ++ xs.drop j).map (Value.int .i64)).set j (.int .i64 (k + j)) = (count k (j + 1) ++ xs.drop (j + 1)).map (Value.int .i64) := by
  rw [← List.map_set]
  congr 1
  rw [List.set_append_right _ _ (by rw [count_len]; exact Nat.le_refl _), count_len, Nat.sub_self]
  rw [List.drop_eq_getElem_cons h, List.set_cons_zero]
  simp [count]

set_option maxHeartbeats 400000 in
theorem markInts (base : Nat) (a : Option Addr) (cap : Nat) (xs : List Int) (k : Int) (w : World) (hown : w.ownsRow base 2 1 (.slice a xs.length cap) xs.length (xs.map (Value.int .i64))) (hl : xs.length ≤ 1048576) (h0 : 0 ≤ k) (h1 : k ≤ 1099511627776) :
    Calls Try.prog 23 #[.slice a xs.length cap, .int .i64 k] w fun e w' => e = .returned (.int .i64 (k + xs.length)) ∧
      w'.ownsRow base 2 1 (.slice a xs.length cap) xs.length ((count k xs.length).map (Value.int .i64)) ∧ w.grownBy w' (Value.ownBlock (.slice a xs.length cap)) := by
  rcases hown.2 with ⟨hv, hn⟩ | ⟨g, cap', cur, hv, hb, hg, rest⟩
  · obtain rfl : xs = [] := List.eq_nil_of_length_eq_zero hn
    have Hown := hid hown
    clear hown hv hn
    go_enter Try.func23, Try.ntmps23
    go_wp2
    refine wp_loop_rounds 1 ?_; rw [rounds_succ]
    go_wp2
    go_ret
    exact ⟨ret_int (by simp), Hown.out, ⟨rfl, rfl, rfl, Nat.le_refl _, fun _ _ _ => rfl⟩⟩
  · cases hv
    have Hg := hid (And.intro hb hg)
    clear hb hg rest
    go_enter Try.func23, Try.ntmps23
    go_wp2
    go_loopw [1, 5] (fun m i wr => ∃ j : Nat, j ≤ xs.length ∧ i = .int .i64 j ∧ m = .int .i64 (k + j) ∧ wr.ownsRow base 2 1 (.slice (some ⟨g, 0, none⟩) xs.length cap) xs.length ((count k j ++ xs.drop j).map (Value.int .i64)) ∧ w.grownBy wr (some g)) (fun _ i _ => xs.length - (intOf i).toNat)
    case atStart => exact ⟨0, Nat.zero_le _, rfl, by simp, by simpa [count] using hown, ⟨rfl, rfl, rfl, Nat.le_refl _, fun _ _ _ => rfl⟩⟩
    case round =>
      obtain ⟨j, hj, rfl, rfl, hown, hgr⟩ := hrel
      by_cases hlt : j < xs.length
      · have hcg : ∃ u, wr.cell? ⟨g, j, none⟩ = some (.int .i64 u) := by
          rw [hown.cellAt j (by omega)]
          refine ⟨xs[j]?.getD 0, ?_⟩
          rw [List.getElem?_map, List.getElem?_append_right (by rw [count_len]; exact Nat.le_refl _), count_len, Nat.sub_self]
          simp [hlt]
        obtain ⟨u, hcu⟩ := hcg
        have hfg := hown.frozenAt j
        have hst := hown.stored j (.int .i64 (k + j))
        rw [mark_step hlt] at hst
        have Hst := hid hst
        have Hgr := hid hgr
        clear hst hown hgr
        go_wp2
        go_roundw
        case rel =>
          exact ⟨j + 1, by omega, by go_num, by go_num, Hst.out.1, Hgr.out.trans Hst.out.2⟩
        case measure => simp [intOf]; omega
      · go_wp2
        go_ret
        obtain rfl : j = xs.length := by omega
        exact ⟨rfl, by simpa using hown, hgr⟩

set_option maxHeartbeats 400000 in
theorem heldInts (a : Option Addr) (cap : Nat) (n : Nat) (xs : List Int) (k : Int) (w : World) (hxs : xs = count k n) (hx : SlI w w.heap.size a xs) (hl : n ≤ 1048576) (h0 : 0 ≤ k) (h1 : k ≤ 1099511627776) :
    Calls Try.prog 31 #[.slice a n cap, .int .i64 k] w fun e w' => e = .returned (.int .i64 (k + n)) ∧ Below w.heap.size w w' := by
  have hlen : xs.length = n := by rw [hxs, count_len]
  rcases hx with rfl | ⟨b, off, hb, rfl, hc⟩
  · obtain rfl : n = 0 := by simpa using hlen.symm
    clear hxs hlen
    go_enter Try.func31, Try.ntmps31
    go_wp2
    refine wp_loop_rounds 1 ?_; rw [rounds_succ]
    go_wp2
    go_ret
    exact ⟨ret_int (by simp), Below.refl _ _⟩
  · have Hc := hid hc
    have Hxs := hid hxs
    have Hlen := hid hlen
    clear hc hxs hlen
    go_enter Try.func31, Try.ntmps31
    go_wp2
    go_loop [1, 5] (fun m i => ∃ j : Nat, j ≤ n ∧ i = .int .i64 j ∧ m = .int .i64 (k + j)) (fun _ i => n - (intOf i).toNat)
    case atStart => exact ⟨0, Nat.zero_le _, rfl, by simp⟩
    case round =>
      obtain ⟨j, hj, rfl, rfl⟩ := hrel
      by_cases hlt : j < n
      · have hck : w.cell? ⟨b, off + j, none⟩ = some (.int .i64 (k + j)) := by
          have := Hc.out j (by rw [Hlen.out]; exact hlt)
          rw [Hxs.out, count_get _ _ _ hlt] at this
          exact this
        go_wp2
        go_round
        case rel => exact ⟨j + 1, by omega, by go_num, by go_num⟩
        case measure => simp [intOf]; omega
      · go_wp2
        go_ret
        obtain rfl : j = n := by omega
        exact ⟨rfl, Below.refl _ _⟩

/-! ### What a law keeps of the world: slices of its own, in the order in which they were made, and blocks -/

/-- A slice of int64 that lies in blocks from lo to hi. -/
structure Sl where
  lo : Nat
  hi : Nat
  v : Value
  xs : List Int

structure OwnI (w : World) (p : Sl) : Prop where
  own : w.ownsRow p.lo 2 1 p.v p.xs.length (p.xs.map (Value.int .i64))
  lt : ∀ g, p.v.ownBlock = some g → g < p.hi
  le : p.hi ≤ w.heap.size

structure Facts (w0 : World) (w : World) (A : List (Option Addr × List Int)) (bs : List (Nat × Obj)) (L : List Sl) : Prop where
  from0 : Below w0.heap.size w0 w
  args : ∀ q ∈ A, SlI w w0.heap.size q.1 q.2
  blocks : ∀ b ∈ bs, w.heap[b.1]? = some b.2
  slices : ∀ p ∈ L, OwnI w p

section
variable {w0 w w' : World} {A : List (Option Addr × List Int)} {bs : List (Nat × Obj)} {L : List Sl}

theorem Facts.ge (h : Facts w0 w A bs L) : w0.heap.size ≤ w.heap.size := h.from0.size

theorem Facts.below (h : Facts w0 w A bs L) (hb : Below w.heap.size w w') : Facts w0 w' A bs L where
  from0 := h.from0.trans (hb.mono h.ge)
  args := fun q hq => (h.args q hq).below (hb.mono h.ge)
  blocks := fun b hbm => (hb.block b.1 (Array.getElem?_eq_some_iff.1 (h.blocks b hbm)).1).trans (h.blocks b hbm)
  slices := fun p hp => ⟨ownsRow_below (h.slices p hp).own hb (fun g hg => Nat.lt_of_lt_of_le ((h.slices p hp).lt g hg) (h.slices p hp).le), (h.slices p hp).lt, Nat.le_trans (h.slices p hp).le hb.size⟩

theorem Facts.drew (h : Facts w0 w A bs L) : Facts w0 w.drew A bs L := h.below (Below.refl _ _).drew

theorem Facts.arg (h : Facts w0 w A bs L) {q : Option Addr × List Int} (hq : q ∈ A) : SlI w w.heap.size q.1 q.2 := (h.args q hq).mono h.ge

/-- A new block. -/
theorem Facts.alloc (h : Facts w0 w A bs L) (o : Obj) : Facts w0 (w.alloc o) A ((w.heap.size, o) :: bs) L where
  from0 := h.from0.alloc h.ge o
  args := fun q hq => (h.args q hq).below ((Below.refl _ w).alloc h.ge _)
  blocks := fun b hb => by
    rcases List.mem_cons.1 hb with rfl | hb
    · exact heap_alloc_new w o
    · exact (Below.heap_alloc w o _ (Array.getElem?_eq_some_iff.1 (h.blocks b hb)).1).trans (h.blocks b hb)
  slices := fun p hp => ⟨(h.slices p hp).own.alloc o, (h.slices p hp).lt, by have := (h.slices p hp).le; simp; omega⟩

/-- A new slice, out of a call. -/
theorem Facts.slice (h : Facts w0 w A bs L) {v : Value} {xs : List Int}
    (hown : w'.ownsRow w.heap.size 2 1 v xs.length (xs.map (Value.int .i64))) (hb : Below w.heap.size w w') : Facts w0 w' A bs (⟨w.heap.size, w'.heap.size, v, xs⟩ :: L) :=
  { h.below hb with
    slices := fun p hp => by
      rcases List.mem_cons.1 hp with rfl | hp
      · exact ⟨hown, fun g hg => (hown.lt g hg).2, Nat.le_refl _⟩
      · exact (h.below hb).slices p hp }

/-- A slice is marked: the others stay. -/
theorem Facts.mark {L' : List Sl} (h : Facts w0 w A bs L) {p : Sl} {ys : List Int} (hp : p ∈ L)
    (hown : w'.ownsRow p.lo 2 1 p.v ys.length (ys.map (Value.int .i64))) (hg : w.grownBy w' p.v.ownBlock)
    (hB : w0.heap.size ≤ p.lo) (hbs : ∀ b ∈ bs, b.1 < p.lo ∨ p.hi ≤ b.1) (hL : ∀ q ∈ L', q = { p with xs := ys } ∨ (q ∈ L ∧ (q.hi ≤ p.lo ∨ p.hi ≤ q.lo))) : Facts w0 w' A bs L' where
  from0 := h.from0.grown hg h.ge (fun k e => Nat.le_trans hB ((h.slices p hp).own.lt k e).1)
  args := fun q hq => (h.args q hq).below ((Below.refl _ w).grown hg h.ge (fun k e => Nat.le_trans hB ((h.slices p hp).own.lt k e).1))
  blocks := fun b hb => (hg.block b.1 (Array.getElem?_eq_some_iff.1 (h.blocks b hb)).1 (fun e => by
    have h1 := ((h.slices p hp).own.lt _ e.symm).1
    have h2 := (h.slices p hp).lt _ e.symm
    rcases hbs b hb with h3 | h3 <;> omega)).trans (h.blocks b hb)
  slices := fun q hq => by
    rcases hL q hq with rfl | ⟨hqm, hap⟩
    · exact ⟨hown, (h.slices p hp).lt, Nat.le_trans (h.slices p hp).le hg.size⟩
    · refine ⟨(h.slices q hqm).own.kept hg ?_, (h.slices q hqm).lt, Nat.le_trans (h.slices q hqm).le hg.size⟩
      cases hv : q.v.ownBlock with
      | none => exact .inl rfl
      | some g =>
        refine .inr (fun e => ?_)
        have h1 := ((h.slices p hp).own.lt _ e.symm).1
        have h2 := (h.slices p hp).lt _ e.symm
        have h3 := ((h.slices q hqm).own.lt _ hv).1
        have h4 := (h.slices q hqm).lt _ hv
        rcases hap with h5 | h5 <;> omega

theorem Facts.slI (h : Facts w0 w A bs L) {lo hi : Nat} {a : Option Addr} {m cap : Nat} {xs : List Int} (hp : (⟨lo, hi, .slice a m cap, xs⟩ : Sl) ∈ L) : SlI w w.heap.size a xs :=
  owned_slI (h.slices _ hp).own

theorem Facts.own (h : Facts w0 w A bs L) {lo hi : Nat} {v : Value} {xs : List Int} (hp : (⟨lo, hi, v, xs⟩ : Sl) ∈ L) : w.ownsRow lo 2 1 v xs.length (xs.map (Value.int .i64)) := (h.slices _ hp).own

theorem Facts.two (h : Facts w0 w A bs L) {b t : Nat} {u v : Value} (hb : (b, Obj.cells #[u, v] t (0, 0)) ∈ bs) : w.cell? ⟨b, 0, none⟩ = some u ∧ w.cell? ⟨b, 1, none⟩ = some v := by
  have := h.blocks _ hb
  constructor <;> simp [World.cell?, this]
end

set_option maxHeartbeats 400000 in
theorem markCx (V : Int) (base : Nat) (a : Option Addr) (cap : Nat) (xs : List Int) (k : Int) (w : World) (hown : w.ownsRow base 2 1 (.slice a xs.length cap) xs.length (xs.map (Value.int .i64))) (hl : xs.length ≤ 1048576) (h0 : 0 ≤ k) (h1 : k ≤ 1099511627776) :
    Calls Try.prog 22 #[.agg #[.int .i64 V, .slice a xs.length cap], .int .i64 k] w fun e w' => e = .returned (.int .i64 (k + xs.length)) ∧
      w'.ownsRow base 2 1 (.slice a xs.length cap) xs.length ((count k xs.length).map (Value.int .i64)) ∧ w.grownBy w' (Value.ownBlock (.slice a xs.length cap)) := by
  have Hown := hid (hown.alloc (.cells #[.int .i64 V, .slice a xs.length cap] 26))
  clear hown
  go_enter Try.func22, Try.ntmps22
  go_wp2_with fail
  refine (markInts base a cap xs k _ Hown.out hl h0 h1).mono ?_
  rintro e w1 ⟨rfl, hown1, hgr⟩
  go_wp2_with fail
  go_ret
  exact ⟨rfl, hown1, (World.grownBy_alloc w _ _).trans hgr⟩

set_option maxHeartbeats 400000 in
theorem heldCx (V : Int) (a : Option Addr) (cap n : Nat) (xs : List Int) (k : Int) (w : World) (hxs : xs = count k n) (hx : SlI w w.heap.size a xs) (hl : n ≤ 1048576) (h0 : 0 ≤ k) (h1 : k ≤ 1099511627776) :
    Calls Try.prog 24 #[.agg #[.int .i64 V, .slice a n cap], .int .i64 k] w fun e w' => e = .returned (.int .i64 (k + n)) ∧ Below w.heap.size w w' := by
  have hB : Below w.heap.size w (w.alloc (.cells #[.int .i64 V, .slice a n cap] 26)) := (Below.refl _ w).alloc (Nat.le_refl _) _
  have Hxs := hid hxs
  have Hx := hid (hx.later hB (by simp))
  clear hxs hx
  go_enter Try.func24, Try.ntmps24
  go_wp2_with fail
  refine (heldInts a cap n xs k _ Hxs.out Hx.out hl h0 h1).mono ?_
  rintro e w1 ⟨rfl, hB1⟩
  go_wp2_with fail
  go_ret
  exact ⟨rfl, hB.trans (hB1.mono (by simp))⟩

end Go.Proofs.Ytbaljngbmokiiaa

/-! What a law keeps of the world, for rows of any type that are read as integers (a list of n pairs: 2 * n integers). -/
namespace Go.Proofs.Ytbaljngbmokiiaa
open Go.RowKit

/-- A row that lies in blocks from lo to hi: n elements of a type and size, read as integers. -/
structure Bk where
  lo : Nat
  hi : Nat
  ty : TypeId
  sz : Nat
  n : Nat
  v : Value
  xs : List Int

structure OwnB (w : World) (p : Bk) : Prop where
  own : w.ownsRow p.lo p.ty p.sz p.v p.n (p.xs.map (Value.int .i64))
  lt : ∀ g, p.v.ownBlock = some g → g < p.hi
  le : p.hi ≤ w.heap.size

/-- What is owned reads as integers. -/
theorem flat_slI {w : World} {base e sz : Nat} {a : Option Addr} {n m cap : Nat} {xs : List Int} (h : w.ownsRow base e sz (.slice a m cap) n (xs.map (Value.int .i64))) : SlI w w.heap.size a xs := by
  have hl := h.1
  rcases h.2 with ⟨hv, hn⟩ | ⟨g, cap', cur, hv, _, hg, _⟩
  · subst hn
    exact .inl (List.eq_nil_of_length_eq_zero (by simpa using hl))
  · cases hv
    refine .inr ⟨g, 0, (Array.getElem?_eq_some_iff.1 hg).1, rfl, fun i hi => ?_⟩
    have := h.cells (g := g) rfl i (.int .i64 (xs[i]?.getD 0)) (by simp [hi])
    have hadd : (⟨g, 0, none⟩ : Addr).add i = ⟨g, i, none⟩ := by unfold Addr.add; split <;> simp_all
    rw [hadd] at this
    simpa using this

structure Book (w0 : World) (w : World) (A : List (Option Addr × List Int)) (bs : List (Nat × Obj)) (L : List Bk) : Prop where
  from0 : Below w0.heap.size w0 w
  args : ∀ q ∈ A, SlI w w0.heap.size q.1 q.2
  blocks : ∀ b ∈ bs, w.heap[b.1]? = some b.2
  rows : ∀ p ∈ L, OwnB w p

section
variable {w0 w w' : World} {A : List (Option Addr × List Int)} {bs : List (Nat × Obj)} {L : List Bk}

theorem Book.ge (h : Book w0 w A bs L) : w0.heap.size ≤ w.heap.size := h.from0.size

theorem Book.below (h : Book w0 w A bs L) (hb : Below w.heap.size w w') : Book w0 w' A bs L where
  from0 := h.from0.trans (hb.mono h.ge)
  args := fun q hq => (h.args q hq).below (hb.mono h.ge)
  blocks := fun b hbm => (hb.block b.1 (Array.getElem?_eq_some_iff.1 (h.blocks b hbm)).1).trans (h.blocks b hbm)
  rows := fun p hp => ⟨ownsRow_below (h.rows p hp).own hb (fun g hg => Nat.lt_of_lt_of_le ((h.rows p hp).lt g hg) (h.rows p hp).le), (h.rows p hp).lt, Nat.le_trans (h.rows p hp).le hb.size⟩

theorem Book.drew (h : Book w0 w A bs L) : Book w0 w.drew A bs L := h.below (Below.refl _ _).drew
theorem Book.drewN (h : Book w0 w A bs L) (n : Nat) : Book w0 (w.drewN n) A bs L := h.below ⟨rfl, rfl, rfl, Nat.le_refl _, fun _ _ => rfl⟩

theorem Book.arg (h : Book w0 w A bs L) {q : Option Addr × List Int} (hq : q ∈ A) : SlI w w.heap.size q.1 q.2 := (h.args q hq).mono h.ge

theorem Book.alloc (h : Book w0 w A bs L) (o : Obj) : Book w0 (w.alloc o) A ((w.heap.size, o) :: bs) L where
  from0 := h.from0.alloc h.ge o
  args := fun q hq => (h.args q hq).below ((Below.refl _ w).alloc h.ge _)
  blocks := fun b hb => by
    rcases List.mem_cons.1 hb with rfl | hb
    · exact heap_alloc_new w o
    · exact (Below.heap_alloc w o _ (Array.getElem?_eq_some_iff.1 (h.blocks b hb)).1).trans (h.blocks b hb)
  rows := fun p hp => ⟨(h.rows p hp).own.alloc o, (h.rows p hp).lt, by have := (h.rows p hp).le; simp; omega⟩

/-- A new row, out of a call. -/
theorem Book.row (h : Book w0 w A bs L) {ty : TypeId} {sz n : Nat} {v : Value} {xs : List Int}
    (hown : w'.ownsRow w.heap.size ty sz v n (xs.map (Value.int .i64))) (hb : Below w.heap.size w w') : Book w0 w' A bs (⟨w.heap.size, w'.heap.size, ty, sz, n, v, xs⟩ :: L) :=
  { h.below hb with
    rows := fun p hp => by
      rcases List.mem_cons.1 hp with rfl | hp
      · exact ⟨hown, fun g hg => (hown.lt g hg).2, Nat.le_refl _⟩
      · exact (h.below hb).rows p hp }

/-- A row is marked: the others stay. -/
theorem Book.mark {L' : List Bk} (h : Book w0 w A bs L) {p : Bk} {ys : List Int} (hp : p ∈ L)
    (hown : w'.ownsRow p.lo p.ty p.sz p.v p.n (ys.map (Value.int .i64))) (hg : w.grownBy w' p.v.ownBlock)
    (hB : w0.heap.size ≤ p.lo) (hbs : ∀ b ∈ bs, b.1 < p.lo ∨ p.hi ≤ b.1) (hL : ∀ q ∈ L', q = { p with xs := ys } ∨ (q ∈ L ∧ (q.hi ≤ p.lo ∨ p.hi ≤ q.lo))) : Book w0 w' A bs L' where
  from0 := h.from0.grown hg h.ge (fun k e => Nat.le_trans hB ((h.rows p hp).own.lt k e).1)
  args := fun q hq => (h.args q hq).below ((Below.refl _ w).grown hg h.ge (fun k e => Nat.le_trans hB ((h.rows p hp).own.lt k e).1))
  blocks := fun b hb => (hg.block b.1 (Array.getElem?_eq_some_iff.1 (h.blocks b hb)).1 (fun e => by
    have h1 := ((h.rows p hp).own.lt _ e.symm).1
    have h2 := (h.rows p hp).lt _ e.symm
    rcases hbs b hb with h3 | h3 <;> omega)).trans (h.blocks b hb)
  rows := fun q hq => by
    rcases hL q hq with rfl | ⟨hqm, hap⟩
    · exact ⟨hown, (h.rows p hp).lt, Nat.le_trans (h.rows p hp).le hg.size⟩
    · refine ⟨(h.rows q hqm).own.kept hg ?_, (h.rows q hqm).lt, Nat.le_trans (h.rows q hqm).le hg.size⟩
      cases hv : q.v.ownBlock with
      | none => exact .inl rfl
      | some g =>
        refine .inr (fun e => ?_)
        have h1 := ((h.rows p hp).own.lt _ e.symm).1
        have h2 := (h.rows p hp).lt _ e.symm
        have h3 := ((h.rows q hqm).own.lt _ hv).1
        have h4 := (h.rows q hqm).lt _ hv
        rcases hap with h5 | h5 <;> omega

/-- Some of it. -/
theorem Book.only {bs' : List (Nat × Obj)} {L' : List Bk} (h : Book w0 w A bs L) (hb : ∀ b ∈ bs', b ∈ bs) (hL : ∀ p ∈ L', p ∈ L) : Book w0 w A bs' L' :=
  ⟨h.from0, h.args, fun b hbm => h.blocks b (hb b hbm), fun p hp => h.rows p (hL p hp)⟩

/-- A block of another type is written. -/
theorem Book.set2 {b t : Nat} {x y u v : Value} (h : Book w0 w A ((b, .cells #[x, y] t (0, 0)) :: bs) L) (hw : w0.heap.size ≤ b) (hb : ∀ q ∈ bs, q.1 ≠ b) (hty : ∀ p ∈ L, p.ty ≠ t) :
    Book w0 ((w.setCell ⟨b, 0, none⟩ u).setCell ⟨b, 1, none⟩ v) A ((b, .cells #[u, v] t (0, 0)) :: bs) L where
  from0 := (h.from0.setCell (p := ⟨b, 0, none⟩) hw _).setCell (p := ⟨b, 1, none⟩) hw _
  args := fun q hq => (h.args q hq).below (((Below.refl _ w).setCell (p := ⟨b, 0, none⟩) hw _).setCell (p := ⟨b, 1, none⟩) hw _)
  blocks := fun q hq => by
    rcases List.mem_cons.1 hq with rfl | hq
    · have hbk := h.blocks _ (List.mem_cons_self ..)
      simp only at hbk
      simp only [World.setCell, Array.getElem?_modify, hbk]
      simp
    · exact (Below.heap_setCell _ _ _ _ (hb q hq)).trans ((Below.heap_setCell _ _ _ _ (hb q hq)).trans (h.blocks q (List.mem_cons_of_mem _ hq)))
  rows := fun p hp => by
    have hbk := h.blocks _ (List.mem_cons_self ..)
    have hn : p.v.ownBlock ≠ some b := by
      intro e
      have ho := (h.rows p hp).own
      rcases ho.2 with ⟨hv, _⟩ | ⟨g, cap, cur, hv, _, hg, _⟩
      · rw [hv] at e; simp [Value.ownBlock] at e
      · rw [hv] at e
        simp [Value.ownBlock] at e
        subst e
        rw [hg] at hbk
        simp at hbk
        exact hty p hp hbk.2
    exact ⟨ownsRow_set (ownsRow_set (h.rows p hp).own hn _) hn _, (h.rows p hp).lt, by have := (h.rows p hp).le; simpa [World.setCell] using this⟩

theorem Book.slI (h : Book w0 w A bs L) {lo hi : Nat} {ty : TypeId} {sz n : Nat} {a : Option Addr} {m cap : Nat} {xs : List Int} (hp : (⟨lo, hi, ty, sz, n, .slice a m cap, xs⟩ : Bk) ∈ L) : SlI w w.heap.size a xs :=
  flat_slI (h.rows _ hp).own

theorem Book.own (h : Book w0 w A bs L) {lo hi : Nat} {ty : TypeId} {sz n : Nat} {v : Value} {xs : List Int} (hp : (⟨lo, hi, ty, sz, n, v, xs⟩ : Bk) ∈ L) : w.ownsRow lo ty sz v n (xs.map (Value.int .i64)) := (h.rows _ hp).own

theorem Book.two (h : Book w0 w A bs L) {b t : Nat} {u v : Value} (hb : (b, Obj.cells #[u, v] t (0, 0)) ∈ bs) : w.cell? ⟨b, 0, none⟩ = some u ∧ w.cell? ⟨b, 1, none⟩ = some v := by
  have := h.blocks _ hb
  constructor <;> simp [World.cell?, this]

end

end Go.Proofs.Ytbaljngbmokiiaa

/-! Contracts of the model's functions of layer 1: has, is. -/
namespace Go.Proofs.Ytbaljngbmokiiaa
open Go.RowKit

set_option maxHeartbeats 400000 in
theorem has_any (V f : Int) (a : Option Addr) (cap : Nat) (xs : List Int) (w : World) (hx : SlI w w.heap.size a xs) (hl : xs.length ≤ 1048576) :
    Calls Try.prog 120 #[.agg #[.int .i64 V, .slice a xs.length cap], .int .i64 f] w fun e w' => e = .returned (.bool (decide (f ∈ xs))) ∧ Below w.heap.size w w' := by
  have hB : ∀ x, Below w.heap.size w (w.alloc x) := fun x => (Below.refl _ w).alloc (Nat.le_refl _) _
  rcases hx with rfl | ⟨b, off, hb, rfl, hc⟩
  · go_enter Try.func120, Try.ntmps120
    go_wp2
    refine wp_loop_rounds 1 ?_; rw [rounds_succ]
    go_wp2
    go_ret
    exact ⟨ret_bool (by simp), hB _⟩
  · have hne : b ≠ w.heap.size := by omega
    go_enter Try.func120, Try.ntmps120
    go_wp2
    go_loop [5] (fun i => ∃ k : Nat, k ≤ xs.length ∧ i = .int .i64 k ∧ ∀ j, j < k → xs[j]?.getD 0 ≠ f) (fun i => xs.length - (intOf i).toNat)
    case atStart => exact ⟨0, Nat.zero_le _, rfl, by omega⟩
    case round =>
      obtain ⟨k, hk, rfl, hno⟩ := hrel
      have Hno := hid hno
      clear hno
      by_cases hlt : k < xs.length
      · have hck := hc k hlt
        have Hc := hid hc
        clear hc
        have hm := getD_mem hlt
        go_wp2
        · go_ret
          refine ⟨ret_bool ?_, hB _⟩
          have e : (xs[k] == f) = true := by assumption
          rw [List.getElem?_eq_getElem hlt] at hm
          have e' := eq_of_beq e
          rw [← e']; symm; exact decide_eq_true (by simp)
        · go_round
          case rel =>
            have e : (xs[k] == f) = false := by assumption
            refine ⟨k + 1, by omega, by go_num, fun j hj => ?_⟩
            by_cases hjk : j = k
            · subst hjk; rw [List.getElem?_eq_getElem hlt]; simpa using e
            · exact Hno.out j (by omega)
          case measure => simp [intOf]; omega
      · go_wp2
        go_ret
        refine ⟨ret_bool ?_, hB _⟩
        symm
        refine decide_eq_false (fun hm => ?_)
        obtain ⟨j, hj, e⟩ := mem_getD hm
        exact Hno.out j (by omega) e

set_option maxHeartbeats 400000 in
theorem in_any (n lo hi : Int) (w : World) :
    Calls Try.prog 82 #[.int .i64 n, .int .i64 lo, .int .i64 hi] w fun e w' => e = .returned (.bool (decide (lo ≤ n) && decide (n ≤ hi))) ∧ w = w' := by
  go_enter Try.func82, Try.ntmps82
  go_wp2
  · have h : lo ≤ n := by assumption
    go_ret
    exact ⟨ret_bool (by simp [h]), rfl⟩
  · have h : n < lo := by assumption
    go_ret
    exact ⟨ret_bool (by rw [decide_eq_false (show ¬ lo ≤ n by omega)]; rfl), rfl⟩

set_option maxHeartbeats 400000 in
theorem all_any (V : Int) (w : World) (h1 : 0 ≤ V) (h2 : V ≤ 6) :
    Calls Try.prog 119 #[.int .i64 V] w fun e w' => e = .returned (.int .i64 (allV V)) ∧ w = w' := by
  go_enter Try.func119, Try.ntmps119
  go_wp2
  go_ret
  exact ⟨ret_int (all_wrap h1 h2), rfl⟩

set_option maxHeartbeats 400000 in
theorem below_any (f : Nat) (w : World) (h2 : f < 64) :
    Calls Try.prog 104 #[.int .i64 f] w fun e w' => ∃ v, e = .returned v ∧ w'.ownsRow w.heap.size 2 1 v (belowR f 63).length ((belowR f 63).map (Value.int .i64)) ∧ Below w.heap.size w w' := by
  go_enter Try.func104, Try.ntmps104
  go_wp2
  go_loopw [3, 4] (fun v i wr => ∃ m : Nat, m ≤ 63 ∧ i = .int .i64 (62 - m) ∧ wr.ownsRow w.heap.size 2 1 v (belowR f m).length ((belowR f m).map (Value.int .i64)) ∧ Below w.heap.size w wr) (fun _ i _ => (1 + intOf i).toNat)
  case atStart =>
    exact ⟨0, by omega, by simp, World.ownsRow_made w #[] 0 (Nat.le_refl _) (by simp [maxLen]) rfl, (Below.refl _ w).alloc (Nat.le_refl _) _⟩
  case round =>
    obtain ⟨m, hm, rfl, hown, hB⟩ := hrel
    by_cases hlt : m < 63
    · have hz : (0 : Int) ≤ 62 - m := by omega
      have hlen := belowR_len f m
      have hbit := bit_one (v := 62 - m) h2
      have hne := ne_wrap (f := f) (v := 62 - m) (by omega)
      have hsub := sub_wrap (v := 62 - m) h2 (by omega)
      have Hd : Hid (∀ b, (bitN f (62 - m) && f != 2 ^ (62 - m)) = b → belowR f (m + 1) = belowR f m ++ (if b then [(f : Int) - 2 ^ (62 - m)] else [])) := by
        intro b hb; rw [belowR, hb]
      have Hs := hid hsub
      clear hsub
      have hsz := hB.size
      by_cases hb : bitN f (62 - m) = true
      · rw [if_pos hb] at hbit
        by_cases hq : (f != 2 ^ (62 - m)) = true
        · rw [hq] at hne
          have hd := Hd.out true (by rw [hb, hq]; rfl)
          have HD := hid hd
          clear hd Hd hq hb
          go_wp2_with (first
            | (at_builtin; refine append_int rfl rfl hown hsz (by omega) rfl rfl ?_; intro v' w1 hown1 hgrow1 hB1))
          go_roundw
          case rel =>
            refine ⟨m + 1, by omega, by go_num, ?_, ?_⟩
            · rw [HD.out]
              rw [Hs.out] at hown1
              exact hown1
            · exact hB.trans hB1
          case measure => simp [intOf]; omega
        · have hq' : (f != 2 ^ (62 - m)) = false := by simpa using hq
          rw [hq'] at hne
          have HD := hid (Hd.out false (by rw [hb, hq']; rfl))
          clear Hd hq hq' hb
          go_wp2_with fail
          go_roundw
          case rel =>
            refine ⟨m + 1, by omega, by go_num, ?_, hB⟩
            rw [HD.out]; simpa using hown
          case measure => simp [intOf]; omega
      · rw [if_neg hb] at hbit
        have HD := hid (Hd.out false (by simp [hb]))
        clear Hd hb hne
        go_wp2_with fail
        go_roundw
        case rel =>
          refine ⟨m + 1, by omega, by go_num, ?_, hB⟩
          rw [HD.out]; simpa using hown
        case measure => simp [intOf]; omega
    · obtain rfl : m = 63 := by omega
      go_wp2
      go_ret
      exact ⟨_, rfl, hown, hB⟩

set_option maxHeartbeats 400000 in
theorem in_yes (n lo hi : Int) (w : World) (h1 : lo ≤ n) (h2 : n ≤ hi) :
    Calls Try.prog 82 #[.int .i64 n, .int .i64 lo, .int .i64 hi] w fun e w' => e = .returned (.bool true) ∧ w = w' :=
  (in_any n lo hi w).mono fun _ _ ⟨he, hw⟩ => ⟨by rw [he]; simp [h1, h2], hw⟩

theorem in_no (n lo hi : Int) (w : World) (h : ¬ (lo ≤ n ∧ n ≤ hi)) :
    Calls Try.prog 82 #[.int .i64 n, .int .i64 lo, .int .i64 hi] w fun e w' => e = .returned (.bool false) ∧ w = w' :=
  (in_any n lo hi w).mono fun _ _ ⟨he, hw⟩ => ⟨by rw [he]; simp at h; by_cases hx : lo ≤ n
                                                  · rw [decide_eq_false (show ¬ n ≤ hi by have := h hx; omega)]; simp
                                                  · rw [decide_eq_false hx]; simp, hw⟩

theorem has_yes (V f : Int) (a : Option Addr) (cap : Nat) (xs : List Int) (w : World) (hx : SlI w w.heap.size a xs) (hl : xs.length ≤ 1048576) (h : f ∈ xs) :
    Calls Try.prog 120 #[.agg #[.int .i64 V, .slice a xs.length cap], .int .i64 f] w fun e w' => e = .returned (.bool true) ∧ Below w.heap.size w w' :=
  (has_any V f a cap xs w hx hl).mono fun _ _ ⟨he, hw⟩ => ⟨by rw [he, decide_eq_true h], hw⟩

theorem has_no (V f : Int) (a : Option Addr) (cap : Nat) (xs : List Int) (w : World) (hx : SlI w w.heap.size a xs) (hl : xs.length ≤ 1048576) (h : f ∉ xs) :
    Calls Try.prog 120 #[.agg #[.int .i64 V, .slice a xs.length cap], .int .i64 f] w fun e w' => e = .returned (.bool false) ∧ Below w.heap.size w w' :=
  (has_any V f a cap xs w hx hl).mono fun _ _ ⟨he, hw⟩ => ⟨by rw [he, decide_eq_false h], hw⟩

end Go.Proofs.Ytbaljngbmokiiaa

/-! The model's test whether something is a complex. -/
namespace Go.Proofs.Ytbaljngbmokiiaa
open Go.RowKit

theorem below_int (x : Int) (w : World) (h0 : 0 ≤ x) (h1 : x < 64) :
    Calls Try.prog 104 #[.int .i64 x] w fun e w' => ∃ v, e = .returned v ∧ w'.ownsRow w.heap.size 2 1 v (belowR x.toNat 63).length ((belowR x.toNat 63).map (Value.int .i64)) ∧ Below w.heap.size w w' := by
  have := below_any x.toNat w (by omega)
  rwa [Int.toNat_of_nonneg h0] at this

theorem below_as (x : Int) (ys : List Int) (w : World) (h0 : 0 ≤ x) (h1 : x < 64) (hys : ys = belowR x.toNat 63) :
    Calls Try.prog 104 #[.int .i64 x] w fun e w' => ∃ a cap, e = .returned (.slice a ys.length cap) ∧ SlI w' w'.heap.size a ys ∧ Below w.heap.size w w' := by
  have h := below_int x w h0 h1
  rw [← hys] at h
  refine h.mono ?_
  rintro e w' ⟨v, rfl, hown, hb⟩
  obtain ⟨_, a, cap, rfl, hs⟩ := ownsRow_slI hown
  exact ⟨a, cap, rfl, hs, hb⟩

theorem is_no_range (V : Int) (a : Option Addr) (cap : Nat) (fs : List Int) (w : World) (h : ¬ (1 ≤ V ∧ V ≤ 6)) :
    Calls Try.prog 58 #[.agg #[.int .i64 V, .slice a fs.length cap]] w fun e w' => e = .returned (.bool false) ∧ Below w.heap.size w w' := by
  go_enter Try.func58, Try.ntmps58
  go_wp2_with (go_at_call 82; refine (in_no _ _ _ _ h).mono ?_; rintro e w' ⟨rfl, rfl⟩)
  go_ret
  exact ⟨rfl, (Below.refl _ w).alloc (Nat.le_refl _) _⟩

set_option maxHeartbeats 1000000 in
theorem is_any (V : Int) (b off : Nat) (cap : Nat) (fs : List Int) (w : World) (h1 : 1 ≤ V) (h2 : V ≤ 6) (hb : b < w.heap.size)
    (hc : ∀ i, i < fs.length → w.cell? ⟨b, off + i, none⟩ = some (.int .i64 (fs[i]?.getD 0))) (hl : fs.length ≤ 1048576) :
    Calls Try.prog 58 #[.agg #[.int .i64 V, .slice (some ⟨b, off, none⟩) fs.length cap]] w fun e w' => e = .returned (.bool (isCB V fs)) ∧ Below w.heap.size w w' := by
  have hV0 : 0 ≤ V := by omega
  have hW1 : Below w.heap.size w (w.alloc (.cells #[.int .i64 V, .slice (some ⟨b, off, none⟩) fs.length cap] 26)) := (Below.refl _ w).alloc (Nat.le_refl _) _
  go_enter Try.func58, Try.ntmps58
  go_wp2_with (go_at_call 82; refine (in_yes _ _ _ _ h1 h2).mono ?_; rintro e w' ⟨rfl, rfl⟩)
  go_loopw [3] (fun i wr => ∃ k : Nat, k ≤ fs.length ∧ i = .int .i64 k ∧ Hid (∀ j, j < k → (1 ≤ fs[j]?.getD 0 ∧ fs[j]?.getD 0 ≤ allV V) ∧ (0 < j → fs[j - 1]?.getD 0 < fs[j]?.getD 0)) ∧
      Below (w.heap.size + 1) (w.alloc (.cells #[.int .i64 V, .slice (some ⟨b, off, none⟩) fs.length cap] 26)) wr) (fun i _ => fs.length - (intOf i).toNat)
  case atStart => exact ⟨0, Nat.zero_le _, rfl, hid (by omega), Below.refl _ _⟩
  case round =>
    obtain ⟨k, hk, rfl, Hl, hB⟩ := hrel
    have c0 : wr.cell? ⟨w.heap.size, 0, none⟩ = some (.int .i64 V) := (hB.cell (p := ⟨w.heap.size, 0, none⟩) (by simp)).trans (by simp [go_sem])
    have c1 : wr.cell? ⟨w.heap.size, 1, none⟩ = some (.slice (some ⟨b, off, none⟩) fs.length cap) := (hB.cell (p := ⟨w.heap.size, 1, none⟩) (by simp)).trans (by simp [go_sem])
    by_cases hlt : k < fs.length
    · have hck : wr.cell? ⟨b, off + k, none⟩ = some (.int .i64 (fs[k]?.getD 0)) := (hB.cell (p := ⟨b, off + k, none⟩) (by simp; omega)).trans ((hW1.cell (p := ⟨b, off + k, none⟩) hb).trans (hc k hlt))
      obtain ⟨x, hx⟩ : ∃ x, x = fs[k]?.getD 0 := ⟨_, rfl⟩
      rw [← hx] at hck
      have Hx := hid hx
      clear hx
      have hi0 : (0 : Int) ≤ (k : Int) := by omega
      have hi1 : (k : Int) < (fs.length : Int) := by omega
      by_cases hr : 1 ≤ x ∧ x ≤ allV V
      · by_cases hk0 : 0 < k
        rotate_left
        · have hd : decide (0 < k) = false := decide_eq_false hk0
          have Hk := hid hk0
          clear hk0
          go_wp2_with fail
          go_quiet (first
            | (go_at_call 119; exact quiet_of_eq (all_any _ _ hV0 h2))
            | (go_at_call 82; exact quiet_of_eq (in_yes _ _ _ _ hr.1 hr.2)))
          go_wp2_with fail
          go_roundw
          case rel =>
            have hk0 := Hk.out
            have hx := Hx.out
            exact ⟨k + 1, by omega, by go_num, fun j hj => (by by_cases hjk : j < k
                                                               · exact Hl.out j hjk
                                                               · obtain rfl : j = k := by omega
                                                                 exact ⟨hx ▸ hr, fun h => absurd h hk0⟩), hB.trans ⟨rfl, rfl, rfl, Nat.le_refl _, fun _ _ => rfl⟩⟩
          case measure => simp [intOf]; omega
        · have hd : decide (0 < k) = true := decide_eq_true hk0
          obtain ⟨y, hy⟩ : ∃ y, y = fs[k - 1]?.getD 0 := ⟨_, rfl⟩
          have hck1 : wr.cell? ⟨b, off + (k - 1), none⟩ = some (.int .i64 y) := by rw [hy]; exact (hB.cell (p := ⟨b, off + (k - 1), none⟩) (by simp; omega)).trans ((hW1.cell (p := ⟨b, off + (k - 1), none⟩) hb).trans (hc (k - 1) (by omega)))
          have Hy := hid hy
          clear hy
          have hi2 : (0 : Int) ≤ (k : Int) - 1 := by omega
          have hi3 : (k : Int) - 1 < (fs.length : Int) := by omega
          by_cases hxy : x ≤ y
          · have hxd : decide (x ≤ y) = true := decide_eq_true hxy
            go_wp2_with fail
            go_quiet (first
              | (go_at_call 119; exact quiet_of_eq (all_any _ _ hV0 h2))
              | (go_at_call 82; exact quiet_of_eq (in_yes _ _ _ _ hr.1 hr.2)))
            go_wp2_with fail
            go_ret
            refine ⟨ret_bool ?_, ?_⟩
            · symm
              refine isCB_false (fun h => ?_)
              have := isC_looks_asc h hk0 hlt
              have hx := Hx.out
              have hy := Hy.out
              omega
            · exact (hW1.trans (hB.mono (by simp))).trans ⟨rfl, rfl, rfl, Nat.le_refl _, fun _ _ => rfl⟩
          · have hxd : decide (x ≤ y) = false := decide_eq_false hxy
            go_wp2_with fail
            go_quiet (first
              | (go_at_call 119; exact quiet_of_eq (all_any _ _ hV0 h2))
              | (go_at_call 82; exact quiet_of_eq (in_yes _ _ _ _ hr.1 hr.2)))
            go_wp2_with fail
            go_roundw
            case rel =>
              have hx := Hx.out
              have hy := Hy.out
              exact ⟨k + 1, by omega, by go_num, fun j hj => (by by_cases hjk : j < k
                                                                 · exact Hl.out j hjk
                                                                 · obtain rfl : j = k := by omega
                                                                   exact ⟨hx ▸ hr, fun _ => by omega⟩), hB.trans ⟨rfl, rfl, rfl, Nat.le_refl _, fun _ _ => rfl⟩⟩
            case measure => simp [intOf]; omega
      · go_wp2_with fail
        go_quiet (first
          | (go_at_call 119; exact quiet_of_eq (all_any _ _ hV0 h2))
          | (go_at_call 82; exact quiet_of_eq (in_no _ _ _ _ hr)))
        go_wp2_with fail
        go_ret
        refine ⟨ret_bool ?_, ?_⟩
        · symm
          refine isCB_false (fun h => hr ?_)
          have hx := Hx.out
          rw [hx]
          exact isC_looks_range h hlt
        · exact (hW1.trans (hB.mono (by simp))).trans ⟨rfl, rfl, rfl, Nat.le_refl _, fun _ _ => rfl⟩
    · go_wp2_with fail
      obtain rfl : k = fs.length := by omega
      have hall := Hl.out
      have Hall := hid hall
      clear hall Hl c0 c1
      have hsz0 := hB.size
      simp only [World.size_alloc] at hsz0
      obtain ⟨wo, rfl⟩ : ∃ wo : World, wo = wr := ⟨_, rfl⟩
      go_loopw [4] (fun i wr => ∃ k : Nat, k ≤ fs.length ∧ i = .int .i64 k ∧ Hid (∀ j, j < k → ∀ y ∈ belowR (fs[j]?.getD 0).toNat 63, y ∈ fs) ∧
          Below (w.heap.size + 1) wo wr) (fun i _ => fs.length - (intOf i).toNat)
      case atStart => exact ⟨0, Nat.zero_le _, rfl, hid (by omega), Below.refl _ _⟩
      case round =>
        obtain ⟨k, hk, rfl, Hl, hB2⟩ := hrel
        have hBB := hB.trans hB2
        have c0 : wr.cell? ⟨w.heap.size, 0, none⟩ = some (.int .i64 V) := (hBB.cell (p := ⟨w.heap.size, 0, none⟩) (by simp)).trans (by simp [go_sem])
        have c1 : wr.cell? ⟨w.heap.size, 1, none⟩ = some (.slice (some ⟨b, off, none⟩) fs.length cap) := (hBB.cell (p := ⟨w.heap.size, 1, none⟩) (by simp)).trans (by simp [go_sem])
        have hBW : Below w.heap.size w wr := hW1.trans (hBB.mono (by simp))
        have hsz2 := hB2.size
        by_cases hlt2 : k < fs.length
        · have hck : wr.cell? ⟨b, off + k, none⟩ = some (.int .i64 (fs[k]?.getD 0)) := (hBW.cell (p := ⟨b, off + k, none⟩) hb).trans (hc k hlt2)
          obtain ⟨x, hx⟩ : ∃ x, x = fs[k]?.getD 0 := ⟨_, rfl⟩
          have hr := (Hall.out k hlt2).1
          have h63 := allV_le h2
          rw [← hx] at hck hr
          have hx0 : 0 ≤ x := by omega
          have hx1 : x < 64 := by omega
          have Hx := hid hx
          clear hx hr h63
          have hi0 : (0 : Int) ≤ (k : Int) := by omega
          have hi1 : (k : Int) < (fs.length : Int) := by omega
          obtain ⟨ys, hys⟩ : ∃ ys, ys = belowR x.toNat 63 := ⟨_, rfl⟩
          have hyl : ys.length ≤ 63 := by rw [hys]; exact belowR_len _ _
          have Hys := hid hys
          clear hys
          have h0w := hBW.size
          go_wp2_with (go_at_call 104; refine (below_as x ys _ hx0 hx1 Hys.out).mono ?_; rintro e w2 ⟨a2, cap2, rfl, hsl, hb2⟩)
          have hB3 := hBB.trans (hb2.mono (by omega))
          have hb2s := hb2.size
          clear c0 c1 hck
          have c0 : w2.cell? ⟨w.heap.size, 0, none⟩ = some (.int .i64 V) := (hB3.cell (p := ⟨w.heap.size, 0, none⟩) (by simp)).trans (by simp [go_sem])
          have c1 : w2.cell? ⟨w.heap.size, 1, none⟩ = some (.slice (some ⟨b, off, none⟩) fs.length cap) := (hB3.cell (p := ⟨w.heap.size, 1, none⟩) (by simp)).trans (by simp [go_sem])
          have hfs : ∀ wz, Below w2.heap.size w2 wz → SlI wz wz.heap.size (some ⟨b, off, none⟩) fs := fun wz hz => by
            have hz0 := hz.size
            exact .inr ⟨b, off, by omega, rfl, fun i hi => ((hW1.trans ((hB3.trans (hz.mono (by omega))).mono (by simp))).cell (p := ⟨b, off + i, none⟩) hb).trans (hc i hi)⟩
          have Hfs := hid hfs
          clear hfs
          have hend : ∀ wz, Below w2.heap.size w2 wz → Below w.heap.size w wz := fun wz hz => (hW1.trans ((hB3.trans (hz.mono (by omega))).mono (by simp)))
          have Hend := hid hend
          have hrnd : ∀ wz, Below w2.heap.size w2 wz → Below (w.heap.size + 1) wo wz := fun wz hz => hB2.trans ((hb2.mono (by omega)).trans (hz.mono (by omega)))
          have Hrnd := hid hrnd
          have Hc := hid hc
          clear hend hrnd hB hB2 hBB hBW hB3 hb2 hc hW1
          rcases hsl with rfl | ⟨b2, off2, hb2, rfl, hc2⟩
          · refine wp_loop_rounds 1 ?_; rw [rounds_succ]
            go_wp2
            go_roundw
            case rel =>
              refine ⟨k + 1, by omega, by go_num, hid (fun j hj => ?_), Hrnd.out _ (Below.refl _ _)⟩
              by_cases hjk : j < k
              · exact Hl.out j hjk
              · obtain rfl : j = k := by omega
                rw [← Hx.out, ← Hys.out]; simp
            case measure => simp [intOf]; omega
          · obtain ⟨wq, rfl⟩ : ∃ wq : World, wq = w2 := ⟨_, rfl⟩
            obtain ⟨wp, rfl⟩ : ∃ wp : World, wp = wr := ⟨_, rfl⟩
            have Hc2 := hid hc2
            clear hc2
            go_loopw [6] (fun i wr => ∃ m : Nat, m ≤ ys.length ∧ i = .int .i64 m ∧ Hid (∀ j, j < m → ys[j]?.getD 0 ∈ fs) ∧
              Below wq.heap.size wq wr) (fun i _ => ys.length - (intOf i).toNat)
            case atStart => exact ⟨0, Nat.zero_le _, rfl, hid (by omega), Below.refl _ _⟩
            case round =>
              obtain ⟨m, hm, rfl, Hm, hB5⟩ := hrel
              have Hend5 := hid (Hend.out _ hB5)
              have Hrnd5 := hid (Hrnd.out _ hB5)
              have d0 := (hB5.cell (p := ⟨w.heap.size, 0, none⟩) (by simp; omega)).trans c0
              have d1 := (hB5.cell (p := ⟨w.heap.size, 1, none⟩) (by simp; omega)).trans c1
              by_cases hlt3 : m < ys.length
              · obtain ⟨y, hy⟩ : ∃ y, y = ys[m]?.getD 0 := ⟨_, rfl⟩
                have hcm : wr.cell? ⟨b2, off2 + m, none⟩ = some (.int .i64 y) := by rw [hy]; exact (hB5.cell (p := ⟨b2, off2 + m, none⟩) hb2).trans (Hc2.out m hlt3)
                have Hy := hid hy
                clear hy
                have hj0 : (0 : Int) ≤ (m : Int) := by omega
                have hj1 : (m : Int) < (ys.length : Int) := by omega
                have hsl5 : SlI wr wr.heap.size (some ⟨b, off, none⟩) fs := Hfs.out _ hB5
                have hsl5' : SlI wr.drew wr.drew.heap.size (some ⟨b, off, none⟩) fs := hsl5
                have Hs5 := hid hsl5'
                clear hsl5 hsl5'
                by_cases hyf : y ∈ fs
                · go_wp2_with fail
                  go_region_with (go_at_call 120; refine (has_yes V y _ cap fs _ Hs5.out hl hyf).mono ?_; rintro e w6 ⟨rfl, hb6⟩)
                  all_goals go_wp2_with fail
                  all_goals
                    have hy := Hy.out
                    have hB6 : Below wq.heap.size wq w6 := hB5.trans (Below.mono (w := wr) ⟨hb6.os, hb6.tape, hb6.output, hb6.size, hb6.block⟩ hB5.size)
                    go_roundw
                    case rel =>
                      refine ⟨m + 1, by omega, by go_num, hid (fun j hj => ?_), hB6⟩
                      by_cases hjm : j < m
                      · exact Hm.out j hjm
                      · obtain rfl : j = m := by omega
                        rw [← hy]; exact hyf
                    case measure => simp [intOf]; omega
                · go_wp2_with fail
                  go_region_with (go_at_call 120; refine (has_no V y _ cap fs _ Hs5.out hl hyf).mono ?_; rintro e w6 ⟨rfl, hb6⟩)
                  all_goals go_wp2_with fail
                  all_goals
                    have hy := Hy.out
                    have hB6 : Below wq.heap.size wq w6 := hB5.trans (Below.mono (w := wr) ⟨hb6.os, hb6.tape, hb6.output, hb6.size, hb6.block⟩ hB5.size)
                    go_ret
                    refine ⟨ret_bool ?_, Hend.out _ hB6⟩
                    symm
                    refine isCB_false (fun h => hyf ?_)
                    refine isC_looks_below h hlt2 ?_
                    rw [← Hx.out, ← Hys.out, hy]
                    exact getD_mem hlt3
              · go_wp2_with fail
                go_roundw
                case rel =>
                  refine ⟨k + 1, by omega, by go_num, hid (fun j hj => ?_), Hrnd5.out⟩
                  by_cases hjk : j < k
                  · exact Hl.out j hjk
                  · obtain rfl : j = k := by omega
                    rw [← Hx.out, ← Hys.out]
                    intro z hz
                    obtain ⟨i, hi, e⟩ := mem_getD hz
                    rw [← e]
                    exact Hm.out i (by omega)
                case measure => simp [intOf]; omega
        · go_wp2
          go_ret
          refine ⟨ret_bool ?_, hBW⟩
          symm
          refine isCB_true (isC_of_looks h1 h2 (fun j hj => (Hall.out j hj).1) (fun j h0 hj => (Hall.out j hj).2 h0) (fun j hj => Hl.out j (by omega)))
end Go.Proofs.Ytbaljngbmokiiaa

/-! The model's test whether something is a complex, at whatever comes in. -/
namespace Go.Proofs.Ytbaljngbmokiiaa
open Go.RowKit

set_option maxHeartbeats 400000 in
theorem is_nil (V : Int) (a : Option Addr) (cap : Nat) (w : World) (h1 : 1 ≤ V) (h2 : V ≤ 6) :
    Calls Try.prog 58 #[.agg #[.int .i64 V, .slice a 0 cap]] w fun e w' => e = .returned (.bool true) ∧ Below w.heap.size w w' := by
  go_enter Try.func58, Try.ntmps58
  go_wp2_with (go_at_call 82; refine (in_yes _ _ _ _ h1 h2).mono ?_; rintro e w' ⟨rfl, rfl⟩)
  refine wp_loop_rounds 1 ?_; rw [rounds_succ]
  go_wp2
  refine wp_loop_rounds 1 ?_; rw [rounds_succ]
  go_wp2
  go_ret
  exact ⟨rfl, (Below.refl _ w).alloc (Nat.le_refl _) _⟩

/-- l01Is, whatever comes in. -/
theorem is_all (V : Int) (a : Option Addr) (cap : Nat) (fs : List Int) (w : World) (hx : SlI w w.heap.size a fs) (hl : fs.length ≤ 1048576) :
    Calls Try.prog 58 #[.agg #[.int .i64 V, .slice a fs.length cap]] w fun e w' => e = .returned (.bool (isCB V fs)) ∧ Below w.heap.size w w' := by
  by_cases hV : 1 ≤ V ∧ V ≤ 6
  · rcases hx with rfl | ⟨b, off, hb, rfl, hc⟩
    · exact (is_nil V a cap w hV.1 hV.2).mono fun _ _ ⟨he, hw⟩ => ⟨by rw [he, isCB_true (isC_nil hV.1 hV.2)], hw⟩
    · exact is_any V b off cap fs w hV.1 hV.2 hb hc hl
  · exact (is_no_range V a cap fs w hV).mono fun _ _ ⟨he, hw⟩ => ⟨by rw [he, isCB_false (fun h => hV ⟨h.lo, h.hi⟩)], hw⟩

theorem is_yes (V : Int) (a : Option Addr) (cap : Nat) (fs : List Int) (w : World) (hx : SlI w w.heap.size a fs) (hl : fs.length ≤ 1048576) (h : IsC V fs) :
    Calls Try.prog 58 #[.agg #[.int .i64 V, .slice a fs.length cap]] w fun e w' => e = .returned (.bool true) ∧ Below w.heap.size w w' :=
  (is_all V a cap fs w hx hl).mono fun _ _ ⟨he, hw⟩ => ⟨by rw [he, isCB_true h], hw⟩

theorem is_no (V : Int) (a : Option Addr) (cap : Nat) (fs : List Int) (w : World) (hx : SlI w w.heap.size a fs) (hl : fs.length ≤ 1048576) (h : ¬ IsC V fs) :
    Calls Try.prog 58 #[.agg #[.int .i64 V, .slice a fs.length cap]] w fun e w' => e = .returned (.bool false) ∧ Below w.heap.size w w' :=
  (is_all V a cap fs w hx hl).mono fun _ _ ⟨he, hw⟩ => ⟨by rw [he, isCB_false h], hw⟩


end Go.Proofs.Ytbaljngbmokiiaa

/-! The parts of a set, one after the other: an iterator, and what a function that ranges over it leaves. -/
namespace Go.Proofs.Ytbaljngbmokiiaa
open Go.RowKit Go.Shelf

attribute [local go_sem] Oper.semAt_some

/-- w' is w but for the blocks Ds, which are no longer what they were. -/
structure Shut (Ds : List Nat) (w w' : World) : Prop where
  os : w'.os = w.os
  tape : w'.tape = w.tape
  output : w'.output = w.output
  size : w'.heap.size = w.heap.size
  block : ∀ k, k ∉ Ds → w'.heap[k]? = w.heap[k]?

theorem Shut.below {Ds : List Nat} {B : Nat} {w w' : World} (h : Shut Ds w w') (hB : ∀ D ∈ Ds, B ≤ D) : Below B w w' :=
  ⟨h.os, h.tape, h.output, by rw [h.size]; exact Nat.le_refl _, fun k hk => h.block k (fun hm => by have := hB k hm; omega)⟩

/-- The marks that loops over functions leave. -/
def marks (Ds : List Nat) : List Deferred := Ds.map fun D => { target := .collected D, args := #[] }

theorem leaves_marks {F : Fence} {n : Nat} {P : Program} {fn : Func} {tmps : Array Value} {R : Ending → World → Prop} {u : FrameMode} (hu : u ≠ .run) :
    ∀ (Ds : List Nat) (w : World), Ds.Nodup → (∀ D ∈ Ds, w.heap[D]? = some (.deferred (some []))) → (∀ w', Shut Ds w w' → LeavesIn F n P fn tmps R [] u w') → LeavesInM F n P fn tmps R (marks Ds) u w := by
  intro Ds
  induction Ds with
  | nil => intro w _ _ h; exact h w ⟨rfl, rfl, rfl, rfl, fun _ _ => rfl⟩
  | cons D Ds ih =>
    intro w hnd hD h
    refine ⟨hu, .inl ⟨D, _, rfl, run_takeDeferred (hD D (by simp)), ?_⟩⟩
    have hnd' := List.nodup_cons.1 hnd
    refine ih _ hnd'.2 (fun E hE => ?_) (fun w' hs => h w' ⟨hs.os, hs.tape, hs.output, hs.size.trans World.putObj_size, fun k hk => ?_⟩)
    · rw [World.putObj_heap_other (fun e => hnd'.1 (by rw [← e]; exact hE))]
      exact hD E (by simp [hE])
    · rw [hs.block k (fun hm => hk (by simp [hm])), World.putObj_heap_other (fun e => hk (by simp [e]))]

/-- The parts of a set, with what they are below. -/
def subsF (f : Nat) : List (Fin 64) := (subs f).filterMap fun p => if h : p < 64 then some ⟨p, h⟩ else none

theorem map_filterMap_fin : ∀ l : List Nat, (∀ p ∈ l, p < 64) → (l.filterMap fun p => if h : p < 64 then some (⟨p, h⟩ : Fin 64) else none).map Fin.val = l
  | [], _ => rfl
  | p :: l, h => by
    have hp : p < 64 := h p (by simp)
    rw [List.filterMap_cons]
    simp only [hp, dif_pos, List.map_cons]
    rw [map_filterMap_fin l (fun q hq => h q (by simp [hq]))]

theorem chain_le (f : Nat) : ∀ n p, ∀ y ∈ chain f n p, y ≤ p := by
  intro n
  induction n with
  | zero => intro p y hy; simp [chain] at hy
  | succ n ih =>
    intro p y hy
    unfold chain at hy
    split at hy
    · simp at hy
    · rcases List.mem_cons.1 hy with rfl | h
      · exact Nat.le_refl _
      · have := ih _ _ h
        have h3 : (p - 1) &&& f ≤ p - 1 := Nat.and_le_left
        omega

theorem subsF_map {f : Nat} (hf : f < 64) : (subsF f).map Fin.val = subs f :=
  map_filterMap_fin _ (fun p hp => by have := chain_le f 64 f p hp; omega)

theorem mem_subsF {f : Nat} (hf : f < 64) {p : Fin 64} : p ∈ subsF f ↔ p.val ≠ 0 ∧ p.val &&& f = p.val := by
  rw [← mem_subs hf, ← subsF_map hf]
  constructor
  · intro h; exact List.mem_map.2 ⟨p, h, rfl⟩
  · intro h; obtain ⟨q, hq, e⟩ := List.mem_map.1 h; rwa [← Fin.ext e]

/-- Block B lies as it lay. -/
def KeepB (B : Nat) (W W' : World) : Prop := W'.heap[B]? = W.heap[B]?
theorem keepB_t {B : Nat} {x y z : World} (h : KeepB B x y) (k : KeepB B y z) : KeepB B x z := Eq.trans k h
theorem keepB_b {B : Nat} {w : World} (hB : B < w.heap.size) (W : World) (l : Nat) (o o' : Obj) (hl : w.heap.size ≤ l) (_ : W.heap[l]? = some o) (_ : o.isCells = false) (_ : o.isWalk = false) : KeepB B W (W.putObj l o') :=
  World.putObj_heap_other (by omega)
theorem keepB_of_below {B n : Nat} {W W' : World} (h : Below n W W') (hB : B < n) : KeepB B W W' := h.block B hB

theorem box_cell {W : World} {B t : Nat} {v : Value} (h : W.heap[B]? = some (.cells #[v] t (0, 0))) : W.cell? ⟨B, 0, none⟩ = some v ∧ W.frozen? ⟨B, 0, none⟩ = false := by
  constructor <;> simp [World.cell?, World.frozen?, h]

theorem and_bits {q f : Nat} (hq0 : 0 < q) (hq : q < 64) (hf : f < 64) : bits BinOp.and IntKind.i64 ((q : Int) - 1) (f : Int) = (((q - 1) &&& f : Nat) : Int) := by
  have h := (bits_nat .i64 6 (by decide) (fun n h0 h1 => by rw [IntKind.wrap_i64]; omega) (q - 1) f (by omega) (by omega)).1
  rwa [show ((q - 1 : Nat) : Int) = (q : Int) - 1 by omega] at h

set_option maxRecDepth 100000 in
set_option maxHeartbeats 1000000 in
/-- The iterator over the parts of f: whatever the loop's body, as long as it keeps the block of f. -/
theorem parts1_in (F : Fence) (n : Nat) (hF : F.fn 182) (hro : F.round = none) (hn : 1 ≤ n) (l B0 f : Nat) (hf : f < 64) (J Jx : List (Fin 64) → World → Prop)
    (hY : ∀ pre x W, J pre W → pre.length < 64 → YieldAt F (n - 1) Try.prog l #[.int .i64 (x.val : Int)] W fun e W' =>
      (e = .returned (.bool true) ∧ J (pre ++ [x]) W' ∧ KeepB B0 W W') ∨ (e = .returned (.bool false) ∧ Jx (pre ++ [x]) W'))
    (W : World) (hB0 : W.heap[B0]? = some (.cells #[.int .i64 (f : Int)] 2 (0, 0))) (h0 : J [] W) :
    CallsIn F n Try.prog 182 #[.func (.yield l) #[] #[], .pointer (some ⟨B0, 0, none⟩)] W fun e W' => (∃ v, e = .returned v) ∧
      ((∃ ys, ys = subsF f ∧ J ys W') ∨ (∃ pre, pre <+: subsF f ∧ Jx pre W')) := by
  have hlen : (subsF f).length ≤ 63 := by
    have := subs_len' ⟨f, hf⟩
    rwa [← subsF_map hf, List.length_map] at this
  have c0 := (box_cell hB0).1
  refine callsIn_of_wp Try.func182 rfl hF ?_ hro
  simp only [Try.ntmps182, List.size_toArray, List.length_cons, List.length_nil, Nat.reduceAdd, Nat.reduceSub, Array.replicate_succ, Array.replicate_zero, List.push_toArray, List.append_toArray, List.nil_append, List.cons_append]
  gi_wp2
  gi_loopw [3] (fun p wr => ∃ (pre rest : List (Fin 64)) (q : Nat), p = .int .i64 (q : Int) ∧ q < 64 ∧ Hid (subsF f = pre ++ rest ∧ rest.map Fin.val = chain f 64 q) ∧ J pre wr ∧ wr.heap[B0]? = some (.cells #[.int .i64 (f : Int)] 2 (0, 0)))
    (fun p _ => (intOf p).toNat)
  case atStart =>
    exact ⟨[], subsF f, f, rfl, hf, hid ⟨rfl, subsF_map hf⟩, h0, hB0⟩
  case round =>
    obtain ⟨pre, rest, q, rfl, hq, Hl, hJs, hBr⟩ := hrel
    by_cases hq0 : 0 < q
    · obtain ⟨hl1, hl2⟩ := Hl.out
      rw [chain_pos hq0 (by omega)] at hl2
      cases rest with
      | nil => simp at hl2
      | cons x rest =>
        simp only [List.map_cons, List.cons.injEq] at hl2
        obtain ⟨hx, hl2⟩ := hl2
        have hpl : pre.length < 64 := by rw [hl1] at hlen; simp at hlen; omega
        obtain ⟨fn, tmps, assign, body, hy, hR⟩ := hY pre x wr hJs hpl
        rw [hx] at hy
        have hbits := and_bits hq0 hq hf
        have hand : (q - 1) &&& f ≤ q - 1 := Nat.and_le_left
        have Hl' : Hid (subsF f = pre ++ [x] ++ rest ∧ rest.map Fin.val = chain f 64 ((q - 1) &&& f)) := hid ⟨by simp [hl1], hl2⟩
        have Hpre : Hid (pre ++ [x] <+: subsF f) := hid ⟨rest, by simp [hl1]⟩
        clear hl1 hl2 Hl hx hlen
        have c0r := (box_cell hBr).1
        gi_wp2
        refine hR.mono ?_
        rintro e W3 (⟨rfl, hJ3, hk3⟩ | ⟨rfl, hJx3⟩)
        · have hBr3 : W3.heap[B0]? = some (.cells #[.int .i64 (f : Int)] 2 (0, 0)) := Eq.trans hk3 hBr
          have c03 := (box_cell hBr3).1
          gi_wp2
          go_roundw
          case rel => exact ⟨pre ++ [x], rest, (q - 1) &&& f, rfl, by omega, Hl', hJ3, hBr3⟩
          case measure => simp [intOf]; omega
        · gi_wp2
          refine bodyPost_ret (results_none rfl _ _ _) rfl ?_
          exact ⟨⟨_, rfl⟩, .inr ⟨pre ++ [x], Hpre.out, hJx3⟩⟩
    · obtain rfl : q = 0 := by omega
      obtain ⟨hl1, hl2⟩ := Hl.out
      rw [chain_zero] at hl2
      obtain rfl : rest = [] := by cases rest <;> simp_all
      have Hx : Hid (subsF f = pre) := hid (by rw [hl1]; simp)
      clear hl1 hl2 Hl
      gi_wp2
      go_end0
      exact ⟨⟨_, rfl⟩, .inl ⟨pre, Hx.out.symm, hJs⟩⟩

set_option maxHeartbeats 1000000 in
/-- partsOf: its argument is boxed; the function value captures the box. -/
theorem parts_in (F : Fence) (n : Nat) (hF : F.fn 125) (hro : F.round = none) (x : Int) (w : World) :
    CallsIn F n Try.prog 125 #[.int .i64 x] w fun e w' => e = .returned (.func (.func 182) #[] #[.pointer (some ⟨w.heap.size, 0, none⟩)]) ∧ w' = w.alloc (.cells #[.int .i64 x] 2) := by
  refine callsIn_of_wp Try.func125 rfl hF ?_ hro
  simp only [Try.ntmps125, List.size_toArray, List.length_cons, List.length_nil, Nat.reduceAdd, Nat.reduceSub, Array.replicate_succ, Array.replicate_zero, List.push_toArray, List.append_toArray, List.nil_append, List.cons_append]
  gi_wp2
  go_ret
  exact ⟨rfl, rfl⟩

theorem parts_stops (F : Fence) (n : Nat) (hF : F.fn 182) (hro : F.round = none) (hn : 1 ≤ n) (B0 f : Nat) (hf : f < 64) (w : World) (hB : B0 < w.heap.size)
    (hc : w.heap[B0]? = some (.cells #[.int .i64 (f : Int)] 2 (0, 0))) :
    SeqStopsK F n Try.prog 182 #[.pointer (some ⟨B0, 0, none⟩)] (fun x : Fin 64 => #[Value.int .i64 (x.val : Int)]) (KeepB B0) (fun ys => ys = subsF f) (fun pre => pre <+: subsF f) 64 w :=
  fun l J Jx W hW _ _ hY h0 => parts1_in F n hF hro hn l B0 f hf J Jx hY W ((hW.block B0 hB).trans hc) h0

end Go.Proofs.Ytbaljngbmokiiaa

/-! A set of integers as a map to bools. -/
namespace Go.Proofs.Ytbaljngbmokiiaa
open Go.RowKit Go.Shelf

def knownFrom (D : DataW Unit) (pre : List Int) : DataW Unit := pre.foldl (fun D x => D.put (.int .i64 x) (.lit (.bool true))) D
def knownD (pre : List Int) : DataW Unit := knownFrom (.map []) pre

theorem knownD_snoc (pre : List Int) (x : Int) : knownD (pre ++ [x]) = (knownD pre).put (.int .i64 x) (.lit (.bool true)) := by simp [knownD, knownFrom]

theorem knownFrom_at (p : Int) : ∀ (pre : List Int) (D : DataW Unit), Maps.IsMap D → (knownFrom D pre).atKey (.int .i64 p) (.lit (.bool false)) = if p ∈ pre then .lit (.bool true) else D.atKey (.int .i64 p) (.lit (.bool false))
  | [], D, _ => by simp [knownFrom]
  | x :: pre, D, hD => by
    have ih := knownFrom_at p pre (D.put (.int .i64 x) (.lit (.bool true))) (hD.put _ _)
    have e : knownFrom D (x :: pre) = knownFrom (D.put (.int .i64 x) (.lit (.bool true))) pre := rfl
    rw [e, ih]
    by_cases hp : p ∈ pre
    · simp [hp]
    · by_cases hx : p = x
      · subst hx
        rw [if_neg hp, if_pos (by simp), Maps.atKey_put_same hD (show WideAt.IsKeyLit (.int .i64 p) from trivial)]
      · rw [if_neg hp, if_neg (by simp [hp, hx]), Maps.atKey_put_other (by simpa using hx)]

theorem knownD_at (p : Int) (pre : List Int) : (knownD pre).atKey (.int .i64 p) (.lit (.bool false)) = .lit (.bool (decide (p ∈ pre))) := by
  unfold knownD
  rw [knownFrom_at p pre _ Maps.isMap_empty]
  by_cases h : p ∈ pre
  · simp [h]
  · simp [h]
    rfl

set_option maxRecDepth 100000 in
theorem bool_inv {v : Value} {c : Bool} {ps : List MemPlace} (h : plainElem (H := Unit) Try.prog 4 v = some (.lit (.bool c), ps)) : v = .bool c := by
  unfold plainElem at h
  rw [Try.underlying4] at h
  cases v <;> simp at h
  rw [h.1]

theorem zero_bool (w : World) : (zeroValue 4).run Try.prog w = .ok (.bool false) w := by kernel_rfl

theorem lookup_known {w : World} {b n : Nat} {pre : List Int} (hown : w.ownsMap Try.prog 2 (plainElem (H := Unit) Try.prog 4) b n (knownD pre)) {p : Int} (hp : (Lit.int .i64 p).wf = true) :
    (Instr.lookup 123 (.map (some b)) (.int .i64 p) false).run Try.prog w = .ok (.bool (decide (p ∈ pre))) w := by
  obtain ⟨v, ps, hrun, hv⟩ := hown.lookup (Maps.int_keyed Try.underlying2) Try.underlying123 (zero_bool w) (plainElem_bool Try.underlying4 false) (Maps.keyOf_int_mk Try.underlying2 hp)
  rw [knownD_at] at hv
  rw [bool_inv hv] at hrun
  exact hrun

/-- 'known[p]', at the operation. -/
theorem at_known {F : Fence} {nF : Nat} {w : World} {ops : Array Oper} {rest : List Oper} {o : Oper} {a : Act} {Q : Exit → Act → World → Prop} (hg : o.guard = none) {m x : Operand} (hop : o.op = Op.lookup 123 m x false)
    {b n : Nat} {pre : List Int} (hown : w.ownsMap Try.prog 2 (plainElem (H := Unit) Try.prog 4) b n (knownD pre)) {p : Int} (hp : (Lit.int .i64 p).wf = true)
    (hm : a.eval m = .map (some b)) (hx : a.eval x = .int .i64 p) {c : Bool} (hc : decide (p ∈ pre) = c) (hK : wpListIn F nF Try.prog ops Q rest (a.put o.dst (.bool c)) w) :
    wpListIn F nF Try.prog ops Q (o :: rest) a w := by
  refine wpListIn_plain hg fun K' hK' => ?_
  have hrun := lookup_known hown hp
  rw [hc] at hrun
  unfold Oper.wpIn
  refine ⟨by simp [Oper.about, hop], ?_⟩
  rw [Oper.semAt_plain F _ _ (by rw [hop]; intro c hc'; cases hc')]
  simp [execOp, hop, hm, hx, hrun, Result.andThen]
  exact hK' _ _ hK

end Go.Proofs.Ytbaljngbmokiiaa

/-! The program's test whether something is a complex. -/
namespace Go.Proofs.Ytbaljngbmokiiaa
open Go.RowKit Go.Shelf

attribute [local go_sem] Oper.semAt_some

set_option maxHeartbeats 400000 in
theorem vc_any (n : Int) (w : World) :
    Calls Try.prog 123 #[.int .i64 n] w fun e w' => e = .returned (.bool (decide (1 ≤ n) && decide (n ≤ 6))) ∧ w = w' := by
  go_enter Try.func123, Try.ntmps123
  go_wp2
  · have h : 1 ≤ n := by assumption
    go_ret
    exact ⟨ret_bool (by simp [h]), rfl⟩
  · have h : n < 1 := by assumption
    go_ret
    exact ⟨ret_bool (by rw [decide_eq_false (show ¬ 1 ≤ n by omega)]; rfl), rfl⟩
theorem vc_yes (n : Int) (w : World) (h1 : 1 ≤ n) (h2 : n ≤ 6) :
    Calls Try.prog 123 #[.int .i64 n] w fun e w' => e = .returned (.bool true) ∧ w = w' :=
  (vc_any n w).mono fun _ _ ⟨he, hw⟩ => ⟨by rw [he]; simp [h1, h2], hw⟩
theorem vc_no (n : Int) (w : World) (h : ¬ (1 ≤ n ∧ n ≤ 6)) :
    Calls Try.prog 123 #[.int .i64 n] w fun e w' => e = .returned (.bool false) ∧ w = w' :=
  (vc_any n w).mono fun _ _ ⟨he, hw⟩ => by
    refine ⟨?_, hw⟩
    rw [he]
    by_cases hx : 1 ≤ n
    · rw [decide_eq_false (show ¬ n ≤ 6 from fun h' => h ⟨hx, h'⟩)]; simp
    · rw [decide_eq_false hx]; simp

set_option maxHeartbeats 400000 in
theorem av_any (V : Int) (w : World) (h1 : 0 ≤ V) (h2 : V ≤ 6) :
    Calls Try.prog 124 #[.int .i64 V] w fun e w' => e = .returned (.int .i64 (allV V)) ∧ w = w' := by
  go_enter Try.func124, Try.ntmps124
  go_wp2
  go_ret
  exact ⟨ret_int (all_wrap h1 h2), rfl⟩

/-- What the walk of IsComplex keeps of the world: B is the heap's size when the call began. -/
structure IcW (w W : World) (V : Int) (sl : Value) (pre : List Int) (Ds : List Nat) : Prop where
  below : Below w.heap.size w W
  kbox : W.heap[w.heap.size]? = some (.cells #[.int .i64 V, sl] 26 (0, 0))
  res : W.heap[w.heap.size + 1]? = some (.cells #[.bool false] 4 (0, 0))
  own : W.ownsMap Try.prog 2 (plainElem (H := Unit) Try.prog 4) (w.heap.size + 1 + 1) pre.length (knownD pre)
  mbox : W.heap[w.heap.size + 1 + 1 + 1]? = some (.cells #[.map (some (w.heap.size + 1 + 1))] 123 (0, 0))
  nodup : Ds.Nodup
  marks : ∀ D ∈ Ds, w.heap.size + 4 ≤ D ∧ W.heap[D]? = some (.deferred (some []))

theorem lt_of_get {W : World} {b : Nat} {o : Obj} (h : W.heap[b]? = some o) : b < W.heap.size := (Array.getElem?_eq_some_iff.1 h).1

theorem IcW.size {w W : World} {V : Int} {sl : Value} {pre : List Int} {Ds : List Nat} (h : IcW w W V sl pre Ds) : w.heap.size + 4 ≤ W.heap.size := by
  have := lt_of_get h.mbox; omega

theorem IcW.turn {w W W' : World} {V : Int} {sl : Value} {pre : List Int} {Ds : List Nat} (h : IcW w W V sl pre Ds) {row : Option Nat} (hg : W.grownBy W' row)
    (hr : ∀ r, row = some r → w.heap.size + 4 ≤ r ∧ r ∉ Ds) : IcW w W' V sl pre Ds where
  below := h.below.grown hg h.below.size (fun k e => by have := (hr k e).1; omega)
  kbox := (hg.block _ (lt_of_get h.kbox) (fun e => by have := (hr _ e.symm).1; omega)).trans h.kbox
  res := (hg.block _ (lt_of_get h.res) (fun e => by have := (hr _ e.symm).1; omega)).trans h.res
  own := h.own.kept hg (fun e => by have := (hr _ e.symm).1; omega)
  mbox := (hg.block _ (lt_of_get h.mbox) (fun e => by have := (hr _ e.symm).1; omega)).trans h.mbox
  nodup := h.nodup
  marks := fun D hD => ⟨(h.marks D hD).1, (hg.block _ (lt_of_get (h.marks D hD).2) (fun e => (hr _ e.symm).2 hD)).trans (h.marks D hD).2⟩

theorem icw_own {β : Type} {w : World} {V : Int} {sl : Value} {pre : List Int} {Ds : List Nat} {B : Nat} (hB : w.heap.size + 4 ≤ B) (hD : ∀ D ∈ Ds, D < B) : OwnFrom B (fun (_ : β) W => IcW w W V sl pre Ds) :=
  fun _ _ _ _ hs hg hr => hs.turn hg (fun r e => ⟨by have := (hr r e).1; omega, fun hm => by have := hD r hm; have := (hr r e).1; omega⟩)

/-- A further mark. -/
theorem IcW.mark {w W : World} {V : Int} {sl : Value} {pre : List Int} {Ds : List Nat} (h : IcW w W V sl pre Ds) {D : Nat} (hD : W.heap[D]? = some (.deferred (some []))) (hb : w.heap.size + 4 ≤ D) (hn : D ∉ Ds) : IcW w W V sl pre (D :: Ds) where
  below := h.below
  kbox := h.kbox
  res := h.res
  own := h.own
  mbox := h.mbox
  nodup := List.nodup_cons.2 ⟨hn, h.nodup⟩
  marks := fun E hE => by
    rcases List.mem_cons.1 hE with rfl | hE
    · exact ⟨hb, hD⟩
    · exact h.marks E hE

/-- A face more in the map. -/
theorem IcW.put {w W w1 : World} {V : Int} {sl : Value} {pre : List Int} {Ds : List Nat} (h : IcW w W V sl pre Ds) {x : Int} {n : Nat} (hn : n = pre.length)
    (hown : w1.ownsMap Try.prog 2 (plainElem (H := Unit) Try.prog 4) (w.heap.size + 1 + 1) (n + 1) ((knownD pre).put (.int .i64 x) (.lit (.bool true)))) (hg : W.grownBy w1 (some (w.heap.size + 1 + 1))) : IcW w w1 V sl (pre ++ [x]) Ds where
  below := h.below.grown hg h.below.size (fun k e => by cases e; omega)
  kbox := (hg.block _ (lt_of_get h.kbox) (fun e => by simp at e <;> omega)).trans h.kbox
  res := (hg.block _ (lt_of_get h.res) (fun e => by simp at e <;> omega)).trans h.res
  own := by rw [knownD_snoc]; simpa [hn] using hown
  mbox := (hg.block _ (lt_of_get h.mbox) (fun e => by simp at e)).trans h.mbox
  nodup := h.nodup
  marks := fun D hD => ⟨(h.marks D hD).1, (hg.block _ (lt_of_get (h.marks D hD).2) (fun e => by have := (h.marks D hD).1; simp at e; omega)).trans (h.marks D hD).2⟩

/-- The result's cell holds false: so it does when false is stored. -/
theorem IcW.store {w W : World} {V : Int} {sl : Value} {pre : List Int} {Ds : List Nat} (h : IcW w W V sl pre Ds) : IcW w (W.setCell ⟨w.heap.size + 1, 0, none⟩ (.bool false)) V sl pre Ds where
  below := h.below.setCell (p := ⟨w.heap.size + 1, 0, none⟩) (by simp) _
  kbox := (Below.heap_setCell _ _ _ _ (by simp)).trans h.kbox
  res := one_setCell h.res
  own := h.own.setCell (by simp <;> omega) _
  mbox := (Below.heap_setCell _ _ _ _ (by simp <;> omega)).trans h.mbox
  nodup := h.nodup
  marks := fun D hD => ⟨(h.marks D hD).1, (Below.heap_setCell _ _ _ _ (by have := (h.marks D hD).1; simp <;> omega)).trans (h.marks D hD).2⟩

def leastOf (pre : List Int) : Int := match pre.getLast? with | none => 1 | some y => y + 1

theorem leastOf_snoc (pre : List Int) (x : Int) : leastOf (pre ++ [x]) = x + 1 := by simp [leastOf]
theorem leastOf_ok {V : Int} {pre : List Int} (h : IsC V pre) {x : Int} (hx : leastOf pre ≤ x) : (∀ y ∈ pre, y < x) ∧ 1 ≤ x := by
  rcases List.eq_nil_or_concat pre with rfl | ⟨l, z, rfl⟩
  · simp [leastOf] at hx; exact ⟨by simp, hx⟩
  · simp only [List.concat_eq_append] at *
    rw [leastOf_snoc] at hx
    have hz := h.range63 z (by simp)
    refine ⟨fun y hy => ?_, by omega⟩
    rcases List.mem_append.1 hy with hy | hy
    · have := (List.pairwise_append.1 h.asc).2.2 y hy z (by simp); omega
    · simp at hy; omega
theorem leastOf_bad {V : Int} {pre : List Int} {x : Int} {rest : List Int} (h : IsC V (pre ++ x :: rest)) : leastOf pre ≤ x := by
  have h1 := isC_head h
  rcases List.eq_nil_or_concat pre with rfl | ⟨l, z, rfl⟩
  · simpa [leastOf] using h1.2.1
  · simp only [List.concat_eq_append] at *
    rw [leastOf_snoc]
    have := h1.1 z (by simp)
    omega
theorem leastOf_lt {V : Int} {pre : List Int} (h : IsC V pre) : leastOf pre ≤ 64 ∧ 1 ≤ leastOf pre := by
  rcases List.eq_nil_or_concat pre with rfl | ⟨l, z, rfl⟩
  · simp [leastOf]
  · simp only [List.concat_eq_append] at *
    rw [leastOf_snoc]
    have := h.range63 z (by simp)
    omega

theorem not_isC_take {V : Int} {fs : List Int} {k : Nat} (hk : k < fs.length) (h : IsC V fs) : IsC V (fs.take k ++ fs[k]?.getD 0 :: fs.drop (k + 1)) := by
  rw [← split_at hk]; exact h

set_option maxHeartbeats 400000 in
/-- IsComplex hands back false, out of whatever loop. -/
theorem ic_leave {w W : World} {V : Int} {fs : List Int} {sl : Value} {pre : List Int} {Ds : List Nat} (h : IcW w W V sl pre Ds) (c : Bool) (hc : isCB V fs = c) {tmps : Array Value} (ht : tmps[2]?.getD undef = .pointer (some ⟨w.heap.size + 1, 0, none⟩)) :
    LeavesInM Fence.wide 10 Try.prog Try.f61 tmps (fun e w' => e = .returned (.bool (isCB V fs)) ∧ Below w.heap.size w w') (marks Ds) .returning (W.setCell ⟨w.heap.size + 1, 0, none⟩ (.bool c)) := by
  have hs := h.size
  refine leaves_marks (by simp) Ds _ h.nodup (fun D hD => (Below.heap_setCell _ _ _ _ (by have := (h.marks D hD).1; simp <;> omega)).trans (h.marks D hD).2) (fun w' hw' => ?_)
  have hres : w'.cell? ⟨w.heap.size + 1, 0, none⟩ = some (.bool c) := by
    rw [World.cell?_of_block (hw'.block _ (fun hm => by have := (h.marks _ hm).1; simp at this <;> omega))]
    exact World.cell?_setCell_same' _ _ _ (by rw [(box_cell h.res).1]; rfl)
  have hB : Below w.heap.size w w' := (h.below.setCell (p := ⟨w.heap.size + 1, 0, none⟩) (by simp) _).trans (hw'.below (fun D hD => by have := (h.marks D hD).1; omega))
  refine ⟨.bool c, ?_, ret_bool hc.symm, hB⟩
  simp [results, Try.results61, go_sem, ht, hres]

set_option maxHeartbeats 400000 in
theorem ic_leave0 {w W : World} {V : Int} {fs : List Int} {sl : Value} {pre : List Int} {Ds : List Nat} (h : IcW w W V sl pre Ds) (hc : isCB V fs = false) {tmps : Array Value} (ht : tmps[2]?.getD undef = .pointer (some ⟨w.heap.size + 1, 0, none⟩)) :
    LeavesInM Fence.wide 10 Try.prog Try.f61 tmps (fun e w' => e = .returned (.bool (isCB V fs)) ∧ Below w.heap.size w w') (marks Ds) .returning W := by
  refine leaves_marks (by simp) Ds _ h.nodup (fun D hD => (h.marks D hD).2) (fun w' hw' => ?_)
  have hres : w'.cell? ⟨w.heap.size + 1, 0, none⟩ = some (.bool false) := by
    rw [World.cell?_of_block (w := W) (hw'.block _ (fun hm => by have := (h.marks _ hm).1; simp at this <;> omega))]
    exact (box_cell h.res).1
  have hB : Below w.heap.size w w' := h.below.trans (hw'.below (fun D hD => by have := (h.marks D hD).1; omega))
  refine ⟨.bool false, ?_, ret_bool hc.symm, hB⟩
  simp [results, Try.results61, go_sem, ht, hres]

set_option maxRecDepth 100000 in
set_option maxHeartbeats 4000000 in
theorem isc_in (V : Int) (b off : Nat) (cap : Nat) (fs : List Int) (w : World) (h1 : 1 ≤ V) (h2 : V ≤ 6) (hb : b < w.heap.size)
    (hc : ∀ i, i < fs.length → w.cell? ⟨b, off + i, none⟩ = some (.int .i64 (fs[i]?.getD 0))) (hl : fs.length ≤ 1048576) :
    CallsIn Fence.wide 10 Try.prog 61 #[.agg #[.int .i64 V, .slice (some ⟨b, off, none⟩) fs.length cap]] w fun e w' => e = .returned (.bool (isCB V fs)) ∧ Below w.heap.size w w' := by
  have hmm := @run_makeMap Try.prog
  refine callsIn_of_wp_marks Try.func61 rfl trivial ?_ rfl
  simp only [Try.ntmps61, List.size_toArray, List.length_cons, List.length_nil, Nat.reduceAdd, Nat.reduceSub, Array.replicate_succ, Array.replicate_zero, List.push_toArray, List.append_toArray, List.nil_append, List.cons_append]
  gi_wp2_with (first
    | (refine ⟨trivial, ?_⟩; gi_at_call 123; refine (callsIn_wide.2 (vc_yes V _ h1 h2)).mono ?_; rintro e w' ⟨rfl, rfl⟩))
  clear hmm
  refine wpIn_loop (fun a' W => ∃ (k : Nat) (c6 c7 c17 c18 c19 c20 c21 c22 c23 c24 c25 c26 c27 c28 c29 c30 c31 c32 c33 c34 c35 c36 c37 c38 c39 c40 c41 : Value) (Ds : List Nat),
      a' = { tmps := #[.agg #[.int .i64 V, .slice (some ⟨b, off, none⟩) fs.length cap], .pointer (some ⟨w.heap.size, 0, none⟩), .pointer (some ⟨w.heap.size + 1, 0, none⟩), .pointer (some ⟨w.heap.size + 1 + 1 + 1, 0, none⟩),
          .int .i64 (leastOf (fs.take k)), undef, c6, c7, .pointer (some ⟨w.heap.size, 0, none⟩), .int .i64 V, .bool true, .bool false, .map (some (w.heap.size + 1 + 1)), .pointer (some ⟨w.heap.size, 1, none⟩), .slice (some ⟨b, off, none⟩) fs.length cap, .int .i64 fs.length,
          .int .i64 k, c17, c18, c19, c20, c21, c22, c23, c24, c25, c26, c27, c28, c29, c30, c31, c32, c33, c34, c35, c36, c37, c38, c39, c40, c41], defers := marks Ds } ∧
      k ≤ fs.length ∧ IsC V (fs.take k) ∧ IcW w W V (.slice (some ⟨b, off, none⟩) fs.length cap) (fs.take k) Ds)
    (fun a' _ => fs.length - (intOf (a'.tmps.getD 16 undef)).toNat) ?start ?round
  case start =>
    refine ⟨0, _, _, _, _, _, _, _, _, _, _, _, _, _, _, _, _, _, _, _, _, _, _, _, _, _, _, _, [], rfl, Nat.zero_le _, isC_nil h1 h2, ?_⟩
    have e0 := World.alloc_heap_new w (.cells #[.int .i64 V, .slice (some ⟨b, off, none⟩) fs.length cap] 26)
    have e1 := World.alloc_heap_new (w.alloc (.cells #[.int .i64 V, .slice (some ⟨b, off, none⟩) fs.length cap] 26)) (.cells #[.bool false] 4)
    have e3 := World.alloc_heap_new (((w.alloc (.cells #[.int .i64 V, .slice (some ⟨b, off, none⟩) fs.length cap] 26)).alloc (.cells #[.bool false] 4)).alloc (.map #[] 0)) (.cells #[.map (some (w.heap.size + 1 + 1))] 123)
    have hown := World.ownsMap_made ((w.alloc (.cells #[.int .i64 V, .slice (some ⟨b, off, none⟩) fs.length cap] 26)).alloc (.cells #[.bool false] 4)) Try.prog 2 (plainElem (H := Unit) Try.prog 4)
    simp only [World.size_alloc] at e1 e3 hown
    exact {
      below := (((((Below.refl _ w).alloc (Nat.le_refl _) _).alloc (by simp) _).alloc (by simp <;> omega) _).alloc (by simp <;> omega) _)
      kbox := (Below.heap_alloc _ _ _ (by simp <;> omega)).trans ((Below.heap_alloc _ _ _ (by simp <;> omega)).trans ((Below.heap_alloc _ _ _ (by simp)).trans e0))
      res := (Below.heap_alloc _ _ _ (by simp <;> omega)).trans ((Below.heap_alloc _ _ _ (by simp)).trans e1)
      own := hown.alloc _
      mbox := e3
      nodup := by simp
      marks := by simp }
  case round =>
    rintro a W ⟨k, c6, c7, c17, c18, c19, c20, c21, c22, c23, c24, c25, c26, c27, c28, c29, c30, c31, c32, c33, c34, c35, c36, c37, c38, c39, c40, c41, Ds, rfl, hk, hC, hW⟩
    have hsz := hW.size
    have k0 : W.cell? ⟨w.heap.size, 0, none⟩ = some (.int .i64 V) := by simp [World.cell?, hW.kbox]
    have r0 : W.cell? ⟨w.heap.size + 1, 0, none⟩ = some (.bool false) := (box_cell hW.res).1
    have r1 : W.frozen? ⟨w.heap.size + 1, 0, none⟩ = false := (box_cell hW.res).2
    have m0 : W.cell? ⟨w.heap.size + 1 + 1 + 1, 0, none⟩ = some (.map (some (w.heap.size + 1 + 1))) := (box_cell hW.mbox).1
    have hll := leastOf_lt hC
    obtain ⟨lo, hlo⟩ : ∃ lo, lo = leastOf (fs.take k) := ⟨_, rfl⟩
    rw [← hlo] at hll ⊢
    have Hlo := hid hlo
    have HC := hid hC
    have HW := hid hW
    clear hlo hC hW
    by_cases hlt : k < fs.length
    · obtain ⟨x, hx⟩ : ∃ x, x = fs[k]?.getD 0 := ⟨_, rfl⟩
      have hck : W.cell? ⟨b, off + k, none⟩ = some (.int .i64 x) := by rw [hx]; exact (HW.out.below.cell (p := ⟨b, off + k, none⟩) hb).trans (hc k hlt)
      have Hx := hid hx
      have hi0 : (0 : Int) ≤ (k : Int) := by omega
      have hi1 : (k : Int) < (fs.length : Int) := by omega
      clear hx
      have Hc := hid hc
      clear hc
      by_cases hb1 : x < lo
      · gi_wp2_with (refine ⟨(trivial : Fence.wide.fn 124), ?_⟩)
        refine ic_leave HW.out false (isCB_false fun h => ?_) rfl
        have := leastOf_bad (not_isC_take hlt h)
        rw [← Hlo.out, ← Hx.out] at this
        omega
      · have hge : lo ≤ x := by omega
        by_cases hb2 : allV V < x
        · gi_wp2_with (first
            | (refine ⟨trivial, ?_⟩; gi_at_call 124; refine (callsIn_wide.2 (av_any V _ (by omega) h2)).mono ?_; rintro e w' ⟨rfl, rfl⟩))
          refine ic_leave HW.out false (isCB_false fun h => ?_) rfl
          have := (isC_head (not_isC_take hlt h)).2.2
          rw [← Hx.out] at this
          omega
        · have hle : x ≤ allV V := by omega
          have h63 := allV_le h2
          obtain ⟨f, rfl⟩ : ∃ f : Nat, x = f := ⟨x.toNat, by omega⟩
          have hf : f < 64 := by omega
          have hwf : (Lit.int .i64 (f : Int)).wf = true := WalkArith.wf_i64 (by omega)
          have hkm : (fs.take k).length < maxLen := by unfold maxLen; simp; omega
          gi_wp2_with (first
            | (refine ⟨trivial, ?_⟩; gi_at_call 124; refine (callsIn_wide.2 (av_any V _ (by omega) h2)).mono ?_; rintro e w' ⟨rfl, rfl⟩)
            | (gi_at_mapUpdate; refine wpListIn_mapUpdate_own _ rfl _ _ _ 123 rfl 2 4 (Maps.int_keyed Try.underlying2) Try.underlying123 _ (w.heap.size + 1 + 1) _ _ rfl HW.out.own hkm _ _ _ rfl rfl (Maps.keyOf_int_mk Try.underlying2 hwf) _ [] (plainElem_bool Try.underlying4 true) ?_; intro w1 hown1 hgrow1)
            | (refine ⟨trivial, ?_⟩; gi_at_call 125; refine (parts_in _ _ trivial rfl _ _).mono ?_; rintro e w' ⟨rfl, rfl⟩))
          obtain ⟨fs', hfs'⟩ : ∃ fs', fs' = fs.take k ++ [(f : Int)] := ⟨_, rfl⟩
          have hW1 : IcW w w1 V (.slice (some ⟨b, off, none⟩) fs.length cap) fs' Ds := by rw [hfs']; exact HW.out.put rfl hown1 hgrow1
          have hW2 : IcW w (w1.alloc (.cells #[.int .i64 (f : Int)] 2)) V (.slice (some ⟨b, off, none⟩) fs.length cap) fs' Ds := hW1.turn (World.grownBy_alloc w1 _ none) (fun r e => by cases e)
          have Hfs' := hid hfs'
          have hsz1 := hW1.size
          have hDlt : ∀ D ∈ Ds, D < (w1.alloc (.cells #[.int .i64 (f : Int)] 2)).heap.size := fun D hD => lt_of_get (hW2.marks D hD).2
          refine wpIn_rangeFunc_ownG rfl (by decide) (gf := 182) (lb := #[.pointer (some ⟨w1.heap.size, 0, none⟩)]) rfl trivial (enters_of Try.func182 (by kernel_rfl) rfl)
            (parts_stops Fence.wide 9 trivial rfl (by decide) w1.heap.size f hf _ (by simp) (World.alloc_heap_new w1 _)) keepB_t (keepB_b (by simp)) (Below.refl _ _) (fun _ => rfl)
            (fun pre W => (∀ p ∈ pre, ((p.val : Nat) : Int) ∈ fs') ∧ IcW w W V (.slice (some ⟨b, off, none⟩) fs.length cap) fs' Ds)
            (fun c pre W => (c = .ret ∧ ∃ p ∈ pre, ((p.val : Nat) : Int) ∉ fs') ∧ IcW w W V (.slice (some ⟨b, off, none⟩) fs.length cap) fs' Ds)
            (OwnFrom.and (ownFrom_pure _ _) (icw_own (by simp; omega) hDlt)) (fun c => OwnFrom.and (ownFrom_pure _ _) (icw_own (by simp; omega) hDlt))
            ⟨by simp, hW2⟩
            (fun x => { tmps := #[.agg #[.int .i64 V, .slice (some ⟨b, off, none⟩) fs.length cap], .pointer (some ⟨w.heap.size, 0, none⟩), .pointer (some ⟨w.heap.size + 1, 0, none⟩), .pointer (some ⟨w.heap.size + 1 + 1 + 1, 0, none⟩),
              .int .i64 ((f : Int) + 1), undef, .int .i64 f, .int .i64 (x.val : Int), .pointer (some ⟨w.heap.size, 0, none⟩), .int .i64 V, .bool true, .bool false, .map (some (w.heap.size + 1 + 1)), .pointer (some ⟨w.heap.size, 1, none⟩), .slice (some ⟨b, off, none⟩) fs.length cap, .int .i64 fs.length,
              .int .i64 k, .bool true, .pointer (some ⟨b, off + k, none⟩), .int .i64 f, .int .i64 f, .int .i64 lo, .bool false, .bool false, .int .i64 f, .pointer (some ⟨w.heap.size, 0, none⟩), .int .i64 V, .int .i64 (allV V), .bool (decide (allV V < (f : Int))), .bool (decide (allV V < (f : Int))), .int .i64 f, .int .i64 ((f : Int) + 1),
              .map (some (w.heap.size + 1 + 1)), .int .i64 f, .int .i64 f, .func (.func 182) #[] #[.pointer (some ⟨w1.heap.size, 0, none⟩)], .int .i64 (x.val : Int), c37, c38, c39, c40, c41], defers := [] }) ?assign ?body ?done ?stop
          case assign =>
            intro l x W3 K hK
            gi_wp2
            exact hK
          case body =>
            rintro l pre x W3 ⟨hp, hW3⟩ _
            have m3 : W3.cell? ⟨w.heap.size + 1 + 1 + 1, 0, none⟩ = some (.map (some (w.heap.size + 1 + 1))) := (box_cell hW3.mbox).1
            have r3 : W3.cell? ⟨w.heap.size + 1, 0, none⟩ = some (.bool false) := (box_cell hW3.res).1
            have r4 : W3.frozen? ⟨w.heap.size + 1, 0, none⟩ = false := (box_cell hW3.res).2
            have hxl := x.isLt
            have hwx : (Lit.int .i64 (x.val : Int)).wf = true := WalkArith.wf_i64 (by omega)
            have HW3 := hid hW3
            have Hp := hid hp
            clear hW3 hp
            by_cases hm : ((x.val : Nat) : Int) ∈ fs'
            · have Hm := hid hm
              clear hm
              gi_wp2_with (gi_at_lookup; refine at_known rfl rfl HW3.out.own hwx rfl rfl (decide_eq_true Hm.out) ?_)
              refine ⟨KeepsFrom.refl _ _, rfl, fun p hp' => ?_, HW3.out⟩
              rcases List.mem_append.1 hp' with hp' | hp'
              · exact Hp.out p hp'
              · simp at hp'; rw [hp']; exact Hm.out
            · have Hm := hid hm
              clear hm
              gi_wp2_with (gi_at_lookup; refine at_known rfl rfl HW3.out.own hwx rfl rfl (decide_eq_false Hm.out) ?_)
              exact ⟨(KeepsOthers.setCell _ _ _).from _, ⟨rfl, x, by simp, Hm.out⟩, HW3.out.store⟩
          case done =>
            rintro D ys W3 hD rfl ⟨hp, hW3⟩ hK
            have hDb : w.heap.size + 4 ≤ D := by simp at hD; omega
            have hDn : D ∉ Ds := fun hm => by have := hDlt D hm; omega
            have HW4 := hid (hW3.mark hK hDb hDn)
            have htk : fs.take (k + 1) = fs' := by rw [take_snoc hlt, ← Hx.out, Hfs'.out]
            have hC' : IsC V fs' := by
              have h := leastOf_ok HC.out (x := (f : Int)) (by rw [← Hlo.out]; exact hge)
              rw [Hfs'.out]
              refine isC_snoc HC.out h.1 h.2 hle (fun p hp0 hpf => ?_)
              rw [Int.toNat_natCast] at hpf
              rw [← Hfs'.out]
              have hp64 : p < 64 := by have := and_le_left' _ _ hpf; omega
              exact hp ⟨p, hp64⟩ ((mem_subsF hf).2 ⟨hp0, hpf⟩)
            have hlo' : (f : Int) + 1 = leastOf (fs.take (k + 1)) := by rw [htk, Hfs'.out, leastOf_snoc]
            have HC' := hid hC'
            have Hlo' := hid hlo'
            have Htk := hid htk
            clear hp hW3 hC' hlo' htk
            gi_wp2
            refine ⟨⟨k + 1, ?_⟩, ?_⟩
            · (repeat apply Exists.intro)
              refine ⟨?e, ?_⟩
              case e =>
                rw [← Hlo'.out, show ((k + 1 : Nat) : Int) = (k : Int) + 1 by omega, show ({ target := .collected D, args := #[] } :: marks Ds : List Deferred) = marks (D :: Ds) from rfl]
              exact ⟨by omega, by rw [Htk.out]; exact HC'.out, by rw [Htk.out]; exact HW4.out⟩
            · simp [intOf]; omega
          case stop =>
            rintro D c pre W3 hD hpre ⟨⟨rfl, p, hpm, hpn⟩, hW3⟩ hK
            have hDb : w.heap.size + 4 ≤ D := by simp at hD; omega
            have hDn : D ∉ Ds := fun hm => by have := hDlt D hm; omega
            have HW4 := hid (hW3.mark hK hDb hDn)
            have hps := (mem_subsF hf).1 (hpre.subset hpm)
            have Hbad : Hid (isCB V fs = false) := hid (isCB_false fun h => hpn (by
              have := isC_parts (not_isC_take hlt h) hps.1 (by rw [← Hx.out, Int.toNat_natCast]; exact hps.2)
              rwa [← Hx.out, ← Hfs'.out] at this))
            clear hW3 hpn hpm hps
            gi_wp2
            exact ic_leave0 HW4.out Hbad.out rfl
    · have Hend : Hid (isCB V fs = true) := hid (isCB_true (by have := HC.out; rwa [List.take_of_length_le (by omega)] at this))
      gi_wp2
      exact ic_leave HW.out true Hend.out rfl

end Go.Proofs.Ytbaljngbmokiiaa

/-! The program's test whether something is a complex, at whatever comes in. -/
namespace Go.Proofs.Ytbaljngbmokiiaa
open Go.RowKit Go.Shelf

attribute [local go_sem] Oper.semAt_some

set_option maxRecDepth 100000 in
set_option maxHeartbeats 400000 in
theorem isc_bad (V : Int) (a : Option Addr) (n cap : Nat) (w : World) (h : ¬ (1 ≤ V ∧ V ≤ 6)) :
    CallsIn Fence.wide 10 Try.prog 61 #[.agg #[.int .i64 V, .slice a n cap]] w fun e w' => e = .returned (.bool false) ∧ Below w.heap.size w w' := by
  refine callsIn_of_wp_marks Try.func61 rfl trivial ?_ rfl
  simp only [Try.ntmps61, List.size_toArray, List.length_cons, List.length_nil, Nat.reduceAdd, Nat.reduceSub, Array.replicate_succ, Array.replicate_zero, List.push_toArray, List.append_toArray, List.nil_append, List.cons_append]
  gi_wp2_with (first
    | (refine ⟨trivial, ?_⟩; gi_at_call 123; refine (callsIn_wide.2 (vc_no V _ h)).mono ?_; rintro e w' ⟨rfl, rfl⟩))
  refine ⟨.bool false, ?_, rfl, ?_⟩
  · simp [results, Try.results61, go_sem]
  · exact ((Below.refl _ w).alloc (Nat.le_refl _) _).alloc (by simp) _

set_option maxRecDepth 100000 in
set_option maxHeartbeats 400000 in
theorem isc_nil (V : Int) (a : Option Addr) (cap : Nat) (w : World) (h1 : 1 ≤ V) (h2 : V ≤ 6) :
    CallsIn Fence.wide 10 Try.prog 61 #[.agg #[.int .i64 V, .slice a 0 cap]] w fun e w' => e = .returned (.bool true) ∧ Below w.heap.size w w' := by
  have hmm := @run_makeMap Try.prog
  refine callsIn_of_wp_marks Try.func61 rfl trivial ?_ rfl
  simp only [Try.ntmps61, List.size_toArray, List.length_cons, List.length_nil, Nat.reduceAdd, Nat.reduceSub, Array.replicate_succ, Array.replicate_zero, List.push_toArray, List.append_toArray, List.nil_append, List.cons_append]
  gi_wp2_with (first
    | (refine ⟨trivial, ?_⟩; gi_at_call 123; refine (callsIn_wide.2 (vc_yes V _ h1 h2)).mono ?_; rintro e w' ⟨rfl, rfl⟩))
  refine wpIn_loop_rounds 1 ?_
  rw [roundsIn_succ]
  gi_wp2
  refine ⟨.bool true, ?_, rfl, ?_⟩
  · simp [results, Try.results61, go_sem]
  · repeat (first | exact Below.refl _ _ | refine Below.alloc ?_ (by simp <;> omega) _ | refine Below.setCell ?_ (by simp <;> omega) _)

/-- impl.IsComplex, whatever comes in. -/
theorem implIsComplex (V : Int) (a : Option Addr) (cap : Nat) (fs : List Int) (w : World) (hx : SlI w w.heap.size a fs) (hl : fs.length ≤ 1048576) :
    Calls Try.prog 61 #[.agg #[.int .i64 V, .slice a fs.length cap]] w fun e w' => e = .returned (.bool (isCB V fs)) ∧ Below w.heap.size w w' := by
  by_cases hV : 1 ≤ V ∧ V ≤ 6
  · rcases hx with rfl | ⟨b, off, hb, rfl, hc⟩
    · exact (callsIn_wide.1 (isc_nil V a cap w hV.1 hV.2)).mono fun _ _ ⟨he, hw⟩ => ⟨by rw [he, isCB_true (isC_nil hV.1 hV.2)], hw⟩
    · exact callsIn_wide.1 (isc_in V b off cap fs w hV.1 hV.2 hb hc hl)
  · exact (callsIn_wide.1 (isc_bad V a fs.length cap w hV)).mono fun _ _ ⟨he, hw⟩ => ⟨by rw [he, isCB_false (fun h => hV ⟨h.lo, h.hi⟩)], hw⟩

theorem isc_yes (V : Int) (a : Option Addr) (cap : Nat) (fs : List Int) (w : World) (hx : SlI w w.heap.size a fs) (hl : fs.length ≤ 1048576) (h : IsC V fs) :
    Calls Try.prog 61 #[.agg #[.int .i64 V, .slice a fs.length cap]] w fun e w' => e = .returned (.bool true) ∧ Below w.heap.size w w' :=
  (implIsComplex V a cap fs w hx hl).mono fun _ _ ⟨he, hw⟩ => ⟨by rw [he, isCB_true h], hw⟩

theorem isc_no (V : Int) (a : Option Addr) (cap : Nat) (fs : List Int) (w : World) (hx : SlI w w.heap.size a fs) (hl : fs.length ≤ 1048576) (h : ¬ IsC V fs) :
    Calls Try.prog 61 #[.agg #[.int .i64 V, .slice a fs.length cap]] w fun e w' => e = .returned (.bool false) ∧ Below w.heap.size w w' :=
  (implIsComplex V a cap fs w hx hl).mono fun _ _ ⟨he, hw⟩ => ⟨by rw [he, isCB_false h], hw⟩

end Go.Proofs.Ytbaljngbmokiiaa

/-! Faces that are wanted: the program's loop over them, whatever it asks. -/
namespace Go.Proofs.Ytbaljngbmokiiaa
open Go.RowKit

/-- A result: a slice of int64 in new memory. -/
def Res (w w' : World) (v : Value) (xs : List Int) : Prop := w'.ownsRow w.heap.size 2 1 v xs.length (xs.map (Value.int .i64)) ∧ Below w.heap.size w w'

theorem Res.later {w0 w w' : World} {v : Value} {xs : List Int} (h : Res w w' v xs) (h0 : Below w0.heap.size w0 w) : Res w0 w' v xs :=
  ⟨ownsRow_base h.1 h0.size, h0.trans (h.2.mono h0.size)⟩

theorem Res.after {w w' w2 : World} {v : Value} {xs : List Int} (h : Res w w' v xs) (h2 : Below w'.heap.size w' w2) : Res w w2 v xs :=
  ⟨ownsRow_below h.1 h2 (fun g hg => (h.1.lt g hg).2), h.2.trans (h2.mono h.2.size)⟩

theorem res_nil (w w' : World) (h : Below w.heap.size w w') : Res w w' (.slice none 0 0) [] := ⟨World.ownsRow_nil _ _ _ _, h⟩

set_option maxHeartbeats 1000000 in
theorem fw_any (V : Int) (a : Option Addr) (cap : Nat) (fs : List Int) (w : World) (fid : Nat) (c1 : Value) (p : Int → Bool) (hx : SlI w w.heap.size a fs) (hl : fs.length ≤ 1048576)
    (hent : ∀ args w, (callFunc fid args).run Try.prog w = .ok (.enter fid args) w)
    (hcl : ∀ W' x, Below w.heap.size w W' → x ∈ fs → Calls Try.prog fid #[.int .i64 x, c1] W' fun e w' => e = .returned (.bool (p x)) ∧ Below W'.heap.size W' w') :
    Calls Try.prog 135 #[.agg #[.int .i64 V, .slice a fs.length cap], .func (.func fid) #[] #[c1]] w fun e w' => ∃ v, e = .returned v ∧ Res w w' v (fs.filter p) := by
  have hB0 : Below w.heap.size w (w.alloc (.cells #[.int .i64 V, .slice a fs.length cap] 26)) := (Below.refl _ w).alloc (Nat.le_refl _) _
  rcases hx with rfl | ⟨b, off, hb, rfl, hc⟩
  · clear hcl
    go_enter Try.func135, Try.ntmps135
    go_wp2
    refine wp_loop_rounds 1 ?_; rw [rounds_succ]
    go_wp2
    go_ret
    exact ⟨_, rfl, res_nil _ _ hB0⟩
  · have Hcl := hid hcl
    have Hc := hid hc
    clear hcl hc
    go_enter Try.func135, Try.ntmps135
    go_wp2
    go_loopw [5, 11] (fun v i wr => ∃ k : Nat, k ≤ fs.length ∧ i = .int .i64 k ∧ wr.ownsRow w.heap.size 2 1 v ((fs.take k).filter p).length (((fs.take k).filter p).map (Value.int .i64)) ∧
        Below w.heap.size w wr) (fun _ i _ => fs.length - (intOf i).toNat)
    case atStart => exact ⟨0, Nat.zero_le _, rfl, World.ownsRow_nil _ _ _ _, hB0⟩
    case round =>
      obtain ⟨k, hk, rfl, hown, hB⟩ := hrel
      by_cases hlt : k < fs.length
      · obtain ⟨x, hx⟩ : ∃ x, x = fs[k]?.getD 0 := ⟨_, rfl⟩
        have hck : wr.cell? ⟨b, off + k, none⟩ = some (.int .i64 x) := by rw [hx]; exact (hB.cell (p := ⟨b, off + k, none⟩) hb).trans (Hc.out k hlt)
        have hxm : x ∈ fs := by rw [hx]; exact getD_mem hlt
        have Hx := hid hx
        have hi0 : (0 : Int) ≤ (k : Int) := by omega
        have hi1 : (k : Int) < (fs.length : Int) := by omega
        have hcall := Hcl.out wr x hB hxm
        have Hcall := hid hcall
        clear hx hcall hxm
        have hsz := hB.size
        have hfl : ((fs.take k).filter p).length ≤ 1048576 := Nat.le_trans (List.length_filter_le _ _) (by simp; omega)
        go_wp2_with fail
        refine Hcall.out.mono ?_
        rintro e w1 ⟨rfl, hB1⟩
        have hB1' : Below w.heap.size w w1 := hB.trans (hB1.mono hsz)
        have hsz1 := hB1'.size
        have hown1 := ownsRow_below hown hB1 (fun g hg => (hown.lt g hg).2)
        have Hp : Hid (∀ c, p x = c → (fs.take (k + 1)).filter p = (fs.take k).filter p ++ (if c then [x] else [])) := hid (fun c hc => by
          rw [take_snoc hlt, List.filter_append, ← Hx.out]
          cases c <;> simp [hc])
        clear hown hck
        by_cases hpx : p x = true
        · have HP := hid (Hp.out true hpx)
          go_wp2_with (at_builtin; refine append_int rfl rfl hown1 hsz1 (by omega) rfl rfl ?_; intro v' w2 hown2 hgrow2 hB2)
          go_roundw
          case rel => exact ⟨k + 1, by omega, by go_num, by rw [HP.out]; exact hown2, hB1'.trans hB2⟩
          case measure => simp [intOf]; omega
        · have hpf : p x = false := by simpa using hpx
          have HP := hid (Hp.out false hpf)
          go_wp2_with fail
          go_roundw
          case rel => exact ⟨k + 1, by omega, by go_num, by rw [HP.out]; simpa using hown1, hB1'⟩
          case measure => simp [intOf]; omega
      · go_wp2
        go_ret
        obtain rfl : k = fs.length := by omega
        exact ⟨_, rfl, by simpa using hown, hB⟩

set_option maxHeartbeats 1000000 in
theorem fw_any2 (V : Int) (a : Option Addr) (cap : Nat) (fs : List Int) (w : World) (fid : Nat) (c1 c2 : Value) (p : Int → Bool) (hx : SlI w w.heap.size a fs) (hl : fs.length ≤ 1048576)
    (hent : ∀ args w, (callFunc fid args).run Try.prog w = .ok (.enter fid args) w)
    (hcl : ∀ W' x, Below w.heap.size w W' → x ∈ fs → Calls Try.prog fid #[.int .i64 x, c1, c2] W' fun e w' => e = .returned (.bool (p x)) ∧ Below W'.heap.size W' w') :
    Calls Try.prog 135 #[.agg #[.int .i64 V, .slice a fs.length cap], .func (.func fid) #[] #[c1, c2]] w fun e w' => ∃ v, e = .returned v ∧ Res w w' v (fs.filter p) := by
  have hB0 : Below w.heap.size w (w.alloc (.cells #[.int .i64 V, .slice a fs.length cap] 26)) := (Below.refl _ w).alloc (Nat.le_refl _) _
  rcases hx with rfl | ⟨b, off, hb, rfl, hc⟩
  · clear hcl
    go_enter Try.func135, Try.ntmps135
    go_wp2
    refine wp_loop_rounds 1 ?_; rw [rounds_succ]
    go_wp2
    go_ret
    exact ⟨_, rfl, res_nil _ _ hB0⟩
  · have Hcl := hid hcl
    have Hc := hid hc
    clear hcl hc
    go_enter Try.func135, Try.ntmps135
    go_wp2
    go_loopw [5, 11] (fun v i wr => ∃ k : Nat, k ≤ fs.length ∧ i = .int .i64 k ∧ wr.ownsRow w.heap.size 2 1 v ((fs.take k).filter p).length (((fs.take k).filter p).map (Value.int .i64)) ∧
        Below w.heap.size w wr) (fun _ i _ => fs.length - (intOf i).toNat)
    case atStart => exact ⟨0, Nat.zero_le _, rfl, World.ownsRow_nil _ _ _ _, hB0⟩
    case round =>
      obtain ⟨k, hk, rfl, hown, hB⟩ := hrel
      by_cases hlt : k < fs.length
      · obtain ⟨x, hx⟩ : ∃ x, x = fs[k]?.getD 0 := ⟨_, rfl⟩
        have hck : wr.cell? ⟨b, off + k, none⟩ = some (.int .i64 x) := by rw [hx]; exact (hB.cell (p := ⟨b, off + k, none⟩) hb).trans (Hc.out k hlt)
        have hxm : x ∈ fs := by rw [hx]; exact getD_mem hlt
        have Hx := hid hx
        have hi0 : (0 : Int) ≤ (k : Int) := by omega
        have hi1 : (k : Int) < (fs.length : Int) := by omega
        have hcall := Hcl.out wr x hB hxm
        have Hcall := hid hcall
        clear hx hcall hxm
        have hsz := hB.size
        have hfl : ((fs.take k).filter p).length ≤ 1048576 := Nat.le_trans (List.length_filter_le _ _) (by simp; omega)
        go_wp2_with fail
        refine Hcall.out.mono ?_
        rintro e w1 ⟨rfl, hB1⟩
        have hB1' : Below w.heap.size w w1 := hB.trans (hB1.mono hsz)
        have hsz1 := hB1'.size
        have hown1 := ownsRow_below hown hB1 (fun g hg => (hown.lt g hg).2)
        have Hp : Hid (∀ c, p x = c → (fs.take (k + 1)).filter p = (fs.take k).filter p ++ (if c then [x] else [])) := hid (fun c hc => by
          rw [take_snoc hlt, List.filter_append, ← Hx.out]
          cases c <;> simp [hc])
        clear hown hck
        by_cases hpx : p x = true
        · have HP := hid (Hp.out true hpx)
          go_wp2_with (at_builtin; refine append_int rfl rfl hown1 hsz1 (by omega) rfl rfl ?_; intro v' w2 hown2 hgrow2 hB2)
          go_roundw
          case rel => exact ⟨k + 1, by omega, by go_num, by rw [HP.out]; exact hown2, hB1'.trans hB2⟩
          case measure => simp [intOf]; omega
        · have hpf : p x = false := by simpa using hpx
          have HP := hid (Hp.out false hpf)
          go_wp2_with fail
          go_roundw
          case rel => exact ⟨k + 1, by omega, by go_num, by rw [HP.out]; simpa using hown1, hB1'⟩
          case measure => simp [intOf]; omega
      · go_wp2
        go_ret
        obtain rfl : k = fs.length := by omega
        exact ⟨_, rfl, by simpa using hown, hB⟩

end Go.Proofs.Ytbaljngbmokiiaa

/-! slices.Contains on a list of int64. -/
namespace Go.Proofs.Ytbaljngbmokiiaa
open Go.RowKit

set_option maxRecDepth 100000 in
set_option maxHeartbeats 1000000 in
theorem index_any (a : Option Addr) (cap : Nat) (xs : List Int) (x : Int) (w : World) (hx : SlI w w.heap.size a xs) (hl : xs.length ≤ 1048576) :
    Calls Try.prog 203 #[.slice a xs.length cap, .int .i64 x] w fun e w' => ∃ i : Int, e = .returned (.int .i64 i) ∧ -1 ≤ i ∧ (0 ≤ i ↔ x ∈ xs) ∧ w = w' := by
  rcases hx with rfl | ⟨b, off, hb, rfl, hc⟩
  · go_enter Try.func203, Try.ntmps203
    go_wp2
    refine wp_loop_rounds 1 ?_; rw [rounds_succ]
    go_wp2
    go_ret
    exact ⟨-1, rfl, by decide, by simp, rfl⟩
  · have Hc := hid hc
    clear hc
    go_enter Try.func203, Try.ntmps203
    go_wp2
    go_loop [8] (fun i => ∃ k : Nat, k ≤ xs.length ∧ i = .int .i64 k ∧ Hid (x ∉ xs.take k)) (fun i => xs.length - (intOf i).toNat)
    case atStart => exact ⟨0, Nat.zero_le _, rfl, hid (by simp)⟩
    case round =>
      obtain ⟨k, hk, rfl, Hk⟩ := hrel
      by_cases hlt : k < xs.length
      · obtain ⟨y, hy⟩ : ∃ y, y = xs[k]?.getD 0 := ⟨_, rfl⟩
        have hck : w.cell? ⟨b, off + k, none⟩ = some (.int .i64 y) := by rw [hy]; exact Hc.out k hlt
        have Hy := hid hy
        have hi0 : (0 : Int) ≤ (k : Int) := by omega
        have hi1 : (k : Int) < (xs.length : Int) := by omega
        clear hy
        by_cases hxy : x = y
        · have hd : (x == y) = true := by simp [hxy]
          have He : Hid (x ∈ xs) := hid (by rw [hxy, Hy.out]; exact getD_mem hlt)
          clear hxy
          go_wp2
          go_ret
          exact ⟨k, rfl, by omega, ⟨fun _ => He.out, fun _ => by omega⟩, rfl⟩
        · have hd : (x == y) = false := by simp [hxy]
          have He : Hid (x ∉ xs.take (k + 1)) := hid (by
            rw [take_snoc hlt, ← Hy.out]
            intro h
            rcases List.mem_append.1 h with h | h
            · exact Hk.out h
            · simp at h; exact hxy h)
          clear hxy
          go_wp2
          go_round
          case rel => exact ⟨k + 1, by omega, by go_num, He.out⟩
          case measure => simp [intOf]; omega
      · have He : Hid (x ∉ xs) := hid (by have := Hk.out; rwa [List.take_of_length_le (by omega)] at this)
        go_wp2
        go_ret
        exact ⟨-1, rfl, by decide, ⟨fun h => absurd h (by decide), fun h => absurd h He.out⟩, rfl⟩

set_option maxRecDepth 100000 in
set_option maxHeartbeats 1000000 in
theorem contains_any (a : Option Addr) (cap : Nat) (xs : List Int) (x : Int) (w : World) (hx : SlI w w.heap.size a xs) (hl : xs.length ≤ 1048576) :
    Calls Try.prog 158 #[.slice a xs.length cap, .int .i64 x] w fun e w' => e = .returned (.bool (decide (x ∈ xs))) ∧ w = w' := by
  have HI := hid (index_any a cap xs x w hx hl)
  obtain ⟨c, hc⟩ : ∃ c, c = decide (x ∈ xs) := ⟨_, rfl⟩
  have Hc := hid hc
  rw [← hc]
  clear hc hx
  go_enter Try.func158, Try.ntmps158
  go_wp2_with fail
  refine HI.out.mono ?_
  rintro e w' ⟨i, rfl, h1, h2, rfl⟩
  have Hi := hid h2
  have H1 := hid h1
  clear h1 h2
  by_cases h0 : 0 ≤ i
  · have He : Hid (c = true) := hid (by rw [Hc.out]; exact decide_eq_true (Hi.out.1 h0))
    go_wp2_with fail
    go_ret
    exact ⟨ret_bool (by rw [He.out]), rfl⟩
  · have He : Hid (c = false) := hid (by rw [Hc.out]; exact decide_eq_false (fun h => h0 (Hi.out.2 h)))
    have hlt : i < 0 := by omega
    go_wp2_with fail
    go_ret
    exact ⟨ret_bool (by rw [He.out]; simp [hlt]), rfl⟩

end Go.Proofs.Ytbaljngbmokiiaa

/-! Functions on the faces: the model's l04At, l04Is, l04Code. -/
namespace Go.Proofs.Ytbaljngbmokiiaa
open Go.RowKit

/-- The number at a face: that at its first place. -/
def numAt (fs gs : List Int) (x : Int) : Int := match (List.range gs.length).find? (fun i => decide (fs[i]?.getD 0 = x)) with
  | some i => gs[i]?.getD 0
  | none => 0
theorem numAt_some {fs gs : List Int} {x : Int} {i : Nat} (hi : i < gs.length) (hx : fs[i]?.getD 0 = x) (h : ∀ j, j < i → fs[j]?.getD 0 ≠ x) : numAt fs gs x = gs[i]?.getD 0 := by
  have : (List.range gs.length).find? (fun i => decide (fs[i]?.getD 0 = x)) = some i := by
    rw [List.find?_range_eq_some]
    exact ⟨by simp [hx], by simpa using hi, fun j hj => by simpa using h j hj⟩
  unfold numAt
  rw [this]
theorem numAt_none {fs gs : List Int} {x : Int} (h : ∀ j, j < gs.length → fs[j]?.getD 0 ≠ x) : numAt fs gs x = 0 := by
  have : (List.range gs.length).find? (fun i => decide (fs[i]?.getD 0 = x)) = none := by
    rw [List.find?_range_eq_none]
    intro j hj
    simpa using h j hj
  unfold numAt
  rw [this]

set_option maxRecDepth 100000 in
set_option maxHeartbeats 2000000 in
theorem at_any (V : Int) (a0 : Option Addr) (cap : Nat) (fs : List Int) (a1 : Option Addr) (cap1 : Nat) (gs : List Int) (x : Int) (w : World) (hx : SlI w w.heap.size a0 fs) (hx1 : SlI w w.heap.size a1 gs) (hl : fs.length ≤ 1048576) (hg : gs.length = fs.length) :
    Calls Try.prog 77 #[.agg #[.int .i64 V, .slice a0 fs.length cap], .slice a1 gs.length cap1, .int .i64 x] w fun e w' => e = .returned (.int .i64 (numAt fs gs x)) ∧ Below w.heap.size w w' := by
  have hB0 : Below w.heap.size w (w.alloc (.cells #[.int .i64 V, .slice a0 fs.length cap] 26)) := (Below.refl _ w).alloc (Nat.le_refl _) _
  have HB0 := hid hB0
  have Hx := hid hx
  have Hy := hid hx1
  have Hg := hid hg
  obtain ⟨E, hE⟩ : ∃ E, E = numAt fs gs x := ⟨_, rfl⟩
  rw [← hE]
  have HE := hid hE
  clear hx hx1 hB0 hE
  go_enter Try.func77, Try.ntmps77
  go_wp2_with fail
  go_loopw [7] (fun i wr => ∃ k : Nat, k ≤ gs.length ∧ i = .int .i64 k ∧ Hid (∀ j, j < k → fs[j]?.getD 0 ≠ x) ∧ wr = w.alloc (.cells #[.int .i64 V, .slice a0 fs.length cap] 26)) (fun i _ => gs.length - (intOf i).toNat)
  case atStart => exact ⟨0, Nat.zero_le _, rfl, hid (fun j hj => absurd hj (Nat.not_lt_zero _)), rfl⟩
  case round =>
    obtain ⟨k, hk, rfl, Hk, rfl⟩ := hrel
    by_cases hlt : k < gs.length
    · obtain ⟨b, off, hb, rfl, hc⟩ : ∃ b off, b < w.heap.size ∧ a0 = some ⟨b, off, none⟩ ∧ ∀ i, i < fs.length → w.cell? ⟨b, off + i, none⟩ = some (.int .i64 (fs[i]?.getD 0)) := by
        rcases Hx.out with h | h
        · rw [h] at hg; rw [hg] at hlt; simp at hlt
        · exact h
      obtain ⟨b2, off2, hb2, rfl, hc2⟩ : ∃ b off, b < w.heap.size ∧ a1 = some ⟨b, off, none⟩ ∧ ∀ i, i < gs.length → w.cell? ⟨b, off + i, none⟩ = some (.int .i64 (gs[i]?.getD 0)) := by
        rcases Hy.out with h | h
        · rw [h] at hlt; simp at hlt
        · exact h
      obtain ⟨f, hf⟩ : ∃ f, f = fs[k]?.getD 0 := ⟨_, rfl⟩
      obtain ⟨g, hgv⟩ : ∃ g, g = gs[k]?.getD 0 := ⟨_, rfl⟩
      have d1 := (HB0.out.cell (p := ⟨b, off + k, none⟩) hb).trans (hc k (by omega))
      have d2 := (HB0.out.cell (p := ⟨b2, off2 + k, none⟩) hb2).trans (hc2 k hlt)
      rw [← hf] at d1
      rw [← hgv] at d2
      have hi0 : (0 : Int) ≤ (k : Int) := by omega
      have hi1 : (k : Int) < (gs.length : Int) := by omega
      have hi2 : (k : Int) < (fs.length : Int) := by omega
      have Hf := hid hf
      have Hgv := hid hgv
      clear hc hc2 hf hgv hg
      by_cases hfx : f = x
      · have hd : (f == x) = true := by simp [hfx]
        have He : Hid (E = g) := hid (by rw [HE.out, numAt_some hlt (by rw [← Hf.out]; exact hfx) Hk.out, Hgv.out])
        clear hfx
        go_wp2_with fail
        go_ret
        exact ⟨ret_int (by rw [He.out]), HB0.out⟩
      · have hd : (f == x) = false := by simp [hfx]
        have He : Hid (∀ j, j < k + 1 → fs[j]?.getD 0 ≠ x) := hid (fun j hj => by
          by_cases e : j = k
          · subst e; rw [← Hf.out]; exact hfx
          · exact Hk.out j (by omega))
        clear hfx
        go_wp2_with fail
        go_roundw
        case rel => exact ⟨k + 1, by omega, by go_num, He, by first | rfl | trivial⟩
        case measure => simp [intOf]; omega
    · have He : Hid (E = 0) := hid (by rw [HE.out, numAt_none (fun j hj => Hk.out j (by omega))])
      clear hg
      go_wp2_with fail
      go_ret
      exact ⟨ret_int (by rw [He.out]), HB0.out⟩

/-- A function: a number from -1000 to 1000 for each face. -/
def isFnB (fs gs : List Int) : Bool := decide (gs.length = fs.length) && gs.all fun x => decide (-1000 ≤ x) && decide (x ≤ 1000)
theorem isFn_len {fs gs : List Int} (h : isFnB fs gs = true) : gs.length = fs.length := by
  unfold isFnB at h
  simp at h
  exact h.1

set_option maxRecDepth 100000 in
set_option maxHeartbeats 2000000 in
theorem fnIs_any (V : Int) (a0 : Option Addr) (cap : Nat) (fs : List Int) (a1 : Option Addr) (cap1 : Nat) (gs : List Int) (w : World) (hx1 : SlI w w.heap.size a1 gs) (_hl : fs.length ≤ 1048576) (hg : gs.length ≤ 1048576) :
    Calls Try.prog 128 #[.agg #[.int .i64 V, .slice a0 fs.length cap], .slice a1 gs.length cap1] w fun e w' => e = .returned (.bool (isFnB fs gs)) ∧ Below w.heap.size w w' := by
  have hB0 : Below w.heap.size w (w.alloc (.cells #[.int .i64 V, .slice a0 fs.length cap] 26)) := (Below.refl _ w).alloc (Nat.le_refl _) _
  have HB0 := hid hB0
  have Hy := hid hx1
  obtain ⟨E, hE⟩ : ∃ E, E = isFnB fs gs := ⟨_, rfl⟩
  rw [← hE]
  have HE := hid hE
  clear hx1 hB0 hE
  by_cases hlen : gs.length = fs.length
  · have hd : ((gs.length : Int) != (fs.length : Int)) = false := by simp; omega
    have HE2 : Hid (E = gs.all fun x => decide (-1000 ≤ x) && decide (x ≤ 1000)) := hid (by rw [HE.out]; unfold isFnB; simp [hlen])
    obtain ⟨m, hm⟩ : ∃ m, m = gs.length := ⟨_, rfl⟩
    have Hm := hid hm
    rw [← hm] at hg hd ⊢
    clear hm hlen
    go_enter Try.func128, Try.ntmps128
    go_wp2_with fail
    go_loopw [5] (fun i wr => ∃ k : Nat, k ≤ m ∧ i = .int .i64 k ∧ Hid ((gs.take k).all (fun x => decide (-1000 ≤ x) && decide (x ≤ 1000)) = true) ∧ wr = w.alloc (.cells #[.int .i64 V, .slice a0 fs.length cap] 26)) (fun i _ => m - (intOf i).toNat)
    case atStart => exact ⟨0, Nat.zero_le _, rfl, hid (by simp), rfl⟩
    case round =>
      obtain ⟨k, hk, rfl, Hk, rfl⟩ := hrel
      by_cases hlt : k < m
      · obtain ⟨b2, off2, hb2, rfl, hc2⟩ : ∃ b off, b < w.heap.size ∧ a1 = some ⟨b, off, none⟩ ∧ ∀ i, i < gs.length → w.cell? ⟨b, off + i, none⟩ = some (.int .i64 (gs[i]?.getD 0)) := by
          rcases Hy.out with h | h
          · have := Hm.out; rw [h] at this; simp at this; omega
          · exact h
        obtain ⟨g, hgv⟩ : ∃ g, g = gs[k]?.getD 0 := ⟨_, rfl⟩
        have d2 := (HB0.out.cell (p := ⟨b2, off2 + k, none⟩) hb2).trans (hc2 k (by have := Hm.out; omega))
        rw [← hgv] at d2
        have hi0 : (0 : Int) ≤ (k : Int) := by omega
        have hi1 : (k : Int) < (m : Int) := by omega
        have Hgv := hid hgv
        have Hsn : Hid (gs.take (k + 1) = gs.take k ++ [g]) := hid (by rw [take_snoc (by have := Hm.out; omega), hgv])
        clear hc2 hgv
        cases hin : (decide (-1000 ≤ g) && decide (g ≤ 1000))
        · have HI := hid (fun w' => in_any g (-1000) 1000 w')
          rw [hin] at HI
          have He : Hid (E = false) := hid (by
            rw [HE2.out]
            rw [List.all_eq_false]
            exact ⟨g, by rw [Hgv.out]; exact getD_mem (by have := Hm.out; omega), by rw [hin]; simp⟩)
          clear hin
          go_wp2_with (go_at_call 82; refine (HI.out _).mono ?_; rintro e w' ⟨rfl, rfl⟩)
          go_ret
          exact ⟨ret_bool (by rw [He.out]), HB0.out⟩
        · have HI := hid (fun w' => in_any g (-1000) 1000 w')
          rw [hin] at HI
          have He : Hid ((gs.take (k + 1)).all (fun x => decide (-1000 ≤ x) && decide (x ≤ 1000)) = true) := hid (by rw [Hsn.out, List.all_append, Hk.out]; simp only [List.all_cons, List.all_nil, hin, Bool.and_self])
          clear hin
          go_wp2_with (go_at_call 82; refine (HI.out _).mono ?_; rintro e w' ⟨rfl, rfl⟩)
          go_roundw
          case rel => exact ⟨k + 1, by omega, by go_num, He, by first | rfl | trivial⟩
          case measure => simp [intOf]; omega
      · have He : Hid (E = true) := hid (by
          have h2 := Hk.out
          rw [List.take_of_length_le (by have := Hm.out; omega)] at h2
          rw [HE2.out, h2])
        go_wp2_with fail
        go_ret
        exact ⟨ret_bool (by rw [He.out]), HB0.out⟩
  · have hd : ((gs.length : Int) != (fs.length : Int)) = true := by simp; omega
    have He : Hid (E = false) := hid (by rw [HE.out]; unfold isFnB; simp [hlen])
    clear hlen
    go_enter Try.func128, Try.ntmps128
    go_wp2_with fail
    go_ret
    exact ⟨ret_bool (by rw [He.out]), HB0.out⟩

noncomputable def code4R (V : Int) (fs : List Int) (ls : List (List Int)) : Int := if isCB V fs then (if ls.all (isFnB fs) then 0 else 2) else 1

set_option maxRecDepth 1000000 in
set_option maxHeartbeats 2000000 in
theorem code4_any (V : Int) (a0 : Option Addr) (cap : Nat) (fs : List Int) (bs : Nat) (gl : List (Option Addr × Nat × List Int)) (w : World) (hx : SlI w w.heap.size a0 fs) (hl : fs.length ≤ 1048576) (hbs : bs < w.heap.size)
    (hcl : ∀ i, i < gl.length → ∃ a c g, gl[i]? = some (a, c, g) ∧ w.cell? ⟨bs, i, none⟩ = some (.slice a g.length c)) (hgs : ∀ q ∈ gl, SlI w w.heap.size q.1 q.2.2 ∧ q.2.2.length ≤ 1048576) (hgl : gl.length ≤ 1048576) :
    Calls Try.prog 65 #[.agg #[.int .i64 V, .slice a0 fs.length cap], .slice (some ⟨bs, 0, none⟩) gl.length gl.length] w fun e w' => e = .returned (.int .i64 (code4R V fs (gl.map fun q => q.2.2))) ∧ Below w.heap.size w w' := by
  have hB0 : Below w.heap.size w (w.alloc (.cells #[.int .i64 V, .slice a0 fs.length cap] 26)) := (Below.refl _ w).alloc (Nat.le_refl _) _
  have Hx := hid (hx.later hB0 hB0.size)
  have HB0 := hid hB0
  have Hcl := hid hcl
  have Hgs := hid hgs
  obtain ⟨E, hE⟩ : ∃ E, E = code4R V fs (gl.map fun q => q.2.2) := ⟨_, rfl⟩
  rw [← hE]
  by_cases hC : IsC V fs
  · have HE : Hid (E = if (gl.map fun q => q.2.2).all (isFnB fs) then 0 else 2) := hid (by rw [hE, code4R, isCB_true hC, if_pos rfl])
    obtain ⟨m, hm⟩ : ∃ m, m = gl.length := ⟨_, rfl⟩
    have Hm := hid hm
    rw [← hm] at hgl ⊢
    clear hx hB0 hcl hgs hE hm
    go_enter Try.func65, Try.ntmps65
    go_wp2_with fail
    refine (is_yes V a0 cap fs _ Hx.out hl hC).mono ?_
    rintro e w1 ⟨rfl, hB1⟩
    have HB1 := hid (HB0.out.trans (hB1.mono (by simp)))
    have k0 : w1.cell? ⟨w.heap.size, 0, none⟩ = some (.int .i64 V) := (hB1.cell (p := ⟨w.heap.size, 0, none⟩) (by simp)).trans (by simp [go_sem])
    have k1 : w1.cell? ⟨w.heap.size, 1, none⟩ = some (.slice a0 fs.length cap) := (hB1.cell (p := ⟨w.heap.size, 1, none⟩) (by simp)).trans (by simp [go_sem])
    have hs1 : w.heap.size < w1.heap.size := by have := hB1.size; simp at this; omega
    have K0 := hid k0
    have K1 := hid k1
    clear hB1 k0 k1
    go_wp2_with fail
    go_loopw [5] (fun i wr => ∃ k : Nat, k ≤ m ∧ i = .int .i64 k ∧ Hid (((gl.take k).map fun q => q.2.2).all (isFnB fs) = true) ∧ Below w1.heap.size w1 wr) (fun i _ => m - (intOf i).toNat)
    case atStart => exact ⟨0, Nat.zero_le _, rfl, hid (by simp), Below.refl _ _⟩
    case round =>
      obtain ⟨k, hk, rfl, Hk, hB⟩ := hrel
      by_cases hlt : k < m
      · obtain ⟨a, c, g, hgk, hck⟩ := Hcl.out k (by have := Hm.out; omega)
        have hmem : (a, c, g) ∈ gl := List.mem_of_getElem? hgk
        obtain ⟨hsg, hlg⟩ := Hgs.out _ hmem
        have hBw := HB1.out.trans (hB.mono HB1.out.size)
        have d1 := (hBw.cell (p := ⟨bs, k, none⟩) hbs).trans hck
        have k0 := (hB.cell (p := ⟨w.heap.size, 0, none⟩) hs1).trans K0.out
        have k1 := (hB.cell (p := ⟨w.heap.size, 1, none⟩) hs1).trans K1.out
        have HI := hid (fnIs_any V a0 cap fs a c g wr.drew (hsg.later (hBw.trans (below_drewN (Below.refl _ wr) 1 |>.mono hBw.size)) (hBw.trans (below_drewN (Below.refl _ wr) 1 |>.mono hBw.size)).size) hl hlg)
        have hi0 : (0 : Int) ≤ (k : Int) := by omega
        have hi1 : (k : Int) < (m : Int) := by omega
        have HBd := hid (hBw.trans (below_drewN (Below.refl _ wr) 1 |>.mono hBw.size))
        have HBr := hid (hB.trans (below_drewN (Below.refl _ wr) 1 |>.mono hB.size))
        have Hsn : Hid (gl.take (k + 1) = gl.take k ++ [(a, c, g)]) := hid (by
          rw [List.take_add_one, hgk]
          rfl)
        have Hmem := hid hmem
        clear hsg hBw hB hck hgk hmem
        cases hf : isFnB fs g
        · rw [hf] at HI
          have He : Hid (E = 2) := hid (by
            rw [HE.out, if_neg]
            rw [Bool.not_eq_true, List.all_eq_false]
            exact ⟨g, List.mem_map.2 ⟨_, Hmem.out, rfl⟩, by rw [hf]; simp⟩)
          clear hf
          go_wp2_with fail
          go_region_with (go_at_call 128; refine HI.out.mono ?_; rintro e w2 ⟨rfl, hB2⟩; have HB2 := hid hB2; clear hB2)
          all_goals
            have HB3 := hid (HBd.out.trans (HB2.out.mono HBd.out.size))
            go_wp2_with fail
            go_ret
            exact ⟨ret_int (by rw [He.out]), HB3.out⟩
        · rw [hf] at HI
          have He : Hid (((gl.take (k + 1)).map fun q => q.2.2).all (isFnB fs) = true) := hid (by rw [Hsn.out, List.map_append, List.all_append, Hk.out]; simp only [List.map_cons, List.map_nil, List.all_cons, List.all_nil, hf, Bool.and_self])
          clear hf
          go_wp2_with fail
          go_region_with (go_at_call 128; refine HI.out.mono ?_; rintro e w2 ⟨rfl, hB2⟩; have HB2 := hid hB2; clear hB2)
          all_goals
            have HB3 := hid (HBr.out.trans (HB2.out.mono HBr.out.size))
            go_wp2_with fail
            go_roundw
            case rel => exact ⟨k + 1, by omega, by go_num, He, HB3.out⟩
            case measure => simp [intOf]; omega
      · have He : Hid (E = 0) := hid (by
          have h2 := Hk.out
          rw [List.take_of_length_le (by have := Hm.out; omega)] at h2
          rw [HE.out, h2, if_pos rfl])
        go_wp2_with fail
        go_ret
        exact ⟨ret_int (by rw [He.out]), HB1.out.trans (hB.mono HB1.out.size)⟩
  · have He : Hid (E = 1) := hid (by rw [hE, code4R, isCB_false hC, if_neg (by simp)])
    clear hx hB0 hcl hgs hE
    go_enter Try.func65, Try.ntmps65
    go_wp2_with fail
    refine (is_no V a0 cap fs _ Hx.out hl hC).mono ?_
    rintro e w1 ⟨rfl, hB1⟩
    go_wp2_with fail
    go_ret
    exact ⟨ret_int (by rw [He.out]), HB0.out.trans (hB1.mono (by simp))⟩

end Go.Proofs.Ytbaljngbmokiiaa

/-! Numbers of vertices. -/
namespace Go.Proofs.Ytbaljngbmokiiaa
open Go.RowKit

set_option maxHeartbeats 400000 in
theorem ones_any (f : Nat) (w : World) (hf : f < 64) :
    Calls Try.prog 71 #[.int .i64 (f : Int)] w fun e w' => e = .returned (.int .i64 (ones f : Int)) ∧ w = w' := by
  go_enter Try.func71, Try.ntmps71
  go_wp2
  go_loop [0, 3] (fun x c => ∃ r n : Nat, r ≤ 63 ∧ x = .int .i64 r ∧ c = .int .i64 n ∧ n ≤ 6 ∧ Hid (n + ones r = ones f)) (fun x _ => (intOf x).toNat)
  case atStart => exact ⟨f, 0, by omega, rfl, rfl, by omega, hid (by omega)⟩
  case round =>
    obtain ⟨r, n, hr, rfl, rfl, hn, Hn⟩ := hrel
    by_cases h0 : 0 < r
    · have h1 := ones_half (r := r) (by omega)
      have h2 := ones_le f
      have hn' : n + r % 2 ≤ 6 := by have := Hn.out; omega
      have Hn' : Hid (n + r % 2 + ones (r / 2) = ones f) := hid (by have := Hn.out; omega)
      clear h1 h2 Hn
      go_wp2
      go_round
      case rel => exact ⟨r / 2, n + r % 2, by omega, by go_num, by go_num, hn', Hn'⟩
      case measure => simp [intOf]; omega
    · obtain rfl : r = 0 := by omega
      have Hn' : Hid (n = ones f) := hid (by have := Hn.out; rw [ones_zero] at this; omega)
      go_wp2
      go_ret
      exact ⟨ret_int (by rw [← Hn'.out]), rfl⟩

set_option maxHeartbeats 400000 in
theorem oc_any (f : Nat) (w : World) (hf : f < 64) :
    Calls Try.prog 208 #[.int .u64 (f : Int)] w fun e w' => e = .returned (.int .i64 (ones f : Int)) ∧ w = w' := by
  go_enter Try.func208, Try.ntmps208
  go_wp2
  go_ret
  refine ⟨ret_int ?_, rfl⟩
  clear w
  revert hf
  revert f
  decide +kernel

set_option maxHeartbeats 400000 in
theorem dim_any (f : Nat) (w : World) (hf : f < 64) :
    Calls Try.prog 165 #[.int .i64 (f : Int)] w fun e w' => e = .returned (.int .i64 ((ones f : Int) - 1)) ∧ w = w' := by
  have ho := ones_le f
  go_enter Try.func165, Try.ntmps165
  go_wp2_with fail
  refine (oc_any f _ hf).mono ?_
  rintro e w' ⟨rfl, rfl⟩
  go_wp2_with fail
  go_ret
  exact ⟨rfl, rfl⟩

end Go.Proofs.Ytbaljngbmokiiaa

/-! 'out.Faces = append(out.Faces, x)' in the model's loops. -/
namespace Go.Proofs.Ytbaljngbmokiiaa
open Go.RowKit

theorem cell_alloc_drew {W : World} {p : Addr} {v : Value} (h : W.cell? p = some v) (n : Nat) (o : Obj) : ((W.drewN n).alloc o).cell? p = some v :=
  (World.cell?_alloc_some (W.drewN n) p o (show (W.cell? p).isSome = true by rw [h]; rfl)).trans h

theorem step_append_int {w : World} {ops : Array Oper} {o : Oper} {a : Act} {K : Act → World → Prop} {Q : Exit → Act → World → Prop} {E : Prop} (hgd : o.guard = none) {s y : Operand}
    (ho : o.op = .call { callee := .builtin .append, args := #[s, y], argTypes := #[22, 22] })
    {base : Nat} {v : Value} {xs : List Int} {x : Int} {ad : Addr} (hown : w.ownsRow base 2 1 v xs.length (xs.map (Value.int .i64))) (hbase : base ≤ w.heap.size) (hl : xs.length ≤ 1099511627776)
    (hs : a.eval s = v) (hy : a.eval y = .slice (some ad) 1 1) (hc : w.cell? (ad.add 0) = some (.int .i64 x))
    (hK : ∀ g cap w', w'.ownsRow base 2 1 (.slice (some ⟨g, 0, none⟩) (xs ++ [x]).length cap) (xs ++ [x]).length ((xs ++ [x]).map (Value.int .i64)) → w.grownBy w' v.ownBlock →
      K (a.put o.dst (.slice (some ⟨g, 0, none⟩) (xs ++ [x]).length cap)) w') :
    if Region.wanted o (yielded ops a.tmps) = true then Oper.wp Try.prog o a w K Q else E := by
  obtain ⟨i0, hi, hz0, hz1, hz2⟩ := info_parts info_i64
  refine step_append_lies w hgd s y 22 ho base 2 i0 (.int .i64 0) 1 8 Try.underlying22 hi hz0 hz1 hz2 rfl (by decide) v _ _ hs hown ad 1 1 [.int .i64 x] hy rfl ?_ (by simp [Value.oneCell']) (by decide) (by unfold maxLen; omega) (by omega) hbase _ rfl ?_
  · intro j u hu
    match j, hu with
    | 0, hu => simp at hu; subst hu; exact hc
  · intro g cap w1 hown1 hg _ _
    have e : (xs ++ [x]).length = xs.length + 1 := by simp
    have h := hK g cap w1 (by rw [e]; simpa using hown1) hg
    rw [e] at h
    exact h

/-- What the model's loops keep of the world while they build a complex in block Bo: B is the heap's size when the call began. -/
structure OutW (w W : World) (V : Int) (sl : Value) (Bo : Nat) (xs : List Int) (a : Option Addr) (c : Nat) : Prop where
  below : Below w.heap.size w W
  kbox : W.heap[w.heap.size]? = some (.cells #[.int .i64 V, sl] 26 (0, 0))
  res : W.heap[w.heap.size + 1]? = some (.cells #[.int .i64 0, .slice none 0 0] 26 (0, 0))
  out : W.heap[Bo]? = some (.cells #[.int .i64 V, .slice a xs.length c] 26 (0, 0))
  own : W.ownsRow w.heap.size 2 1 (.slice a xs.length c) xs.length (xs.map (Value.int .i64))
  bo : w.heap.size + 1 < Bo

/-- A block of another type is none of an owned row's. -/
theorem row_ne {W : World} {base e t : Nat} {v : Value} {n : Nat} {xs : List Value} {b : Nat} {cs : Array Value} {fz : Nat × Nat} (h : W.ownsRow base e 1 v n xs) (hb : W.heap[b]? = some (.cells cs t fz)) (hne : e ≠ t) : some b ≠ v.ownBlock := by
  intro he
  rcases h.2 with ⟨rfl, _⟩ | ⟨g, cap, cur, rfl, _, hg, _⟩
  · simp [Value.ownBlock] at he
  · simp [Value.ownBlock] at he
    subst he
    rw [hb] at hg
    simp at hg
    exact hne hg.2.1.symm

theorem lt_get {W : World} {b : Nat} {o : Obj} (h : W.heap[b]? = some o) : b < W.heap.size := (Array.getElem?_eq_some_iff.1 h).1

/-- Draws alone. -/
theorem OutW.drew {w W : World} {V : Int} {sl : Value} {Bo : Nat} {xs : List Int} {a : Option Addr} {c : Nat} (h : OutW w W V sl Bo xs a c) : OutW w W.drew V sl Bo xs a c :=
  ⟨⟨h.below.os, h.below.tape, h.below.output, h.below.size, h.below.block⟩, h.kbox, h.res, h.out, h.own, h.bo⟩

theorem OutW.drewN {w W : World} {V : Int} {sl : Value} {Bo : Nat} {xs : List Int} {a : Option Addr} {c : Nat} (h : OutW w W V sl Bo xs a c) (n : Nat) : OutW w (W.drewN n) V sl Bo xs a c :=
  ⟨⟨h.below.os, h.below.tape, h.below.output, h.below.size, h.below.block⟩, h.kbox, h.res, h.out, h.own, h.bo⟩

/-- Whatever keeps all that lay. -/
theorem OutW.later {w W W' : World} {V : Int} {sl : Value} {Bo : Nat} {xs : List Int} {a : Option Addr} {c : Nat} (h : OutW w W V sl Bo xs a c) (hb : Below W.heap.size W W') : OutW w W' V sl Bo xs a c where
  below := h.below.trans (hb.mono h.below.size)
  kbox := (hb.block _ (lt_get h.kbox)).trans h.kbox
  res := (hb.block _ (lt_get h.res)).trans h.res
  out := (hb.block _ (lt_get h.out)).trans h.out
  own := ownsRow_below h.own hb (fun g hg => (h.own.lt g hg).2)
  bo := h.bo

/-- A face more. -/
theorem OutW.step {w W w2 : World} {V : Int} {sl : Value} {Bo : Nat} {xs : List Int} {a : Option Addr} {c : Nat} (h : OutW w W V sl Bo xs a c) {x : Int} {g cap : Nat} {o : Obj}
    (hown : w2.ownsRow w.heap.size 2 1 (.slice (some ⟨g, 0, none⟩) (xs ++ [x]).length cap) (xs ++ [x]).length ((xs ++ [x]).map (Value.int .i64))) (hg : (W.alloc o).grownBy w2 (Value.ownBlock (.slice a xs.length c))) :
    OutW w (w2.setCell ⟨Bo, 1, none⟩ (.slice (some ⟨g, 0, none⟩) (xs ++ [x]).length cap)) V sl Bo (xs ++ [x]) (some ⟨g, 0, none⟩) cap := by
  have hgr : W.grownBy w2 (Value.ownBlock (.slice a xs.length c)) := (World.grownBy_alloc W o _).trans hg
  have hbo := h.bo
  have k2 := (hgr.block _ (lt_get h.kbox) (row_ne h.own h.kbox (by decide))).trans h.kbox
  have r2 := (hgr.block _ (lt_get h.res) (row_ne h.own h.res (by decide))).trans h.res
  have o2 := (hgr.block _ (lt_get h.out) (row_ne h.own h.out (by decide))).trans h.out
  refine ⟨?_, ?_, ?_, ?_, ?_, h.bo⟩
  · exact (h.below.grown hgr h.below.size (fun k hk => (h.own.lt k hk).1)).setCell (p := ⟨Bo, 1, none⟩) (by simp only; omega) _
  · exact (Below.heap_setCell _ _ _ _ (by simp only; omega)).trans k2
  · exact (Below.heap_setCell _ _ _ _ (by simp only; omega)).trans r2
  · simp only [World.setCell, Array.getElem?_modify, o2]
    simp
  · exact ownsRow_set hown (by
      have := row_ne hown o2 (by decide)
      exact fun e => this e.symm) _

theorem outW_start {w W : World} {V : Int} {sl : Value} (hB : Below w.heap.size w W) (hk : W.heap[w.heap.size]? = some (.cells #[.int .i64 V, sl] 26 (0, 0)))
    (hr : W.heap[w.heap.size + 1]? = some (.cells #[.int .i64 0, .slice none 0 0] 26 (0, 0))) :
    OutW w ((W.alloc (.cells #[] 2)).alloc (.cells #[.int .i64 V, .slice (some ⟨W.heap.size, 0, none⟩) 0 0] 26)) V sl (W.heap.size + 1) [] (some ⟨W.heap.size, 0, none⟩) 0 where
  below := (hB.alloc hB.size _).alloc (by have := hB.size; simp; omega) _
  kbox := (Below.heap_alloc _ _ _ (by have := lt_get hk; simp; omega)).trans ((Below.heap_alloc _ _ _ (lt_get hk)).trans hk)
  res := (Below.heap_alloc _ _ _ (by have := lt_get hr; simp; omega)).trans ((Below.heap_alloc _ _ _ (lt_get hr)).trans hr)
  out := by have := heap_alloc_new (W.alloc (.cells #[] 2)) (.cells #[.int .i64 V, .slice (some ⟨W.heap.size, 0, none⟩) 0 0] 26); rwa [World.size_alloc] at this
  own := by
    have h := World.ownsRow_made (base := w.heap.size) (e := 2) (size := 1) W #[] 0 hB.size (by simp [maxLen]) rfl
    exact h.alloc _
  bo := by have := lt_get hr; omega

/-- The model's loops hand back what they have built. -/
theorem OutW.done {w W : World} {V : Int} {sl : Value} {Bo : Nat} {xs : List Int} {a : Option Addr} {c : Nat} (h : OutW w W V sl Bo xs a c) (u v : Value) :
    Res w ((W.setCell ⟨w.heap.size + 1, 0, none⟩ u).setCell ⟨w.heap.size + 1, 1, none⟩ v) (.slice a xs.length c) xs := by
  have hn := row_ne h.own h.res (by decide)
  exact ⟨ownsRow_set (ownsRow_set h.own (fun e => hn e.symm) _) (fun e => hn e.symm) _, (h.below.setCell (p := ⟨w.heap.size + 1, 0, none⟩) (by simp) _).setCell (p := ⟨w.heap.size + 1, 1, none⟩) (by simp) _⟩

/-- .. where the new element has just been laid. -/
theorem step_append_new {W : World} {H : Nat} {ops : Array Oper} {o : Oper} {a : Act} {K : Act → World → Prop} {Q : Exit → Act → World → Prop} {E : Prop} (hgd : o.guard = none) {s y : Operand}
    (ho : o.op = .call { callee := .builtin .append, args := #[s, y], argTypes := #[22, 22] })
    {base : Nat} {v : Value} {xs : List Int} {x : Int} (hown : W.ownsRow base 2 1 v xs.length (xs.map (Value.int .i64))) (hH : W.heap.size = H) (hbase : base ≤ H) (hl : xs.length ≤ 1099511627776)
    (hs : a.eval s = v) (hy : a.eval y = .slice (some ⟨H, 0, none⟩) 1 1)
    (hK : ∀ g cap w', w'.ownsRow base 2 1 (.slice (some ⟨g, 0, none⟩) (xs ++ [x]).length cap) (xs ++ [x]).length ((xs ++ [x]).map (Value.int .i64)) → (W.alloc (.cells #[.int .i64 x] 2)).grownBy w' v.ownBlock →
      K (a.put o.dst (.slice (some ⟨g, 0, none⟩) (xs ++ [x]).length cap)) w') :
    if Region.wanted o (yielded ops a.tmps) = true then Oper.wp Try.prog o a (W.alloc (.cells #[.int .i64 x] 2)) K Q else E := by
  subst hH
  exact step_append_int hgd ho (hown.alloc _) (by simp; omega) hl hs hy (by simp [go_sem, Addr.add]) hK

theorem OutW.stepN {w W w2 : World} {V : Int} {sl : Value} {Bo : Nat} {xs : List Int} {a : Option Addr} {c : Nat} (h : OutW w W V sl Bo xs a c) {x : Int} {g cap : Nat} {o : Obj} {n : Nat}
    (hown : w2.ownsRow w.heap.size 2 1 (.slice (some ⟨g, 0, none⟩) (xs ++ [x]).length cap) (xs ++ [x]).length ((xs ++ [x]).map (Value.int .i64))) (hg : ((W.drewN n).alloc o).grownBy w2 (Value.ownBlock (.slice a xs.length c))) :
    OutW w (w2.setCell ⟨Bo, 1, none⟩ (.slice (some ⟨g, 0, none⟩) (xs ++ [x]).length cap)) V sl Bo (xs ++ [x]) (some ⟨g, 0, none⟩) cap := (h.drewN n).step hown hg

/-- The out block behind an append. -/
theorem OutW.mid {w W w2 : World} {V : Int} {sl : Value} {Bo : Nat} {xs : List Int} {a : Option Addr} {c : Nat} (h : OutW w W V sl Bo xs a c) {n : Nat} {o : Obj} (hg : ((W.drewN n).alloc o).grownBy w2 (Value.ownBlock (.slice a xs.length c))) :
    w2.cell? ⟨Bo, 1, none⟩ = some (.slice a xs.length c) ∧ w2.frozen? ⟨Bo, 1, none⟩ = false := by
  have hgr : (W.drewN n).grownBy w2 (Value.ownBlock (.slice a xs.length c)) := (World.grownBy_alloc _ o _).trans hg
  have o2 := (hgr.block _ (lt_get (h.drewN n).out) (row_ne (h.drewN n).own (h.drewN n).out (by decide))).trans (h.drewN n).out
  constructor <;> simp [World.cell?, World.frozen?, o2]

/-- The given complex's box behind an append. -/
theorem OutW.midK {w W w2 : World} {V : Int} {sl : Value} {Bo : Nat} {xs : List Int} {a : Option Addr} {c : Nat} (h : OutW w W V sl Bo xs a c) {n : Nat} {o : Obj} (hg : ((W.drewN n).alloc o).grownBy w2 (Value.ownBlock (.slice a xs.length c))) :
    w2.cell? ⟨w.heap.size, 1, none⟩ = some sl := by
  have hgr : (W.drewN n).grownBy w2 (Value.ownBlock (.slice a xs.length c)) := (World.grownBy_alloc _ o _).trans hg
  have o2 := (hgr.block _ (lt_get (h.drewN n).kbox) (row_ne (h.drewN n).own (h.drewN n).kbox (by decide))).trans (h.drewN n).kbox
  simp [World.cell?, o2]

/-- What lay before the call, behind an append. -/
theorem OutW.midX {w W w2 : World} {V : Int} {sl : Value} {Bo : Nat} {xs : List Int} {a : Option Addr} {c : Nat} (h : OutW w W V sl Bo xs a c) {n : Nat} {o : Obj} (hg : ((W.drewN n).alloc o).grownBy w2 (Value.ownBlock (.slice a xs.length c))) {p : Addr} (hp : p.block < w.heap.size) :
    w2.cell? p = W.cell? p := by
  have hgr : (W.drewN n).grownBy w2 (Value.ownBlock (.slice a xs.length c)) := (World.grownBy_alloc _ o _).trans hg
  have hlt : p.block < (W.drewN n).heap.size := Nat.lt_of_lt_of_le hp h.below.size
  have h2 : w2.heap[p.block]? = W.heap[p.block]? := hgr.block _ hlt (by
    intro he
    have := (h.own.lt _ he.symm).1
    omega)
  simp only [World.cell?, h2]

end Go.Proofs.Ytbaljngbmokiiaa

/-! Complexes that are handed back: the ends of bodies with a result in a block, and the program's complexWith. -/
namespace Go.Proofs.Ytbaljngbmokiiaa
open Go.RowKit

theorem cell_alloc_drew1 {W : World} {p : Addr} {v : Value} (h : W.cell? p = some v) (o : Obj) : (W.alloc o).cell? p = some v := cell_alloc_drew h 0 o

theorem two_of {W : World} {b : Nat} {x y : Value} {t : Nat} (h : W.heap[b]? = some (.cells #[x, y] t (0, 0))) : W.cell? ⟨b, 0, none⟩ = some x ∧ W.cell? ⟨b, 1, none⟩ = some y ∧ W.frozen? ⟨b, 0, none⟩ = false ∧ W.frozen? ⟨b, 1, none⟩ = false := by
  refine ⟨?_, ?_, ?_, ?_⟩ <;> simp [World.cell?, World.frozen?, h]

theorem two_set {W : World} {b : Nat} {x y : Value} {t : Nat} (h : W.heap[b]? = some (.cells #[x, y] t (0, 0))) (u v : Value) : ((W.setCell ⟨b, 0, none⟩ u).setCell ⟨b, 1, none⟩ v).heap[b]? = some (.cells #[u, v] t (0, 0)) := by
  simp only [World.setCell, Array.getElem?_modify, h]
  simp

/-- A result stays where a block of another type is written. -/
theorem Res.set2 {w W : World} {sv : Value} {xs : List Int} (h : Res w W sv xs) {b : Nat} {cs : Array Value} {t : Nat} {fz : Nat × Nat} (hb : W.heap[b]? = some (.cells cs t fz)) (hne : 2 ≠ t) (hw : w.heap.size ≤ b) (u v : Value) :
    Res w ((W.setCell ⟨b, 0, none⟩ u).setCell ⟨b, 1, none⟩ v) sv xs := by
  have hn := row_ne h.1 hb hne
  exact ⟨ownsRow_set (ownsRow_set h.1 (fun e => hn e.symm) _) (fun e => hn e.symm) _, (h.2.setCell (p := ⟨b, 0, none⟩) hw _).setCell (p := ⟨b, 1, none⟩) hw _⟩

theorem new2 (w : World) (A B : Obj) : ((w.alloc A).alloc B).heap[w.heap.size + 1]? = some B := by
  have := heap_alloc_new (w.alloc A) B
  rwa [World.size_alloc] at this

theorem new3 (w : World) (A B C : Obj) : (((w.alloc A).alloc B).alloc C).heap[w.heap.size + 1 + 1]? = some C := by
  have := new2 (w.alloc A) B C
  rwa [World.size_alloc] at this

set_option maxRecDepth 100000 in
theorem load_cx {w : World} {b o : Nat} {x y : Value} (h0 : w.cell? ⟨b, o, none⟩ = some x) (h1 : w.cell? ⟨b, o + 1, none⟩ = some y) :
    (loadVar 26 ⟨b, o, none⟩).run Try.prog w = .ok (.agg #[x, y]) w := by
  go_simp

set_option maxRecDepth 100000 in
theorem done_cx {fn : Func} {R : Ending → World → Prop} {a : Act} {w : World} {p u : Tmp} (hr : fn.results = #[.cell p 26, .tmp u]) (hd : a.defers = []) {b o : Nat} {x y c : Value}
    (hp : a.tmps.getD p undef = .pointer (some ⟨b, o, none⟩)) (h0 : w.cell? ⟨b, o, none⟩ = some x) (h1 : w.cell? ⟨b, o + 1, none⟩ = some y) (hu : a.tmps.getD u undef = c) (hR : R (.returned (.tuple #[.agg #[x, y], c])) w) : bodyPost Try.prog fn R .ret a w := by
  refine bodyPost_ret (v := .tuple #[.agg #[x, y], c]) ?_ hd hR
  rw [results_cell_tmp hr, hp, hu]
  show ((loadVar 26 ⟨b, o, none⟩).run Try.prog w).andThen _ = _
  rw [load_cx h0 h1]
  rfl

set_option maxRecDepth 100000 in
theorem done_cx1 {fn : Func} {R : Ending → World → Prop} {a : Act} {w : World} {p : Tmp} (hr : fn.results = #[.cell p 26]) (hd : a.defers = []) {b o : Nat} {x y : Value}
    (hp : a.tmps.getD p undef = .pointer (some ⟨b, o, none⟩)) (h0 : w.cell? ⟨b, o, none⟩ = some x) (h1 : w.cell? ⟨b, o + 1, none⟩ = some y) (hR : R (.returned (.agg #[x, y])) w) : bodyPost Try.prog fn R .ret a w := by
  refine bodyPost_ret (v := .agg #[x, y]) ?_ hd hR
  have hp' : a.tmps[p]?.getD undef = .pointer (some ⟨b, o, none⟩) := by simpa using hp
  simp [results, hr, hp', asAddr, load_cx h0 h1]

theorem cx_mono {P : Program} {f : FuncId} {args : Array Value} {w : World} {r : Int × List Int × Int} {U : Int} {xs : List Int} {c : Int} (hr : r = (U, xs, c))
    (h : Calls P f args w fun e w' => ∃ v, e = .returned (.tuple #[.agg #[.int .i64 U, v], .int .i64 c]) ∧ Res w w' v xs) : Calls P f args w fun e w' => ∃ v, e = .returned (.tuple #[.agg #[.int .i64 r.1, v], .int .i64 r.2.2]) ∧ Res w w' v r.2.1 := by
  subst hr; exact h


end Go.Proofs.Ytbaljngbmokiiaa

/-! Pairs compared. -/
namespace Go.Proofs.Ytbaljngbmokiiaa
open Go.RowKit

/-- A pair comes ahead of another one. -/
def lessP (x y x' y' : Int) : Bool := decide (x < x') || (decide (x = x') && decide (y < y'))

set_option maxRecDepth 100000 in
set_option maxHeartbeats 1000000 in
theorem less_any (x y x' y' : Int) (w : World) :
    Calls Try.prog 156 #[.agg #[.int .i64 x, .int .i64 y], .agg #[.int .i64 x', .int .i64 y']] w fun e w' => e = .returned (.bool (lessP x y x' y')) ∧ Below w.heap.size w w' := by
  have HB : Hid (Below w.heap.size w ((w.alloc (.cells #[.int .i64 x, .int .i64 y] 55)).alloc (.cells #[.int .i64 x', .int .i64 y'] 55))) := hid (((Below.refl _ w).alloc (Nat.le_refl _) _).alloc (by simp) _)
  by_cases h1 : x < x'
  · have hd : decide (x < x') = true := decide_eq_true h1
    have He : Hid (lessP x y x' y' = true) := hid (by unfold lessP; simp [h1])
    clear h1
    go_enter Try.func156, Try.ntmps156
    go_wp2
    go_ret
    exact ⟨ret_bool He.out.symm, HB.out⟩
  · have hd : decide (x < x') = false := decide_eq_false h1
    by_cases h2 : x = x'
    · have hd2 : (x == x') = true := by simp [h2]
      have He : Hid (lessP x y x' y' = decide (y < y')) := hid (by unfold lessP; simp [h2])
      clear h1 h2
      go_enter Try.func156, Try.ntmps156
      go_wp2
      go_ret
      exact ⟨ret_bool He.out.symm, HB.out⟩
    · have hd2 : (x == x') = false := by simp [h2]
      have He : Hid (lessP x y x' y' = false) := hid (by unfold lessP; simp [h1, h2])
      clear h1 h2
      go_enter Try.func156, Try.ntmps156
      go_wp2
      go_ret
      exact ⟨ret_bool He.out.symm, HB.out⟩

/-- -1, 0 or 1. -/
def cmpI (x y : Int) : Int := if x < y then -1 else if y < x then 1 else 0

set_option maxRecDepth 100000 in
set_option maxHeartbeats 1000000 in
theorem nan_any (x : Int) (w : World) : Calls Try.prog 200 #[.int .i64 x] w fun e w' => e = .returned (.bool false) ∧ w = w' := by
  have hne : (x != x) = false := by simp
  go_enter Try.func200, Try.ntmps200
  go_wp2
  go_ret
  exact ⟨rfl, rfl⟩

set_option maxRecDepth 100000 in
set_option maxHeartbeats 1000000 in
theorem cmp_any (x y : Int) (w : World) : Calls Try.prog 146 #[.int .i64 x, .int .i64 y] w fun e w' => e = .returned (.int .i64 (cmpI x y)) ∧ w = w' := by
  by_cases h1 : x < y
  · have hd : decide (x < y) = true := decide_eq_true h1
    have He : Hid (cmpI x y = -1) := hid (by unfold cmpI; simp [h1])
    clear h1
    go_enter Try.func146, Try.ntmps146
    go_wp2_with (go_at_call 200; refine (nan_any _ _).mono ?_; rintro e w' ⟨rfl, rfl⟩)
    go_ret
    exact ⟨ret_int He.out.symm, rfl⟩
  · have hd : decide (x < y) = false := decide_eq_false h1
    by_cases h2 : y < x
    · have hd2 : decide (y < x) = true := decide_eq_true h2
      have He : Hid (cmpI x y = 1) := hid (by unfold cmpI; simp [h1, h2])
      clear h1 h2
      go_enter Try.func146, Try.ntmps146
      go_wp2_with (go_at_call 200; refine (nan_any _ _).mono ?_; rintro e w' ⟨rfl, rfl⟩)
      go_ret
      exact ⟨ret_int He.out.symm, rfl⟩
    · have hd2 : decide (y < x) = false := decide_eq_false h2
      have He : Hid (cmpI x y = 0) := hid (by unfold cmpI; simp [h1, h2])
      clear h1 h2
      go_enter Try.func146, Try.ntmps146
      go_wp2_with (go_at_call 200; refine (nan_any _ _).mono ?_; rintro e w' ⟨rfl, rfl⟩)
      go_ret
      exact ⟨ret_int He.out.symm, rfl⟩

/-- The first of two that is not 0. -/
def orI (u v : Int) : Int := if u = 0 then v else u

theorem two_new (W : World) (H : Nat) (hH : W.heap.size = H) (u v : Value) (t : Nat) : (W.alloc (.cells #[u, v] t)).cell? ⟨H, 0, none⟩ = some u ∧ (W.alloc (.cells #[u, v] t)).cell? ⟨H, 1, none⟩ = some v := by
  subst hH
  constructor <;> simp [go_sem]

theorem two_new_d (W : World) (H : Nat) (hH : W.heap.size = H) (u v : Value) (t : Nat) : (W.alloc (.cells #[u, v] t)).drew.cell? ⟨H, 0, none⟩ = some u ∧ (W.alloc (.cells #[u, v] t)).drew.cell? ⟨H, 1, none⟩ = some v := two_new W H hH u v t

set_option maxRecDepth 100000 in
set_option maxHeartbeats 1000000 in
theorem or_any (u v : Int) (b : Nat) (w : World) (h0 : w.cell? ⟨b, 0, none⟩ = some (.int .i64 u)) (h1 : w.cell? ⟨b, 1, none⟩ = some (.int .i64 v)) :
    Calls Try.prog 170 #[.slice (some ⟨b, 0, none⟩) 2 2] w fun e w' => e = .returned (.int .i64 (orI u v)) ∧ w = w' := by
  by_cases hu : u = 0
  · have hd : (u != 0) = false := by simp [hu]
    by_cases hv : v = 0
    · have hd2 : (v != 0) = false := by simp [hv]
      have He : Hid (orI u v = 0) := hid (by unfold orI; rw [if_pos hu, hv])
      clear hu hv
      go_enter Try.func170, Try.ntmps170
      go_wp2
      refine wp_loop_rounds 3 ?_; rw [rounds_succ]
      go_wp2
      rw [rounds_succ]
      go_wp2
      rw [rounds_succ]
      go_wp2
      go_ret
      exact ⟨ret_int He.out.symm, rfl⟩
    · have hd2 : (v != 0) = true := by simp [hv]
      have He : Hid (orI u v = v) := hid (by unfold orI; rw [if_pos hu])
      clear hu hv
      go_enter Try.func170, Try.ntmps170
      go_wp2
      refine wp_loop_rounds 3 ?_; rw [rounds_succ]
      go_wp2
      rw [rounds_succ]
      go_wp2
      go_ret
      exact ⟨ret_int He.out.symm, rfl⟩
  · have hd : (u != 0) = true := by simp [hu]
    have He : Hid (orI u v = u) := hid (by unfold orI; rw [if_neg hu])
    clear hu
    go_enter Try.func170, Try.ntmps170
    go_wp2
    refine wp_loop_rounds 3 ?_; rw [rounds_succ]
    go_wp2
    go_ret
    exact ⟨ret_int He.out.symm, rfl⟩

/-- What comparePairs hands back. -/
def cmpP (x y x' y' : Int) : Int := orI (cmpI x x') (cmpI y y')

theorem cmpP_neg (x y x' y' : Int) : cmpP x y x' y' < 0 ↔ lessP x y x' y' = true := by
  unfold cmpP orI cmpI lessP
  simp only [Bool.or_eq_true, Bool.and_eq_true, decide_eq_true_eq]
  repeat' split
  all_goals omega

set_option maxRecDepth 100000 in
set_option maxHeartbeats 1000000 in
theorem cp_any (x y x' y' : Int) (w : World) :
    Calls Try.prog 108 #[.agg #[.int .i64 x, .int .i64 y], .agg #[.int .i64 x', .int .i64 y']] w fun e w' => e = .returned (.int .i64 (cmpP x y x' y')) ∧ Below w.heap.size w w' := by
  go_enter Try.func108, Try.ntmps108
  go_wp2
  have q0 : ((w.alloc (.cells #[.int .i64 x, .int .i64 y] 55)).alloc (.cells #[.int .i64 x', .int .i64 y'] 55)).cell? ⟨w.heap.size, 0, none⟩ = some (.int .i64 x) := by simp [go_sem]
  have q1 : ((w.alloc (.cells #[.int .i64 x, .int .i64 y] 55)).alloc (.cells #[.int .i64 x', .int .i64 y'] 55)).cell? ⟨w.heap.size, 1, none⟩ = some (.int .i64 y) := by simp [go_sem]
  have q2 : ((w.alloc (.cells #[.int .i64 x, .int .i64 y] 55)).alloc (.cells #[.int .i64 x', .int .i64 y'] 55)).cell? ⟨w.heap.size + 1, 0, none⟩ = some (.int .i64 x') := by simp [go_sem]
  have q3 : ((w.alloc (.cells #[.int .i64 x, .int .i64 y] 55)).alloc (.cells #[.int .i64 x', .int .i64 y'] 55)).cell? ⟨w.heap.size + 1, 1, none⟩ = some (.int .i64 y') := by simp [go_sem]
  have hsz : ((w.alloc (.cells #[.int .i64 x, .int .i64 y] 55)).alloc (.cells #[.int .i64 x', .int .i64 y'] 55)).heap.size = w.heap.size + 1 + 1 := by simp
  have HB : Hid (Below w.heap.size w ((w.alloc (.cells #[.int .i64 x, .int .i64 y] 55)).alloc (.cells #[.int .i64 x', .int .i64 y'] 55))) := hid (((Below.refl _ w).alloc (Nat.le_refl _) _).alloc (by simp) _)
  obtain ⟨W, hW⟩ : ∃ W, W = (w.alloc (.cells #[.int .i64 x, .int .i64 y] 55)).alloc (.cells #[.int .i64 x', .int .i64 y'] 55) := ⟨_, rfl⟩
  rw [← hW] at q0 q1 q2 q3 hsz HB ⊢
  clear hW
  go_region_held3 (fun w' => w'.cell? ⟨w.heap.size, 0, none⟩ = some (.int .i64 x) ∧ w'.cell? ⟨w.heap.size, 1, none⟩ = some (.int .i64 y) ∧ w'.cell? ⟨w.heap.size + 1, 0, none⟩ = some (.int .i64 x') ∧ w'.cell? ⟨w.heap.size + 1, 1, none⟩ = some (.int .i64 y')) (go_keep) (first
    | (go_at_call 146; refine (cmp_any _ _ _).mono ?_; rintro e w' ⟨rfl, rfl⟩)
    | (go_at_call 170; refine (or_any (cmpI x x') (cmpI y y') _ _ (two_new_d W _ hsz _ _ _).1 (two_new_d W _ hsz _ _ _).2).mono ?_; rintro e w' ⟨rfl, rfl⟩))
  all_goals
    go_wp2_with fail
    go_ret
    exact ⟨rfl, HB.out.trans (Below.mono (w := W) (((Below.refl _ W).alloc (Nat.le_refl _) _).drew) HB.out.size)⟩

end Go.Proofs.Ytbaljngbmokiiaa

/-! The model's test of a pair of faces. -/
namespace Go.Proofs.Ytbaljngbmokiiaa
open Go.RowKit Go.Sort

/-- Two faces are a pair. -/
def pairB (fs : List Int) (x y : Int) : Bool := decide (x ∈ fs) && decide (y ∈ fs) && decide (x.toNat &&& y.toNat = x.toNat) && decide (ones y.toNat = ones x.toNat + 1)

set_option maxRecDepth 100000 in
set_option maxHeartbeats 4000000 in
theorem pair_any (V : Int) (a : Option Addr) (cap : Nat) (fs : List Int) (x y : Int) (w : World) (hx : SlI w w.heap.size a fs) (hl : fs.length ≤ 1048576) (hf : ∀ x ∈ fs, 1 ≤ x ∧ x ≤ 63) :
    Calls Try.prog 97 #[.agg #[.int .i64 V, .slice a fs.length cap], .agg #[.int .i64 x, .int .i64 y]] w fun e w' => e = .returned (.bool (pairB fs x y)) ∧ Below w.heap.size w w' := by
  obtain ⟨W, hW⟩ : ∃ W, W = (w.alloc (.cells #[.int .i64 V, .slice a fs.length cap] 26)).alloc (.cells #[.int .i64 x, .int .i64 y] 55) := ⟨_, rfl⟩
  have HB : Hid (Below w.heap.size w W) := hid (by rw [hW]; exact ((Below.refl _ w).alloc (Nat.le_refl _) _).alloc (by simp) _)
  have q0 : W.heap[w.heap.size]? = some (.cells #[.int .i64 V, .slice a fs.length cap] 26 (0, 0)) := by rw [hW]; exact (Below.heap_alloc _ _ _ (by simp)).trans (heap_alloc_new _ _)
  have q1 : W.heap[w.heap.size + 1]? = some (.cells #[.int .i64 x, .int .i64 y] 55 (0, 0)) := by rw [hW]; exact new2 _ _ _
  have HW := hid hW
  have Hx := hid (hx.later HB.out HB.out.size)
  obtain ⟨k0, k1, _, _⟩ := two_of q0
  obtain ⟨p0, p1, _, _⟩ := two_of q1
  clear hW q0 q1 hx
  have Hf := hid hf
  clear hf
  have cX : ∀ d os, Calls Try.prog 120 #[.agg #[.int .i64 V, .slice a fs.length cap], .int .i64 x] (grow (redrawn W d) os) fun e w'' => e = .returned (.bool (decide (x ∈ fs))) ∧ ∃ p : Regrown, w'' = grow (redrawn W p.d) p.os := fun d os => Calls.regrown_of (has_any V x a cap fs _ (Hx.out.later (below_regrown W d os) (below_regrown W d os).size) hl)
  have cY : ∀ d os, Calls Try.prog 120 #[.agg #[.int .i64 V, .slice a fs.length cap], .int .i64 y] (grow (redrawn W d) os) fun e w'' => e = .returned (.bool (decide (y ∈ fs))) ∧ ∃ p : Regrown, w'' = grow (redrawn W p.d) p.os := fun d os => Calls.regrown_of (has_any V y a cap fs _ (Hx.out.later (below_regrown W d os) (below_regrown W d os).size) hl)
  have CX := hid cX
  have CY := hid cY
  have r0 := cell_regrown k0
  have r1 := cell_regrown k1
  have r2 := cell_regrown p0
  have r3 := cell_regrown p1
  clear cX cY k0 k1 p0 p1 Hx
  by_cases hx1 : x ∈ fs
  · rw [decide_eq_true hx1] at CX
    by_cases hy1 : y ∈ fs
    · rw [decide_eq_true hy1] at CY
      have hxr := Hf.out x hx1
      have hyr := Hf.out y hy1
      have He : Hid (pairB fs x y = (decide (x.toNat &&& y.toNat = x.toNat) && decide (ones y.toNat = ones x.toNat + 1))) := hid (by unfold pairB; rw [decide_eq_true hx1, decide_eq_true hy1]; simp)
      clear hx1 hy1
      obtain ⟨x, rfl⟩ : ∃ n : Nat, x = n := ⟨x.toNat, by omega⟩
      obtain ⟨y, rfl⟩ : ∃ n : Nat, y = n := ⟨y.toNat, by omega⟩
      have hx64 : x < 64 := by omega
      have hy64 : y < 64 := by omega
      simp only [Int.toNat_natCast] at He
      have hbits : bits BinOp.and IntKind.i64 (x : Int) (y : Int) = ((x &&& y : Nat) : Int) := (bits_nat .i64 6 (by decide) (fun n h0 h1 => by rw [IntKind.wrap_i64]; omega) x y (by omega) (by omega)).1
      have ho := ones_le x
      have ho' := ones_le y
      have cO : ∀ (f : Nat), f < 64 → ∀ d os, Calls Try.prog 71 #[.int .i64 (f : Int)] (grow (redrawn W d) os) fun e w'' => e = .returned (.int .i64 (ones f : Int)) ∧ ∃ p : Regrown, w'' = grow (redrawn W p.d) p.os := fun f hf d os => Calls.regrown_of ((ones_any f _ hf).mono fun _ _ ⟨he, hw⟩ => ⟨he, by rw [← hw]; exact Below.refl _ _⟩)
      have COx := hid (cO x hx64)
      have COy := hid (cO y hy64)
      have hw : IntKind.i64.wrap (((ones x : Nat) : Int) + 1) = ((ones x : Nat) : Int) + 1 := by rw [IntKind.wrap_i64]; omega
      clear cO
      by_cases hb : x &&& y = x
      · have hd : (((x &&& y : Nat) : Int) == (x : Int)) = true := by simp; omega
        have He2 : Hid (pairB fs x y = decide (ones y = ones x + 1)) := hid (by rw [He.out, decide_eq_true hb]; simp)
        have Ho : Hid ((((ones y : Nat) : Int) == ((ones x : Nat) : Int) + 1) = decide (ones y = ones x + 1)) := hid (by rw [Bool.eq_iff_iff]; simp; omega)
        clear hb
        go_enter Try.func97, Try.ntmps97
        go_wp2_with fail
        rw [← HW.out]
        refine wp_region_quiet_below (by kernel_rfl) (by kernel_rfl) ?_
        iterate 3 (with_reducible refine wpQuiet_step (fun K hK => ?_); have HK := hid hK; clear hK; go_simp; with_reducible refine HK.out _ ?_; clear HK K)
        (with_reducible refine wpQuiet_step (fun K hK => ?_); have HK := hid hK; clear hK; go_simp; apply Exists.intro; with_reducible refine ⟨fun _ => ?_, HK.out _ ?_⟩; exact CX.out _ _; clear HK K)
        iterate 4 (with_reducible refine wpQuiet_step (fun K hK => ?_); have HK := hid hK; clear hK; go_simp; with_reducible refine HK.out _ ?_; clear HK K)
        (with_reducible refine wpQuiet_step (fun K hK => ?_); have HK := hid hK; clear hK; go_simp; apply Exists.intro; with_reducible refine ⟨fun _ => ?_, HK.out _ ?_⟩; exact CY.out _ _; clear HK K)
        iterate 14 (with_reducible refine wpQuiet_step (fun K hK => ?_); have HK := hid hK; clear hK; go_simp; with_reducible refine HK.out _ ?_; clear HK K)
        (with_reducible refine wpQuiet_step (fun K hK => ?_); have HK := hid hK; clear hK; go_simp; apply Exists.intro; with_reducible refine ⟨fun _ => ?_, HK.out _ ?_⟩; exact COy.out _ _; clear HK K)
        iterate 2 (with_reducible refine wpQuiet_step (fun K hK => ?_); have HK := hid hK; clear hK; go_simp; with_reducible refine HK.out _ ?_; clear HK K)
        (with_reducible refine wpQuiet_step (fun K hK => ?_); have HK := hid hK; clear hK; go_simp; apply Exists.intro; with_reducible refine ⟨fun _ => ?_, HK.out _ ?_⟩; exact COx.out _ _; clear HK K)
        iterate 4 (with_reducible refine wpQuiet_step (fun K hK => ?_); have HK := hid hK; clear hK; go_simp; with_reducible refine HK.out _ ?_; clear HK K)
        with_reducible refine wpQuiet_nil ?_
        intro _ hw'
        obtain ⟨⟨dq, osq⟩, hw''⟩ := hw'
        subst hw''
        go_wp2_with fail
        go_ret
        exact ⟨ret_bool (by rw [He2.out]; exact Ho.out), HB.out.trans ((below_regrown W dq osq).mono HB.out.size)⟩
      · have hd : (((x &&& y : Nat) : Int) == (x : Int)) = false := by simp; omega
        have He2 : Hid (pairB fs x y = false) := hid (by rw [He.out, decide_eq_false hb]; simp)
        clear hb
        go_enter Try.func97, Try.ntmps97
        go_wp2_with fail
        rw [← HW.out]
        refine wp_region_quiet_below (by kernel_rfl) (by kernel_rfl) ?_
        iterate 3 (with_reducible refine wpQuiet_step (fun K hK => ?_); have HK := hid hK; clear hK; go_simp; with_reducible refine HK.out _ ?_; clear HK K)
        (with_reducible refine wpQuiet_step (fun K hK => ?_); have HK := hid hK; clear hK; go_simp; apply Exists.intro; with_reducible refine ⟨fun _ => ?_, HK.out _ ?_⟩; exact CX.out _ _; clear HK K)
        iterate 4 (with_reducible refine wpQuiet_step (fun K hK => ?_); have HK := hid hK; clear hK; go_simp; with_reducible refine HK.out _ ?_; clear HK K)
        (with_reducible refine wpQuiet_step (fun K hK => ?_); have HK := hid hK; clear hK; go_simp; apply Exists.intro; with_reducible refine ⟨fun _ => ?_, HK.out _ ?_⟩; exact CY.out _ _; clear HK K)
        iterate 22 (with_reducible refine wpQuiet_step (fun K hK => ?_); have HK := hid hK; clear hK; go_simp; with_reducible refine HK.out _ ?_; clear HK K)
        with_reducible refine wpQuiet_nil ?_
        intro _ hw'
        obtain ⟨⟨dq, osq⟩, hw''⟩ := hw'
        subst hw''
        go_wp2_with fail
        go_ret
        exact ⟨ret_bool He2.out.symm, HB.out.trans ((below_regrown W dq osq).mono HB.out.size)⟩
    · rw [decide_eq_false hy1] at CY
      have He : Hid (pairB fs x y = false) := hid (by unfold pairB; rw [decide_eq_false hy1]; simp)
      clear hx1 hy1
      go_enter Try.func97, Try.ntmps97
      go_wp2_with fail
      rw [← HW.out]
      refine wp_region_quiet_below (by kernel_rfl) (by kernel_rfl) ?_
      iterate 3 (with_reducible refine wpQuiet_step (fun K hK => ?_); have HK := hid hK; clear hK; go_simp; with_reducible refine HK.out _ ?_; clear HK K)
      (with_reducible refine wpQuiet_step (fun K hK => ?_); have HK := hid hK; clear hK; go_simp; apply Exists.intro; with_reducible refine ⟨fun _ => ?_, HK.out _ ?_⟩; exact CX.out _ _; clear HK K)
      iterate 4 (with_reducible refine wpQuiet_step (fun K hK => ?_); have HK := hid hK; clear hK; go_simp; with_reducible refine HK.out _ ?_; clear HK K)
      (with_reducible refine wpQuiet_step (fun K hK => ?_); have HK := hid hK; clear hK; go_simp; apply Exists.intro; with_reducible refine ⟨fun _ => ?_, HK.out _ ?_⟩; exact CY.out _ _; clear HK K)
      iterate 22 (with_reducible refine wpQuiet_step (fun K hK => ?_); have HK := hid hK; clear hK; go_simp; with_reducible refine HK.out _ ?_; clear HK K)
      with_reducible refine wpQuiet_nil ?_
      intro _ hw'
      obtain ⟨⟨dq, osq⟩, hw''⟩ := hw'
      subst hw''
      go_wp2_with fail
      go_ret
      exact ⟨ret_bool He.out.symm, HB.out.trans ((below_regrown W dq osq).mono HB.out.size)⟩
  · rw [decide_eq_false hx1] at CX
    have He : Hid (pairB fs x y = false) := hid (by unfold pairB; rw [decide_eq_false hx1]; simp)
    clear hx1
    go_enter Try.func97, Try.ntmps97
    go_wp2_with fail
    rw [← HW.out]
    refine wp_region_quiet_below (by kernel_rfl) (by kernel_rfl) ?_
    iterate 3 (with_reducible refine wpQuiet_step (fun K hK => ?_); have HK := hid hK; clear hK; go_simp; with_reducible refine HK.out _ ?_; clear HK K)
    (with_reducible refine wpQuiet_step (fun K hK => ?_); have HK := hid hK; clear hK; go_simp; apply Exists.intro; with_reducible refine ⟨fun _ => ?_, HK.out _ ?_⟩; exact CX.out _ _; clear HK K)
    iterate 27 (with_reducible refine wpQuiet_step (fun K hK => ?_); have HK := hid hK; clear hK; go_simp; with_reducible refine HK.out _ ?_; clear HK K)
    with_reducible refine wpQuiet_nil ?_
    intro _ hw'
    obtain ⟨⟨dq, osq⟩, hw''⟩ := hw'
    subst hw''
    go_wp2_with fail
    go_ret
    exact ⟨ret_bool He.out.symm, HB.out.trans ((below_regrown W dq osq).mono HB.out.size)⟩

end Go.Proofs.Ytbaljngbmokiiaa

/-! slices.IsSortedFunc on a list of pairs. -/
namespace Go.Proofs.Ytbaljngbmokiiaa
open Go.RowKit

/-- The number at a place. -/
def at0 (ps : List Int) (i : Nat) : Int := ps[i]?.getD 0

/-- No pair comes ahead of the one before it, from place k on. -/
def NoDrop (ps : List Int) (n k : Nat) : Prop := ∀ j, k ≤ j → 1 ≤ j → j < n → lessP (at0 ps (j * 2)) (at0 ps (j * 2 + 1)) (at0 ps ((j - 1) * 2)) (at0 ps ((j - 1) * 2 + 1)) = false

noncomputable def noDropB (ps : List Int) (n : Nat) : Bool := @decide (NoDrop ps n 1) (Classical.propDecidable _)
theorem noDropB_true {ps : List Int} {n : Nat} (h : NoDrop ps n 1) : noDropB ps n = true := by unfold noDropB; exact @decide_eq_true _ (Classical.propDecidable _) h
theorem noDropB_false {ps : List Int} {n : Nat} (h : ¬ NoDrop ps n 1) : noDropB ps n = false := by unfold noDropB; exact @decide_eq_false _ (Classical.propDecidable _) h

set_option maxRecDepth 100000 in
set_option maxHeartbeats 2000000 in
theorem sorted_any (a : Option Addr) (n cap : Nat) (ps : List Int) (w : World) (hx : SlI w w.heap.size a ps) (hp : ps.length = 2 * n) (hl : n ≤ 1048576) :
    Calls Try.prog 201 #[.slice a n cap, .func (.func 108) #[] #[]] w fun e w' => e = .returned (.bool (noDropB ps n)) ∧ Below w.heap.size w w' := by
  have hent : ∀ args w, (callFunc 108 args).run Try.prog w = .ok (.enter 108 args) w := enters_of Try.func108 (by kernel_rfl) rfl
  by_cases hn : n ≤ 1
  · have He : Hid (noDropB ps n = true) := hid (noDropB_true (fun j h1 h2 h3 => by omega))
    clear hx hp
    have h0 : n = 0 ∨ n = 1 := by omega
    rcases h0 with rfl | rfl
    · go_enter Try.func201, Try.ntmps201
      go_wp2
      refine wp_loop_rounds 1 ?_; rw [rounds_succ]
      go_wp2
      go_ret
      exact ⟨ret_bool He.out.symm, Below.refl _ _⟩
    · go_enter Try.func201, Try.ntmps201
      go_wp2
      refine wp_loop_rounds 1 ?_; rw [rounds_succ]
      go_wp2
      go_ret
      exact ⟨ret_bool He.out.symm, Below.refl _ _⟩
  · obtain ⟨b, off, hb, rfl, hc⟩ : ∃ b off, b < w.heap.size ∧ a = some ⟨b, off, none⟩ ∧ ∀ i, i < ps.length → w.cell? ⟨b, off + i, none⟩ = some (.int .i64 (ps[i]?.getD 0)) := by
      rcases hx with rfl | h
      · simp at hp; omega
      · exact h
    have Hc := hid hc
    have Hp := hid hp
    clear hc hx hp
    go_enter Try.func201, Try.ntmps201
    go_wp2
    go_loopw [5] (fun i wr => ∃ k : Nat, k < n ∧ i = .int .i64 k ∧ Hid (NoDrop ps n (k + 1)) ∧ Below w.heap.size w wr) (fun i _ => (intOf i).toNat)
    case atStart => exact ⟨n - 1, by omega, by go_num, hid (fun j h1 h2 h3 => by omega), Below.refl _ _⟩
    case round =>
      obtain ⟨k, hk, rfl, Hk, hB⟩ := hrel
      by_cases hlt : 0 < k
      · obtain ⟨m, rfl⟩ : ∃ m : Nat, k = m + 1 := ⟨k - 1, by omega⟩
        have c0 : wr.cell? ⟨b, off + (m + 1) * 2, none⟩ = some (.int .i64 (at0 ps ((m + 1) * 2))) := (hB.cell (p := ⟨b, off + (m + 1) * 2, none⟩) hb).trans (Hc.out _ (by have := Hp.out; omega))
        have c1 : wr.cell? ⟨b, off + (m + 1) * 2 + 1, none⟩ = some (.int .i64 (at0 ps ((m + 1) * 2 + 1))) := (hB.cell (p := ⟨b, off + ((m + 1) * 2 + 1), none⟩) hb).trans (Hc.out _ (by have := Hp.out; omega))
        have d0 : wr.cell? ⟨b, off + m * 2, none⟩ = some (.int .i64 (at0 ps (m * 2))) := (hB.cell (p := ⟨b, off + m * 2, none⟩) hb).trans (Hc.out _ (by have := Hp.out; omega))
        have d1 : wr.cell? ⟨b, off + m * 2 + 1, none⟩ = some (.int .i64 (at0 ps (m * 2 + 1))) := (hB.cell (p := ⟨b, off + (m * 2 + 1), none⟩) hb).trans (Hc.out _ (by have := Hp.out; omega))
        obtain ⟨x, hx⟩ : ∃ x, x = at0 ps ((m + 1) * 2) := ⟨_, rfl⟩
        obtain ⟨y, hy⟩ : ∃ y, y = at0 ps ((m + 1) * 2 + 1) := ⟨_, rfl⟩
        obtain ⟨x', hx'⟩ : ∃ x, x = at0 ps (m * 2) := ⟨_, rfl⟩
        obtain ⟨y', hy'⟩ : ∃ y, y = at0 ps (m * 2 + 1) := ⟨_, rfl⟩
        rw [← hx] at c0
        rw [← hy] at c1
        rw [← hx'] at d0
        rw [← hy'] at d1
        have Hstep : Hid (∀ c, lessP x y x' y' = c → (c = false → NoDrop ps n (m + 1)) ∧ (c = true → ¬ NoDrop ps n 1)) := hid (fun c hc => by
          refine ⟨fun h0 j h1 h2 h3 => ?_, fun h0 hno => ?_⟩
          · by_cases hj : j = m + 1
            · subst hj
              rw [Nat.add_sub_cancel, ← hx, ← hy, ← hx', ← hy', hc, h0]
            · exact Hk.out j (by omega) h2 h3
          · have := hno (m + 1) (by omega) (by omega) hk
            rw [Nat.add_sub_cancel, ← hx, ← hy, ← hx', ← hy', hc, h0] at this
            cases this)
        have Hneg := hid (cmpP_neg x y x' y')
        obtain ⟨q, hq⟩ : ∃ q, q = cmpP x y x' y' := ⟨_, rfl⟩
        have Hq := hid hq
        rw [← hq] at Hneg
        have hi0 : (0 : Int) ≤ (m : Int) := by omega
        have hi1 : (m : Int) < (n : Int) := by omega
        have hi2 : (m : Int) + 1 < (n : Int) := by omega
        have hi3 : (0 : Int) ≤ (m : Int) + 1 := by omega
        have hw1 : IntKind.i64.wrap (m : Int) = m := by rw [IntKind.wrap_i64]; omega
        have hw2 : IntKind.i64.wrap ((m : Int) + 1 - 1) = m := by rw [show (m : Int) + 1 - 1 = m by omega]; exact hw1
        have hw3 : wrap64 (m : Int) = m := IntWalk.wrap64_in _ ⟨by omega, by omega⟩
        have HB := hid hB
        clear hx hy hx' hy' hq hB Hk
        go_wp2_with fail
        go_region_with (go_at_call 108; refine (cp_any x y x' y' _).mono ?_; rintro e w2 ⟨rfl, hB2⟩; rw [← Hq.out])
        all_goals
          have HB2 := hid (HB.out.trans (Below.mono (w := wr) ⟨hB2.os, hB2.tape, hB2.output, hB2.size, hB2.block⟩ HB.out.size))
          clear hB2
          by_cases hql : q < 0
          · have He : Hid (noDropB ps n = false) := hid (noDropB_false ((Hstep.out true (Hneg.out.1 hql)).2 rfl))
            go_wp2_with fail
            go_ret
            exact ⟨ret_bool He.out.symm, HB2.out⟩
          · have hq0 : 0 ≤ q := by omega
            have He : Hid (NoDrop ps n (m + 1)) := hid ((Hstep.out false (by
              cases hc : lessP x y x' y'
              · rfl
              · exact absurd (Hneg.out.2 hc) hql)).1 rfl)
            clear hql
            go_wp2_with fail
            go_roundw
            case rel => exact ⟨m, by omega, by go_num, He.out, HB2.out⟩
            case measure => simp [intOf] <;> omega
      · obtain rfl : k = 0 := by omega
        have He : Hid (noDropB ps n = true) := hid (noDropB_true (fun j h1 h2 h3 => Hk.out j (by omega) h2 h3))
        go_wp2
        go_ret
        exact ⟨ret_bool He.out.symm, hB⟩

end Go.Proofs.Ytbaljngbmokiiaa
