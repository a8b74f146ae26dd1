import Derived.Laws.CopyRow
import Derived.Laws.Tables
import Derived.Deep.WholeRow
import Derived.Deep.CutRange
import Derived.Lib.QuietBelow
import Derived.Defers
import Derived.Recover
import Derived.Laws.Pointers
import Derived.Test.YtgnahadlcihneaaDoorHB2
import Derived.Test.YtgnahadlcihneaaDoorHB1
import Derived.Test.YtgnahadlcihneaaDoorHB3
/-! 'out.Faces = append(out.Faces, x)' in the model's loops, where the complex that is built has a number of vertices of its own (OutW, with that number). -/
namespace Go.Proofs.YtgnahadlcihneaaDoor
open Go.RowKit

/-- The same, where what is built has another number of vertices: B is the heap's size when the call began. -/
structure OutU (w W : World) (V U : Int) (sl : Value) (Bo : Nat) (xs : List Int) (a : Option Addr) (c : Nat) : Prop where
  below : Below w.heap.size w W
  kbox : W.heap[w.heap.size]? = some (.cells #[.int .i64 V, sl] 28 (0, 0))
  res : W.heap[w.heap.size + 1]? = some (.cells #[.int .i64 0, .slice none 0 0] 28 (0, 0))
  out : W.heap[Bo]? = some (.cells #[.int .i64 U, .slice a xs.length c] 28 (0, 0))
  own : W.ownsRow w.heap.size 2 1 (.slice a xs.length c) xs.length (xs.map (Value.int .i64))
  bo : w.heap.size + 1 < Bo

/-- Draws alone. -/
theorem OutU.drew {w W : World} {V U : Int} {sl : Value} {Bo : Nat} {xs : List Int} {a : Option Addr} {c : Nat} (h : OutU w W V U sl Bo xs a c) : OutU w W.drew V U sl Bo xs a c :=
  ⟨⟨h.below.os, h.below.tape, h.below.output, h.below.size, h.below.block⟩, h.kbox, h.res, h.out, h.own, h.bo⟩

theorem OutU.drewN {w W : World} {V U : Int} {sl : Value} {Bo : Nat} {xs : List Int} {a : Option Addr} {c : Nat} (h : OutU w W V U sl Bo xs a c) (n : Nat) : OutU w (W.drewN n) V U sl Bo xs a c :=
  ⟨⟨h.below.os, h.below.tape, h.below.output, h.below.size, h.below.block⟩, h.kbox, h.res, h.out, h.own, h.bo⟩

/-- Whatever keeps all that lay. -/
theorem OutU.later {w W W' : World} {V U : Int} {sl : Value} {Bo : Nat} {xs : List Int} {a : Option Addr} {c : Nat} (h : OutU w W V U sl Bo xs a c) (hb : Below W.heap.size W W') : OutU w W' V U sl Bo xs a c where
  below := h.below.trans (hb.mono h.below.size)
  kbox := (hb.block _ (lt_get h.kbox)).trans h.kbox
  res := (hb.block _ (lt_get h.res)).trans h.res
  out := (hb.block _ (lt_get h.out)).trans h.out
  own := ownsRow_below h.own hb (fun g hg => (h.own.lt g hg).2)
  bo := h.bo

/-- A face more. -/
theorem OutU.step {w W w2 : World} {V U : Int} {sl : Value} {Bo : Nat} {xs : List Int} {a : Option Addr} {c : Nat} (h : OutU w W V U sl Bo xs a c) {x : Int} {g cap : Nat} {o : Obj}
    (hown : w2.ownsRow w.heap.size 2 1 (.slice (some ⟨g, 0, none⟩) (xs ++ [x]).length cap) (xs ++ [x]).length ((xs ++ [x]).map (Value.int .i64))) (hg : (W.alloc o).grownBy w2 (Value.ownBlock (.slice a xs.length c))) :
    OutU w (w2.setCell ⟨Bo, 1, none⟩ (.slice (some ⟨g, 0, none⟩) (xs ++ [x]).length cap)) V U sl Bo (xs ++ [x]) (some ⟨g, 0, none⟩) cap := by
  have hgr : W.grownBy w2 (Value.ownBlock (.slice a xs.length c)) := (World.grownBy_alloc W o _).trans hg
  have hbo := h.bo
  have k2 := (hgr.block _ (lt_get h.kbox) (row_ne h.own h.kbox (by decide))).trans h.kbox
  have r2 := (hgr.block _ (lt_get h.res) (row_ne h.own h.res (by decide))).trans h.res
  have o2 := (hgr.block _ (lt_get h.out) (row_ne h.own h.out (by decide))).trans h.out
  refine ⟨?_, ?_, ?_, ?_, ?_, h.bo⟩
  · exact (h.below.grown hgr h.below.size (fun k hk => (h.own.lt k hk).1)).setCell (p := ⟨Bo, 1, none⟩) (by simp only; omega) _
  · exact (Below.heap_setCell _ _ _ _ (by simp only; omega)).trans k2
  · exact (Below.heap_setCell _ _ _ _ (by simp only; omega)).trans r2
  · simp only [World.setCell, Array.getElem?_modify, o2]
    simp
  · exact ownsRow_set hown (by
      have := row_ne hown o2 (by decide)
      exact fun e => this e.symm) _

/-- The model's loops hand back what they have built. -/
theorem OutU.done {w W : World} {V U : Int} {sl : Value} {Bo : Nat} {xs : List Int} {a : Option Addr} {c : Nat} (h : OutU w W V U sl Bo xs a c) (u v : Value) :
    Res w ((W.setCell ⟨w.heap.size + 1, 0, none⟩ u).setCell ⟨w.heap.size + 1, 1, none⟩ v) (.slice a xs.length c) xs := by
  have hn := row_ne h.own h.res (by decide)
  exact ⟨ownsRow_set (ownsRow_set h.own (fun e => hn e.symm) _) (fun e => hn e.symm) _, (h.below.setCell (p := ⟨w.heap.size + 1, 0, none⟩) (by simp) _).setCell (p := ⟨w.heap.size + 1, 1, none⟩) (by simp) _⟩

theorem OutU.stepN {w W w2 : World} {V U : Int} {sl : Value} {Bo : Nat} {xs : List Int} {a : Option Addr} {c : Nat} (h : OutU w W V U sl Bo xs a c) {x : Int} {g cap : Nat} {o : Obj} {n : Nat}
    (hown : w2.ownsRow w.heap.size 2 1 (.slice (some ⟨g, 0, none⟩) (xs ++ [x]).length cap) (xs ++ [x]).length ((xs ++ [x]).map (Value.int .i64))) (hg : ((W.drewN n).alloc o).grownBy w2 (Value.ownBlock (.slice a xs.length c))) :
    OutU w (w2.setCell ⟨Bo, 1, none⟩ (.slice (some ⟨g, 0, none⟩) (xs ++ [x]).length cap)) V U sl Bo (xs ++ [x]) (some ⟨g, 0, none⟩) cap := (h.drewN n).step hown hg

/-- The out block behind an append. -/
theorem OutU.mid {w W w2 : World} {V U : Int} {sl : Value} {Bo : Nat} {xs : List Int} {a : Option Addr} {c : Nat} (h : OutU w W V U sl Bo xs a c) {n : Nat} {o : Obj} (hg : ((W.drewN n).alloc o).grownBy w2 (Value.ownBlock (.slice a xs.length c))) :
    w2.cell? ⟨Bo, 1, none⟩ = some (.slice a xs.length c) ∧ w2.frozen? ⟨Bo, 1, none⟩ = false := by
  have hgr : (W.drewN n).grownBy w2 (Value.ownBlock (.slice a xs.length c)) := (World.grownBy_alloc _ o _).trans hg
  have o2 := (hgr.block _ (lt_get (h.drewN n).out) (row_ne (h.drewN n).own (h.drewN n).out (by decide))).trans (h.drewN n).out
  constructor <;> simp [World.cell?, World.frozen?, o2]

/-- The given complex's box behind an append. -/
theorem OutU.midK {w W w2 : World} {V U : Int} {sl : Value} {Bo : Nat} {xs : List Int} {a : Option Addr} {c : Nat} (h : OutU w W V U sl Bo xs a c) {n : Nat} {o : Obj} (hg : ((W.drewN n).alloc o).grownBy w2 (Value.ownBlock (.slice a xs.length c))) :
    w2.cell? ⟨w.heap.size, 1, none⟩ = some sl := by
  have hgr : (W.drewN n).grownBy w2 (Value.ownBlock (.slice a xs.length c)) := (World.grownBy_alloc _ o _).trans hg
  have o2 := (hgr.block _ (lt_get (h.drewN n).kbox) (row_ne (h.drewN n).own (h.drewN n).kbox (by decide))).trans (h.drewN n).kbox
  simp [World.cell?, o2]

/-- What lay before the call, behind an append. -/
theorem OutU.midX {w W w2 : World} {V U : Int} {sl : Value} {Bo : Nat} {xs : List Int} {a : Option Addr} {c : Nat} (h : OutU w W V U sl Bo xs a c) {n : Nat} {o : Obj} (hg : ((W.drewN n).alloc o).grownBy w2 (Value.ownBlock (.slice a xs.length c))) {p : Addr} (hp : p.block < w.heap.size) :
    w2.cell? p = W.cell? p := by
  have hgr : (W.drewN n).grownBy w2 (Value.ownBlock (.slice a xs.length c)) := (World.grownBy_alloc _ o _).trans hg
  have hlt : p.block < (W.drewN n).heap.size := Nat.lt_of_lt_of_le hp h.below.size
  have h2 : w2.heap[p.block]? = W.heap[p.block]? := hgr.block _ hlt (by
    intro he
    have := (h.own.lt _ he.symm).1
    omega)
  simp only [World.cell?, h2]

end Go.Proofs.YtgnahadlcihneaaDoor

/-! Finite facts on bits, decided. -/
namespace Go.Proofs.YtgnahadlcihneaaDoor
open Go.RowKit

theorem andNot_fin : ∀ x : Nat, x < 64 → ∀ s : Nat, s < 64 → (bits BinOp.andNot IntKind.i64 (x : Int) (s : Int) == 0) = decide (x &&& s = x) := by
  decide +kernel

end Go.Proofs.YtgnahadlcihneaaDoor

/-! The numbers from 1 to n that are wanted, ascending. -/
namespace Go.Proofs.YtgnahadlcihneaaDoor
open Go.RowKit

/-- The numbers from 1 to k of which p says yes. -/
def pickTo (p : Int → Bool) : Nat → List Int
  | 0 => []
  | k + 1 => pickTo p k ++ (if p ((k : Int) + 1) then [(k : Int) + 1] else [])

theorem pickTo_len (p : Int → Bool) : ∀ k, (pickTo p k).length ≤ k
  | 0 => by simp [pickTo]
  | k + 1 => by
    have := pickTo_len p k
    simp only [pickTo, List.length_append]
    split <;> simp <;> omega

theorem mem_pickTo {p : Int → Bool} {x : Int} : ∀ k : Nat, x ∈ pickTo p k ↔ 1 ≤ x ∧ x ≤ k ∧ p x = true
  | 0 => by simp [pickTo]; omega
  | k + 1 => by
    have ih := mem_pickTo (p := p) (x := x) k
    simp only [pickTo, List.mem_append, ih]
    constructor
    · rintro (⟨h1, h2, h3⟩ | h)
      · exact ⟨h1, by omega, h3⟩
      · split at h
        · rename_i hp
          simp at h
          subst h
          exact ⟨by omega, by omega, hp⟩
        · simp at h
    · rintro ⟨h1, h2, h3⟩
      by_cases he : x = (k : Int) + 1
      · subst he
        right
        rw [if_pos h3]; simp
      · exact .inl ⟨h1, by omega, h3⟩

theorem pickTo_asc (p : Int → Bool) : ∀ k : Nat, (pickTo p k).Pairwise (· < ·)
  | 0 => by simp [pickTo]
  | k + 1 => by
    simp only [pickTo]
    rw [List.pairwise_append]
    refine ⟨pickTo_asc p k, by split <;> simp, fun a ha b hb => ?_⟩
    have h1 := (mem_pickTo k).1 ha
    split at hb
    · simp at hb; omega
    · simp at hb

theorem pickTo_congr {p q : Int → Bool} : ∀ k : Nat, (∀ x : Int, 1 ≤ x → x ≤ k → p x = q x) → pickTo p k = pickTo q k
  | 0, _ => rfl
  | k + 1, h => by
    simp only [pickTo]
    rw [pickTo_congr k (fun x h1 h2 => h x h1 (by omega)), h ((k : Int) + 1) (by omega) (by omega)]

/-- Two ascending lists with the same members are one. -/
theorem asc_ext : ∀ {xs ys : List Int}, xs.Pairwise (· < ·) → ys.Pairwise (· < ·) → (∀ x, x ∈ xs ↔ x ∈ ys) → xs = ys
  | [], [], _, _, _ => rfl
  | [], y :: ys, _, _, h => absurd ((h y).2 (by simp)) (by simp)
  | x :: xs, [], _, _, h => absurd ((h x).1 (by simp)) (by simp)
  | x :: xs, y :: ys, hx, hy, h => by
    have hx' := List.pairwise_cons.1 hx
    have hy' := List.pairwise_cons.1 hy
    have hxy : x = y := by
      have h1 := (h x).1 (by simp)
      have h2 := (h y).2 (by simp)
      rcases List.mem_cons.1 h1 with h1 | h1
      · exact h1
      · rcases List.mem_cons.1 h2 with h2 | h2
        · exact h2.symm
        · have a := hy'.1 _ h1
          have b := hx'.1 _ h2
          omega
    subst hxy
    congr 1
    refine asc_ext hx'.2 hy'.2 fun z => ?_
    have hz := h z
    simp only [List.mem_cons] at hz
    constructor
    · intro hm
      rcases hz.1 (.inr hm) with rfl | h'
      · exact absurd (hx'.1 _ hm) (by omega)
      · exact h'
    · intro hm
      rcases hz.2 (.inr hm) with rfl | h'
      · exact absurd (hy'.1 _ hm) (by omega)
      · exact h'

end Go.Proofs.YtgnahadlcihneaaDoor

/-! Renumbered sets: the mathematics. -/
namespace Go.Proofs.YtgnahadlcihneaaDoor
open Go.RowKit

/-- The image of a set, vertex by vertex. -/
def movN (p : List Int) (f : Nat) : Nat → Nat
  | 0 => 0
  | k + 1 => if bitN f k then movN p f k ||| 2 ^ (p[k]?.getD 0).toNat else movN p f k
def moved (p : List Int) (f : Nat) : Nat := movN p f p.length
theorem bit_test (f v : Nat) : bitN f v = f.testBit v := by
  unfold bitN
  rw [Nat.testBit_eq_decide_div_mod_eq]
  cases h : decide (f / 2 ^ v % 2 = 1) <;> simp_all
theorem test_pow (a w : Nat) : (2 ^ a).testBit w = decide (a = w) := by rw [Nat.testBit_two_pow]
theorem movN_test (p : List Int) (f w : Nat) : ∀ k, (movN p f k).testBit w = true ↔ ∃ v, v < k ∧ f.testBit v = true ∧ (p[v]?.getD 0).toNat = w
  | 0 => by simp [movN]
  | k + 1 => by
    have ih := movN_test p f w k
    unfold movN
    by_cases hb : bitN f k = true
    · rw [if_pos hb, Nat.testBit_or, Bool.or_eq_true, ih, test_pow, decide_eq_true_eq]
      rw [bit_test] at hb
      constructor
      · rintro (⟨v, h1, h2, h3⟩ | h)
        · exact ⟨v, by omega, h2, h3⟩
        · exact ⟨k, by omega, hb, h⟩
      · rintro ⟨v, h1, h2, h3⟩
        by_cases e : v = k
        · subst e; exact .inr h3
        · exact .inl ⟨v, by omega, h2, h3⟩
    · rw [if_neg hb, ih]
      rw [bit_test] at hb
      constructor
      · rintro ⟨v, h1, h2, h3⟩
        exact ⟨v, by omega, h2, h3⟩
      · rintro ⟨v, h1, h2, h3⟩
        by_cases e : v = k
        · subst e; exact absurd h2 hb
        · exact ⟨v, by omega, h2, h3⟩
theorem moved_test (p : List Int) (f w : Nat) : (moved p f).testBit w = true ↔ ∃ v, v < p.length ∧ f.testBit v = true ∧ (p[v]?.getD 0).toNat = w := movN_test p f w p.length
theorem movN_lt {p : List Int} {n : Nat} (h : ∀ x ∈ p, x.toNat < n) (f : Nat) : ∀ k, k ≤ p.length → movN p f k < 2 ^ n
  | 0, _ => Nat.two_pow_pos n
  | k + 1, hk => by
    have ih := movN_lt h f k (by omega)
    unfold movN
    split
    · exact Nat.or_lt_two_pow ih (Nat.pow_lt_pow_right (by decide) (h _ (getD_mem (by omega))))
    · exact ih

/-- A renumbering of n vertices. -/
structure IsR (p : List Int) (n : Int) : Prop where
  len : (p.length : Int) = n
  rng : ∀ x ∈ p, 0 ≤ x ∧ x < n
  inj : ∀ i j, i < j → j < p.length → p[i]?.getD 0 ≠ p[j]?.getD 0
noncomputable def isRB (p : List Int) (n : Int) : Bool := @decide (IsR p n) (Classical.propDecidable _)
theorem isRB_true {p : List Int} {n : Int} (h : IsR p n) : isRB p n = true := @decide_eq_true _ (Classical.propDecidable _) h
theorem isRB_false {p : List Int} {n : Int} (h : ¬ IsR p n) : isRB p n = false := @decide_eq_false _ (Classical.propDecidable _) h
theorem isRB_iff {p : List Int} {n : Int} : isRB p n = true ↔ IsR p n := @decide_eq_true_iff _ (Classical.propDecidable _)
/-- .. so far. -/
structure OkR (p : List Int) (n : Int) (k : Nat) : Prop where
  rng : ∀ i, i < k → 0 ≤ p[i]?.getD 0 ∧ p[i]?.getD 0 < n
  inj : ∀ i j, i < j → j < k → p[i]?.getD 0 ≠ p[j]?.getD 0
theorem OkR.zero (p : List Int) (n : Int) : OkR p n 0 := ⟨fun _ h => absurd h (Nat.not_lt_zero _), fun _ _ _ h => absurd h (Nat.not_lt_zero _)⟩
theorem OkR.succ {p : List Int} {n : Int} {k : Nat} (h : OkR p n k) (h1 : 0 ≤ p[k]?.getD 0 ∧ p[k]?.getD 0 < n) (h2 : p[k]?.getD 0 ∉ p.take k) (hk : k < p.length) : OkR p n (k + 1) where
  rng := fun i hi => by
    by_cases e : i = k
    · subst e; exact h1
    · exact h.rng i (by omega)
  inj := fun i j hij hj => by
    by_cases e : j = k
    · subst e
      intro he
      apply h2
      rw [← he]
      have hi : i < (p.take j).length := by simp; omega
      have := getD_mem hi
      rwa [List.getElem?_take_of_lt hij] at this
    · exact h.inj i j hij (by omega)
theorem OkR.all {p : List Int} {n : Int} (h : OkR p n p.length) (hl : (p.length : Int) = n) : IsR p n where
  len := hl
  rng := fun x hx => by
    obtain ⟨i, hi, rfl⟩ := List.getElem_of_mem hx
    have := h.rng i hi
    rwa [List.getElem?_eq_getElem hi, Option.getD_some] at this
  inj := h.inj
theorem not_rng {p : List Int} {n : Int} {k : Nat} (hk : k < p.length) (h : ¬ (0 ≤ p[k]?.getD 0 ∧ p[k]?.getD 0 < n)) : isRB p n = false := isRB_false fun hR => h (hR.rng _ (getD_mem hk))
theorem not_inj {p : List Int} {n : Int} {k : Nat} (hk : k < p.length) (h : p[k]?.getD 0 ∈ p.take k) : isRB p n = false := isRB_false fun hR => by
  obtain ⟨i, hi, he⟩ := List.getElem_of_mem h
  have hik : i < k := by have := hi; simp at this; omega
  refine hR.inj i k hik hk ?_
  rw [← he, List.getElem_take, List.getElem?_eq_getElem (by omega)]
  rfl
theorem not_len {p : List Int} {n : Int} (h : ¬ (p.length : Int) = n) : isRB p n = false := isRB_false fun hR => h hR.len

/-- The images of the faces. -/
def imgL (p fs : List Int) : List Int := fs.map fun f => ((moved p f.toNat : Nat) : Int)
theorem allV_two {V : Int} (h1 : 1 ≤ V) (h2 : V ≤ 6) : allV V = ((2 ^ V.toNat - 1 : Nat) : Int) := by
  rcases (show V = 1 ∨ V = 2 ∨ V = 3 ∨ V = 4 ∨ V = 5 ∨ V = 6 by omega) with rfl | rfl | rfl | rfl | rfl | rfl <;> decide

section
variable {V : Int} {fs p : List Int}
theorem test_lt {f n w : Nat} (hf : f < 2 ^ n) (h : f.testBit w = true) : w < n := by
  rcases Nat.lt_or_ge w n with h1 | h1
  · exact h1
  · have := Nat.testBit_lt_two_pow (Nat.lt_of_lt_of_le hf (Nat.pow_le_pow_right (by decide) h1))
    rw [this] at h
    cases h
theorem moved_inj (hR : IsR p V) (h1 : 1 ≤ V) {f g : Nat} (hf : f < 2 ^ V.toNat) (hg : g < 2 ^ V.toNat) (h : moved p f = moved p g) : f = g := by
  have hl := hR.len
  have key : ∀ f g : Nat, f < 2 ^ V.toNat → moved p f = moved p g → ∀ w, f.testBit w = true → g.testBit w = true := by
    intro f g hf h w hw
    have hwV := test_lt hf hw
    have h2 := (moved_test p f (p[w]?.getD 0).toNat).2 ⟨w, by omega, hw, rfl⟩
    rw [h] at h2
    obtain ⟨v, hv, hgv, he⟩ := (moved_test p g _).1 h2
    have r1 := hR.rng _ (getD_mem (show w < p.length by omega))
    have r2 := hR.rng _ (getD_mem hv)
    have hpe : p[v]?.getD 0 = p[w]?.getD 0 := by omega
    rcases Nat.lt_trichotomy v w with hlt | heq | hlt
    · exact absurd hpe (hR.inj v w hlt (by omega))
    · subst heq; exact hgv
    · exact absurd hpe.symm (hR.inj w v hlt hv)
  apply Nat.eq_of_testBit_eq
  intro w
  rw [Bool.eq_iff_iff]
  exact ⟨key f g hf h w, key g f hg h.symm w⟩
/-- What of f goes into x. -/
def preN (p : List Int) (x f : Nat) : Nat → Nat
  | 0 => 0
  | k + 1 => if f.testBit k && x.testBit (p[k]?.getD 0).toNat then preN p x f k ||| 2 ^ k else preN p x f k
theorem preN_test (p : List Int) (x f w : Nat) : ∀ k, (preN p x f k).testBit w = true ↔ w < k ∧ f.testBit w = true ∧ x.testBit (p[w]?.getD 0).toNat = true
  | 0 => by simp [preN]
  | k + 1 => by
    have ih := preN_test p x f w k
    unfold preN
    by_cases hb : (f.testBit k && x.testBit (p[k]?.getD 0).toNat) = true
    · rw [if_pos hb, Nat.testBit_or, Bool.or_eq_true, ih, test_pow, decide_eq_true_eq]
      rw [Bool.and_eq_true] at hb
      constructor
      · rintro (⟨a, b, c⟩ | rfl)
        · exact ⟨by omega, b, c⟩
        · exact ⟨by omega, hb.1, hb.2⟩
      · rintro ⟨a, b, c⟩
        by_cases e : k = w
        · exact .inr e
        · exact .inl ⟨by omega, b, c⟩
    · rw [if_neg hb, ih]
      constructor
      · rintro ⟨a, b, c⟩; exact ⟨by omega, b, c⟩
      · rintro ⟨a, b, c⟩
        by_cases e : k = w
        · subst e; exact absurd (by rw [b, c]; rfl) hb
        · exact ⟨by omega, b, c⟩
end

end Go.Proofs.YtgnahadlcihneaaDoor

/-! Trees of questions as lists: the model's test, and the tree of an order. -/
namespace Go.Proofs.YtgnahadlcihneaaDoor
open Go.RowKit

/-- The question at place p of a list. -/
def atP (T : List Int) (p : Nat) : Int := T[p - 1]?.getD 0
/-- The question at place p is one of the numbers, and not asked for on the way there. -/
def okP (n : Nat) (T : List Int) (p : Nat) : Prop := (0 ≤ atP T p ∧ atP T p ≤ (n : Int) - 1) ∧ ∀ j, 0 < p / 2 ^ (j + 1) → atP T (p / 2 ^ (j + 1)) ≠ atP T p
structure IsT (n : Nat) (T : List Int) : Prop where
  len : T.length = 2 ^ n - 1
  ok : ∀ p, 1 ≤ p → p ≤ T.length → okP n T p
noncomputable def isTB (n : Nat) (T : List Int) : Bool := @decide (IsT n T) (Classical.propDecidable _)
theorem isTB_true {n : Nat} {T : List Int} (h : IsT n T) : isTB n T = true := @decide_eq_true _ (Classical.propDecidable _) h
theorem isTB_false {n : Nat} {T : List Int} (h : ¬ IsT n T) : isTB n T = false := @decide_eq_false _ (Classical.propDecidable _) h
theorem isTB_iff {n : Nat} {T : List Int} : isTB n T = true ↔ IsT n T := @decide_eq_true_iff _ (Classical.propDecidable _)
theorem half_pow (p j : Nat) : p / 2 ^ (j + 1) = p / 2 ^ j / 2 := by rw [Nat.pow_succ, Nat.div_div_eq_div_mul]

/-- The tree that asks in an order: the first k numbers of it. -/
def treeL (L : List Int) (k : Nat) : List Int := (List.range (2 ^ k - 1)).map fun i => L[Nat.log2 (i + 1)]?.getD 0
theorem treeL_len (L : List Int) (k : Nat) : (treeL L k).length = 2 ^ k - 1 := by unfold treeL; simp
theorem treeL_at {L : List Int} {k p : Nat} (h1 : 1 ≤ p) (h2 : p ≤ 2 ^ k - 1) : atP (treeL L k) p = L[Nat.log2 p]?.getD 0 := by
  unfold atP treeL
  rw [List.getElem?_map, List.getElem?_range (by omega)]
  simp only [Option.map_some, Option.getD_some]
  rw [show p - 1 + 1 = p by omega]
theorem log_half : ∀ p : Fin 64, ∀ j : Fin 6, 0 < p.val / 2 ^ (j.val + 1) → Nat.log2 (p.val / 2 ^ (j.val + 1)) + (j.val + 1) = Nat.log2 p.val := by decide +kernel
theorem log_lt6 : ∀ n : Fin 7, ∀ p : Fin 64, 1 ≤ p.val → p.val ≤ 2 ^ n.val - 1 → Nat.log2 p.val < n.val := by decide +kernel
theorem log_two : ∀ k : Fin 6, Nat.log2 (2 ^ k.val) = k.val := by decide +kernel
theorem log_row : ∀ k : Fin 6, ∀ x : Fin 64, 2 ^ k.val ≤ x.val → x.val < 2 ^ (k.val + 1) → Nat.log2 x.val = k.val := by decide +kernel
theorem pow_le64 {n : Nat} (h : n ≤ 6) : 2 ^ n ≤ 64 := show 2 ^ n ≤ 2 ^ 6 from Nat.pow_le_pow_right (by decide) h
theorem big_half {p j : Nat} (hp : p < 64) (hj : 6 ≤ j + 1) : p / 2 ^ (j + 1) = 0 := by
  have : 2 ^ 6 ≤ 2 ^ (j + 1) := Nat.pow_le_pow_right (by decide) hj
  exact Nat.div_eq_of_lt (by omega)

/-- The tree of an order is a tree exactly if this is a renumbering. -/
theorem treeL_is {L : List Int} {n : Nat} (hn : n ≤ 6) (hl : L.length = n) : IsT n (treeL L n) ↔ IsR L (n : Int) := by
  have h64 := pow_le64 hn
  constructor
  · intro h
    refine ⟨by omega, fun x hx => ?_, fun i j hij hj => ?_⟩
    · obtain ⟨i, hi, rfl⟩ := List.getElem_of_mem hx
      have hp : 1 ≤ 2 ^ i := Nat.one_le_two_pow
      have hp2 : 2 ^ i < 2 ^ n := Nat.pow_lt_pow_right (by decide) (by omega)
      have h1 := (h.ok (2 ^ i) hp (by rw [treeL_len]; omega)).1
      rw [treeL_at hp (by omega), log_two ⟨i, by omega⟩, List.getElem?_eq_getElem hi] at h1
      simp only [Option.getD_some] at h1
      omega
    · have hp : 1 ≤ 2 ^ j := Nat.one_le_two_pow
      have hp2 : 2 ^ j < 2 ^ n := Nat.pow_lt_pow_right (by decide) (by omega)
      have hd : 2 ^ j / 2 ^ (j - i - 1 + 1) = 2 ^ i := by
        rw [show j - i - 1 + 1 = j - i by omega, Nat.pow_div (by omega) (by decide)]
        congr 1
        omega
      have hpi : 1 ≤ 2 ^ i := Nat.one_le_two_pow
      have hpi2 : 2 ^ i < 2 ^ n := Nat.pow_lt_pow_right (by decide) (by omega)
      have h1 := (h.ok (2 ^ j) hp (by rw [treeL_len]; omega)).2 (j - i - 1) (by rw [hd]; omega)
      rw [hd, treeL_at hp (by omega), treeL_at hpi (by omega), log_two ⟨i, by omega⟩, log_two ⟨j, by omega⟩] at h1
      exact h1
  · intro h
    refine ⟨treeL_len L n, fun p h1 h2 => ?_⟩
    rw [treeL_len] at h2
    have hlt := log_lt6 ⟨n, by omega⟩ ⟨p, by omega⟩ h1 h2
    simp only at hlt
    have hm : L[Nat.log2 p]?.getD 0 ∈ L := getD_mem (by omega)
    refine ⟨?_, fun j hj => ?_⟩
    · rw [treeL_at h1 h2]
      have := h.rng _ hm
      omega
    · have hj6 : j < 6 := by
        apply Classical.byContradiction
        intro hc
        rw [big_half (by omega) (by omega)] at hj
        omega
      have hle : p / 2 ^ (j + 1) ≤ p := Nat.div_le_self _ _
      have hlg := log_half ⟨p, by omega⟩ ⟨j, hj6⟩ hj
      simp only at hlg
      rw [treeL_at (by omega) (by omega), treeL_at h1 h2]
      exact h.inj _ _ (by omega) (by omega)
theorem treeL_isB {L : List Int} {n : Nat} (hn : n ≤ 6) (hl : L.length = n) : isTB n (treeL L n) = isRB L (n : Int) := by
  rw [Bool.eq_iff_iff, isTB_iff, isRB_iff, treeL_is hn hl]
theorem treeL_get {L : List Int} {k i : Nat} (h : i < (treeL L k).length) : (treeL L k)[i] = L[Nat.log2 (i + 1)]?.getD 0 := by
  have h2 : i < 2 ^ k - 1 := by rw [treeL_len] at h; exact h
  have := treeL_at (L := L) (k := k) (p := i + 1) (by omega) (by omega)
  unfold atP at this
  rw [show i + 1 - 1 = i by omega, List.getElem?_eq_getElem h] at this
  exact this
/-- A number more. -/
theorem treeL_succ {L : List Int} {k : Nat} (hk : k < 6) : treeL L (k + 1) = treeL L k ++ List.replicate (2 ^ k) (L[k]?.getD 0) := by
  have hp : 1 ≤ 2 ^ k := Nat.one_le_two_pow
  have h64 : 2 ^ (k + 1) ≤ 64 := pow_le64 (by omega)
  have hs : 2 ^ (k + 1) = 2 ^ k + 2 ^ k := by rw [Nat.pow_succ]; omega
  apply List.ext_getElem (by rw [List.length_append, treeL_len, treeL_len, List.length_replicate]; omega)
  intro i h1 h2
  rw [treeL_len] at h1
  rw [List.getElem_append]
  split
  · rw [treeL_get, treeL_get]
  · rename_i h3
    rw [treeL_len] at h3
    rw [List.getElem_replicate, treeL_get, log_row ⟨k, hk⟩ ⟨i + 1, by omega⟩ (by simp only; omega) (by simp only; omega)]
theorem treeL_zero (L : List Int) : treeL L 0 = [] := rfl
/-- .. place by place. -/
def dep (q : Nat) : Nat := if q = 0 then 0 else Nat.log2 q + 1
theorem dep_step : ∀ p : Fin 64, 1 ≤ p.val → dep p.val = if p.val &&& (p.val - 1) = 0 then dep (p.val - 1) + 1 else dep (p.val - 1) := by decide +kernel
theorem dep_le : ∀ n : Fin 7, ∀ p : Fin 64, p.val ≤ 2 ^ n.val - 1 → dep p.val ≤ n.val := by decide +kernel
def treeP (L : List Int) (p : Nat) : List Int := (List.range p).map fun i => L[Nat.log2 (i + 1)]?.getD 0
theorem treeP_succ (L : List Int) (p : Nat) : treeP L (p + 1) = treeP L p ++ [L[Nat.log2 (p + 1)]?.getD 0] := by unfold treeP; rw [List.range_succ, List.map_append]; rfl
theorem treeP_len (L : List Int) (p : Nat) : (treeP L p).length = p := by unfold treeP; simp

set_option maxRecDepth 100000 in
set_option maxHeartbeats 4000000 in
theorem treeT_any (n : Nat) (a : Option Addr) (cap : Nat) (T : List Int) (w : World) (hx : SlI w w.heap.size a T) (hl : T.length ≤ 1048576) (hn : n ≤ 6) :
    Calls Tryd.prog 56 #[.int .i64 (n : Int), .slice a T.length cap] w fun e w' => e = .returned (.bool (isTB n T)) ∧ Below w.heap.size w w' := by
  have h64 := pow_le64 hn
  have Hx := hid hx
  have hp1 : 1 ≤ 2 ^ n := Nat.one_le_two_pow
  have hsh : wrap64 (2 ^ n) = ((2 ^ n : Nat) : Int) := by
    rw [wrap64, show ((2 : Int) ^ n) = ((2 ^ n : Nat) : Int) by simp]
    generalize 2 ^ n = z at h64
    omega
  obtain ⟨R, hR⟩ : ∃ R, R = isTB n T := ⟨_, rfl⟩
  have HT : Hid (IsT n T → R = true) := hid (fun h => hR.trans (isTB_true h))
  have HF : Hid (¬ IsT n T → R = false) := hid (fun h => hR.trans (isTB_false h))
  rw [← hR]
  have HI := hid (fun x W => in_any x 0 ((n : Int) - 1) W)
  have hn0 : (0 : Int) ≤ (n : Int) := by omega
  obtain ⟨P, hP⟩ : ∃ P, P = 2 ^ n := ⟨_, rfl⟩
  rw [← hP] at hsh h64 hp1
  have HP := hid hP
  have hs1 : wrap64 ((P : Int) - 1) = (P : Int) - 1 := by rw [wrap64]; omega
  have hs2 : wrap64 ((n : Int) - 1) = (n : Int) - 1 := by rw [wrap64]; omega
  clear hx hR hP
  by_cases hlen : T.length = P - 1
  · have hd : ((T.length : Int) != (P : Int) - 1) = false := by simp; omega
    have Hlen := hid hlen
    clear hlen
    go_enter Tryd.func56, Tryd.ntmps56
    go_wp2_with fail
    clear hd
    rw [hsh]
    clear hsh
    go_loopw [5] (fun iv wx => ∃ p : Nat, 1 ≤ p ∧ p ≤ T.length + 1 ∧ iv = .int .i64 (p : Int) ∧ Hid (∀ q, 1 ≤ q → q < p → okP n T q) ∧ Hid (Below w.heap.size w wx)) (fun iv _ => T.length + 1 - (intOf iv).toNat)
    case atStart => exact ⟨1, Nat.le_refl _, by omega, rfl, hid (fun q h1 h2 => by omega), hid (Below.refl _ _)⟩
    case round =>
      obtain ⟨p, hp0, hp, rfl, HK, HB⟩ := hrel
      by_cases hlt : p ≤ T.length
      · obtain ⟨b, off, hb, rfl, hc⟩ : ∃ b off, b < w.heap.size ∧ a = some ⟨b, off, none⟩ ∧ ∀ i, i < T.length → w.cell? ⟨b, off + i, none⟩ = some (.int .i64 (T[i]?.getD 0)) := by
          rcases Hx.out with h | h
          · rw [h] at hlt; simp at hlt; omega
          · exact h
        obtain ⟨x, hxe⟩ : ∃ x, x = atP T p := ⟨_, rfl⟩
        have hck : wr.cell? ⟨b, off + (p - 1), none⟩ = some (.int .i64 x) := by rw [hxe]; exact (HB.out.cell (p := ⟨b, off + (p - 1), none⟩) hb).trans (hc (p - 1) (by omega))
        have hsub : wrap64 ((p : Int) - 1) = ((p - 1 : Nat) : Int) := by rw [wrap64]; omega
        have hsub2 : IntKind.i64.wrap ((p : Int) - 1) = ((p - 1 : Nat) : Int) := by rw [IntKind.wrap_i64]; omega
        have hi0 : (0 : Int) ≤ ((p - 1 : Nat) : Int) := by omega
        have hi1 : ((p - 1 : Nat) : Int) < (T.length : Int) := by omega
        have hlp : (p : Int) ≤ (T.length : Int) := by omega
        have HIx := hid (HI.out x)
        have Hcl := hid (fun i (h : i < T.length) => (HB.out.cell (p := ⟨b, off + i, none⟩) hb).trans (hc i h))
        have Hxe := hid hxe
        have HB' := hid (fun W (h : Below wr.heap.size wr W) => HB.out.trans (h.mono HB.out.size))
        clear hc hxe
        by_cases hin : 0 ≤ x ∧ x ≤ (n : Int) - 1
        · rw [decide_eq_true hin.1, decide_eq_true hin.2] at HIx
          have Hin := hid hin
          clear hin
          go_wp2_with fail
          refine (HIx.out wr).mono ?_
          rintro e w2 ⟨rfl, rfl⟩
          go_wp2_with fail
          go_loopw [6] (fun qv wx => ∃ j q : Nat, q = p / 2 ^ (j + 1) ∧ qv = .int .i64 (q : Int) ∧ Hid (∀ i, i < j → atP T (p / 2 ^ (i + 1)) ≠ x) ∧ Hid (Below wr.heap.size wr wx)) (fun qv _ => (intOf qv).toNat)
          case atStart => exact ⟨0, p / 2, by simp, by simp, hid (fun i h => absurd h (by omega)), hid (Below.refl _ _)⟩
          case round =>
            obtain ⟨j, q, hq, rfl, HJ, HB2⟩ := hrel
            have hqp : q ≤ p := by rw [hq]; exact Nat.div_le_self _ _
            by_cases hq0 : 0 < q
            · have hqp2 : q ≤ T.length := by omega
              have hg0 : decide (0 < q) = true := decide_eq_true hq0
              have hg1 : (0 : Int) < (q : Int) := by omega
              have c0 := (HB2.out.cell (p := ⟨b, off + (p - 1), none⟩) (by have := HB.out.size; simp only; omega)).trans hck
              have c1 := (HB2.out.cell (p := ⟨b, off + (q - 1), none⟩) (by have := HB.out.size; simp only; omega)).trans (Hcl.out (q - 1) (by omega))
              obtain ⟨y, hye⟩ : ∃ y, y = atP T q := ⟨_, rfl⟩
              have c1' : ∀ z, z = T[q - 1]?.getD 0 → z = y := fun z hz => by rw [hz, hye]; rfl
              rw [c1' _ rfl] at c1
              have hqs : wrap64 ((q : Int) - 1) = ((q - 1 : Nat) : Int) := by rw [wrap64]; omega
              have hqs2 : IntKind.i64.wrap ((q : Int) - 1) = ((q - 1 : Nat) : Int) := by rw [IntKind.wrap_i64]; omega
              have hj0 : (0 : Int) ≤ ((q - 1 : Nat) : Int) := by omega
              have hj1 : ((q - 1 : Nat) : Int) < (T.length : Int) := by omega
              have Hq := hid hq
              have Hye := hid hye
              clear hq hye c1'
              by_cases hxy : y = x
              · have hd2 : (y == x) = true := by simp [hxy]
                have He : Hid (R = false) := hid (HF.out (fun h => (h.ok p hp0 hlt).2 j (by rw [← Hq.out]; exact hq0) (by rw [← Hq.out, ← Hye.out, ← Hxe.out]; exact hxy)))
                clear hxy
                go_wp2_with fail
                go_quiet (fail)
                go_wp2_with fail
                go_ret
                exact ⟨ret_bool He.out.symm, (HB'.out _ HB2.out).trans ⟨rfl, rfl, rfl, Nat.le_refl _, fun _ _ => rfl⟩⟩
              · have hd2 : (y == x) = false := by simpa using hxy
                have HJ2 : Hid (∀ i, i < j + 1 → atP T (p / 2 ^ (i + 1)) ≠ x) := hid (fun i hi => by
                  by_cases e : i = j
                  · subst e; rw [← Hq.out, ← Hye.out]; exact hxy
                  · exact HJ.out i (by omega))
                have hhalf : q / 2 = p / 2 ^ (j + 1 + 1) := by rw [Hq.out, Nat.pow_succ _ (j + 1), Nat.div_div_eq_div_mul]
                have Hhalf := hid hhalf
                clear hxy hhalf
                go_wp2_with fail
                go_quiet (fail)
                go_wp2_with fail
                go_roundw
                case rel => exact ⟨j + 1, q / 2, Hhalf.out, by simp, HJ2, hid (HB2.out.trans ⟨rfl, rfl, rfl, Nat.le_refl _, fun _ _ => rfl⟩)⟩
                case measure => simp [intOf]; omega
            · obtain rfl : q = 0 := by omega
              have HK2 : Hid (∀ q, 1 ≤ q → q < p + 1 → okP n T q) := hid (fun q h1 h2 => by
                by_cases e : q = p
                · subst e
                  refine ⟨by rw [← Hxe.out]; exact Hin.out, fun i hi => ?_⟩
                  rw [← Hxe.out]
                  by_cases hij : i < j
                  · exact HJ.out i hij
                  · have h0 : q / 2 ^ (i + 1) ≤ q / 2 ^ (j + 1) := Nat.div_le_div_left (Nat.pow_le_pow_right (by decide) (by omega)) (Nat.two_pow_pos _)
                    omega
                · exact HK.out q h1 (by omega))
              clear hq hqp hsub hsub2 hck
              go_wp2_with fail
              go_roundw
              case rel => exact ⟨p + 1, by omega, by omega, by go_num, HK2, hid (HB'.out _ HB2.out)⟩
              case measure => simp [intOf]; omega
        · have hf : (decide (0 ≤ x) && decide (x ≤ (n : Int) - 1)) = false := by simp; omega
          rw [hf] at HIx
          have He : Hid (R = false) := hid (HF.out (fun h => hin (by have := (h.ok p hp0 hlt).1; rw [← Hxe.out] at this; exact this)))
          clear hin hf
          go_wp2_with fail
          refine (HIx.out wr).mono ?_
          rintro e w2 ⟨rfl, rfl⟩
          go_wp2_with fail
          go_ret
          exact ⟨ret_bool He.out.symm, HB.out⟩
      · have He : Hid (R = true) := hid (HT.out ⟨by rw [Hlen.out, HP.out], fun q h1 h2 => HK.out q h1 (by omega)⟩)
        have hlp : ¬ (p : Int) ≤ (T.length : Int) := by omega
        go_wp2_with fail
        go_ret
        exact ⟨ret_bool He.out.symm, HB.out⟩
  · have hd : ((T.length : Int) != (P : Int) - 1) = true := by simp; omega
    have He : Hid (R = false) := hid (HF.out (fun h => hlen (by rw [h.len, HP.out])))
    clear hlen
    go_enter Tryd.func56, Tryd.ntmps56
    go_wp2_with fail
    go_ret
    exact ⟨ret_bool He.out.symm, Below.refl _ _⟩

end Go.Proofs.YtgnahadlcihneaaDoor

/-! The program's trees: questions that can stand at a place. -/
namespace Go.Proofs.YtgnahadlcihneaaDoor
open Go.RowKit

/-- The cells of a tree of n: its places from 0 on. -/
def tcells (n : Int) (T : List Int) : List Value := .int .i64 n :: T.map (Value.int .i64)
/-- The question at a place of a padded list can stand there. -/
def canP (n : Int) (T : List Int) (p : Nat) : Prop := (∀ j, 0 < p / 2 ^ (j + 1) → T[p / 2 ^ (j + 1)]?.getD 0 ≠ T[p]?.getD 0) ∧ 0 ≤ T[p]?.getD 0 ∧ T[p]?.getD 0 < n
noncomputable def canB (n : Int) (T : List Int) (p : Nat) : Bool := @decide (canP n T p) (Classical.propDecidable _)
theorem canB_true {n : Int} {T : List Int} {p : Nat} (h : canP n T p) : canB n T p = true := @decide_eq_true _ (Classical.propDecidable _) h
theorem canB_false {n : Int} {T : List Int} {p : Nat} (h : ¬ canP n T p) : canB n T p = false := @decide_eq_false _ (Classical.propDecidable _) h
theorem canB_iff {n : Int} {T : List Int} {p : Nat} : canB n T p = true ↔ canP n T p := @decide_eq_true_iff _ (Classical.propDecidable _)

theorem tree_cells {w : World} {b : Nat} {n : Int} {T : List Int} {t : TypeId} (h : w.heap[b]? = some (.cells (tcells n T).toArray t (0, 0))) : w.cell? ⟨b, 0, none⟩ = some (.int .i64 n) ∧ ∀ p, p < T.length → w.cell? ⟨b, 1 + p, none⟩ = some (.int .i64 (T[p]?.getD 0)) := by
  refine ⟨by rw [cell_of_row w b 0 _ _ (0, 0) h]; rfl, fun p hp => ?_⟩
  rw [cell_of_row w b (1 + p) _ _ (0, 0) h, List.getElem?_toArray, Nat.add_comm]
  unfold tcells
  rw [List.getElem?_cons_succ, List.getElem?_map, List.getElem?_eq_getElem hp]
  rfl

set_option maxRecDepth 100000 in
set_option maxHeartbeats 2000000 in
theorem can_any (n : Int) (T : List Int) (p : Nat) (w : World) (hT : T.length = 64) (hp : p < 64) (h1 : 1 ≤ p) :
    Calls Tryd.prog 105 #[.agg (tcells n T).toArray, .int .i64 (p : Int)] w fun e w' => e = .returned (.bool (canB n T p)) ∧ Below w.heap.size w w' := by
  obtain ⟨W0, hW0⟩ : ∃ W0, W0 = w.alloc (.cells (tcells n T).toArray 66) := ⟨_, rfl⟩
  have hB0 : Below w.heap.size w W0 := by rw [hW0]; exact (Below.refl _ w).alloc (Nat.le_refl _) _
  have hk : W0.heap[w.heap.size]? = some (.cells (tcells n T).toArray 66 (0, 0)) := by rw [hW0]; exact heap_alloc_new _ _
  obtain ⟨t0, tc⟩ := tree_cells hk
  have cp := tc p (by omega)
  have Htc := hid tc
  have HB0 := hid hB0
  obtain ⟨x, hx⟩ : ∃ x, x = T[p]?.getD 0 := ⟨_, rfl⟩
  rw [← hx] at cp
  have HT : Hid (canP n T p → canB n T p = true) := hid canB_true
  have HF : Hid (¬ canP n T p → canB n T p = false) := hid canB_false
  obtain ⟨R, hR⟩ : ∃ R, R = canB n T p := ⟨_, rfl⟩
  rw [← hR] at HT HF ⊢
  obtain ⟨A, hA⟩ : ∃ A, A = (tcells n T).toArray := ⟨_, rfl⟩
  rw [← hA] at hW0 ⊢
  have hi0 : (0 : Int) ≤ (p : Int) := by omega
  have hi1 : (p : Int) < 64 := by omega
  have Hx := hid hx
  have HlT := hid hT
  have t00 := t0
  have Ht0 := hid t0
  rw [hW0] at t00 cp
  clear hk tc hB0 hA hx hR hT t0
  go_enter Tryd.func105, Tryd.ntmps105
  go_wp2_with fail
  rw [← hW0] at cp t00 ⊢
  clear hW0 cp t00
  go_loopw [6] (fun qv wx => ∃ j q : Nat, q = p / 2 ^ (j + 1) ∧ qv = .int .i64 (q : Int) ∧ Hid (∀ i, i < j → T[p / 2 ^ (i + 1)]?.getD 0 ≠ x) ∧ wx = W0) (fun qv _ => (intOf qv).toNat)
  case atStart => exact ⟨0, p / 2, by simp, by simp, hid (fun i h => absurd h (by omega)), rfl⟩
  case round =>
    obtain ⟨j, q, hq, rfl, HJ, rfl⟩ := hrel
    have hqp : q ≤ p := by rw [hq]; exact Nat.div_le_self _ _
    by_cases hq0 : 0 < q
    · have hg1 : (0 : Int) < (q : Int) := by omega
      have cq := Htc.out q (by have := HlT.out; omega)
      obtain ⟨y, hye⟩ : ∃ y, y = T[q]?.getD 0 := ⟨_, rfl⟩
      rw [← hye] at cq
      have hj0 : (0 : Int) ≤ (q : Int) := by omega
      have hj1 : (q : Int) < 64 := by omega
      have Hq := hid hq
      have Hye := hid hye
      clear hq hye
      by_cases hxy : y = x
      · have hd2 : (y == x) = true := by simp [hxy]
        have He : Hid (R = false) := hid (HF.out (fun h => h.1 j (by rw [← Hq.out]; exact hq0) (by rw [← Hq.out, ← Hye.out, ← Hx.out]; exact hxy)))
        clear hxy
        go_wp2_with fail
        go_ret
        exact ⟨ret_bool He.out.symm, HB0.out⟩
      · have hd2 : (y == x) = false := by simpa using hxy
        have HJ2 : Hid (∀ i, i < j + 1 → T[p / 2 ^ (i + 1)]?.getD 0 ≠ x) := hid (fun i hi => by
          by_cases e : i = j
          · subst e; rw [← Hq.out, ← Hye.out]; exact hxy
          · exact HJ.out i (by omega))
        have hhalf : q / 2 = p / 2 ^ (j + 1 + 1) := by rw [Hq.out, Nat.pow_succ _ (j + 1), Nat.div_div_eq_div_mul]
        have Hhalf := hid hhalf
        clear hxy hhalf
        go_wp2_with fail
        go_roundw
        case rel => exact ⟨j + 1, q / 2, Hhalf.out, by simp, HJ2, by trivial⟩
        case measure => simp [intOf]; omega
    · obtain rfl : q = 0 := by omega
      have HK : Hid (∀ i, 0 < p / 2 ^ (i + 1) → T[p / 2 ^ (i + 1)]?.getD 0 ≠ x) := hid (fun i hi => by
        by_cases hij : i < j
        · exact HJ.out i hij
        · have h0 : p / 2 ^ (i + 1) ≤ p / 2 ^ (j + 1) := Nat.div_le_div_left (Nat.pow_le_pow_right (by decide) (by omega)) (Nat.two_pow_pos _)
          omega)
      have t00 := Ht0.out
      clear hq hqp
      by_cases hx0 : 0 ≤ x
      · by_cases hxn : x < n
        · have He : Hid (R = true) := hid (HT.out ⟨fun i hi => by rw [← Hx.out]; exact HK.out i hi, by rw [← Hx.out]; exact ⟨hx0, hxn⟩⟩)
          go_wp2_with fail
          go_ret
          exact ⟨ret_bool He.out.symm, HB0.out⟩
        · have He : Hid (R = false) := hid (HF.out (fun h => hxn (by have := h.2.2; rwa [← Hx.out] at this)))
          go_wp2_with fail
          go_ret
          exact ⟨ret_bool He.out.symm, HB0.out⟩
      · have He : Hid (R = false) := hid (HF.out (fun h => hx0 (by have := h.2.1; rwa [← Hx.out] at this)))
        go_wp2_with fail
        go_ret
        exact ⟨ret_bool He.out.symm, HB0.out⟩

end Go.Proofs.YtgnahadlcihneaaDoor

/-! mustBeTree. -/
namespace Go.Proofs.YtgnahadlcihneaaDoor
open Go.RowKit

theorem zero_tree : ∃ Z : Array Value, Z.size = 65 ∧ Z.all (·.oneCell') = true ∧ (∀ w, (zeroValue 66).run Tryd.prog w = .ok (.agg Z) w) ∧ (Tryd.prog.info? 66).map (·.size) = some 65 := by
  refine ⟨Array.replicate 65 (.int .i64 0), by simp, by kernel_rfl, fun w => ?_, by kernel_rfl⟩
  exact (zero_of_info (P := Tryd.prog) (t := 66) (v := .agg (Array.replicate 65 (.int .i64 0))) (n := 65) (by kernel_rfl)).1 w

/-- The padded list: place 0 has no question. -/
def padL (T : List Int) : List Int := 0 :: T ++ List.replicate (63 - T.length) 0
theorem padL_len {T : List Int} (h : T.length ≤ 63) : (padL T).length = 64 := by unfold padL; simp; omega
theorem padL_at {T : List Int} {p : Nat} (h1 : 1 ≤ p) (h2 : p ≤ T.length) : (padL T)[p]?.getD 0 = atP T p := by
  unfold padL atP
  rw [List.cons_append, List.getElem?_cons, if_neg (by omega), List.getElem?_append_left (by omega)]
theorem can_ok {n : Nat} {T : List Int} {p : Nat} (_hT : T.length ≤ 63) (h1 : 1 ≤ p) (h2 : p ≤ T.length) : canP (n : Int) (padL T) p ↔ okP n T p := by
  unfold canP okP
  rw [padL_at h1 h2]
  have hd : ∀ j, p / 2 ^ (j + 1) ≤ p := fun j => Nat.div_le_self _ _
  constructor
  · rintro ⟨h3, h4, h5⟩
    exact ⟨⟨h4, by omega⟩, fun j hj => by have := h3 j hj; rwa [padL_at hj (Nat.le_trans (hd j) h2)] at this⟩
  · rintro ⟨⟨h4, h5⟩, h3⟩
    exact ⟨fun j hj => by rw [padL_at hj (Nat.le_trans (hd j) h2)]; exact h3 j hj, h4, by omega⟩

theorem tree_heap {w : World} {base e g n : Nat} {xs : List Value} (h : w.ownsRow base e 1 (.slice (some ⟨g, 0, none⟩) n n) n xs) : w.heap[g]? = some (.cells xs.toArray e (0, 0)) := by
  rcases h.2 with ⟨h', _⟩ | ⟨g', cap', cur, h', hb, hg, hnc, hcm, hcs, htake⟩
  · simp at h'
  · simp only [Value.slice.injEq, Option.some.injEq, Addr.mk.injEq, and_true, true_and] at h'
    obtain ⟨rfl, rfl⟩ := h'
    rw [hg, ← htake, List.take_of_length_le (by simp; omega)]
theorem copyT {W : World} {g b off dCap sCap : Nat} {T : List Int} (ty : TypeId) (hg : W.heap[g]? = some (.cells ((List.replicate 64 (0 : Int)).map (Value.int .i64)).toArray 2 (0, 0))) (h63 : T.length ≤ 63) (hs : ∀ j, j < T.length → W.cell? ((⟨b, off, none⟩ : Addr).add j) = some (.int .i64 (T[j]?.getD 0))) :
    (Builtin.copy_ #[22, 22] ty #[.slice (some ⟨g, 1, none⟩) 63 dCap, .slice (some ⟨b, off, none⟩) T.length sCap]).run Tryd.prog W = .ok (goInt T.length) (W.setRow g ((padL T).map (Value.int .i64)).toArray) := by
  have h := run_copy_row (P := Tryd.prog) W 22 22 ty 2 g 1 63 dCap ⟨b, off, none⟩ T.length sCap ((List.replicate 64 (0 : Int)).map (Value.int .i64)).toArray 2 (T.map (Value.int .i64)) Tryd.underlying22 (by kernel_rfl) hg (by rw [List.length_map]; show T.length = min T.length 63; omega)
    (fun j v hj => by
      have hjl : j < T.length := by have := (List.getElem?_eq_some_iff.1 hj).1; simpa using this
      rw [hs j hjl]
      rw [List.getElem?_map, List.getElem?_eq_getElem hjl] at hj
      rw [List.getElem?_eq_getElem hjl]
      exact hj) (by simp; omega) (fun v hv => by
      obtain ⟨x, _, rfl⟩ := List.mem_map.1 hv
      rfl)
  have e : (((List.replicate 64 (0 : Int)).map (Value.int .i64)).take 1 ++ T.map (Value.int .i64) ++ ((List.replicate 64 (0 : Int)).map (Value.int .i64)).drop (1 + T.length)) = (padL T).map (Value.int .i64) := by
    unfold padL
    rw [List.map_replicate, List.drop_replicate, List.take_replicate, show 64 - (1 + T.length) = 63 - T.length by omega, List.map_append, List.map_cons, List.map_replicate]
    rfl
  rw [List.length_map] at h
  dsimp only at h
  rw [e] at h
  exact h

theorem setRow_grown2 (w : World) (g : Nat) (cs : Array Value) : w.grownBy (w.setRow g cs) (some g) :=
  ⟨rfl, rfl, rfl, by simp [World.setRow], fun k _ hk => by
    unfold World.setRow
    simp only [Array.getElem?_modify]
    rw [if_neg (fun e => hk (by rw [e]))]⟩
theorem arr_at (g : Nat) (W : World) : (Instr.arrayAt 64 (.slice (some ⟨g, 0, none⟩) 64 64)).run Tryd.prog W = .ok (.pointer (some ⟨g, 0, none⟩)) W := by kernel_rfl
theorem loadT {W : World} {g : Nat} {L : List Int} (hg : W.heap[g]? = some (.cells (L.map (Value.int .i64)).toArray 2 (0, 0))) (hl : L.length = 64) : (loadVar 64 ⟨g, 0, none⟩).run Tryd.prog W = .ok (.agg (L.map (Value.int .i64)).toArray) W :=
  run_loadVar_row (P := Tryd.prog) W g 2 64 _ (0, 0) _ hg Tryd.underlying64 rfl (by
    have h : (Tryd.prog.info? 64).map (·.size) = some 64 := by kernel_rfl
    rw [h]
    simp [hl])
theorem loadT2 {W : World} {g : Nat} {L : List Int} (hg : W.heap[g]? = some (.cells (L.map (Value.int .i64)).toArray 2 (0, 0))) (hl : L.length = 64) : (Instr.loadAt 64 (.pointer (some ⟨g, 0, none⟩))).run Tryd.prog W = .ok (.agg (L.map (Value.int .i64)).toArray) W := by
  simp only [Instr.loadAt, Instr.sureAddr, Sem.run_bind, Sem.run_pure, Result.andThen]
  exact loadT hg hl

theorem tcells_one (n : Int) (L : List Int) : (tcells n L).toArray.all (·.oneCell') = true := by
  rw [Array.all_eq_true_iff_forall_mem]
  intro v hv
  unfold tcells at hv
  simp at hv
  rcases hv with rfl | ⟨x, _, rfl⟩ <;> rfl
theorem fold_sets : ∀ (l : List Value) (k : Nat) (Z : Array Value) (i : Nat), ((l.zipIdx k).foldl (fun cs x => cs.setIfInBounds (1 + x.2) x.1) Z)[i]? = if 1 + k ≤ i ∧ i < 1 + k + l.length ∧ i < Z.size then l[i - 1 - k]? else Z[i]?
  | [], k, Z, i => by simp; intro h1 h2; omega
  | v :: l, k, Z, i => by
    rw [List.zipIdx_cons, List.foldl_cons, fold_sets l (k + 1) _ i, Array.size_setIfInBounds]
    simp only [List.length_cons]
    by_cases h : i = 1 + k
    · subst h
      rw [if_neg (by omega)]
      by_cases hz : 1 + k < Z.size
      · rw [Array.getElem?_setIfInBounds_self_of_lt hz, if_pos (by omega), show 1 + k - 1 - k = 0 by omega]
        rfl
      · rw [if_neg (by omega), Array.getElem?_eq_none (by simp; omega), Array.getElem?_eq_none (by omega)]
    · rw [Array.getElem?_setIfInBounds_ne (fun e => h e.symm)]
      by_cases h2 : 1 + (k + 1) ≤ i ∧ i < 1 + (k + 1) + l.length ∧ i < Z.size
      · rw [if_pos h2, if_pos (by omega), show i - 1 - k = (i - 1 - (k + 1)) + 1 by omega, List.getElem?_cons_succ]
      · rw [if_neg h2, if_neg (by omega)]
theorem built_tree {Z : Array Value} {L : List Int} (n : Int) (hZ : Z.size = 65) (hL : L.length = 64) : Array.foldl (fun cs (x : Value × Nat) => cs.setIfInBounds (1 + x.snd) x.fst) (Z.setIfInBounds 0 (Value.int .i64 n)) (L.map (Value.int .i64)).toArray.zipIdx 0 (L.map (Value.int .i64)).toArray.size = (tcells n L).toArray := by
  have e : Array.foldl (fun cs (x : Value × Nat) => cs.setIfInBounds (1 + x.snd) x.fst) (Z.setIfInBounds 0 (Value.int .i64 n)) (L.map (Value.int .i64)).toArray.zipIdx 0 (L.map (Value.int .i64)).toArray.size = ((L.map (Value.int .i64)).zipIdx 0).foldl (fun cs x => cs.setIfInBounds (1 + x.2) x.1) (Z.setIfInBounds 0 (Value.int .i64 n)) := by
    simp
  rw [e]
  apply Array.ext_getElem?
  intro i
  rw [fold_sets]
  unfold tcells
  simp only [List.length_map, Array.size_setIfInBounds, hZ, hL, List.getElem?_toArray]
  by_cases h0 : i = 0
  · subst h0
    rw [if_neg (by omega)]
    simp [hZ]
  · by_cases h1 : i < 65
    · obtain ⟨j, rfl⟩ : ∃ j, i = j + 1 := ⟨i - 1, by omega⟩
      rw [if_pos (by omega)]
      simp
    · rw [if_neg (by omega), Array.getElem?_eq_none (by simp; omega), List.getElem?_eq_none (by simp [hL]; omega)]

/-- What mustBeTree ends with. -/
def endT (c : Bool) (A : Array Value) (u : TypeId) (pv : Value) : Ending := if c then .returned (.agg A) else .panicked [{ v := .iface u pv, recovered := false }]

set_option maxRecDepth 100000 in
set_option maxHeartbeats 4000000 in
theorem mustT_any (n : Nat) (a : Option Addr) (cap : Nat) (T : List Int) (w : World) (u : TypeId) (pv : Value) (hx : SlI w w.heap.size a T) (hl : T.length ≤ 1048576) (h1 : 1 ≤ n) (h6 : n ≤ 6)
    (hG : w.cell? ⟨1, 0, none⟩ = some (.iface u pv)) :
    Calls Tryd.prog 88 #[.int .i64 (n : Int), .slice a T.length cap] w fun e w' => e = endT (isTB n T) (tcells n (padL T)).toArray u pv ∧ Below w.heap.size w w' := by
  obtain ⟨Z, hZs, _, hz, hi⟩ := zero_tree
  have h64 := pow_le64 h6
  have hp1 : 1 ≤ 2 ^ n := Nat.one_le_two_pow
  have hav : allV (n : Int) = ((2 ^ n - 1 : Nat) : Int) := by
    have e : ((2 ^ n : Nat) : Int) = (2 : Int) ^ n := by simp
    have h : allV (n : Int) = (2 : Int) ^ n - 1 := by unfold allV; simp
    omega
  have HAV := hid (fun W => av_any (n : Int) W (by omega) (by omega))
  rw [hav] at HAV
  have HTl : Hid (IsT n T → isTB n T = true) := hid isTB_true
  have HFl : Hid (¬ IsT n T → isTB n T = false) := hid isTB_false
  obtain ⟨R, hR⟩ : ∃ R, R = isTB n T := ⟨_, rfl⟩
  rw [← hR] at HTl HFl ⊢
  obtain ⟨P, hP⟩ : ∃ P, P = 2 ^ n := ⟨_, rfl⟩
  have HP := hid hP
  rw [← hP] at h64 hp1 HAV
  have Hx := hid hx
  have HG := hid hG
  have HGl := hid (World.block_lt_of_cell? w _ hG)
  clear hav hR hP hx hG
  by_cases hlen : T.length = P - 1
  · have hd : ((T.length : Int) != ((P - 1 : Nat) : Int)) = false := by simp; omega
    obtain ⟨b, off, hb, rfl, hc⟩ : ∃ b off, b < w.heap.size ∧ a = some ⟨b, off, none⟩ ∧ ∀ i, i < T.length → w.cell? ⟨b, off + i, none⟩ = some (.int .i64 (T[i]?.getD 0)) := by
      rcases Hx.out with h | h
      · have h2 : 2 ^ 1 ≤ 2 ^ n := Nat.pow_le_pow_right (by decide) h1
        have := HP.out
        rw [h] at hlen
        simp at hlen
        omega
      · exact h
    have h63 : T.length ≤ 63 := by omega
    have Hlen := hid hlen
    have Hc := hid hc
    clear hlen hc
    go_enter Tryd.func88, Tryd.ntmps88
    go_wp2_with fail
    refine (HAV.out _).mono ?_
    rintro e w1 ⟨rfl, rfl⟩
    have har := arr_at (w.heap.size + 1)
    have hBa : Below w.heap.size w (w.alloc (.cells Z 66)) := (Below.refl _ w).alloc (Nat.le_refl _) _
    go_upto_region 5 with (refine make_int (n := 64) rfl rfl rfl rfl (by omega) ?_; intro w1 hown1 hg1 hB1; have hh1 := tree_heap hown1; rw [World.size_alloc] at hh1; have hcp1 := fun ty => copyT (b := b) (off := off) (dCap := 63) (sCap := cap) (T := T) ty hh1 h63 (fun j hj => by rw [Addr.add_lit]; exact ((hBa.trans (hB1.mono (by simp))).cell (p := ⟨b, off + j, none⟩) hb).trans (Hc.out j hj)); have hst := setRow_heap w1 (w.heap.size + 1) ((List.replicate 64 (0 : Int)).map (Value.int .i64)).toArray ((padL T).map (Value.int .i64)).toArray 2 (0, 0) hh1; have hgr := setRow_grown2 w1 (w.heap.size + 1) ((padL T).map (Value.int .i64)).toArray)
    have hB2 : Below w.heap.size w (w1.setRow (w.heap.size + 1) ((padL T).map (Value.int .i64)).toArray) := (hBa.trans (hB1.mono (by simp))).grown hgr (Nat.le_trans (by simp) hB1.size) (fun k e => by cases e; omega)
    obtain ⟨W2, hW2⟩ : ∃ W2, W2 = w1.setRow (w.heap.size + 1) ((padL T).map (Value.int .i64)).toArray := ⟨_, rfl⟩
    have hBz : Below (w.alloc (.cells Z 66)).heap.size (w.alloc (.cells Z 66)) (w1.setRow (w.heap.size + 1) ((padL T).map (Value.int .i64)).toArray) := hB1.grown hgr hB1.size (fun k e => by cases e; simp)
    have hzb := (hBz.block w.heap.size (by simp)).trans (heap_alloc_new w _)
    rw [← hW2] at hst hB2 hzb ⊢
    have hi64 : (Tryd.prog.info? 64).map (·.size) = some ((padL T).map (Value.int .i64)).toArray.size := by
      have h : (Tryd.prog.info? 64).map (·.size) = some 64 := by kernel_rfl
      rw [h]
      simp [padL_len h63]
    have hfo := built_tree (n : Int) hZs (padL_len h63)
    obtain ⟨C, hC⟩ : ∃ C, C = ((padL T).map (Value.int .i64)).toArray := ⟨_, rfl⟩
    rw [← hC] at hst hi64 hfo
    have hAs : (tcells (n : Int) (padL T)).toArray.size = 65 := by simp [tcells, padL_len h63]
    have hA1 : (tcells (n : Int) (padL T)).toArray.all (·.oneCell') = true := tcells_one _ _
    obtain ⟨A, hA⟩ : ∃ A, A = (tcells (n : Int) (padL T)).toArray := ⟨_, rfl⟩
    rw [← hA] at hfo hAs hA1
    have hsc := run_storeCells_new (P := Tryd.prog) W2 66 Z A (by rw [hi, hAs]) (by rw [hZs, hAs]) hA1
    have HA := hid hA
    have hZ0 : ¬ Z = #[] := by rintro rfl; simp at hZs
    have hCs : C.size = 64 := by rw [hC]; simp [padL_len h63]
    have hfo2 := hfo
    rw [hCs] at hfo2
    have hzb3 := (Below.heap_alloc W2 (.cells A 66) _ (lt_get hzb)).trans hzb
    have Hzb := hid hzb3
    have HB3 := hid (hB2.alloc hB2.size (.cells A 66))
    have hAb := heap_alloc_new W2 (.cells A 66)
    have HAb := hid hAb
    have hne : w.heap.size ≠ W2.heap.size := by have := lt_get hzb; omega
    have Hne := hid hne
    have HCan := hid (fun W k (h : k < T.length) => by
      have h9 := can_any (n : Int) (padL T) (k + 1) W (padL_len h63) (by omega) (by omega)
      rw [← hA] at h9
      exact h9)
    have HB2 := hid hB2
    have HC := hid hC
    clear hW2 hh1 hcp1 hgr hB1 hBa hown1 hg1 hB2 hC hA hBz hzb hzb3 hAb hne
    go_wp2_with (first
      | (refine wpList_load_row rfl 64 _ rfl (w.heap.size + 1) rfl 2 C (0, 0) _ hst Tryd.underlying64 rfl hi64 ?_)
      | fail)
    clear hst hsc hfo hfo2 hCs hi64 har
    obtain ⟨W3, hW3⟩ : ∃ W3, W3 = W2.alloc (.cells A 66) := ⟨_, rfl⟩
    have HB3 : Hid (Below w.heap.size w W3) := hid (by rw [hW3]; exact HB3.out)
    have Hzb : Hid (W3.heap[w.heap.size]? = some (.cells Z 66 (0, 0))) := hid (by rw [hW3]; exact Hzb.out)
    have HAb : Hid (W3.heap[W2.heap.size]? = some (.cells A 66 (0, 0))) := hid (by rw [hW3]; exact HAb.out)
    rw [← hW3]
    clear hW3
    have hi66 : (Tryd.prog.info? 66).map (·.size) = some A.size := by rw [hi, hAs]
    have Hi66 := hid hi66
    clear hi hi66 hz
    go_loopw [26] (fun iv wx => ∃ k : Nat, k ≤ T.length ∧ iv = .int .i64 (k : Int) ∧ Hid (∀ q, 1 ≤ q → q ≤ k → okP n T q) ∧ Hid (Below W3.heap.size W3 wx)) (fun iv _ => T.length - (intOf iv).toNat)
    case atStart => exact ⟨0, Nat.zero_le _, rfl, hid (fun q h1 h2 => by omega), hid (Below.refl _ _)⟩
    case round =>
      obtain ⟨k, hk, rfl, HK, HB⟩ := hrel
      have hbA := (HB.out.block _ (lt_get HAb.out)).trans HAb.out
      have hbZ := (HB.out.block _ (lt_get Hzb.out)).trans Hzb.out
      have HBw := hid (HB3.out.trans (HB.out.mono HB3.out.size))
      have hi66 := Hi66.out
      by_cases hlt : k < T.length
      · have HC1 := hid (HCan.out wr k hlt)
        have hok := can_ok (n := n) (T := T) (p := k + 1) h63 (by omega) (by omega)
        have e : ((k + 1 : Nat) : Int) = (k : Int) + 1 := by omega
        rw [e] at HC1
        have hk1 : (k : Int) < (T.length : Int) := by omega
        cases hcb : canB (n : Int) (padL T) (k + 1)
        · have He : Hid (R = false) := hid (HFl.out (fun h => by
            have := canB_true (hok.2 (h.ok (k + 1) (by omega) (by omega)))
            rw [hcb] at this
            exact absurd this (by decide)))
          rw [hcb] at HC1
          clear hcb hok e
          go_wp2_with (first
            | (refine wpList_load_row rfl 66 _ rfl W2.heap.size rfl 66 A (0, 0) _ hbA Tryd.underlying66 rfl hi66 ?_)
            | fail)
          refine HC1.out.mono ?_
          rintro e w5 ⟨rfl, hB5⟩
          have HB5 := hid (HBw.out.trans (hB5.mono HBw.out.size))
          have hGr := (HB5.out.cell (p := ⟨1, 0, none⟩) HGl.out).trans HG.out
          clear hB5
          go_wp2_with fail
          refine ⟨rfl, ?_, HB5.out⟩
          rw [He.out]
          rfl
        · have hp := hok.1 (canB_iff.1 hcb)
          have HK2 : Hid (∀ q, 1 ≤ q → q ≤ k + 1 → okP n T q) := hid (fun q h1 h2 => by
            by_cases e : q = k + 1
            · subst e; exact hp
            · exact HK.out q h1 (by omega))
          rw [hcb] at HC1
          clear hcb hok e hp
          go_wp2_with (first
            | (refine wpList_load_row rfl 66 _ rfl W2.heap.size rfl 66 A (0, 0) _ hbA Tryd.underlying66 rfl hi66 ?_)
            | fail)
          refine HC1.out.mono ?_
          rintro e w5 ⟨rfl, hB5⟩
          have HB5 := hid (HB.out.trans (hB5.mono HB.out.size))
          clear hB5
          go_wp2_with fail
          go_roundw
          case rel => exact ⟨k + 1, by omega, by go_num, HK2, HB5⟩
          case measure => simp [intOf]; omega
      · obtain rfl : k = T.length := by omega
        have He : Hid (R = true) := hid (HTl.out ⟨by rw [Hlen.out, HP.out], fun q h1 h2 => HK.out q h1 h2⟩)
        have hZA : Z.size = A.size := by rw [hZs, hAs]
        go_wp2_with (first
          | (refine wpList_load_row rfl 66 _ rfl W2.heap.size rfl 66 A (0, 0) _ hbA Tryd.underlying66 rfl hi66 ?_)
          | (refine wpList_store_row rfl 66 _ _ rfl w.heap.size A rfl rfl 66 Z hbZ hi66 hZA hA1 ?_)
          | fail)
        have hrow := setRow_heap wr w.heap.size Z A 66 (0, 0) hbZ
        refine bodyPost_ret (v := .agg A) (results_cell_row (p := 4) (ty := 66) (by kernel_rfl) _ _ w.heap.size 66 A (0, 0) _ rfl hrow Tryd.underlying66 rfl hi66) rfl ⟨?_, HBw.out.grown (setRow_grown2 wr w.heap.size A) HBw.out.size (fun k e => by cases e; exact Nat.le_refl _)⟩
        rw [He.out, ← HA.out]
        rfl
  · have hd : ((T.length : Int) != ((P - 1 : Nat) : Int)) = true := by simp; omega
    have He : Hid (R = false) := hid (HFl.out (fun h => hlen (by rw [h.len, HP.out])))
    have hGa : ∀ o, (w.alloc o).cell? ⟨1, 0, none⟩ = some (.iface u pv) := fun o => (World.cell?_alloc_some w _ o (show (w.cell? _).isSome = true by rw [HG.out]; rfl)).trans HG.out
    clear hlen
    go_enter Tryd.func88, Tryd.ntmps88
    go_wp2_with fail
    refine (HAV.out _).mono ?_
    rintro e w1 ⟨rfl, rfl⟩
    go_wp2_with fail
    refine ⟨rfl, ?_, (Below.refl _ w).alloc (Nat.le_refl _) _⟩
    rw [He.out]
    rfl

end Go.Proofs.YtgnahadlcihneaaDoor

/-! How many faces a complex has at most. -/
namespace Go.Proofs.YtgnahadlcihneaaDoor

theorem asc_len : ∀ (fs : List Int) (lo : Int), fs.Pairwise (· < ·) → (∀ x ∈ fs, lo ≤ x ∧ x ≤ 63) → fs.length ≤ (64 - lo).toNat
  | [], lo, _, _ => by simp
  | x :: fs, lo, hp, hr => by
    have h1 := hr x (by simp)
    have h2 := asc_len fs (x + 1) (List.pairwise_cons.1 hp).2 (fun y hy => ⟨by have := (List.pairwise_cons.1 hp).1 y hy; omega, (hr y (by simp [hy])).2⟩)
    rw [List.length_cons]
    omega

theorem IsC.len63 {V : Int} {fs : List Int} (h : IsC V fs) : fs.length ≤ 63 := by
  have := asc_len fs 1 h.asc h.range63
  omega

end Go.Proofs.YtgnahadlcihneaaDoor

/-! Is a list a chain? The model's two tests. -/
namespace Go.Proofs.YtgnahadlcihneaaDoor
open Go.RowKit Go.Sort

/-- Element i of a list is a face with as many vertices as the first one, and greater than the one ahead of it. -/
def linkB (fs ch : List Int) (i : Nat) : Bool :=
  decide (ch[i]?.getD 0 ∈ fs) && decide (ones (ch[i]?.getD 0).toNat = ones (ch[0]?.getD 0).toNat) && (decide (i = 0) || decide (ch[i - 1]?.getD 0 < ch[i]?.getD 0))
def linksTo (fs ch : List Int) (k : Nat) : Prop := ∀ i, i < k → linkB fs ch i = true
def chainB (fs ch : List Int) : Bool := (List.range ch.length).all (linkB fs ch)
/-- The code of a complex and a list. -/
noncomputable def chnR (V : Int) (fs ch : List Int) : Int := if isCB V fs then (if chainB fs ch then 0 else 2) else 1

theorem chain_yes {fs ch : List Int} (h : linksTo fs ch ch.length) : chainB fs ch = true := by
  unfold chainB
  rw [List.all_eq_true]
  intro i hi
  exact h i (by simpa using hi)
theorem chain_no {fs ch : List Int} {k : Nat} (hk : k < ch.length) (h : linkB fs ch k = false) : chainB fs ch = false := by
  unfold chainB
  rw [List.all_eq_false]
  exact ⟨k, by simpa using hk, by simp [h]⟩
theorem links_succ {fs ch : List Int} {k : Nat} (h : linksTo fs ch k) (h1 : linkB fs ch k = true) : linksTo fs ch (k + 1) := by
  intro i hi
  by_cases e : i = k
  · subst e; exact h1
  · exact h i (by omega)
theorem links_mem {fs ch : List Int} (h : chainB fs ch = true) : ∀ x ∈ ch, x ∈ fs := by
  intro x hx
  obtain ⟨i, hi, rfl⟩ := List.getElem_of_mem hx
  unfold chainB at h
  rw [List.all_eq_true] at h
  have h2 := h i (by simpa using hi)
  unfold linkB at h2
  simp only [Bool.and_eq_true, decide_eq_true_eq] at h2
  have h3 := h2.1.1
  rw [List.getElem?_eq_getElem hi] at h3
  simpa using h3
theorem chain_len {fs ch : List Int} {V : Int} (hC : IsC V fs) (h : chainB fs ch = true) : (∀ x ∈ ch, 1 ≤ x ∧ x ≤ 63) := fun x hx => hC.range63 x (links_mem h x hx)
theorem link_no_mem {fs ch : List Int} {k : Nat} (h : ch[k]?.getD 0 ∉ fs) : linkB fs ch k = false := by unfold linkB; simp [h]
theorem link_no_ord {fs ch : List Int} {k : Nat} (hk : 0 < k) (h : ch[k]?.getD 0 ≤ ch[k - 1]?.getD 0) : linkB fs ch k = false := by
  unfold linkB
  rw [decide_eq_false (show ¬ k = 0 by omega), decide_eq_false (show ¬ ch[k - 1]?.getD 0 < ch[k]?.getD 0 by omega)]
  simp
theorem link_first {fs ch : List Int} (h : ch[0]?.getD 0 ∈ fs) : linkB fs ch 0 = true := by unfold linkB; simp [h]
theorem link_eq {fs ch : List Int} {k : Nat} (h : ch[k]?.getD 0 ∈ fs) (ho : 0 < k → ch[k - 1]?.getD 0 < ch[k]?.getD 0) : linkB fs ch k = decide (ones (ch[k]?.getD 0).toNat = ones (ch[0]?.getD 0).toNat) := by
  unfold linkB
  rw [decide_eq_true h]
  by_cases hk : k = 0
  · subst hk; simp
  · rw [decide_eq_true (ho (by omega))]; simp
theorem link_head {fs ch : List Int} {k : Nat} (hk : 0 < k) (h : linksTo fs ch k) : ch[0]?.getD 0 ∈ fs := by
  have h2 := h 0 hk
  unfold linkB at h2
  simp only [Bool.and_eq_true, decide_eq_true_eq] at h2
  exact h2.1.1

theorem chn_bad {V : Int} {fs ch : List Int} (h : isCB V fs = false) : chnR V fs ch = 1 := by unfold chnR; rw [h]; rfl
theorem chn_no {V : Int} {fs ch : List Int} (h : isCB V fs = true) (h2 : chainB fs ch = false) : chnR V fs ch = 2 := by unfold chnR; rw [h, h2]; rfl
theorem chn_yes {V : Int} {fs ch : List Int} (h : isCB V fs = true) (h2 : chainB fs ch = true) : chnR V fs ch = 0 := by unfold chnR; rw [h, h2]; rfl

set_option maxRecDepth 100000 in
set_option maxHeartbeats 8000000 in
theorem chain3_any (V : Int) (a0 : Option Addr) (cap : Nat) (fs : List Int) (a1 : Option Addr) (cap1 : Nat) (ch : List Int) (w : World) (hx : SlI w w.heap.size a0 fs) (hx1 : SlI w w.heap.size a1 ch) (hl : fs.length ≤ 1048576) (hg : ch.length ≤ 1048576) :
    Calls Tryd.prog 76 #[.agg #[.int .i64 V, .slice a0 fs.length cap], .slice a1 ch.length cap1] w fun e w' => e = .returned (.int .i64 (chnR V fs ch)) ∧ Below w.heap.size w w' := by
  obtain ⟨W0, hW0⟩ : ∃ W0, W0 = w.alloc (.cells #[.int .i64 V, .slice a0 fs.length cap] 28) := ⟨_, rfl⟩
  have hB0 : Below w.heap.size w W0 := by rw [hW0]; exact (Below.refl _ w).alloc (Nat.le_refl _) _
  have Hk : Hid (W0.heap[w.heap.size]? = some (.cells #[.int .i64 V, .slice a0 fs.length cap] 28 (0, 0))) := hid (by rw [hW0]; exact heap_alloc_new _ _)
  have Hx := hid hx
  have Hy := hid hx1
  have HB0 := hid hB0
  have HI := hid (is_all V a0 cap fs W0 (hx.later hB0 hB0.size) hl)
  rw [hW0] at HI
  clear hx hx1 hB0
  cases hc : isCB V fs
  · have HR : Hid (chnR V fs ch = 1) := hid (chn_bad hc)
    rw [hc] at HI
    clear hc
    go_enter Tryd.func76, Tryd.ntmps76
    go_wp2_with fail
    refine HI.out.mono ?_
    rintro e w1 ⟨rfl, hB1⟩
    rw [← hW0] at hB1
    go_wp2_with fail
    go_ret
    exact ⟨ret_int HR.out.symm, HB0.out.trans (hB1.mono HB0.out.size)⟩
  · have hC := isCB_iff.1 hc
    have HC := hid hC
    have HY : Hid (chainB fs ch = true → chnR V fs ch = 0) := hid (chn_yes hc)
    have HN : Hid (chainB fs ch = false → chnR V fs ch = 2) := hid (chn_no hc)
    rw [hc] at HI
    clear hc hC
    obtain ⟨R, hR⟩ : ∃ R, R = chnR V fs ch := ⟨_, rfl⟩
    rw [← hR] at HY HN ⊢
    clear hR
    go_enter Tryd.func76, Tryd.ntmps76
    go_wp2_with fail
    refine HI.out.mono ?_
    rintro e w1 ⟨rfl, hB1⟩
    rw [← hW0] at hB1
    have Hk1 := hid ((hB1.block _ (lt_get Hk.out)).trans Hk.out)
    have HB1 := hid (HB0.out.trans (hB1.mono HB0.out.size))
    clear hB1
    go_wp2_with fail
    go_loopw [5] (fun iv wx => ∃ k : Nat, k ≤ ch.length ∧ iv = .int .i64 k ∧ Hid (linksTo fs ch k) ∧ Hid (Below w1.heap.size w1 wx)) (fun iv _ => ch.length - (RowKit.intOf iv).toNat)
    case atStart => exact ⟨0, Nat.zero_le _, rfl, hid (by intro i h; omega), hid (Below.refl _ _)⟩
    case round =>
      obtain ⟨k, hk, rfl, HK, HB⟩ := hrel
      have hBw := HB1.out.trans (HB.out.mono HB1.out.size)
      have HBw := hid hBw
      have Hkr := hid ((HB.out.block _ (lt_get Hk1.out)).trans Hk1.out)
      by_cases hlt : k < ch.length
      · obtain ⟨b, off, hb, rfl, hcl⟩ : ∃ b off, b < w.heap.size ∧ a1 = some ⟨b, off, none⟩ ∧ ∀ i, i < ch.length → w.cell? ⟨b, off + i, none⟩ = some (.int .i64 (ch[i]?.getD 0)) := by
          rcases Hy.out with h | h
          · rw [h] at hlt; simp at hlt
          · exact h
        obtain ⟨x, hxe⟩ : ∃ x, x = ch[k]?.getD 0 := ⟨_, rfl⟩
        have c0 := cell_regrown ((hBw.cell (p := ⟨b, off + k, none⟩) hb).trans (hcl k hlt))
        rw [← hxe] at c0
        obtain ⟨k0, k1, _, _⟩ := two_of Hkr.out
        have r0 := cell_regrown k0
        have r1 := cell_regrown k1
        have CH := hid (fun d os => Calls.regrown_of (has_any V x a0 cap fs (grow (redrawn wr d) os) (Hx.out.later (hBw.trans ((below_regrown wr d os).mono hBw.size)) (hBw.trans ((below_regrown wr d os).mono hBw.size)).size) hl))
        have hi0 : (0 : Int) ≤ (k : Int) := by omega
        have hi1 : (k : Int) < (ch.length : Int) := by omega
        clear k0 k1 hBw
        by_cases hm : x ∈ fs
        · rw [decide_eq_true hm] at CH
          have hxr := HC.out.range63 _ hm
          by_cases hk0 : 0 < k
          · have hd0 : decide (0 < k) = true := decide_eq_true hk0
            have hsub : IntKind.i64.wrap ((k : Int) - 1) = ((k - 1 : Nat) : Int) := by rw [IntKind.wrap_i64]; omega
            have hj0 : (0 : Int) ≤ ((k - 1 : Nat) : Int) := by omega
            have hj1 : ((k - 1 : Nat) : Int) < (ch.length : Int) := by omega
            obtain ⟨y, hye⟩ : ∃ y, y = ch[k - 1]?.getD 0 := ⟨_, rfl⟩
            have c1 := cell_regrown ((HBw.out.cell (p := ⟨b, off + (k - 1), none⟩) hb).trans (hcl (k - 1) (by omega)))
            rw [← hye] at c1
            by_cases hle : x ≤ y
            · have hd1 : decide (x ≤ y) = true := decide_eq_true hle
              have He := hid (HN.out (chain_no hlt (link_no_ord hk0 (by rw [← hxe, ← hye]; exact hle))))
              clear hle hcl hxe hye hk0
              go_wp2_with fail
              refine wp_region_quiet_below (by kernel_rfl) (by kernel_rfl) ?_
              iterate 5 (with_reducible refine wpQuiet_step (fun K hK => ?_); have HK := hid hK; clear hK; go_simp; (first | with_reducible refine HK.out _ ?_ | (rw [if_neg (by decide)]; with_reducible refine HK.out _ ?_)); clear HK K)
              (with_reducible refine wpQuiet_step (fun K hK => ?_); have HK := hid hK; clear hK; go_simp; apply Exists.intro; with_reducible refine ⟨fun _ => ?_, HK.out _ ?_⟩; exact CH.out _ _; clear HK K)
              iterate 29 (with_reducible refine wpQuiet_step (fun K hK => ?_); have HK := hid hK; clear hK; go_simp; (first | with_reducible refine HK.out _ ?_ | (rw [if_neg (by decide)]; with_reducible refine HK.out _ ?_)); clear HK K)
              with_reducible refine wpQuiet_nil ?_
              intro _ hw'
              obtain ⟨⟨dq, osq⟩, hw''⟩ := hw'
              subst hw''
              go_wp2_with fail
              go_ret
              exact ⟨ret_int He.out.symm, HBw.out.trans ((below_regrown wr dq osq).mono HBw.out.size)⟩
            · have hd1 : decide (x ≤ y) = false := decide_eq_false hle
              obtain ⟨z, hze⟩ : ∃ z, z = ch[0]?.getD 0 := ⟨_, rfl⟩
              have c2 := cell_regrown ((HBw.out.cell (p := ⟨b, off, none⟩) hb).trans (hcl 0 (by omega)))
              rw [← hze] at c2
              have hzr := HC.out.range63 _ (show z ∈ fs by rw [hze]; exact link_head hk0 HK.out)
              have He := hid (link_eq (fs := fs) (ch := ch) (k := k) (by rw [← hxe]; exact hm) (fun _ => by rw [← hxe, ← hye]; omega))
              have hl0 : 0 < ch.length := by omega
              rw [← hxe, ← hze] at He
              obtain ⟨x, rfl⟩ : ∃ n : Nat, x = n := ⟨x.toNat, by omega⟩
              obtain ⟨z, rfl⟩ : ∃ n : Nat, z = n := ⟨z.toNat, by omega⟩
              have hx64 : x < 64 := by omega
              have hz64 : z < 64 := by omega
              have cO : ∀ (f : Nat), f < 64 → ∀ d os, Calls Tryd.prog 74 #[.int .i64 (f : Int)] (grow (redrawn wr d) os) fun e w'' => e = .returned (.int .i64 (ones f : Int)) ∧ ∃ p : Regrown, w'' = grow (redrawn wr p.d) p.os := fun f hf d os => Calls.regrown_of ((ones_any f _ hf).mono fun _ _ ⟨he, hw⟩ => ⟨he, by rw [← hw]; exact Below.refl _ _⟩)
              have COx := hid (cO x hx64)
              have COz := hid (cO z hz64)
              simp only [Int.toNat_natCast] at He
              clear hcl hxe hye hze cO hm hxr hzr hle hx64 hz64
              by_cases ho : ones x = ones z
              · have hd2 : (((ones x : Nat) : Int) != ((ones z : Nat) : Int)) = false := by simp [ho]
                have HS := hid (links_succ HK.out (He.out.trans (decide_eq_true ho)))
                clear ho hk0
                go_wp2_with fail
                refine wp_region_quiet_below (by kernel_rfl) (by kernel_rfl) ?_
                iterate 5 (with_reducible refine wpQuiet_step (fun K hK => ?_); have HK := hid hK; clear hK; go_simp; (first | with_reducible refine HK.out _ ?_ | (rw [if_neg (by decide)]; with_reducible refine HK.out _ ?_)); clear HK K)
                (with_reducible refine wpQuiet_step (fun K hK => ?_); have HK := hid hK; clear hK; go_simp; apply Exists.intro; with_reducible refine ⟨fun _ => ?_, HK.out _ ?_⟩; exact CH.out _ _; clear HK K)
                iterate 20 (with_reducible refine wpQuiet_step (fun K hK => ?_); have HK := hid hK; clear hK; go_simp; (first | with_reducible refine HK.out _ ?_ | (rw [if_neg (by decide)]; with_reducible refine HK.out _ ?_)); clear HK K)
                (with_reducible refine wpQuiet_step (fun K hK => ?_); have HK := hid hK; clear hK; go_simp; apply Exists.intro; with_reducible refine ⟨fun _ => ?_, HK.out _ ?_⟩; exact COx.out _ _; clear HK K)
                iterate 3 (with_reducible refine wpQuiet_step (fun K hK => ?_); have HK := hid hK; clear hK; go_simp; (first | with_reducible refine HK.out _ ?_ | (rw [if_neg (by decide)]; with_reducible refine HK.out _ ?_)); clear HK K)
                (with_reducible refine wpQuiet_step (fun K hK => ?_); have HK := hid hK; clear hK; go_simp; apply Exists.intro; with_reducible refine ⟨fun _ => ?_, HK.out _ ?_⟩; exact COz.out _ _; clear HK K)
                iterate 4 (with_reducible refine wpQuiet_step (fun K hK => ?_); have HK := hid hK; clear hK; go_simp; (first | with_reducible refine HK.out _ ?_ | (rw [if_neg (by decide)]; with_reducible refine HK.out _ ?_)); clear HK K)
                with_reducible refine wpQuiet_nil ?_
                intro _ hw'
                obtain ⟨⟨dq, osq⟩, hw''⟩ := hw'
                subst hw''
                go_wp2_with fail
                go_roundw
                case rel => exact ⟨k + 1, by omega, by go_num, HS, hid (HB.out.trans ((below_regrown wr dq osq).mono HB.out.size))⟩
                case measure => simp [RowKit.intOf]; omega
              · have hd2 : (((ones x : Nat) : Int) != ((ones z : Nat) : Int)) = true := by simp; omega
                have HE2 := hid (HN.out (chain_no hlt (He.out.trans (decide_eq_false ho))))
                clear ho hk0
                go_wp2_with fail
                refine wp_region_quiet_below (by kernel_rfl) (by kernel_rfl) ?_
                iterate 5 (with_reducible refine wpQuiet_step (fun K hK => ?_); have HK := hid hK; clear hK; go_simp; (first | with_reducible refine HK.out _ ?_ | (rw [if_neg (by decide)]; with_reducible refine HK.out _ ?_)); clear HK K)
                (with_reducible refine wpQuiet_step (fun K hK => ?_); have HK := hid hK; clear hK; go_simp; apply Exists.intro; with_reducible refine ⟨fun _ => ?_, HK.out _ ?_⟩; exact CH.out _ _; clear HK K)
                iterate 20 (with_reducible refine wpQuiet_step (fun K hK => ?_); have HK := hid hK; clear hK; go_simp; (first | with_reducible refine HK.out _ ?_ | (rw [if_neg (by decide)]; with_reducible refine HK.out _ ?_)); clear HK K)
                (with_reducible refine wpQuiet_step (fun K hK => ?_); have HK := hid hK; clear hK; go_simp; apply Exists.intro; with_reducible refine ⟨fun _ => ?_, HK.out _ ?_⟩; exact COx.out _ _; clear HK K)
                iterate 3 (with_reducible refine wpQuiet_step (fun K hK => ?_); have HK := hid hK; clear hK; go_simp; (first | with_reducible refine HK.out _ ?_ | (rw [if_neg (by decide)]; with_reducible refine HK.out _ ?_)); clear HK K)
                (with_reducible refine wpQuiet_step (fun K hK => ?_); have HK := hid hK; clear hK; go_simp; apply Exists.intro; with_reducible refine ⟨fun _ => ?_, HK.out _ ?_⟩; exact COz.out _ _; clear HK K)
                iterate 4 (with_reducible refine wpQuiet_step (fun K hK => ?_); have HK := hid hK; clear hK; go_simp; (first | with_reducible refine HK.out _ ?_ | (rw [if_neg (by decide)]; with_reducible refine HK.out _ ?_)); clear HK K)
                with_reducible refine wpQuiet_nil ?_
                intro _ hw'
                obtain ⟨⟨dq, osq⟩, hw''⟩ := hw'
                subst hw''
                go_wp2_with fail
                go_ret
                exact ⟨ret_int HE2.out.symm, HBw.out.trans ((below_regrown wr dq osq).mono HBw.out.size)⟩
          · obtain rfl : k = 0 := by omega
            have hd0 : decide (0 < 0) = false := rfl
            have c00 : ∀ d os, (grow (redrawn wr d) os).cell? ⟨b, off, none⟩ = some (.int .i64 x) := fun d os => by simpa using c0 d os
            have HS := hid (links_succ HK.out (link_first (by rw [← hxe]; exact hm)))
            clear hcl hxe hk0 hm
            go_wp2_with fail
            refine wp_region_quiet_below (by kernel_rfl) (by kernel_rfl) ?_
            iterate 5 (with_reducible refine wpQuiet_step (fun K hK => ?_); have HK := hid hK; clear hK; go_simp; (first | with_reducible refine HK.out _ ?_ | (rw [if_neg (by decide)]; with_reducible refine HK.out _ ?_)); clear HK K)
            (with_reducible refine wpQuiet_step (fun K hK => ?_); have HK := hid hK; clear hK; go_simp; apply Exists.intro; with_reducible refine ⟨fun _ => ?_, HK.out _ ?_⟩; exact CH.out _ _; clear HK K)
            iterate 29 (with_reducible refine wpQuiet_step (fun K hK => ?_); have HK := hid hK; clear hK; go_simp; (first | with_reducible refine HK.out _ ?_ | (rw [if_neg (by decide)]; with_reducible refine HK.out _ ?_)); clear HK K)
            with_reducible refine wpQuiet_nil ?_
            intro _ hw'
            obtain ⟨⟨dq, osq⟩, hw''⟩ := hw'
            subst hw''
            go_wp2_with fail
            go_roundw
            case rel => exact ⟨1, by omega, by go_num, HS, hid (HB.out.trans ((below_regrown wr dq osq).mono HB.out.size))⟩
            case measure => simp [RowKit.intOf]; omega
        · rw [decide_eq_false hm] at CH
          have He := hid (HN.out (chain_no hlt (link_no_mem (by rw [← hxe]; exact hm))))
          clear hm hcl hxe
          go_wp2_with fail
          refine wp_region_quiet_below (by kernel_rfl) (by kernel_rfl) ?_
          iterate 5 (with_reducible refine wpQuiet_step (fun K hK => ?_); have HK := hid hK; clear hK; go_simp; (first | with_reducible refine HK.out _ ?_ | (rw [if_neg (by decide)]; with_reducible refine HK.out _ ?_)); clear HK K)
          (with_reducible refine wpQuiet_step (fun K hK => ?_); have HK := hid hK; clear hK; go_simp; apply Exists.intro; with_reducible refine ⟨fun _ => ?_, HK.out _ ?_⟩; exact CH.out _ _; clear HK K)
          iterate 29 (with_reducible refine wpQuiet_step (fun K hK => ?_); have HK := hid hK; clear hK; go_simp; (first | with_reducible refine HK.out _ ?_ | (rw [if_neg (by decide)]; with_reducible refine HK.out _ ?_)); clear HK K)
          with_reducible refine wpQuiet_nil ?_
          intro _ hw'
          obtain ⟨⟨dq, osq⟩, hw''⟩ := hw'
          subst hw''
          go_wp2_with fail
          go_ret
          exact ⟨ret_int He.out.symm, HBw.out.trans ((below_regrown wr dq osq).mono HBw.out.size)⟩
      · obtain rfl : k = ch.length := by omega
        have He := hid (HY.out (chain_yes HK.out))
        go_wp2_with fail
        go_ret
        exact ⟨ret_int He.out.symm, HBw.out⟩

end Go.Proofs.YtgnahadlcihneaaDoor

/-! slices.Contains on a list of int64. -/
namespace Go.Proofs.YtgnahadlcihneaaDoor
open Go.RowKit

set_option maxRecDepth 100000 in
set_option maxHeartbeats 1000000 in
theorem index_any (a : Option Addr) (cap : Nat) (xs : List Int) (x : Int) (w : World) (hx : SlI w w.heap.size a xs) (hl : xs.length ≤ 1048576) :
    Calls Tryd.prog 128 #[.slice a xs.length cap, .int .i64 x] w fun e w' => ∃ i : Int, e = .returned (.int .i64 i) ∧ -1 ≤ i ∧ (0 ≤ i ↔ x ∈ xs) ∧ w = w' := by
  rcases hx with rfl | ⟨b, off, hb, rfl, hc⟩
  · go_enter Tryd.func128, Tryd.ntmps128
    go_wp2
    refine wp_loop_rounds 1 ?_; rw [rounds_succ]
    go_wp2
    go_ret
    exact ⟨-1, rfl, by decide, by simp, rfl⟩
  · have Hc := hid hc
    clear hc
    go_enter Tryd.func128, Tryd.ntmps128
    go_wp2
    go_loop [8] (fun i => ∃ k : Nat, k ≤ xs.length ∧ i = .int .i64 k ∧ Hid (x ∉ xs.take k)) (fun i => xs.length - (intOf i).toNat)
    case atStart => exact ⟨0, Nat.zero_le _, rfl, hid (by simp)⟩
    case round =>
      obtain ⟨k, hk, rfl, Hk⟩ := hrel
      by_cases hlt : k < xs.length
      · obtain ⟨y, hy⟩ : ∃ y, y = xs[k]?.getD 0 := ⟨_, rfl⟩
        have hck : w.cell? ⟨b, off + k, none⟩ = some (.int .i64 y) := by rw [hy]; exact Hc.out k hlt
        have Hy := hid hy
        have hi0 : (0 : Int) ≤ (k : Int) := by omega
        have hi1 : (k : Int) < (xs.length : Int) := by omega
        clear hy
        by_cases hxy : x = y
        · have hd : (x == y) = true := by simp [hxy]
          have He : Hid (x ∈ xs) := hid (by rw [hxy, Hy.out]; exact getD_mem hlt)
          clear hxy
          go_wp2
          go_ret
          exact ⟨k, rfl, by omega, ⟨fun _ => He.out, fun _ => by omega⟩, rfl⟩
        · have hd : (x == y) = false := by simp [hxy]
          have He : Hid (x ∉ xs.take (k + 1)) := hid (by
            rw [take_snoc hlt, ← Hy.out]
            intro h
            rcases List.mem_append.1 h with h | h
            · exact Hk.out h
            · simp at h; exact hxy h)
          clear hxy
          go_wp2
          go_round
          case rel => exact ⟨k + 1, by omega, by go_num, He.out⟩
          case measure => simp [intOf]; omega
      · have He : Hid (x ∉ xs) := hid (by have := Hk.out; rwa [List.take_of_length_le (by omega)] at this)
        go_wp2
        go_ret
        exact ⟨-1, rfl, by decide, ⟨fun h => absurd h (by decide), fun h => absurd h He.out⟩, rfl⟩

set_option maxRecDepth 100000 in
set_option maxHeartbeats 1000000 in
theorem contains_any (a : Option Addr) (cap : Nat) (xs : List Int) (x : Int) (w : World) (hx : SlI w w.heap.size a xs) (hl : xs.length ≤ 1048576) :
    Calls Tryd.prog 120 #[.slice a xs.length cap, .int .i64 x] w fun e w' => e = .returned (.bool (decide (x ∈ xs))) ∧ w = w' := by
  have HI := hid (index_any a cap xs x w hx hl)
  obtain ⟨c, hc⟩ : ∃ c, c = decide (x ∈ xs) := ⟨_, rfl⟩
  have Hc := hid hc
  rw [← hc]
  clear hc hx
  go_enter Tryd.func120, Tryd.ntmps120
  go_wp2_with fail
  refine HI.out.mono ?_
  rintro e w' ⟨i, rfl, h1, h2, rfl⟩
  have Hi := hid h2
  have H1 := hid h1
  clear h1 h2
  by_cases h0 : 0 ≤ i
  · have He : Hid (c = true) := hid (by rw [Hc.out]; exact decide_eq_true (Hi.out.1 h0))
    go_wp2_with fail
    go_ret
    exact ⟨ret_bool (by rw [He.out]), rfl⟩
  · have He : Hid (c = false) := hid (by rw [Hc.out]; exact decide_eq_false (fun h => h0 (Hi.out.2 h)))
    have hlt : i < 0 := by omega
    go_wp2_with fail
    go_ret
    exact ⟨ret_bool (by rw [He.out]; simp [hlt]), rfl⟩

end Go.Proofs.YtgnahadlcihneaaDoor

/-! Is a list a chain? The program's test, which panics, and the deferred recover. -/
namespace Go.Proofs.YtgnahadlcihneaaDoor
open Go.RowKit

theorem below_dn (w : World) (n : Nat) : Below w.heap.size w (w.drewN n) := ⟨rfl, rfl, rfl, Nat.le_refl _, fun _ _ => rfl⟩
theorem link_no_ones {fs ch : List Int} {k : Nat} (h : ¬ ones (ch[k]?.getD 0).toNat = ones (ch[0]?.getD 0).toNat) : linkB fs ch k = false := by unfold linkB; simp [h]

/-- What a call ends with that returns nothing, or panics with a value. -/
def endOf (c : Bool) (u : TypeId) (pv : Value) : Ending := if c then .returned (.tuple #[]) else .panicked [{ v := .iface u pv, recovered := false }]

set_option maxRecDepth 100000 in
set_option maxHeartbeats 8000000 in
theorem must_any (V : Int) (a0 : Option Addr) (cap : Nat) (fs : List Int) (a1 : Option Addr) (cap1 : Nat) (ch : List Int) (w : World) (u : TypeId) (pv : Value) (hx : SlI w w.heap.size a0 fs) (hx1 : SlI w w.heap.size a1 ch) (hl : fs.length ≤ 1048576) (hg : ch.length ≤ 1048576)
    (hC : IsC V fs) (hG : w.cell? ⟨2, 0, none⟩ = some (.iface u pv)) :
    Calls Tryd.prog 99 #[.agg #[.int .i64 V, .slice a0 fs.length cap], .slice a1 ch.length cap1] w fun e w' => e = endOf (chainB fs ch) u pv ∧ Below w.heap.size w w' := by
  obtain ⟨W0, hW0⟩ : ∃ W0, W0 = w.alloc (.cells #[.int .i64 V, .slice a0 fs.length cap] 28) := ⟨_, rfl⟩
  have hB0 : Below w.heap.size w W0 := by rw [hW0]; exact (Below.refl _ w).alloc (Nat.le_refl _) _
  have Hk : Hid (W0.heap[w.heap.size]? = some (.cells #[.int .i64 V, .slice a0 fs.length cap] 28 (0, 0))) := hid (by rw [hW0]; exact heap_alloc_new _ _)
  have Hx := hid hx
  have Hy := hid hx1
  have HB0 := hid hB0
  have HC := hid hC
  have HG := hid hG
  have HGl := hid (World.block_lt_of_cell? w _ hG)
  obtain ⟨c, hcc⟩ : ∃ c, c = chainB fs ch := ⟨_, rfl⟩
  rw [← hcc]
  have Hc := hid hcc
  clear hx hx1 hB0 hC hG hcc
  go_enter Tryd.func99, Tryd.ntmps99
  go_wp2_with fail
  rw [← hW0]
  clear hW0
  go_loopw [8] (fun iv wx => ∃ k : Nat, k ≤ ch.length ∧ iv = .int .i64 k ∧ Hid (linksTo fs ch k) ∧ Hid (Below w.heap.size w wx) ∧ Hid (wx.heap[w.heap.size]? = some (.cells #[.int .i64 V, .slice a0 fs.length cap] 28 (0, 0)))) (fun iv _ => ch.length - (RowKit.intOf iv).toNat)
  case atStart => exact ⟨0, Nat.zero_le _, rfl, hid (by intro i h; omega), HB0, Hk⟩
  case round =>
    obtain ⟨k, hk, rfl, HK, HB, Hkr⟩ := hrel
    have hBw := HB.out
    have Hq : Hid (∀ n, Below w.heap.size w (wr.drewN n)) := hid (fun n => HB.out.trans ((below_dn wr n).mono HB.out.size))
    by_cases hlt : k < ch.length
    · obtain ⟨b, off, hb, rfl, hcl⟩ : ∃ b off, b < w.heap.size ∧ a1 = some ⟨b, off, none⟩ ∧ ∀ i, i < ch.length → w.cell? ⟨b, off + i, none⟩ = some (.int .i64 (ch[i]?.getD 0)) := by
        rcases Hy.out with h | h
        · rw [h] at hlt; simp at hlt
        · exact h
      obtain ⟨x, hxe⟩ : ∃ x, x = ch[k]?.getD 0 := ⟨_, rfl⟩
      have c0 := (hBw.cell (p := ⟨b, off + k, none⟩) hb).trans (hcl k hlt)
      rw [← hxe] at c0
      obtain ⟨k0, k1, _, _⟩ := two_of Hkr.out
      have hGr := (hBw.cell (p := ⟨2, 0, none⟩) HGl.out).trans HG.out
      have CH := hid (fun n => contains_any a0 cap fs x (wr.drewN n) (Hx.out.later (Hq.out n) (Hq.out n).size) hl)
      have hi0 : (0 : Int) ≤ (k : Int) := by omega
      have hi1 : (k : Int) < (ch.length : Int) := by omega
      clear hBw
      by_cases hm : x ∈ fs
      · rw [decide_eq_true hm] at CH
        have hxr := HC.out.range63 _ hm
        obtain ⟨z, hze⟩ : ∃ z, z = ch[0]?.getD 0 := ⟨_, rfl⟩
        have c2 := (HB.out.cell (p := ⟨b, off, none⟩) hb).trans (hcl 0 (by omega))
        rw [← hze] at c2
        have hzr := HC.out.range63 _ (show z ∈ fs by
          by_cases hk0 : k = 0
          · subst hk0; rw [hze, ← hxe]; exact hm
          · rw [hze]; exact link_head (by omega) HK.out)
        have hl0 : (0 : Int) < (ch.length : Int) := by omega
        have HZ : Hid (k = 0 → z = x) := hid (fun h => by rw [hze, hxe, h])
        have HLn : Hid (¬ ones x.toNat = ones z.toNat → c = false) := hid (fun h => Hc.out.trans (chain_no hlt (link_no_ones (by rw [← hxe, ← hze]; exact h))))
        have HLo : Hid (0 < k → x ≤ ch[k - 1]?.getD 0 → c = false) := hid (fun h0 h => Hc.out.trans (chain_no hlt (link_no_ord h0 (by rw [← hxe]; exact h))))
        have HLy : Hid (ones x.toNat = ones z.toNat → (0 < k → ch[k - 1]?.getD 0 < x) → linksTo fs ch (k + 1)) := hid (fun ho h => links_succ HK.out ((link_eq (by rw [← hxe]; exact hm) (fun h0 => by rw [← hxe]; exact h h0)).trans (by rw [← hxe, ← hze]; exact decide_eq_true ho)))
        obtain ⟨x, rfl⟩ : ∃ n : Nat, x = n := ⟨x.toNat, by omega⟩
        obtain ⟨z, rfl⟩ : ∃ n : Nat, z = n := ⟨z.toNat, by omega⟩
        have hx64 : x < 64 := by omega
        have hz64 : z < 64 := by omega
        have CX := hid (fun n => dim_any x (wr.drewN n) hx64)
        have CZ := hid (fun n => dim_any z (wr.drewN n) hz64)
        simp only [Int.toNat_natCast] at HLn HLy
        clear hxe hze hxr hzr hm hx64 hz64
        by_cases ho : ones x = ones z
        · have hd2 : (((ones x : Nat) : Int) - 1 != ((ones z : Nat) : Int) - 1) = false := by simp [ho]
          rw [ho] at CX hd2
          by_cases hk0 : 0 < k
          · have hd0 : decide (0 < k) = true := decide_eq_true hk0
            have hsub : IntKind.i64.wrap ((k : Int) - 1) = ((k - 1 : Nat) : Int) := by rw [IntKind.wrap_i64]; omega
            have hsub2 : wrap64 ((k : Int) - 1) = ((k - 1 : Nat) : Int) := by rw [wrap64]; omega
            have hj0 : (0 : Int) ≤ ((k - 1 : Nat) : Int) := by omega
            have hj1 : ((k - 1 : Nat) : Int) < (ch.length : Int) := by omega
            have c1 := (HB.out.cell (p := ⟨b, off + (k - 1), none⟩) hb).trans (hcl (k - 1) (by omega))
            obtain ⟨y, hye⟩ : ∃ y, y = ch[k - 1]?.getD 0 := ⟨_, rfl⟩
            rw [← hye] at c1 HLo HLy
            clear hcl hye
            by_cases hle : (x : Int) ≤ y
            · have hd1 : decide ((x : Int) ≤ y) = true := decide_eq_true hle
              have He := hid (HLo.out hk0 hle)
              clear hle ho hk0
              go_wp2_with fail
              go_quiet (first
          | (go_at_call 120; exact quiet_of_eq (CH.out _))
          | (go_at_call 121; first | exact quiet_of_eq (CX.out _) | exact quiet_of_eq (CZ.out _)))
              go_wp2_with fail
              refine ⟨rfl, ?_, Hq.out _⟩
              rw [He.out]
              rfl
            · have hd1 : decide ((x : Int) ≤ y) = false := decide_eq_false hle
              have HS := hid (HLy.out ho (fun _ => by omega))
              clear hle ho hk0
              go_wp2_with fail
              go_quiet (first
          | (go_at_call 120; exact quiet_of_eq (CH.out _))
          | (go_at_call 121; first | exact quiet_of_eq (CX.out _) | exact quiet_of_eq (CZ.out _)))
              go_wp2_with fail
              go_roundw
              case rel => exact ⟨k + 1, by omega, by go_num, HS, hid (Hq.out _), hid (by exact Hkr.out)⟩
              case measure => simp [RowKit.intOf]; omega
          · obtain rfl : k = 0 := by omega
            have hd0 : decide (0 < 0) = false := rfl
            have HS := hid (HLy.out ho (fun h => absurd h (by omega)))
            obtain rfl : z = x := by have := HZ.out rfl; omega
            clear ho hk0 hcl c0
            go_wp2_with fail
            go_quiet (first
          | (go_at_call 120; exact quiet_of_eq (CH.out _))
          | (go_at_call 121; first | exact quiet_of_eq (CX.out _) | exact quiet_of_eq (CZ.out _)))
            go_wp2_with fail
            go_roundw
            case rel => exact ⟨1, by omega, by go_num, HS, hid (Hq.out _), hid (by exact Hkr.out)⟩
            case measure => simp [RowKit.intOf]; omega
        · have hd2 : (((ones x : Nat) : Int) - 1 != ((ones z : Nat) : Int) - 1) = true := by simp; omega
          have He := hid (HLn.out ho)
          clear ho hcl
          go_wp2_with fail
          go_quiet (first
          | (go_at_call 120; exact quiet_of_eq (CH.out _))
          | (go_at_call 121; first | exact quiet_of_eq (CX.out _) | exact quiet_of_eq (CZ.out _)))
          go_wp2_with fail
          refine ⟨rfl, ?_, Hq.out _⟩
          rw [He.out]
          rfl
      · rw [decide_eq_false hm] at CH
        have He := hid (Hc.out.trans (chain_no hlt (link_no_mem (by rw [← hxe]; exact hm))))
        clear hm hcl hxe
        go_wp2_with fail
        go_quiet (first
          | (go_at_call 120; exact quiet_of_eq (CH.out _)))
        go_wp2_with fail
        refine ⟨rfl, ?_, Hq.out _⟩
        rw [He.out]
        rfl
    · obtain rfl : k = ch.length := by omega
      have He : Hid (c = true) := hid (Hc.out.trans (chain_yes HK.out))
      go_wp2_with fail
      go_end0
      exact ⟨by rw [He.out]; rfl, HB.out⟩

end Go.Proofs.YtgnahadlcihneaaDoor

/-! chainCode: a deferred recover turns the panic into a code. -/
namespace Go.Proofs.YtgnahadlcihneaaDoor
open Go.RowKit

theorem assert_err (pv : Value) (w : World) : (Instr.typeAssert (.iface 143 pv) 20 100 true).run Tryd.prog w = .ok (.tuple #[.iface 143 pv, .bool true]) w := by kernel_rfl
theorem assert_nil (w : World) : (Instr.typeAssert .nilIface 20 100 true).run Tryd.prog w = .ok (.tuple #[.nilIface, .bool false]) w := by kernel_rfl

set_option maxHeartbeats 1000000 in
theorem catch_panic (p : Addr) (x : Int) (pv : Value) (older : List PanicEntry) (w : World) (hc : w.cell? p = some (.int .i64 x)) (hz : w.frozen? p = false) :
    CallsD Tryd.prog 98 #[.pointer (some p)] (.panicking ({ v := .iface 143 pv, recovered := false } :: older)) w fun e u' w' =>
      e = .returned (.tuple #[]) ∧ u' = .panicking ({ v := .iface 143 pv, recovered := true } :: older) ∧ w' = w.setCell p (.int .i64 2) := by
  have ha := assert_err
  refine callsD_of_wpS Tryd.func98 rfl fun c₀ cs hu => ?_
  apply wpS_seq
  apply wpS_region
  simp [wpOpsS, go_sem, recoverD, hu, ha, Tryd.ntmps98, Exit.thenS]
  apply wpS_seq
  apply wpS_region
  simp [wpOpsS, go_sem, Exit.thenS]
  refine wpS_cond (t := true) (by simp [Act.eval, Array.replicate]) ?_
  simp only [if_true]
  apply wpS_region
  simp [wpOpsS, go_sem, hc, hz, bodyPostS, results, Tryd.results98]

theorem catch_idle (p : Addr) (w : World) :
    CallsD Tryd.prog 98 #[.pointer (some p)] .returning w fun e u' w' => e = .returned (.tuple #[]) ∧ u' = .returning ∧ w' = w := by
  have ha := assert_nil
  refine callsD_of_wpS Tryd.func98 rfl fun c₀ cs hu => ?_
  apply wpS_seq
  apply wpS_region
  simp [wpOpsS, go_sem, recoverD, hu, ha, Tryd.ntmps98, Exit.thenS]
  apply wpS_seq
  apply wpS_region
  simp [wpOpsS, go_sem, Exit.thenS]
  refine wpS_cond (t := false) (by simp [Act.eval, Array.replicate]) ?_
  simp only [Bool.false_eq_true, if_false]
  refine wpS_of_wp (wp_skip ?_)
  cases c₀
  simp_all [bodyPostS, results, Tryd.results98]

/-- The code of a complex and some lists. -/
noncomputable def chnsR (V : Int) (fs : List Int) (chs : List (List Int)) : Int := if isCB V fs then (if chs.all (chainB fs) then 0 else 2) else 1
/-- Some lists that lie one behind the other, as slices, in block bl. -/
def Lists (w : World) (B bl : Nat) (ls : List (Option Addr × Nat × List Int)) : Prop :=
  ∀ i a cap ch, ls[i]? = some (a, cap, ch) → w.cell? ⟨bl, i, none⟩ = some (.slice a ch.length cap) ∧ SlI w B a ch ∧ ch.length ≤ 1048576

theorem all_take {α : Type} {p : α → Bool} {ls : List α} {k : Nat} (h : ∀ i x, i < k → ls[i]? = some x → p x = true) (hk : ls.length ≤ k) : ls.all p = true := by
  rw [List.all_eq_true]
  intro x hx
  obtain ⟨i, hi, rfl⟩ := List.getElem_of_mem hx
  exact h i _ (by omega) (List.getElem?_eq_getElem hi)
theorem all_not {α : Type} {p : α → Bool} {ls : List α} {k : Nat} {x : α} (hk : ls[k]? = some x) (h : p x = false) : ls.all p = false := by
  rw [List.all_eq_false]
  exact ⟨x, List.mem_of_getElem? hk, by simp [h]⟩

theorem set_one {W : World} {b : Nat} {v u : Value} (h : W.cell? ⟨b, 0, none⟩ = some v) : (W.setCell ⟨b, 0, none⟩ u).cell? ⟨b, 0, none⟩ = some u := by simp [go_sem, h]
theorem leave_code {tmps : Array Value} {R : Ending → World → Prop} {W : World} {b : Nat} {x : Int} (hp : tmps.getD 4 undef = .pointer (some ⟨b, 0, none⟩)) (hc : W.cell? ⟨b, 0, none⟩ = some (.int .i64 x)) (hR : R (.returned (.int .i64 x)) W) :
    Leaves Tryd.prog Tryd.f78 tmps R [] .returning W := by
  have hp' : tmps[4]?.getD undef = .pointer (some ⟨b, 0, none⟩) := by simpa using hp
  refine ⟨.int .i64 x, ?_, hR⟩
  simp [results, Tryd.results78, hp', asAddr, go_sem, hc]

set_option maxRecDepth 100000 in
set_option maxHeartbeats 4000000 in
theorem code_any (V : Int) (a0 : Option Addr) (cap : Nat) (fs : List Int) (bl cl : Nat) (ls : List (Option Addr × Nat × List Int)) (w : World) (pv : Value) (hx : SlI w w.heap.size a0 fs) (hl : fs.length ≤ 1048576)
    (hb : bl < w.heap.size) (hL : Lists w w.heap.size bl ls) (hn : ls.length ≤ 1048576) (hG : w.cell? ⟨2, 0, none⟩ = some (.iface 143 pv)) :
    Calls Tryd.prog 78 #[.agg #[.int .i64 V, .slice a0 fs.length cap], .slice (some ⟨bl, 0, none⟩) ls.length cl] w fun e w' => e = .returned (.int .i64 (chnsR V fs (ls.map (·.2.2)))) ∧ Below w.heap.size w w' := by
  have hmf : ∀ (fn : Fn) (first cap : Array Value) (w : World), (Instr.makeFunc fn first cap).run Tryd.prog w = .ok (.func fn first cap) w := fun _ _ _ _ => rfl
  obtain ⟨W0, hW0⟩ : ∃ W0, W0 = (w.alloc (.cells #[.int .i64 V, .slice a0 fs.length cap] 28)).alloc (.cells #[.int .i64 0] 2) := ⟨_, rfl⟩
  have hB0 : Below w.heap.size w W0 := by rw [hW0]; exact ((Below.refl _ w).alloc (Nat.le_refl _) _).alloc (by simp) _
  have Hk : Hid (W0.heap[w.heap.size]? = some (.cells #[.int .i64 V, .slice a0 fs.length cap] 28 (0, 0))) := hid (by rw [hW0]; exact (Below.heap_alloc _ _ _ (by simp)).trans (heap_alloc_new _ _))
  have Hr : Hid (W0.heap[w.heap.size + 1]? = some (.cells #[.int .i64 0] 2 (0, 0))) := hid (by rw [hW0]; exact new2 _ _ _)
  have Hx := hid hx
  have HB0 := hid hB0
  have HL := hid hL
  have HG := hid hG
  have HGl := hid (World.block_lt_of_cell? w _ hG)
  have HI := hid (implIsComplex V a0 cap fs W0 (hx.later hB0 hB0.size) hl)
  rw [hW0] at HI
  clear hx hB0 hL hG
  cases hc : isCB V fs
  · have HR : Hid (chnsR V fs (ls.map (·.2.2)) = 1) := hid (by unfold chnsR; rw [hc]; rfl)
    rw [hc] at HI
    clear hc
    go_enter_defers Tryd.func78, Tryd.ntmps78
    go_wp2_with fail
    refine HI.out.mono ?_
    rintro e w1 ⟨rfl, hB1⟩
    rw [← hW0] at hB1
    have hr1 := (hB1.block _ (lt_get Hr.out)).trans Hr.out
    obtain ⟨r0, g0⟩ := box_cell hr1
    have Hr1 := hid hr1
    have HB1 := hid (HB0.out.trans (hB1.mono HB0.out.size))
    clear hB1 hr1
    go_wp2_with fail
    simp only [bodyPostD]
    refine leave_code (b := w.heap.size + 1) rfl (set_one r0) ⟨by rw [HR.out], ?_⟩
    exact HB1.out.setCell (Nat.le_succ _) _
  · have hC := isCB_iff.1 hc
    have HC := hid hC
    have HY : Hid (ls.all (fun x => chainB fs x.2.2) = true → chnsR V fs (ls.map (·.2.2)) = 0) := hid (fun h => by unfold chnsR; rw [hc, if_pos rfl, List.all_map]; exact if_pos h)
    have HN : Hid (ls.all (fun x => chainB fs x.2.2) = false → chnsR V fs (ls.map (·.2.2)) = 2) := hid (fun h => by unfold chnsR; rw [hc, if_pos rfl, List.all_map]; exact if_neg (by simpa using h))
    rw [hc] at HI
    clear hc hC
    obtain ⟨R, hR⟩ : ∃ R, R = chnsR V fs (ls.map (·.2.2)) := ⟨_, rfl⟩
    rw [← hR] at HY HN ⊢
    clear hR
    go_enter_defers Tryd.func78, Tryd.ntmps78
    go_wp2_with fail
    refine HI.out.mono ?_
    rintro e w1 ⟨rfl, hB1⟩
    rw [← hW0] at hB1
    have Hk1 := hid ((hB1.block _ (lt_get Hk.out)).trans Hk.out)
    have Hr1 := hid ((hB1.block _ (lt_get Hr.out)).trans Hr.out)
    have HB1 := hid (HB0.out.trans (hB1.mono HB0.out.size))
    clear hB1
    go_wp2_with fail
    clear hmf
    go_loopw [13] (fun iv wx => ∃ k : Nat, k ≤ ls.length ∧ iv = .int .i64 k ∧ Hid (∀ i x, i < k → ls[i]? = some x → chainB fs x.2.2 = true) ∧ Hid (Below w1.heap.size w1 wx)) (fun iv _ => ls.length - (RowKit.intOf iv).toNat)
    case atStart => exact ⟨0, Nat.zero_le _, rfl, hid (by intro i x h; omega), hid (Below.refl _ _)⟩
    case round =>
      obtain ⟨k, hk, rfl, HK, HB⟩ := hrel
      have HBw := hid (HB1.out.trans (HB.out.mono HB1.out.size))
      have Hkr := hid ((HB.out.block _ (lt_get Hk1.out)).trans Hk1.out)
      have Hrr := hid ((HB.out.block _ (lt_get Hr1.out)).trans Hr1.out)
      by_cases hlt : k < ls.length
      · obtain ⟨⟨a, c2, ch⟩, hx⟩ : ∃ x, ls[k]? = some x := ⟨_, List.getElem?_eq_getElem hlt⟩
        obtain ⟨hcl, hsl, hcn⟩ := HL.out k a c2 ch hx
        have hck := (HBw.out.cell (p := ⟨bl, k, none⟩) hb).trans hcl
        obtain ⟨k0, k1, _, _⟩ := two_of Hkr.out
        have HM := hid (must_any V a0 cap fs a c2 ch wr 143 pv (Hx.out.later HBw.out HBw.out.size) (hsl.later HBw.out HBw.out.size) hl hcn HC.out ((HBw.out.cell (p := ⟨2, 0, none⟩) HGl.out).trans HG.out))
        have hi0 : (0 : Int) ≤ (k : Int) := by omega
        have hi1 : (k : Int) < (ls.length : Int) := by omega
        have Hxk := hid hx
        clear hcl hsl hcn hx
        obtain ⟨c, hcc⟩ : ∃ c, c = chainB fs ch := ⟨_, rfl⟩
        rw [← hcc] at HM
        have Hcc := hid hcc
        clear hcc
        go_wp2_with fail
        refine HM.out.mono ?_
        rintro e w2 ⟨rfl, hB2⟩
        have HB2 := hid hB2
        clear hB2 k0 k1
        cases c
        · have He := hid (HN.out (all_not Hxk.out Hcc.out.symm))
          have hr2 := (HB2.out.block _ (lt_get Hrr.out)).trans Hrr.out
          obtain ⟨r0, g0⟩ := box_cell hr2
          simp only [endOf]
          refine leaves_cons (f := 98) (args := #[.pointer (some ⟨w.heap.size + 1, 0, none⟩)]) (by simp) (by simp [go_sem]) ?_
          refine (catch_panic ⟨w.heap.size + 1, 0, none⟩ 0 pv [] _ r0 g0).mono ?_
          rintro e u' w3 ⟨rfl, rfl, rfl⟩
          refine leave_code (b := w.heap.size + 1) rfl (set_one r0) ⟨by rw [He.out], ?_⟩
          exact (HBw.out.trans (HB2.out.mono HBw.out.size)).setCell (Nat.le_succ _) _
        · have HS : Hid (∀ i x, i < k + 1 → ls[i]? = some x → chainB fs x.2.2 = true) := hid (fun i x hi h => by
            by_cases e : i = k
            · subst e
              rw [Hxk.out] at h
              cases h
              exact Hcc.out.symm
            · exact HK.out i x (by omega) h)
          simp only [endOf]
          go_wp2_with fail
          go_roundw
          case rel => exact ⟨k + 1, by omega, by go_num, HS, hid (HB.out.trans (HB2.out.mono HB.out.size))⟩
          case measure => simp [RowKit.intOf]; omega
      · obtain rfl : k = ls.length := by omega
        have He := hid (HY.out (all_take HK.out (Nat.le_refl _)))
        obtain ⟨r0, g0⟩ := box_cell Hrr.out
        go_wp2_with fail
        refine leaves_cons (f := 98) (args := #[.pointer (some ⟨w.heap.size + 1, 0, none⟩)]) (by simp) (by simp [go_sem]) ?_
        refine (catch_idle ⟨w.heap.size + 1, 0, none⟩ _).mono ?_
        rintro e u' w3 ⟨rfl, rfl, rfl⟩
        refine leave_code (b := w.heap.size + 1) rfl (set_one r0) ⟨by rw [He.out], ?_⟩
        exact HBw.out.setCell (Nat.le_succ _) _

end Go.Proofs.YtgnahadlcihneaaDoor

/-! treeOf: a deferred recover turns the panic into a code. -/
namespace Go.Proofs.YtgnahadlcihneaaDoor
open Go.RowKit

set_option maxHeartbeats 1000000 in
theorem catchT_panic (p : Addr) (x : Int) (pv : Value) (older : List PanicEntry) (w : World) (hc : w.cell? p = some (.int .i64 x)) (hz : w.frozen? p = false) :
    CallsD Tryd.prog 87 #[.pointer (some p)] (.panicking ({ v := .iface 143 pv, recovered := false } :: older)) w fun e u' w' =>
      e = .returned (.tuple #[]) ∧ u' = .panicking ({ v := .iface 143 pv, recovered := true } :: older) ∧ w' = w.setCell p (.int .i64 2) := by
  have ha := assert_err
  refine callsD_of_wpS Tryd.func87 rfl fun c₀ cs hu => ?_
  apply wpS_seq
  apply wpS_region
  simp [wpOpsS, go_sem, recoverD, hu, ha, Tryd.ntmps87, Exit.thenS]
  apply wpS_seq
  apply wpS_region
  simp [wpOpsS, go_sem, Exit.thenS]
  refine wpS_cond (t := true) (by simp [Act.eval, Array.replicate]) ?_
  simp only [if_true]
  apply wpS_region
  simp [wpOpsS, go_sem, hc, hz, bodyPostS, results, Tryd.results87]

theorem catchT_idle (p : Addr) (w : World) :
    CallsD Tryd.prog 87 #[.pointer (some p)] .returning w fun e u' w' => e = .returned (.tuple #[]) ∧ u' = .returning ∧ w' = w := by
  have ha := assert_nil
  refine callsD_of_wpS Tryd.func87 rfl fun c₀ cs hu => ?_
  apply wpS_seq
  apply wpS_region
  simp [wpOpsS, go_sem, recoverD, hu, ha, Tryd.ntmps87, Exit.thenS]
  apply wpS_seq
  apply wpS_region
  simp [wpOpsS, go_sem, Exit.thenS]
  refine wpS_cond (t := false) (by simp [Act.eval, Array.replicate]) ?_
  simp only [Bool.false_eq_true, if_false]
  refine wpS_of_wp (wp_skip ?_)
  cases c₀
  simp_all [bodyPostS, results, Tryd.results87]

theorem leave_tree {tmps : Array Value} {R : Ending → World → Prop} {W : World} {b : Nat} {A : Array Value} {x : Int} (hp : tmps.getD 4 undef = .pointer (some ⟨b, 0, none⟩)) (hp2 : tmps.getD 5 undef = .pointer (some ⟨b + 1, 0, none⟩))
    (hg : W.heap[b]? = some (.cells A 66 (0, 0))) (hi : (Tryd.prog.info? 66).map (·.size) = some A.size) (hc : W.cell? ⟨b + 1, 0, none⟩ = some (.int .i64 x)) (hR : R (.returned (.tuple #[.agg A, .int .i64 x])) W) :
    Leaves Tryd.prog Tryd.f58 tmps R [] .returning W := by
  have hp' : tmps[4]?.getD undef = .pointer (some ⟨b, 0, none⟩) := by simpa using hp
  have hp2' : tmps[5]?.getD undef = .pointer (some ⟨b + 1, 0, none⟩) := by simpa using hp2
  have hl := run_loadVar_row (P := Tryd.prog) W b 66 66 A (0, 0) _ hg Tryd.underlying66 rfl hi
  have hl2 : (loadVar 2 ⟨b + 1, 0, none⟩).run Tryd.prog W = .ok (.int .i64 x) W := by simp [go_sem, hc]
  refine ⟨.tuple #[.agg A, .int .i64 x], ?_, hR⟩
  simp [results, Tryd.results58, hp', hp2', asAddr, hl, hl2]

theorem heap_st1 {W : World} {b gb j : Nat} {k : Obj} (hne : gb ≠ b) (h : W.heap[b]? = some k) {u : Value} : (W.setCell ⟨gb, j, none⟩ u).heap[b]? = some k := by
  simp only [World.setCell, Array.getElem?_modify]
  rw [if_neg hne]
  exact h

set_option maxRecDepth 100000 in
set_option maxHeartbeats 4000000 in
theorem treeOf_any (n : Nat) (a : Option Addr) (cap : Nat) (T : List Int) (w : World) (pv : Value) (hx : SlI w w.heap.size a T) (hl : T.length ≤ 1048576) (h1 : 1 ≤ n) (h6 : n ≤ 6)
    (hG : w.cell? ⟨1, 0, none⟩ = some (.iface 143 pv)) :
    Calls Tryd.prog 58 #[.int .i64 (n : Int), .slice a T.length cap] w fun e w' => ∃ A, e = .returned (.tuple #[.agg A, .int .i64 (if isTB n T then 0 else 2)]) ∧ A.size = 65 ∧ A.all (·.oneCell') = true ∧ (isTB n T = true → A = (tcells n (padL T)).toArray) ∧ Below w.heap.size w w' := by
  have hmf : ∀ (fn : Fn) (first cap : Array Value) (w : World), (Instr.makeFunc fn first cap).run Tryd.prog w = .ok (.func fn first cap) w := fun _ _ _ _ => rfl
  obtain ⟨Z, hZs, hZ1, hz, hi⟩ := zero_tree
  have hZ0 : ¬ Z = #[] := by rintro rfl; simp at hZs
  obtain ⟨W0, hW0⟩ : ∃ W0, W0 = (w.alloc (.cells Z 66)).alloc (.cells #[.int .i64 0] 2) := ⟨_, rfl⟩
  have hB0 : Below w.heap.size w W0 := by rw [hW0]; exact ((Below.refl _ w).alloc (Nat.le_refl _) _).alloc (by simp) _
  have Hk : Hid (W0.heap[w.heap.size]? = some (.cells Z 66 (0, 0))) := hid (by rw [hW0]; exact (Below.heap_alloc _ _ _ (by simp)).trans (heap_alloc_new _ _))
  have Hr : Hid (W0.heap[w.heap.size + 1]? = some (.cells #[.int .i64 0] 2 (0, 0))) := hid (by rw [hW0]; exact new2 _ _ _)
  have hlt := World.block_lt_of_cell? w _ hG
  have HB0 := hid hB0
  have HM := hid (mustT_any n a cap T W0 143 pv (hx.later hB0 hB0.size) hl h1 h6 ((hB0.cell (p := ⟨1, 0, none⟩) hlt).trans hG))
  rw [hW0] at HM
  have hAs : (tcells (n : Int) (padL T)).toArray.size = 65 ∨ isTB n T = false := by
    cases h : isTB n T
    · exact .inr rfl
    · left
      have := (isTB_iff.1 h).len
      have h64 := pow_le64 h6
      simp [tcells, padL_len (show T.length ≤ 63 by omega)]
  have hA1 : (tcells (n : Int) (padL T)).toArray.all (·.oneCell') = true := tcells_one _ _
  obtain ⟨A, hA⟩ : ∃ A, A = (tcells (n : Int) (padL T)).toArray := ⟨_, rfl⟩
  rw [← hA] at HM hAs hA1
  have HA := hid hA
  obtain ⟨c, hcc⟩ : ∃ c, c = isTB n T := ⟨_, rfl⟩
  rw [← hcc] at HM hAs ⊢
  rw [← hA]
  clear hx hB0 hG hA hcc
  go_enter_defers Tryd.func58, Tryd.ntmps58
  go_wp2_with fail
  refine HM.out.mono ?_
  rintro e w2 ⟨rfl, hB2⟩
  rw [← hW0] at hB2
  have HB2 := hid (HB0.out.trans (hB2.mono HB0.out.size))
  have hk2 := (hB2.block _ (lt_get Hk.out)).trans Hk.out
  have hr2 := (hB2.block _ (lt_get Hr.out)).trans Hr.out
  clear hB2 hmf
  cases c
  · obtain ⟨r0, g0⟩ := box_cell hr2
    simp only [endT]
    refine leaves_cons (f := 87) (args := #[.pointer (some ⟨w.heap.size + 1, 0, none⟩)]) (by simp) (by simp [go_sem]) ?_
    refine (catchT_panic ⟨w.heap.size + 1, 0, none⟩ 0 pv [] _ r0 g0).mono ?_
    rintro e u' w3 ⟨rfl, rfl, rfl⟩
    refine leave_tree (b := w.heap.size) (A := Z) rfl rfl (heap_st1 (by omega) hk2) (by rw [hi, hZs]) (set_one r0) ⟨Z, rfl, hZs, hZ1, fun h => absurd h (by decide), ?_⟩
    exact HB2.out.setCell (Nat.le_succ _) _
  · have hAs2 : A.size = 65 := hAs.resolve_right (by decide)
    have hi66 : (Tryd.prog.info? 66).map (·.size) = some A.size := by rw [hi, hAs2]
    have hZA : Z.size = A.size := by rw [hZs, hAs2]
    have hrow := setRow_heap w2 w.heap.size Z A 66 (0, 0) hk2
    have hr3 := ((setRow_grown2 w2 w.heap.size A).block (w.heap.size + 1) (lt_get hr2) (by simp)).trans hr2
    have HB3 := hid (HB2.out.grown (setRow_grown2 w2 w.heap.size A) HB2.out.size (fun k e => by cases e; exact Nat.le_refl _))
    obtain ⟨r0, g0⟩ := box_cell hr3
    simp only [endT]
    clear hz hZ0
    go_wp2_with (first
      | (refine wpList_store_row rfl 66 _ _ rfl w.heap.size A rfl rfl 66 Z hk2 hi66 hZA hA1 ?_)
      | fail)
    refine leaves_cons (f := 87) (args := #[.pointer (some ⟨w.heap.size + 1, 0, none⟩)]) (by simp) (by simp [go_sem]) ?_
    refine (catchT_idle ⟨w.heap.size + 1, 0, none⟩ _).mono ?_
    rintro e u' w3 ⟨rfl, rfl, rfl⟩
    refine leave_tree (b := w.heap.size) (A := A) rfl rfl (heap_st1 (by omega) hrow) hi66 (set_one r0) ⟨A, rfl, hAs2, (by first | exact hA1 | simpa using hA1), (by first | exact rfl | exact fun _ => rfl), ?_⟩
    exact HB3.out.setCell (Nat.le_succ _) _

end Go.Proofs.YtgnahadlcihneaaDoor

/-! IsTree, on both sides. -/
namespace Go.Proofs.YtgnahadlcihneaaDoor
open Go.RowKit

/-- What IsTree answers. -/
noncomputable def isTrR (n : Int) (T : List Int) : Bool × Int := if 1 ≤ n ∧ n ≤ 6 then (isTB n.toNat T, 0) else (false, 2)

set_option maxRecDepth 100000 in
set_option maxHeartbeats 2000000 in
theorem specIsTree (n : Int) (a : Option Addr) (cap : Nat) (T : List Int) (w : World) (hx : SlI w w.heap.size a T) (hl : T.length ≤ 1048576) (_ : (Lit.int .i64 n).wf = true) :
    Calls Tryd.prog 21 #[.int .i64 n, .slice a T.length cap] w fun e w' => e = .returned (.tuple #[.bool (isTrR n T).1, .int .i64 (isTrR n T).2]) ∧ Below w.heap.size w w' := by
  have HI := hid (in_any n 1 6 w)
  by_cases hn : 1 ≤ n ∧ n ≤ 6
  · rw [decide_eq_true hn.1, decide_eq_true hn.2] at HI
    have HR : Hid (isTrR n T = (isTB n.toNat T, 0)) := hid (by unfold isTrR; rw [if_pos hn])
    obtain ⟨n, rfl⟩ : ∃ k : Nat, n = (k : Int) := ⟨n.toNat, by omega⟩
    rw [Int.toNat_natCast] at HR
    have HT := hid (treeT_any n a cap T w hx hl (by omega))
    clear hn hx
    go_enter Tryd.func21, Tryd.ntmps21
    go_wp2_with fail
    refine HI.out.mono ?_
    rintro e w1 ⟨rfl, rfl⟩
    go_wp2_with fail
    refine HT.out.mono ?_
    rintro e w1 ⟨rfl, hB1⟩
    have HB1 := hid hB1
    clear hB1
    go_wp2_with fail
    go_ret2
    rw [HR.out]
    exact ⟨rfl, HB1.out⟩
  · have hf : (decide (1 ≤ n) && decide (n ≤ 6)) = false := by simp; omega
    rw [hf] at HI
    have HR : Hid (isTrR n T = (false, 2)) := hid (by unfold isTrR; rw [if_neg hn])
    clear hn hf hx
    go_enter Tryd.func21, Tryd.ntmps21
    go_wp2_with fail
    refine HI.out.mono ?_
    rintro e w1 ⟨rfl, rfl⟩
    go_wp2_with fail
    go_ret2
    rw [HR.out]
    exact ⟨rfl, Below.refl _ _⟩

set_option maxRecDepth 100000 in
set_option maxHeartbeats 2000000 in
theorem implIsTree (n : Int) (a : Option Addr) (cap : Nat) (T : List Int) (w : World) (hx : SlI w w.heap.size a T) (hl : T.length ≤ 1048576) (_ : (Lit.int .i64 n).wf = true) (pv : Value) (hG : w.cell? ⟨1, 0, none⟩ = some (.iface 143 pv)) :
    Calls Tryd.prog 23 #[.int .i64 n, .slice a T.length cap] w fun e w' => e = .returned (.tuple #[.bool (isTrR n T).1, .int .i64 (isTrR n T).2]) ∧ Below w.heap.size w w' := by
  have HV := hid (fun W => vc_any n W)
  by_cases hn : 1 ≤ n ∧ n ≤ 6
  · rw [decide_eq_true hn.1, decide_eq_true hn.2] at HV
    have HR : Hid (isTrR n T = (isTB n.toNat T, 0)) := hid (by unfold isTrR; rw [if_pos hn])
    obtain ⟨n, rfl⟩ : ∃ k : Nat, n = (k : Int) := ⟨n.toNat, by omega⟩
    rw [Int.toNat_natCast] at HR
    have HT := hid (treeOf_any n a cap T w pv hx hl (by omega) (by omega) hG)
    obtain ⟨Z, hZs, hZ1, hz, hi⟩ := zero_tree
    have hZ0 : ¬ Z = #[] := by rintro rfl; simp at hZs
    obtain ⟨c, hc⟩ : ∃ c, c = isTB n T := ⟨_, rfl⟩
    rw [← hc] at HR HT
    clear hn hx hG hc
    go_enter Tryd.func23, Tryd.ntmps23
    go_wp2_with fail
    refine (HV.out _).mono ?_
    rintro e w1 ⟨rfl, rfl⟩
    go_wp2_with fail
    refine HT.out.mono ?_
    rintro e w1 ⟨A, rfl, hAs, hA1, hq, hB1⟩
    clear hq
    have HB1 := hid (hB1.alloc hB1.size (.cells A 66))
    have hsc := run_storeCells_new (P := Tryd.prog) w1 66 Z A (by rw [hi, hAs]) (by rw [hZs, hAs]) hA1
    clear hB1
    cases c
    · go_wp2_with fail
      go_ret2
      rw [HR.out]
      exact ⟨rfl, HB1.out⟩
    · go_wp2_with fail
      go_ret2
      rw [HR.out]
      exact ⟨rfl, HB1.out⟩
  · have hf : (decide (1 ≤ n) && decide (n ≤ 6)) = false := by simp; omega
    rw [hf] at HV
    have HR : Hid (isTrR n T = (false, 2)) := hid (by unfold isTrR; rw [if_neg hn])
    clear hn hf hx hG
    go_enter Tryd.func23, Tryd.ntmps23
    go_wp2_with fail
    refine (HV.out _).mono ?_
    rintro e w1 ⟨rfl, rfl⟩
    go_wp2_with fail
    go_ret2
    rw [HR.out]
    exact ⟨rfl, Below.refl _ _⟩

end Go.Proofs.YtgnahadlcihneaaDoor

/-! The law on IsTree, walked. -/
namespace Go.Proofs.YtgnahadlcihneaaDoor
open Go.RowKit

set_option maxRecDepth 100000 in
set_option maxHeartbeats 8000000 in
theorem law_IsTree (d0 : Int) (a1 : Option Addr) (cap1 : Nat) (gs1 : List Int) (w : World) (hx1 : SlI w w.heap.size a1 gs1)   (wd0 : (Lit.int .i64 d0).wf = true) (pv : Value) (hG : w.cell? ⟨1, 0, none⟩ = some (.iface 143 pv)) :
    Calls Tryd.prog 5 #[.int .i64 d0, .slice a1 gs1.length cap1] w fun e w' => e = .returned (.bool true) ∧ Below w.heap.size w w' := by
  have HG := hid hG
  have HGl := hid (World.block_lt_of_cell? w _ hG)
  clear hG
  have F0 : Book w w [(a1, gs1)] [] [] := ⟨Below.refl _ _, by simp; exact hx1, by simp, by simp⟩
  (try simp only [World.size_alloc] at F0)
  have B0 := hid F0
  clear F0 hx1
  by_cases hbL1 : 1048576 < gs1.length
  · have hbi1 : (gs1.length : Int) > 1048576 := by omega
    go_enter Tryd.func5, Tryd.ntmps5
    go_wp2_with fail
    go_ret
    exact ⟨rfl, B0.out.from0⟩
  have hl1 : gs1.length ≤ 1048576 := by omega
  have hbi1 : ¬ (gs1.length : Int) > 1048576 := by omega
  obtain ⟨R, hR⟩ : ∃ R, R = isTrR d0 gs1 := ⟨_, rfl⟩
  obtain ⟨bb, c⟩ := R
  have HS : Hid (∀ a1 cap1 w', SlI w' w'.heap.size a1 gs1 → Calls Tryd.prog 21 #[.int .i64 d0, .slice a1 gs1.length cap1] w' fun e w'' => e = .returned (.tuple #[.bool bb, .int .i64 c]) ∧ Below w'.heap.size w' w'') :=
    hid (fun a1 cap1 w' hs1 => by have := specIsTree d0 a1 cap1 gs1 w' hs1 hl1 wd0; rwa [← hR] at this)
  have HI : Hid (∀ a1 cap1 w', SlI w' w'.heap.size a1 gs1 → w'.cell? ⟨1, 0, none⟩ = some (.iface 143 pv) → Calls Tryd.prog 23 #[.int .i64 d0, .slice a1 gs1.length cap1] w' fun e w'' => e = .returned (.tuple #[.bool bb, .int .i64 c]) ∧ Below w'.heap.size w' w'') :=
    hid (fun a1 cap1 w' hs1 hG' => by have := implIsTree d0 a1 cap1 gs1 w' hs1 hl1 wd0 pv hG'; rwa [← hR] at this)
  have hcc : (c != c) = false := by simp
  clear hR
  go_enter Tryd.func5, Tryd.ntmps5
  go_wp2_with fail
  refine (toInts a1 cap1 gs1 _ (B0.out.arg (.head _)) hl1).mono ?_
  rintro e u1 ⟨rfl, hown, hB⟩
  have zu1 := hB.size
  (try simp only [World.size_alloc] at zu1)
  have B0 := hid (B0.out.row hown hB)
  clear hown hB
  (try simp only [World.size_alloc] at B0)
  go_wp2_with fail
  refine (HS.out _ _ _ (B0.out.slI (.head _))).mono ?_
  rintro e u9 ⟨rfl, hB⟩
  have zu9 := hB.size
  (try simp only [World.size_alloc] at zu9)
  have B0 := hid (B0.out.below hB)
  clear hB
  go_wp2_with fail
  refine (toInts a1 cap1 gs1 _ (B0.out.arg (.head _)) hl1).mono ?_
  rintro e x1 ⟨rfl, hown, hB⟩
  have zx1 := hB.size
  (try simp only [World.size_alloc] at zx1)
  have B0 := hid (B0.out.row hown hB)
  clear hown hB
  (try simp only [World.size_alloc] at B0)
  go_wp2_with fail
  refine (HI.out _ _ _ (B0.out.slI (.head _)) ((B0.out.from0.cell (p := ⟨1, 0, none⟩) HGl.out).trans HG.out)).mono ?_
  rintro e v9 ⟨rfl, hB⟩
  have zv9 := hB.size
  (try simp only [World.size_alloc] at zv9)
  have B0 := hid (B0.out.below hB)
  clear hB
  clear HS HI
  cases bb
  all_goals
    go_wp2_with fail
    refine (toInts a1 cap1 gs1 _ (B0.out.arg (.head _)) hl1).mono ?_
    rintro e f1 ⟨rfl, hown, hB⟩
    have zf1 := hB.size
    (try simp only [World.size_alloc] at zf1)
    have B0 := hid (B0.out.row hown hB)
    clear hown hB
    (try simp only [World.size_alloc] at B0)
    go_wp2_with fail
    refine (eqInts_yes _ _ _ _ gs1 gs1 _ (B0.out.slI (.tail _ (.head _))) (B0.out.slI (.head _)) hl1 hl1 rfl).mono ?_
    rintro e h1 ⟨rfl, hB⟩
    have zh1 := hB.size
    (try simp only [World.size_alloc] at zh1)
    have B0 := hid (B0.out.below hB)
    clear hB
    go_wp2_with fail
    go_ret
    exact ⟨rfl, B0.out.from0⟩

end Go.Proofs.YtgnahadlcihneaaDoor
