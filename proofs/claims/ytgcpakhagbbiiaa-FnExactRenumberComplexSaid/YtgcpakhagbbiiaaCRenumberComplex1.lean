import Derived.Shelf.SlLaysM
import Derived.Shelf.SlLaysZI
import Derived.Test.YtgcpakhagbbiiaaProg
import Derived.Shelf.SlIterI.Nil
import Derived.Shelf.SortM.Plain
import Derived.Shelf.SortM.SortNone
import Derived.Lib.SliceRun
import Derived.Lib.Walk
import Derived.Deep.CutRange
import Derived.Deep.LoopGhost
import Derived.Sort.WalkB12
import Derived.Lib.SlicesMore
import Derived.Sort.OwnSortedInts
import Derived.Test.YtgcpakhagbbiiaaMB2
import Derived.Test.YtgcpakhagbbiiaaMB1
import Derived.Test.YtgcpakhagbbiiaaMB4
/-! 'out.Faces = append(out.Faces, x)' in the model's loops, where the complex that is built has a number of vertices of its own (OutW, with that number). -/
namespace Go.Proofs.Ytgcpakhagbbiiaa
open Go.RowKit

/-- The same, where what is built has another number of vertices: B is the heap's size when the call began. -/
structure OutU (w W : World) (V U : Int) (sl : Value) (Bo : Nat) (xs : List Int) (a : Option Addr) (c : Nat) : Prop where
  below : Below w.heap.size w W
  kbox : W.heap[w.heap.size]? = some (.cells #[.int .i64 V, sl] 30 (0, 0))
  res : W.heap[w.heap.size + 1]? = some (.cells #[.int .i64 0, .slice none 0 0] 30 (0, 0))
  out : W.heap[Bo]? = some (.cells #[.int .i64 U, .slice a xs.length c] 30 (0, 0))
  own : W.ownsRow w.heap.size 2 1 (.slice a xs.length c) xs.length (xs.map (Value.int .i64))
  bo : w.heap.size + 1 < Bo

/-- Draws alone. -/
theorem OutU.drew {w W : World} {V U : Int} {sl : Value} {Bo : Nat} {xs : List Int} {a : Option Addr} {c : Nat} (h : OutU w W V U sl Bo xs a c) : OutU w W.drew V U sl Bo xs a c :=
  ⟨⟨h.below.os, h.below.tape, h.below.output, h.below.size, h.below.block⟩, h.kbox, h.res, h.out, h.own, h.bo⟩

theorem OutU.drewN {w W : World} {V U : Int} {sl : Value} {Bo : Nat} {xs : List Int} {a : Option Addr} {c : Nat} (h : OutU w W V U sl Bo xs a c) (n : Nat) : OutU w (W.drewN n) V U sl Bo xs a c :=
  ⟨⟨h.below.os, h.below.tape, h.below.output, h.below.size, h.below.block⟩, h.kbox, h.res, h.out, h.own, h.bo⟩

/-- Whatever keeps all that lay. -/
theorem OutU.later {w W W' : World} {V U : Int} {sl : Value} {Bo : Nat} {xs : List Int} {a : Option Addr} {c : Nat} (h : OutU w W V U sl Bo xs a c) (hb : Below W.heap.size W W') : OutU w W' V U sl Bo xs a c where
  below := h.below.trans (hb.mono h.below.size)
  kbox := (hb.block _ (lt_get h.kbox)).trans h.kbox
  res := (hb.block _ (lt_get h.res)).trans h.res
  out := (hb.block _ (lt_get h.out)).trans h.out
  own := ownsRow_below h.own hb (fun g hg => (h.own.lt g hg).2)
  bo := h.bo

/-- A face more. -/
theorem OutU.step {w W w2 : World} {V U : Int} {sl : Value} {Bo : Nat} {xs : List Int} {a : Option Addr} {c : Nat} (h : OutU w W V U sl Bo xs a c) {x : Int} {g cap : Nat} {o : Obj}
    (hown : w2.ownsRow w.heap.size 2 1 (.slice (some ⟨g, 0, none⟩) (xs ++ [x]).length cap) (xs ++ [x]).length ((xs ++ [x]).map (Value.int .i64))) (hg : (W.alloc o).grownBy w2 (Value.ownBlock (.slice a xs.length c))) :
    OutU w (w2.setCell ⟨Bo, 1, none⟩ (.slice (some ⟨g, 0, none⟩) (xs ++ [x]).length cap)) V U sl Bo (xs ++ [x]) (some ⟨g, 0, none⟩) cap := by
  have hgr : W.grownBy w2 (Value.ownBlock (.slice a xs.length c)) := (World.grownBy_alloc W o _).trans hg
  have hbo := h.bo
  have k2 := (hgr.block _ (lt_get h.kbox) (row_ne h.own h.kbox (by decide))).trans h.kbox
  have r2 := (hgr.block _ (lt_get h.res) (row_ne h.own h.res (by decide))).trans h.res
  have o2 := (hgr.block _ (lt_get h.out) (row_ne h.own h.out (by decide))).trans h.out
  refine ⟨?_, ?_, ?_, ?_, ?_, h.bo⟩
  · exact (h.below.grown hgr h.below.size (fun k hk => (h.own.lt k hk).1)).setCell (p := ⟨Bo, 1, none⟩) (by simp only; omega) _
  · exact (Below.heap_setCell _ _ _ _ (by simp only; omega)).trans k2
  · exact (Below.heap_setCell _ _ _ _ (by simp only; omega)).trans r2
  · simp only [World.setCell, Array.getElem?_modify, o2]
    simp
  · exact ownsRow_set hown (by
      have := row_ne hown o2 (by decide)
      exact fun e => this e.symm) _

/-- The model's loops hand back what they have built. -/
theorem OutU.done {w W : World} {V U : Int} {sl : Value} {Bo : Nat} {xs : List Int} {a : Option Addr} {c : Nat} (h : OutU w W V U sl Bo xs a c) (u v : Value) :
    Res w ((W.setCell ⟨w.heap.size + 1, 0, none⟩ u).setCell ⟨w.heap.size + 1, 1, none⟩ v) (.slice a xs.length c) xs := by
  have hn := row_ne h.own h.res (by decide)
  exact ⟨ownsRow_set (ownsRow_set h.own (fun e => hn e.symm) _) (fun e => hn e.symm) _, (h.below.setCell (p := ⟨w.heap.size + 1, 0, none⟩) (by simp) _).setCell (p := ⟨w.heap.size + 1, 1, none⟩) (by simp) _⟩

theorem OutU.stepN {w W w2 : World} {V U : Int} {sl : Value} {Bo : Nat} {xs : List Int} {a : Option Addr} {c : Nat} (h : OutU w W V U sl Bo xs a c) {x : Int} {g cap : Nat} {o : Obj} {n : Nat}
    (hown : w2.ownsRow w.heap.size 2 1 (.slice (some ⟨g, 0, none⟩) (xs ++ [x]).length cap) (xs ++ [x]).length ((xs ++ [x]).map (Value.int .i64))) (hg : ((W.drewN n).alloc o).grownBy w2 (Value.ownBlock (.slice a xs.length c))) :
    OutU w (w2.setCell ⟨Bo, 1, none⟩ (.slice (some ⟨g, 0, none⟩) (xs ++ [x]).length cap)) V U sl Bo (xs ++ [x]) (some ⟨g, 0, none⟩) cap := (h.drewN n).step hown hg

/-- The out block behind an append. -/
theorem OutU.mid {w W w2 : World} {V U : Int} {sl : Value} {Bo : Nat} {xs : List Int} {a : Option Addr} {c : Nat} (h : OutU w W V U sl Bo xs a c) {n : Nat} {o : Obj} (hg : ((W.drewN n).alloc o).grownBy w2 (Value.ownBlock (.slice a xs.length c))) :
    w2.cell? ⟨Bo, 1, none⟩ = some (.slice a xs.length c) ∧ w2.frozen? ⟨Bo, 1, none⟩ = false := by
  have hgr : (W.drewN n).grownBy w2 (Value.ownBlock (.slice a xs.length c)) := (World.grownBy_alloc _ o _).trans hg
  have o2 := (hgr.block _ (lt_get (h.drewN n).out) (row_ne (h.drewN n).own (h.drewN n).out (by decide))).trans (h.drewN n).out
  constructor <;> simp [World.cell?, World.frozen?, o2]

/-- The given complex's box behind an append. -/
theorem OutU.midK {w W w2 : World} {V U : Int} {sl : Value} {Bo : Nat} {xs : List Int} {a : Option Addr} {c : Nat} (h : OutU w W V U sl Bo xs a c) {n : Nat} {o : Obj} (hg : ((W.drewN n).alloc o).grownBy w2 (Value.ownBlock (.slice a xs.length c))) :
    w2.cell? ⟨w.heap.size, 1, none⟩ = some sl := by
  have hgr : (W.drewN n).grownBy w2 (Value.ownBlock (.slice a xs.length c)) := (World.grownBy_alloc _ o _).trans hg
  have o2 := (hgr.block _ (lt_get (h.drewN n).kbox) (row_ne (h.drewN n).own (h.drewN n).kbox (by decide))).trans (h.drewN n).kbox
  simp [World.cell?, o2]

/-- What lay before the call, behind an append. -/
theorem OutU.midX {w W w2 : World} {V U : Int} {sl : Value} {Bo : Nat} {xs : List Int} {a : Option Addr} {c : Nat} (h : OutU w W V U sl Bo xs a c) {n : Nat} {o : Obj} (hg : ((W.drewN n).alloc o).grownBy w2 (Value.ownBlock (.slice a xs.length c))) {p : Addr} (hp : p.block < w.heap.size) :
    w2.cell? p = W.cell? p := by
  have hgr : (W.drewN n).grownBy w2 (Value.ownBlock (.slice a xs.length c)) := (World.grownBy_alloc _ o _).trans hg
  have hlt : p.block < (W.drewN n).heap.size := Nat.lt_of_lt_of_le hp h.below.size
  have h2 : w2.heap[p.block]? = W.heap[p.block]? := hgr.block _ hlt (by
    intro he
    have := (h.own.lt _ he.symm).1
    omega)
  simp only [World.cell?, h2]

end Go.Proofs.Ytgcpakhagbbiiaa

/-! Finite facts on bits, decided. -/
namespace Go.Proofs.Ytgcpakhagbbiiaa
open Go.RowKit

theorem andNot_fin : ∀ x : Nat, x < 64 → ∀ s : Nat, s < 64 → (bits BinOp.andNot IntKind.i64 (x : Int) (s : Int) == 0) = decide (x &&& s = x) := by
  decide +kernel

end Go.Proofs.Ytgcpakhagbbiiaa

/-! The numbers from 1 to n that are wanted, ascending. -/
namespace Go.Proofs.Ytgcpakhagbbiiaa
open Go.RowKit

/-- The numbers from 1 to k of which p says yes. -/
def pickTo (p : Int → Bool) : Nat → List Int
  | 0 => []
  | k + 1 => pickTo p k ++ (if p ((k : Int) + 1) then [(k : Int) + 1] else [])

theorem pickTo_len (p : Int → Bool) : ∀ k, (pickTo p k).length ≤ k
  | 0 => by simp [pickTo]
  | k + 1 => by
    have := pickTo_len p k
    simp only [pickTo, List.length_append]
    split <;> simp <;> omega

theorem mem_pickTo {p : Int → Bool} {x : Int} : ∀ k : Nat, x ∈ pickTo p k ↔ 1 ≤ x ∧ x ≤ k ∧ p x = true
  | 0 => by simp [pickTo]; omega
  | k + 1 => by
    have ih := mem_pickTo (p := p) (x := x) k
    simp only [pickTo, List.mem_append, ih]
    constructor
    · rintro (⟨h1, h2, h3⟩ | h)
      · exact ⟨h1, by omega, h3⟩
      · split at h
        · rename_i hp
          simp at h
          subst h
          exact ⟨by omega, by omega, hp⟩
        · simp at h
    · rintro ⟨h1, h2, h3⟩
      by_cases he : x = (k : Int) + 1
      · subst he
        right
        rw [if_pos h3]; simp
      · exact .inl ⟨h1, by omega, h3⟩

theorem pickTo_asc (p : Int → Bool) : ∀ k : Nat, (pickTo p k).Pairwise (· < ·)
  | 0 => by simp [pickTo]
  | k + 1 => by
    simp only [pickTo]
    rw [List.pairwise_append]
    refine ⟨pickTo_asc p k, by split <;> simp, fun a ha b hb => ?_⟩
    have h1 := (mem_pickTo k).1 ha
    split at hb
    · simp at hb; omega
    · simp at hb

theorem pickTo_congr {p q : Int → Bool} : ∀ k : Nat, (∀ x : Int, 1 ≤ x → x ≤ k → p x = q x) → pickTo p k = pickTo q k
  | 0, _ => rfl
  | k + 1, h => by
    simp only [pickTo]
    rw [pickTo_congr k (fun x h1 h2 => h x h1 (by omega)), h ((k : Int) + 1) (by omega) (by omega)]

/-- Two ascending lists with the same members are one. -/
theorem asc_ext : ∀ {xs ys : List Int}, xs.Pairwise (· < ·) → ys.Pairwise (· < ·) → (∀ x, x ∈ xs ↔ x ∈ ys) → xs = ys
  | [], [], _, _, _ => rfl
  | [], y :: ys, _, _, h => absurd ((h y).2 (by simp)) (by simp)
  | x :: xs, [], _, _, h => absurd ((h x).1 (by simp)) (by simp)
  | x :: xs, y :: ys, hx, hy, h => by
    have hx' := List.pairwise_cons.1 hx
    have hy' := List.pairwise_cons.1 hy
    have hxy : x = y := by
      have h1 := (h x).1 (by simp)
      have h2 := (h y).2 (by simp)
      rcases List.mem_cons.1 h1 with h1 | h1
      · exact h1
      · rcases List.mem_cons.1 h2 with h2 | h2
        · exact h2.symm
        · have a := hy'.1 _ h1
          have b := hx'.1 _ h2
          omega
    subst hxy
    congr 1
    refine asc_ext hx'.2 hy'.2 fun z => ?_
    have hz := h z
    simp only [List.mem_cons] at hz
    constructor
    · intro hm
      rcases hz.1 (.inr hm) with rfl | h'
      · exact absurd (hx'.1 _ hm) (by omega)
      · exact h'
    · intro hm
      rcases hz.2 (.inr hm) with rfl | h'
      · exact absurd (hy'.1 _ hm) (by omega)
      · exact h'

end Go.Proofs.Ytgcpakhagbbiiaa

/-! Renumbered sets: the mathematics. -/
namespace Go.Proofs.Ytgcpakhagbbiiaa
open Go.RowKit

/-- The image of a set, vertex by vertex. -/
def movN (p : List Int) (f : Nat) : Nat → Nat
  | 0 => 0
  | k + 1 => if bitN f k then movN p f k ||| 2 ^ (p[k]?.getD 0).toNat else movN p f k
def moved (p : List Int) (f : Nat) : Nat := movN p f p.length
theorem bit_test (f v : Nat) : bitN f v = f.testBit v := by
  unfold bitN
  rw [Nat.testBit_eq_decide_div_mod_eq]
  cases h : decide (f / 2 ^ v % 2 = 1) <;> simp_all
theorem test_pow (a w : Nat) : (2 ^ a).testBit w = decide (a = w) := by rw [Nat.testBit_two_pow]
theorem movN_test (p : List Int) (f w : Nat) : ∀ k, (movN p f k).testBit w = true ↔ ∃ v, v < k ∧ f.testBit v = true ∧ (p[v]?.getD 0).toNat = w
  | 0 => by simp [movN]
  | k + 1 => by
    have ih := movN_test p f w k
    unfold movN
    by_cases hb : bitN f k = true
    · rw [if_pos hb, Nat.testBit_or, Bool.or_eq_true, ih, test_pow, decide_eq_true_eq]
      rw [bit_test] at hb
      constructor
      · rintro (⟨v, h1, h2, h3⟩ | h)
        · exact ⟨v, by omega, h2, h3⟩
        · exact ⟨k, by omega, hb, h⟩
      · rintro ⟨v, h1, h2, h3⟩
        by_cases e : v = k
        · subst e; exact .inr h3
        · exact .inl ⟨v, by omega, h2, h3⟩
    · rw [if_neg hb, ih]
      rw [bit_test] at hb
      constructor
      · rintro ⟨v, h1, h2, h3⟩
        exact ⟨v, by omega, h2, h3⟩
      · rintro ⟨v, h1, h2, h3⟩
        by_cases e : v = k
        · subst e; exact absurd h2 hb
        · exact ⟨v, by omega, h2, h3⟩
theorem moved_test (p : List Int) (f w : Nat) : (moved p f).testBit w = true ↔ ∃ v, v < p.length ∧ f.testBit v = true ∧ (p[v]?.getD 0).toNat = w := movN_test p f w p.length
theorem movN_lt {p : List Int} {n : Nat} (h : ∀ x ∈ p, x.toNat < n) (f : Nat) : ∀ k, k ≤ p.length → movN p f k < 2 ^ n
  | 0, _ => Nat.two_pow_pos n
  | k + 1, hk => by
    have ih := movN_lt h f k (by omega)
    unfold movN
    split
    · exact Nat.or_lt_two_pow ih (Nat.pow_lt_pow_right (by decide) (h _ (getD_mem (by omega))))
    · exact ih

/-- A renumbering of n vertices. -/
structure IsR (p : List Int) (n : Int) : Prop where
  len : (p.length : Int) = n
  rng : ∀ x ∈ p, 0 ≤ x ∧ x < n
  inj : ∀ i j, i < j → j < p.length → p[i]?.getD 0 ≠ p[j]?.getD 0
noncomputable def isRB (p : List Int) (n : Int) : Bool := @decide (IsR p n) (Classical.propDecidable _)
theorem isRB_true {p : List Int} {n : Int} (h : IsR p n) : isRB p n = true := @decide_eq_true _ (Classical.propDecidable _) h
theorem isRB_false {p : List Int} {n : Int} (h : ¬ IsR p n) : isRB p n = false := @decide_eq_false _ (Classical.propDecidable _) h
theorem isRB_iff {p : List Int} {n : Int} : isRB p n = true ↔ IsR p n := @decide_eq_true_iff _ (Classical.propDecidable _)
/-- .. so far. -/
structure OkR (p : List Int) (n : Int) (k : Nat) : Prop where
  rng : ∀ i, i < k → 0 ≤ p[i]?.getD 0 ∧ p[i]?.getD 0 < n
  inj : ∀ i j, i < j → j < k → p[i]?.getD 0 ≠ p[j]?.getD 0
theorem OkR.zero (p : List Int) (n : Int) : OkR p n 0 := ⟨fun _ h => absurd h (Nat.not_lt_zero _), fun _ _ _ h => absurd h (Nat.not_lt_zero _)⟩
theorem OkR.succ {p : List Int} {n : Int} {k : Nat} (h : OkR p n k) (h1 : 0 ≤ p[k]?.getD 0 ∧ p[k]?.getD 0 < n) (h2 : p[k]?.getD 0 ∉ p.take k) (hk : k < p.length) : OkR p n (k + 1) where
  rng := fun i hi => by
    by_cases e : i = k
    · subst e; exact h1
    · exact h.rng i (by omega)
  inj := fun i j hij hj => by
    by_cases e : j = k
    · subst e
      intro he
      apply h2
      rw [← he]
      have hi : i < (p.take j).length := by simp; omega
      have := getD_mem hi
      rwa [List.getElem?_take_of_lt hij] at this
    · exact h.inj i j hij (by omega)
theorem OkR.all {p : List Int} {n : Int} (h : OkR p n p.length) (hl : (p.length : Int) = n) : IsR p n where
  len := hl
  rng := fun x hx => by
    obtain ⟨i, hi, rfl⟩ := List.getElem_of_mem hx
    have := h.rng i hi
    rwa [List.getElem?_eq_getElem hi, Option.getD_some] at this
  inj := h.inj
theorem not_rng {p : List Int} {n : Int} {k : Nat} (hk : k < p.length) (h : ¬ (0 ≤ p[k]?.getD 0 ∧ p[k]?.getD 0 < n)) : isRB p n = false := isRB_false fun hR => h (hR.rng _ (getD_mem hk))
theorem not_inj {p : List Int} {n : Int} {k : Nat} (hk : k < p.length) (h : p[k]?.getD 0 ∈ p.take k) : isRB p n = false := isRB_false fun hR => by
  obtain ⟨i, hi, he⟩ := List.getElem_of_mem h
  have hik : i < k := by have := hi; simp at this; omega
  refine hR.inj i k hik hk ?_
  rw [← he, List.getElem_take, List.getElem?_eq_getElem (by omega)]
  rfl
theorem not_len {p : List Int} {n : Int} (h : ¬ (p.length : Int) = n) : isRB p n = false := isRB_false fun hR => h hR.len

/-- The images of the faces. -/
def imgL (p fs : List Int) : List Int := fs.map fun f => ((moved p f.toNat : Nat) : Int)
theorem allV_two {V : Int} (h1 : 1 ≤ V) (h2 : V ≤ 6) : allV V = ((2 ^ V.toNat - 1 : Nat) : Int) := by
  rcases (show V = 1 ∨ V = 2 ∨ V = 3 ∨ V = 4 ∨ V = 5 ∨ V = 6 by omega) with rfl | rfl | rfl | rfl | rfl | rfl <;> decide

section
variable {V : Int} {fs p : List Int}
theorem test_lt {f n w : Nat} (hf : f < 2 ^ n) (h : f.testBit w = true) : w < n := by
  rcases Nat.lt_or_ge w n with h1 | h1
  · exact h1
  · have := Nat.testBit_lt_two_pow (Nat.lt_of_lt_of_le hf (Nat.pow_le_pow_right (by decide) h1))
    rw [this] at h
    cases h
theorem moved_inj (hR : IsR p V) (h1 : 1 ≤ V) {f g : Nat} (hf : f < 2 ^ V.toNat) (hg : g < 2 ^ V.toNat) (h : moved p f = moved p g) : f = g := by
  have hl := hR.len
  have key : ∀ f g : Nat, f < 2 ^ V.toNat → moved p f = moved p g → ∀ w, f.testBit w = true → g.testBit w = true := by
    intro f g hf h w hw
    have hwV := test_lt hf hw
    have h2 := (moved_test p f (p[w]?.getD 0).toNat).2 ⟨w, by omega, hw, rfl⟩
    rw [h] at h2
    obtain ⟨v, hv, hgv, he⟩ := (moved_test p g _).1 h2
    have r1 := hR.rng _ (getD_mem (show w < p.length by omega))
    have r2 := hR.rng _ (getD_mem hv)
    have hpe : p[v]?.getD 0 = p[w]?.getD 0 := by omega
    rcases Nat.lt_trichotomy v w with hlt | heq | hlt
    · exact absurd hpe (hR.inj v w hlt (by omega))
    · subst heq; exact hgv
    · exact absurd hpe.symm (hR.inj w v hlt hv)
  apply Nat.eq_of_testBit_eq
  intro w
  rw [Bool.eq_iff_iff]
  exact ⟨key f g hf h w, key g f hg h.symm w⟩
/-- What of f goes into x. -/
def preN (p : List Int) (x f : Nat) : Nat → Nat
  | 0 => 0
  | k + 1 => if f.testBit k && x.testBit (p[k]?.getD 0).toNat then preN p x f k ||| 2 ^ k else preN p x f k
theorem preN_test (p : List Int) (x f w : Nat) : ∀ k, (preN p x f k).testBit w = true ↔ w < k ∧ f.testBit w = true ∧ x.testBit (p[w]?.getD 0).toNat = true
  | 0 => by simp [preN]
  | k + 1 => by
    have ih := preN_test p x f w k
    unfold preN
    by_cases hb : (f.testBit k && x.testBit (p[k]?.getD 0).toNat) = true
    · rw [if_pos hb, Nat.testBit_or, Bool.or_eq_true, ih, test_pow, decide_eq_true_eq]
      rw [Bool.and_eq_true] at hb
      constructor
      · rintro (⟨a, b, c⟩ | rfl)
        · exact ⟨by omega, b, c⟩
        · exact ⟨by omega, hb.1, hb.2⟩
      · rintro ⟨a, b, c⟩
        by_cases e : k = w
        · exact .inr e
        · exact .inl ⟨by omega, b, c⟩
    · rw [if_neg hb, ih]
      constructor
      · rintro ⟨a, b, c⟩; exact ⟨by omega, b, c⟩
      · rintro ⟨a, b, c⟩
        by_cases e : k = w
        · subst e; exact absurd (by rw [b, c]; rfl) hb
        · exact ⟨by omega, b, c⟩
end

end Go.Proofs.Ytgcpakhagbbiiaa

/-! The image of a set, on both sides. -/
namespace Go.Proofs.Ytgcpakhagbbiiaa
open Go.RowKit

theorem or_bitsR : ∀ f : Fin 64, ∀ v : Fin 6, bits BinOp.or IntKind.i64 (f.val : Int) (wrap64 (2 ^ v.val)) = ((f.val ||| 2 ^ v.val : Nat) : Int) := by decide +kernel
theorem u64_small {x : Nat} (h : x < 64) : IntKind.u64.wrap (x : Int) = (x : Int) := by
  have : ∀ y : Fin 64, IntKind.u64.wrap (y.val : Int) = (y.val : Int) := by decide +kernel
  exact this ⟨x, h⟩
theorem movN_small {p : List Int} (h : ∀ x ∈ p, 0 ≤ x ∧ x < 6) (f : Nat) {k : Nat} (hk : k ≤ p.length) : movN p f k < 64 := movN_lt (n := 6) (fun x hx => by have := h x hx; omega) f k hk

set_option maxRecDepth 100000 in
set_option maxHeartbeats 2000000 in
theorem movedS_any (f : Nat) (a : Option Addr) (cap : Nat) (p : List Int) (w : World) (hx : SlI w w.heap.size a p) (hf : f < 64) (hp : ∀ x ∈ p, 0 ≤ x ∧ x < 6) (hl : p.length ≤ 6) :
    Calls Try.prog 172 #[.int .i64 (f : Int), .slice a p.length cap] w fun e w' => e = .returned (.int .i64 ((moved p f : Nat) : Int)) ∧ w = w' := by
  have Hx := hid hx
  have Hp := hid hp
  clear hx hp
  unfold moved
  go_enter Try.func172, Try.ntmps172
  go_wp2_with fail
  go_loopw [5, 6] (fun ov iv wx => ∃ k : Nat, k ≤ p.length ∧ ov = .int .i64 ((movN p f k : Nat) : Int) ∧ iv = .int .i64 k ∧ Hid (wx = w)) (fun _ iv _ => p.length - (intOf iv).toNat)
  case atStart => exact ⟨0, Nat.zero_le _, rfl, rfl, hid rfl⟩
  case round =>
    obtain ⟨k, hk, rfl, rfl, HW⟩ := hrel
    have hww : wr = w := HW.out
    clear HW
    subst hww
    by_cases hlt : k < p.length
    · obtain ⟨b, off, hb, rfl, hc⟩ : ∃ b off, b < wr.heap.size ∧ a = some ⟨b, off, none⟩ ∧ ∀ i, i < p.length → wr.cell? ⟨b, off + i, none⟩ = some (.int .i64 (p[i]?.getD 0)) := by
        rcases Hx.out with h | h
        · rw [h] at hlt; simp at hlt
        · exact h
      have hxr := Hp.out _ (getD_mem hlt)
      obtain ⟨x, hxe⟩ : ∃ x : Nat, (x : Int) = p[k]?.getD 0 := ⟨(p[k]?.getD 0).toNat, by omega⟩
      have hck := hc k hlt
      rw [← hxe] at hck hxr
      have hx6 : x < 6 := by omega
      obtain ⟨m, hm⟩ : ∃ m, m = movN p f k := ⟨_, rfl⟩
      have hm64 : m < 64 := by rw [hm]; exact movN_small Hp.out f hk
      have hor := or_bitsR ⟨m, hm64⟩ ⟨x, hx6⟩
      simp only at hor
      have hbit := bit_one (v := k) hf
      have hu1 : IntKind.u64.wrap (k : Int) = (k : Int) := u64_small (by omega)
      have hu2 : IntKind.u64.wrap (x : Int) = (x : Int) := u64_small (by omega)
      have hms : movN p f (k + 1) = if bitN f k then m ||| 2 ^ x else m := by
        rw [movN, ← hm, ← hxe, Int.toNat_natCast]
      rw [← hm]
      have hi0 : (0 : Int) ≤ (k : Int) := by omega
      have hi1 : (k : Int) < (p.length : Int) := by omega
      have Hms := hid hms
      clear hc hxe hm hms
      cases hb1 : bitN f k
      · rw [hb1] at hbit Hms
        simp only [Bool.false_eq_true, if_false] at hbit
        clear hb1 hor
        go_wp2_with fail
        go_roundw
        case rel => exact ⟨k + 1, by omega, by rw [Hms.out]; rfl, by go_num, trivial⟩
        case measure => simp [intOf]; omega
      · rw [hb1] at hbit Hms
        simp only [if_true] at hbit
        clear hb1
        go_wp2_with fail
        go_roundw
        case rel => exact ⟨k + 1, by omega, by rw [Hms.out]; rfl, by go_num, trivial⟩
        case measure => simp [intOf]; omega
    · obtain rfl : k = p.length := by omega
      go_wp2_with fail
      go_ret
      exact ⟨rfl, rfl⟩

set_option maxRecDepth 100000 in
set_option maxHeartbeats 2000000 in
theorem movedI_any (f : Nat) (a : Option Addr) (cap : Nat) (p : List Int) (w : World) (hx : SlI w w.heap.size a p) (hf : f < 64) (hp : ∀ x ∈ p, 0 ≤ x ∧ x < 6) (hl : p.length ≤ 6) :
    Calls Try.prog 104 #[.int .i64 (f : Int), .slice a p.length cap] w fun e w' => e = .returned (.int .i64 ((moved p f : Nat) : Int)) ∧ w = w' := by
  have Hx := hid hx
  have Hp := hid hp
  clear hx hp
  unfold moved
  go_enter Try.func104, Try.ntmps104
  go_wp2_with fail
  go_loopw [5, 10] (fun ov iv wx => ∃ k : Nat, k ≤ p.length ∧ ov = .int .i64 ((movN p f k : Nat) : Int) ∧ iv = .int .i64 k ∧ Hid (wx = w)) (fun _ iv _ => p.length - (intOf iv).toNat)
  case atStart => exact ⟨0, Nat.zero_le _, rfl, rfl, hid rfl⟩
  case round =>
    obtain ⟨k, hk, rfl, rfl, HW⟩ := hrel
    have hww : wr = w := HW.out
    clear HW
    subst hww
    by_cases hlt : k < p.length
    · obtain ⟨b, off, hb, rfl, hc⟩ : ∃ b off, b < wr.heap.size ∧ a = some ⟨b, off, none⟩ ∧ ∀ i, i < p.length → wr.cell? ⟨b, off + i, none⟩ = some (.int .i64 (p[i]?.getD 0)) := by
        rcases Hx.out with h | h
        · rw [h] at hlt; simp at hlt
        · exact h
      have hxr := Hp.out _ (getD_mem hlt)
      obtain ⟨x, hxe⟩ : ∃ x : Nat, (x : Int) = p[k]?.getD 0 := ⟨(p[k]?.getD 0).toNat, by omega⟩
      have hck := hc k hlt
      rw [← hxe] at hck hxr
      have hx6 : x < 6 := by omega
      obtain ⟨m, hm⟩ : ∃ m, m = movN p f k := ⟨_, rfl⟩
      have hm64 : m < 64 := by rw [hm]; exact movN_small Hp.out f hk
      have hor := or_bitsR ⟨m, hm64⟩ ⟨x, hx6⟩
      simp only at hor
      have hbit := bit_one (v := k) hf
      have hms : movN p f (k + 1) = if bitN f k then m ||| 2 ^ x else m := by
        rw [movN, ← hm, ← hxe, Int.toNat_natCast]
      rw [← hm]
      have hi0 : (0 : Int) ≤ (k : Int) := by omega
      have hi1 : (k : Int) < (p.length : Int) := by omega
      have hx0 : (0 : Int) ≤ (x : Int) := by omega
      have Hms := hid hms
      clear hc hxe hm hms
      cases hb1 : bitN f k
      · rw [hb1] at hbit Hms
        simp only [Bool.false_eq_true, if_false] at hbit
        clear hb1 hor
        go_wp2_with fail
        go_roundw
        case rel => exact ⟨k + 1, by omega, by rw [Hms.out]; rfl, by go_num, trivial⟩
        case measure => simp [intOf]; omega
      · rw [hb1] at hbit Hms
        simp only [if_true] at hbit
        clear hb1
        go_wp2_with fail
        go_roundw
        case rel => exact ⟨k + 1, by omega, by rw [Hms.out]; rfl, by go_num, trivial⟩
        case measure => simp [intOf]; omega
    · obtain rfl : k = p.length := by omega
      go_wp2_with fail
      go_ret
      exact ⟨rfl, rfl⟩

end Go.Proofs.Ytgcpakhagbbiiaa

/-! Is a list a renumbering? Both sides. -/
namespace Go.Proofs.Ytgcpakhagbbiiaa
open Go.RowKit

set_option maxRecDepth 100000 in
set_option maxHeartbeats 4000000 in
theorem renI_any (a : Option Addr) (cap : Nat) (p : List Int) (n : Int) (w : World) (hx : SlI w w.heap.size a p) (hl : p.length ≤ 1048576) (hn : 1 ≤ n ∧ n ≤ 6) :
    Calls Try.prog 103 #[.slice a p.length cap, .int .i64 n] w fun e w' => e = .returned (.bool (isRB p n)) ∧ Below w.heap.size w w' := by
  have Hx := hid hx
  have hmm := @run_makeMap Try.prog
  clear hx
  by_cases hlen : (p.length : Int) = n
  · have hd : ((p.length : Int) != n) = false := by simp [hlen]
    have H0 : Hid ((w.alloc (.map #[] 0)).ownsMap Try.prog 2 (plainElem (H := Unit) Try.prog 4) w.heap.size 0 (knownD (p.take 0))) := hid (World.ownsMap_made w Try.prog 2 _)
    have Hlen := hid hlen
    clear hlen
    go_enter Try.func103, Try.ntmps103
    go_wp2_with fail
    clear hmm
    go_loopw [15] (fun iv wx => ∃ k : Nat, k ≤ p.length ∧ iv = .int .i64 k ∧ Hid (OkR p n k) ∧ Hid (wx.ownsMap Try.prog 2 (plainElem (H := Unit) Try.prog 4) w.heap.size k (knownD (p.take k))) ∧ Hid (Below w.heap.size w wx)) (fun iv _ => p.length - (intOf iv).toNat)
    case atStart => exact ⟨0, Nat.zero_le _, rfl, hid (OkR.zero p n), H0, hid ((Below.refl _ w).alloc (Nat.le_refl _) _)⟩
    case round =>
      clear H0
      obtain ⟨k, hk, rfl, HK, HM, HB⟩ := hrel
      by_cases hlt : k < p.length
      · obtain ⟨b, off, hb, rfl, hc⟩ : ∃ b off, b < w.heap.size ∧ a = some ⟨b, off, none⟩ ∧ ∀ i, i < p.length → w.cell? ⟨b, off + i, none⟩ = some (.int .i64 (p[i]?.getD 0)) := by
          rcases Hx.out with h | h
          · rw [h] at hlt; simp at hlt
          · exact h
        obtain ⟨x, hxe⟩ : ∃ x, x = p[k]?.getD 0 := ⟨_, rfl⟩
        have hck : wr.cell? ⟨b, off + k, none⟩ = some (.int .i64 x) := by rw [hxe]; exact (HB.out.cell (p := ⟨b, off + k, none⟩) hb).trans (hc k hlt)
        have hi0 : (0 : Int) ≤ (k : Int) := by omega
        have hi1 : (k : Int) < (p.length : Int) := by omega
        have Hxe := hid hxe
        clear hc hxe
        by_cases h0 : x < 0
        · have He : Hid (isRB p n = false) := hid (not_rng hlt (by rw [← Hxe.out]; omega))
          clear hd
          go_wp2_with fail
          go_ret
          exact ⟨ret_bool He.out.symm, HB.out⟩
        · by_cases h1 : n ≤ x
          · have He : Hid (isRB p n = false) := hid (not_rng hlt (by rw [← Hxe.out]; omega))
            clear hd
            go_wp2_with fail
            go_ret
            exact ⟨ret_bool He.out.symm, HB.out⟩
          · have hwx : (Lit.int .i64 x).wf = true := WalkArith.wf_i64 (by omega)
            have hlk := lookup_known HM.out hwx
            by_cases hm : x ∈ p.take k
            · rw [decide_eq_true hm] at hlk
              have He : Hid (isRB p n = false) := hid (not_inj hlt (by rw [← Hxe.out]; exact hm))
              clear hm hd
              go_wp2_with fail
              go_ret
              exact ⟨ret_bool He.out.symm, HB.out⟩
            · rw [decide_eq_false hm] at hlk
              have HK' := hid (HK.out.succ (by rw [← Hxe.out]; omega) (by rw [← Hxe.out]; exact hm) hlt)
              obtain ⟨wa, hrun1, hwa, hga⟩ := World.ownsMap.update HM.out (Maps.int_keyed Try.underlying2) Try.underlying128 (show k < maxLen by unfold maxLen; omega) (Maps.keyOf_int_mk Try.underlying2 hwx) (plainElem_bool Try.underlying4 true)
              have htk : p.take (k + 1) = p.take k ++ [x] := by rw [take_snoc hlt, Hxe.out]
              rw [← knownD_snoc, ← htk] at hwa
              have Hwa := hid hwa
              have HBa := hid (HB.out.grown hga HB.out.size (fun r e => by cases e; exact Nat.le_refl _))
              clear hm hwa hga htk hd
              go_wp2_with fail
              go_roundw
              case rel => exact ⟨k + 1, by omega, by go_num, HK', Hwa, HBa⟩
              case measure => simp [intOf]; omega
      · obtain rfl : k = p.length := by omega
        have He : Hid (isRB p n = true) := hid (isRB_true (HK.out.all Hlen.out))
        clear hd
        go_wp2_with fail
        go_ret
        exact ⟨ret_bool He.out.symm, HB.out⟩
  · have hd : ((p.length : Int) != n) = true := by simpa using hlen
    have He : Hid (isRB p n = false) := hid (not_len hlen)
    clear hlen
    go_enter Try.func103, Try.ntmps103
    go_wp2_with fail
    go_ret
    exact ⟨ret_bool He.out.symm, Below.refl _ _⟩

theorem info_boolO : (Try.prog.info? 4).map (fun i => (i.zero, i.size, i.bytes)) = some (some (.bool false), 1, 1) := by kernel_rfl
/-- 'make([]bool, n)'. -/
theorem make_boolO {w : World} {ops : Array Oper} {rest : List Oper} {o : Oper} {a : Act} {Q : Exit → Act → World → Prop} (hgd : o.guard = none) {l c : Operand} (hop : o.op = Op.makeSlice 125 l c)
    {n : Nat} (hl : a.eval l = .int .i64 (n : Int)) (hc : a.eval c = .int .i64 (n : Int)) (hn : n ≤ 1048576)
    (hK : ∀ w', w'.ownsRow w.heap.size 4 1 (.slice (some ⟨w.heap.size, 0, none⟩) n n) n (List.replicate n (Value.bool false)) → w.grownBy w' none → Below w.heap.size w w' →
      wpList Try.prog ops Q rest (a.put o.dst (.slice (some ⟨w.heap.size, 0, none⟩) n n)) w') :
    wpList Try.prog ops Q (o :: rest) a w := by
  obtain ⟨i0, hi, hz0, hz1, hz2⟩ := info_parts info_boolO
  refine wpList_make_full w hgd l c 125 hop w.heap.size 4 i0 (.bool false) 1 Try.underlying125 hi hz0 hz1 .i64 .i64 _ _ n hl hc rfl rfl (by rw [hz2]; omega) (by unfold maxLen; omega) (Nat.le_refl _) ?_
  intro w' hown hg
  have e : (madeCells (Value.bool false).cells (n * 1)).toList = List.replicate n (Value.bool false) := by
    rw [Nat.mul_one]
    exact toList_madeCells_one _ _
  rw [e] at hown
  exact hK w' hown hg ((Below.refl _ w).grown hg (Nat.le_refl _) (fun k hk => by cases hk))
def metV (p : List Int) (n k : Nat) : List Value := (List.range n).map fun (j : Nat) => Value.bool (decide ((j : Int) ∈ p.take k))
theorem metV_zero (p : List Int) (n : Nat) : metV p n 0 = List.replicate n (Value.bool false) := by
  unfold metV
  simp
  exact (List.map_const' ..).trans (by simp)
theorem metV_len (p : List Int) (n k : Nat) : (metV p n k).length = n := by simp [metV]
theorem metV_at (p : List Int) {n : Nat} (k : Nat) {x : Nat} (hx : x < n) : (metV p n k)[x]? = some (.bool (decide ((x : Int) ∈ p.take k))) := by simp [metV, hx]
theorem metV_succ {p : List Int} {n k x : Nat} (hk : k < p.length) (hx : (x : Int) = p[k]?.getD 0) : (metV p n k).set x (.bool true) = metV p n (k + 1) := by
  apply List.ext_getElem (by simp [metV])
  intro i h1 h2
  have hi : i < n := by simpa [metV] using h2
  rw [List.getElem_set]
  simp only [metV, List.getElem_map, List.getElem_range]
  rw [take_snoc hk, ← hx]
  by_cases e : x = i
  · subst e
    rw [if_pos rfl]
    simp
  · rw [if_neg e]
    have : ¬ (i : Int) = (x : Int) := by omega
    simp [this]

set_option maxRecDepth 100000 in
set_option maxHeartbeats 4000000 in
theorem renS_any (a : Option Addr) (cap : Nat) (p : List Int) (n : Nat) (w : World) (hx : SlI w w.heap.size a p) (hl : p.length ≤ 1048576) (hn : 1 ≤ n ∧ n ≤ 6) :
    Calls Try.prog 101 #[.slice a p.length cap, .int .i64 (n : Int)] w fun e w' => e = .returned (.bool (isRB p (n : Int))) ∧ Below w.heap.size w w' := by
  have Hx := hid hx
  have hsub : wrap64 ((n : Int) - 1) = (n : Int) - 1 := IntWalk.wrap64_in _ ⟨by omega, by omega⟩
  have HY := hid (fun x W (h : 0 ≤ x ∧ x ≤ (n : Int) - 1) => in_yes x 0 ((n : Int) - 1) W h.1 h.2)
  have HN := hid (fun x W (h : ¬ (0 ≤ x ∧ x ≤ (n : Int) - 1)) => in_no x 0 ((n : Int) - 1) W h)
  clear hx
  go_enter Try.func101, Try.ntmps101
  go_wp2_with (refine make_boolO rfl rfl rfl rfl (by omega) ?_; intro w1 hown1 hg1 hB1)
  rw [← metV_zero p n] at hown1
  have H1 := hid hown1
  have HB1 := hid hB1
  clear hown1 hg1 hB1
  go_wp2_with fail
  go_loopw [6] (fun iv wx => ∃ k : Nat, k ≤ p.length ∧ iv = .int .i64 k ∧ Hid (OkR p (n : Int) k) ∧ Hid (wx.ownsRow w.heap.size 4 1 (.slice (some ⟨w.heap.size, 0, none⟩) n n) n (metV p n k)) ∧ Hid (Below w.heap.size w wx)) (fun iv _ => p.length - (intOf iv).toNat)
  case atStart => exact ⟨0, Nat.zero_le _, rfl, hid (OkR.zero p n), H1, HB1⟩
  case round =>
    clear H1 HB1
    obtain ⟨k, hk, rfl, HK, HO, HB⟩ := hrel
    by_cases hlt : k < p.length
    · obtain ⟨b, off, hb, rfl, hc⟩ : ∃ b off, b < w.heap.size ∧ a = some ⟨b, off, none⟩ ∧ ∀ i, i < p.length → w.cell? ⟨b, off + i, none⟩ = some (.int .i64 (p[i]?.getD 0)) := by
        rcases Hx.out with h | h
        · rw [h] at hlt; simp at hlt
        · exact h
      obtain ⟨x, hxe⟩ : ∃ x, x = p[k]?.getD 0 := ⟨_, rfl⟩
      have hck : wr.cell? ⟨b, off + k, none⟩ = some (.int .i64 x) := by rw [hxe]; exact (HB.out.cell (p := ⟨b, off + k, none⟩) hb).trans (hc k hlt)
      have hi0 : (0 : Int) ≤ (k : Int) := by omega
      have hi1 : (k : Int) < (p.length : Int) := by omega
      have Hxe := hid hxe
      clear hc hxe
      by_cases h0 : 0 ≤ x ∧ x ≤ (n : Int) - 1
      · obtain ⟨y, rfl⟩ : ∃ y : Nat, x = (y : Int) := ⟨x.toNat, by omega⟩
        have HC := hid (HY.out (y : Int) wr h0)
        have hy : y < n := by omega
        have hcm : wr.cell? ⟨w.heap.size, y, none⟩ = some (.bool (decide ((y : Int) ∈ p.take k))) := by
          rw [HO.out.cellAt y (by omega), metV_at p k hy]
        have hfr := HO.out.frozenAt y
        have hj0 : (0 : Int) ≤ (y : Int) := by omega
        have hj1 : (y : Int) < (n : Int) := by omega
        by_cases hm : (y : Int) ∈ p.take k
        · rw [decide_eq_true hm] at hcm
          have He : Hid (isRB p (n : Int) = false) := hid (not_inj hlt (by rw [← Hxe.out]; exact hm))
          clear hm h0
          go_wp2_with fail
          refine HC.out.mono ?_
          rintro e w2 ⟨rfl, rfl⟩
          go_wp2_with fail
          go_ret
          exact ⟨ret_bool He.out.symm, HB.out⟩
        · rw [decide_eq_false hm] at hcm
          have HK' := hid (HK.out.succ (by rw [← Hxe.out]; omega) (by rw [← Hxe.out]; exact hm) hlt)
          have hst := HO.out.stored y (.bool true)
          rw [metV_succ hlt Hxe.out] at hst
          have Hst := hid hst.1
          have HBa := hid (HB.out.grown hst.2 HB.out.size (fun r e => by cases e; exact Nat.le_refl _))
          clear hm h0 hst
          go_wp2_with fail
          refine HC.out.mono ?_
          rintro e w2 ⟨rfl, rfl⟩
          go_wp2_with fail
          go_roundw
          case rel => exact ⟨k + 1, by omega, by go_num, HK', Hst, HBa⟩
          case measure => simp [intOf]; omega
      · have He : Hid (isRB p (n : Int) = false) := hid (not_rng hlt (by rw [← Hxe.out]; omega))
        have HC := hid (HN.out x wr h0)
        clear h0
        go_wp2_with fail
        refine HC.out.mono ?_
        rintro e w2 ⟨rfl, rfl⟩
        go_wp2_with fail
        go_ret
        exact ⟨ret_bool He.out.symm, HB.out⟩
    · obtain rfl : k = p.length := by omega
      have He : Hid (isRB p (n : Int) = ((p.length : Int) == (n : Int))) := hid (by
        by_cases h : (p.length : Int) = (n : Int)
        · rw [isRB_true (HK.out.all h)]
          simp [h]
        · rw [not_len h]
          symm
          simpa using h)
      go_wp2_with fail
      go_ret
      exact ⟨ret_bool He.out.symm, HB.out⟩

end Go.Proofs.Ytgcpakhagbbiiaa

/-! The library's sort, slices.Sorted and maps.Keys at int64: that this program holds their very bodies. -/
namespace Go.Proofs.Ytgcpakhagbbiiaa
open Go.Shelf

def sortL_ren : Go.Shelf.Ren := ⟨fun | 5 => 105 | 8 => 175 | 7 => 174 | 19 => 225 | 20 => 226 | 10 => 216 | 11 => 217 | 12 => 218 | 13 => 219 | 14 => 220 | 15 => 221 | 16 => 222 | 17 => 223 | 18 => 224 | 30 => 243 | 31 => 244 | 32 => 245 | 33 => 246 | 34 => 247 | 35 => 229 | 40 => 254 | n => n, fun | 23 => 22 | 25 => 2 | 3 => 3 | 32 => 165 | 22 => 22 | 0 => 0 | 44 => 206 | 46 => 80 | 4 => 4 | 36 => 198 | 35 => 197 | 41 => 203 | 5 => 5 | 9 => 9 | 53 => 219 | 57 => 223 | 63 => 231 | 64 => 232 | n => n, fun | n => n⟩
theorem sortL : Go.Proofs.SlLaysM.n5 Try.prog sortL_ren := {
  mixed := by kernel_rfl,
  f5 := ⟨Try.f105.name, by decide, Try.func105.trans (congrArg some (by kernel_rfl))⟩,
  f7 := ⟨Try.f174.name, by decide, Try.func174.trans (congrArg some (by kernel_rfl))⟩,
  f8 := Try.func175.trans (congrArg some (by kernel_rfl)),
  f10 := ⟨Try.f216.name, by decide, Try.func216.trans (congrArg some (by kernel_rfl))⟩,
  f11 := ⟨Try.f217.name, by decide, Try.func217.trans (congrArg some (by kernel_rfl))⟩,
  f12 := ⟨Try.f218.name, by decide, Try.func218.trans (congrArg some (by kernel_rfl))⟩,
  f13 := ⟨Try.f219.name, by decide, Try.func219.trans (congrArg some (by kernel_rfl))⟩,
  f14 := ⟨Try.f220.name, by decide, Try.func220.trans (congrArg some (by kernel_rfl))⟩,
  f15 := ⟨Try.f221.name, by decide, Try.func221.trans (congrArg some (by kernel_rfl))⟩,
  f16 := ⟨Try.f222.name, by decide, Try.func222.trans (congrArg some (by kernel_rfl))⟩,
  f17 := ⟨Try.f223.name, by decide, Try.func223.trans (congrArg some (by kernel_rfl))⟩,
  f18 := ⟨Try.f224.name, by decide, Try.func224.trans (congrArg some (by kernel_rfl))⟩,
  f19 := Try.func225.trans (congrArg some (by kernel_rfl)),
  f20 := Try.func226.trans (congrArg some (by kernel_rfl)),
  f30 := ⟨Try.f243.name, by decide, Try.func243.trans (congrArg some (by kernel_rfl))⟩,
  f31 := Try.func244.trans (congrArg some (by kernel_rfl)),
  f32 := Try.func245.trans (congrArg some (by kernel_rfl)),
  f33 := ⟨Try.f246.name, by decide, Try.func246.trans (congrArg some (by kernel_rfl))⟩,
  f34 := ⟨Try.f247.name, by decide, Try.func247.trans (congrArg some (by kernel_rfl))⟩,
  f35 := ⟨Try.f229.name, by decide, Try.func229.trans (congrArg some (by kernel_rfl))⟩,
  f40 := ⟨Try.f254.name, by decide, Try.func254.trans (congrArg some (by kernel_rfl))⟩,
  t0 := Try.underlying0,
  a0 := Try.isAgg0,
  z0 := Try.sizeOf0,
  v0 := Try.zeroValue0,
  t3 := Try.underlying3,
  a3 := Try.isAgg3,
  z3 := Try.sizeOf3,
  v3 := Try.zeroValue3,
  t4 := Try.underlying4,
  a4 := Try.isAgg4,
  z4 := Try.sizeOf4,
  v4 := Try.zeroValue4,
  t5 := Try.underlying5,
  a5 := Try.isAgg5,
  z5 := Try.sizeOf5,
  v5 := Try.zeroValue5,
  t9 := Try.underlying9,
  a9 := Try.isAgg9,
  z9 := Try.sizeOf9,
  v9 := Try.zeroValue9,
  t22 := Try.underlying22,
  a22 := Try.isAgg22,
  z22 := Try.sizeOf22,
  v22 := Try.zeroValue22,
  t23 := Try.underlying22,
  a23 := Try.isAgg22,
  z23 := Try.sizeOf22,
  v23 := Try.zeroValue22,
  t25 := Try.underlying2,
  a25 := Try.isAgg2,
  z25 := Try.sizeOf2,
  v25 := Try.zeroValue2,
  t32 := Try.underlying165,
  a32 := Try.isAgg165,
  z32 := Try.sizeOf165,
  v32 := Try.zeroValue165,
  t35 := Try.underlying197,
  a35 := Try.isAgg197,
  z35 := Try.sizeOf197,
  v35 := Try.zeroValue197,
  t36 := Try.underlying198,
  a36 := Try.isAgg198,
  z36 := Try.sizeOf198,
  v36 := Try.zeroValue198,
  t41 := Try.underlying203,
  a41 := Try.isAgg203,
  z41 := Try.sizeOf203,
  v41 := Try.zeroValue203,
  t44 := Try.underlying206,
  a44 := Try.isAgg206,
  z44 := Try.sizeOf206,
  v44 := Try.zeroValue206,
  t46 := Try.underlying80,
  a46 := Try.isAgg80,
  z46 := Try.sizeOf80,
  v46 := Try.zeroValue80,
  t53 := Try.underlying219,
  a53 := Try.isAgg219,
  z53 := Try.sizeOf219,
  v53 := Try.zeroValue219,
  t57 := Try.underlying223,
  a57 := Try.isAgg223,
  z57 := Try.sizeOf223,
  v57 := Try.zeroValue223,
  t63 := Try.underlying231,
  a63 := Try.isAgg231,
  z63 := Try.sizeOf231,
  v63 := Try.zeroValue231,
  t64 := Try.underlying232,
  a64 := Try.isAgg232,
  z64 := Try.sizeOf232,
  v64 := Try.zeroValue232 }

def sortedL_ren : Go.Shelf.Ren := ⟨fun | 6 => 146 | 8 => 207 | 9 => 105 | 11 => 241 | 13 => 175 | 12 => 174 | 23 => 225 | 24 => 226 | 14 => 216 | 15 => 217 | 16 => 218 | 17 => 219 | 18 => 220 | 19 => 221 | 20 => 222 | 21 => 223 | 22 => 224 | 25 => 243 | 26 => 244 | 27 => 245 | 28 => 246 | 29 => 247 | 30 => 229 | 31 => 254 | n => n, fun | 26 => 2 | 28 => 134 | 24 => 22 | 0 => 0 | 3 => 3 | 37 => 165 | 48 => 206 | 50 => 80 | 4 => 4 | 40 => 198 | 39 => 197 | 45 => 203 | 5 => 5 | 9 => 9 | 51 => 219 | 55 => 223 | 57 => 231 | 58 => 232 | 33 => 83 | n => n, fun | n => n⟩
theorem sortedL : Go.Proofs.SlLaysZI.n6 Try.prog sortedL_ren := {
  mixed := by kernel_rfl,
  f6 := ⟨Try.f146.name, by decide, Try.func146.trans (congrArg some (by kernel_rfl))⟩,
  f8 := ⟨Try.f207.name, by decide, Try.func207.trans (congrArg some (by kernel_rfl))⟩,
  f11 := ⟨Try.f241.name, by decide, Try.func241.trans (congrArg some (by kernel_rfl))⟩,
  t0 := Try.underlying0,
  a0 := Try.isAgg0,
  z0 := Try.sizeOf0,
  v0 := Try.zeroValue0,
  t24 := Try.underlying22,
  a24 := Try.isAgg22,
  z24 := Try.sizeOf22,
  v24 := Try.zeroValue22,
  t26 := Try.underlying2,
  a26 := Try.isAgg2,
  z26 := Try.sizeOf2,
  v26 := Try.zeroValue2,
  t28 := Try.underlying134,
  a28 := Try.isAgg134,
  z28 := Try.sizeOf134,
  v28 := Try.zeroValue134,
  i26 := by kernel_rfl }

def keysL_ren : Go.Shelf.Ren := ⟨fun | 7 => 177 | 10 => 227 | n => n, fun | 23 => 128 | 26 => 2 | 3 => 4 | 28 => 134 | 0 => 0 | 27 => 133 | 33 => 83 | 4 => 4 | n => n, fun | n => n⟩
theorem keysL : Go.Proofs.SlLaysZI.n7 Try.prog keysL_ren := {
  mixed := by kernel_rfl,
  f7 := ⟨Try.f177.name, by decide, Try.func177.trans (congrArg some (by kernel_rfl))⟩,
  f10 := ⟨Try.f227.name, by decide, Try.func227.trans (congrArg some (by kernel_rfl))⟩,
  t0 := Try.underlying0,
  a0 := Try.isAgg0,
  z0 := Try.sizeOf0,
  v0 := Try.zeroValue0,
  t4 := Try.underlying4,
  a4 := Try.isAgg4,
  z4 := Try.sizeOf4,
  v4 := Try.zeroValue4,
  t23 := Try.underlying128,
  a23 := Try.isAgg128,
  z23 := Try.sizeOf128,
  v23 := Try.zeroValue128,
  t26 := Try.underlying2,
  a26 := Try.isAgg2,
  z26 := Try.sizeOf2,
  v26 := Try.zeroValue2,
  t27 := Try.underlying133,
  a27 := Try.isAgg133,
  z27 := Try.sizeOf133,
  v27 := Try.zeroValue133,
  t28 := Try.underlying134,
  a28 := Try.isAgg134,
  z28 := Try.sizeOf134,
  v28 := Try.zeroValue134,
  t33 := Try.underlying83,
  a33 := Try.isAgg83,
  z33 := Try.sizeOf83,
  v33 := Try.zeroValue83 }

end Go.Proofs.Ytgcpakhagbbiiaa

/-! The library's sort at int64, and slices.Sorted(maps.Keys(m)) of a set. -/
namespace Go.Proofs.Ytgcpakhagbbiiaa
open Go.RowKit Go.Maps Go.Sort Go.Shelf

/-- slices.Sort's two contracts, as slices.Sorted asks them. -/
theorem sortsL (m : Nat) : AnyZI.SortsIn Try.prog sortedL_ren Fence.wide m :=
  ⟨fun blk off cap ss W hH hblk hsz => callsIn_wide.2 (AnyM.slices_Sort_int sortL blk off cap ss W hH hblk hsz),
   fun p cap W => callsIn_wide.2 (AnyM.slices_Sort_int_none sortL p cap W)⟩

theorem has_knownFrom (x : Int) : ∀ (pre : List Int) (D : DataW Unit), Maps.IsMap D → (has (knownFrom D pre) (.int .i64 x) = true ↔ x ∈ pre ∨ has D (.int .i64 x) = true)
  | [], D, _ => by simp [knownFrom]
  | y :: pre, D, hD => by
    have ih := has_knownFrom x pre (D.put (.int .i64 y) (.lit (.bool true))) (hD.put _ _)
    have e : knownFrom D (y :: pre) = knownFrom (D.put (.int .i64 y) (.lit (.bool true))) pre := rfl
    rw [e, ih]
    by_cases hx : x = y
    · subst hx
      rw [has_put_same hD (show WideAt.IsKeyLit (.int .i64 x) from trivial)]
      simp
    · rw [has_put_other (by simpa using hx)]
      simp [hx]

theorem has_knownD (x : Int) (pre : List Int) : has (knownD pre) (.int .i64 x) = true ↔ x ∈ pre := by
  unfold knownD
  rw [has_knownFrom x pre _ Maps.isMap_empty]
  simp [has]

/-- A set's numbers, ascending. -/
def ascOf (L : List Int) : List Int := pickTo (fun x => decide (x ∈ L)) 63

theorem mem_ascOf {L : List Int} (hL : ∀ x ∈ L, 1 ≤ x ∧ x ≤ 63) {x : Int} : x ∈ ascOf L ↔ x ∈ L := by
  unfold ascOf
  rw [mem_pickTo]
  constructor
  · intro h; simpa using h.2.2
  · intro h; exact ⟨(hL x h).1, (hL x h).2, by simpa using h⟩

theorem sorted_known {w : World} {b n : Nat} {L : List Int} (hown : w.ownsMap Try.prog 2 (plainElem (H := Unit) Try.prog 4) b n (knownD L)) (hL : ∀ x ∈ L, 1 ≤ x ∧ x ≤ 63) {ss : List Int} (hp : ss.Perm (intKeys (knownD L))) :
    ss.mergeSort (fun x y => decide (x ≤ y)) = ascOf L := by
  obtain ⟨es, hD, hpw, _⟩ := hown.entries (Maps.int_keyed Try.underlying2)
  obtain ⟨es', hD', hko⟩ := hown.keysOf
  obtain rfl : es = es' := by rw [hD] at hD'; simpa using hD'
  have hasc := pickTo_asc (fun x => decide (x ∈ L)) 63
  have h1 : (ascOf L).Perm (intKeys (knownD L)) := by
    rw [hD]
    refine perm_intKeys hpw (fun p hp => by obtain ⟨v, hv⟩ := hko p hp; obtain ⟨x, _, hx, _⟩ := Maps.keyOf_i64 Try.underlying2 hv; exact ⟨x, hx⟩) (hasc.imp fun h e => by omega) (fun x => ?_)
    rw [← hD, has_knownD, mem_ascOf hL]
  have h2 := mergeSort_of_perm_i (hp.trans h1.symm)
  refine h2.trans (List.mergeSort_of_pairwise ?_)
  exact hasc.imp fun h => by simp only [leI, decide_eq_true_eq]; omega

end Go.Proofs.Ytgcpakhagbbiiaa

/-! FacetsOf, the model's. -/
namespace Go.Proofs.Ytgcpakhagbbiiaa
open Go.RowKit

/-- The faces with one vertex more than a face that have all of it. -/
def aboveL (fs : List Int) (f : Nat) : List Int := fs.filter fun x => decide (x.toNat &&& f = f ∧ ones x.toNat = ones f + 1)
/-- The facets. -/
def facetsL (fs : List Int) : List Int := fs.filter fun x => decide ((aboveL fs x.toNat).length = 0)

theorem pair_mono' {P : Program} {f : FuncId} {args : Array Value} {w : World} {r : List Int × Int} {xs : List Int} {c : Int} (hr : r = (xs, c))
    (h : Calls P f args w fun e w' => ∃ v, e = .returned (.tuple #[v, .int .i64 c]) ∧ Res w w' v xs) : Calls P f args w fun e w' => ∃ v, e = .returned (.tuple #[v, .int .i64 r.2]) ∧ Res w w' v r.1 := by
  subst hr; exact h

set_option maxHeartbeats 2000000 in
theorem above_any (V : Int) (a : Option Addr) (cap : Nat) (fs : List Int) (f : Nat) (w : World) (hx : SlI w w.heap.size a fs) (hl : fs.length ≤ 1048576) (hf : ∀ x ∈ fs, 1 ≤ x ∧ x ≤ 63) (hf64 : f < 64) :
    Calls Try.prog 204 #[.agg #[.int .i64 V, .slice a fs.length cap], .int .i64 (f : Int)] w fun e w' => ∃ v, e = .returned v ∧ Res w w' v (aboveL fs f) := by
  have hB0 : Below w.heap.size w (w.alloc (.cells #[.int .i64 V, .slice a fs.length cap] 30)) := (Below.refl _ w).alloc (Nat.le_refl _) _
  have hB00 := (hB0.alloc (by simp) (.cells #[] 2))
  have hown0 := World.ownsRow_made (base := w.heap.size + 1) (e := 2) (size := 1) (w.alloc (.cells #[.int .i64 V, .slice a fs.length cap] 30)) #[] 0 (by simp) (by simp [maxLen]) rfl
  rw [World.size_alloc] at hown0
  rcases hx with rfl | ⟨b, off, hb, rfl, hc⟩
  · have Hown0 := hid hown0
    clear hown0
    go_enter Try.func204, Try.ntmps204
    go_wp2
    refine wp_loop_rounds 1 ?_; rw [rounds_succ]
    go_wp2
    go_ret
    exact ⟨_, rfl, ownsRow_base (by simpa [aboveL] using Hown0.out) (Nat.le_succ _), hB00⟩
  · have Hc := hid hc
    have Hf := hid hf
    have Hown0 := hid hown0
    clear hc hf hown0
    go_enter Try.func204, Try.ntmps204
    go_wp2
    go_loopw [5, 6] (fun v i wr => ∃ k : Nat, k ≤ fs.length ∧ i = .int .i64 k ∧ wr.ownsRow (w.heap.size + 1) 2 1 v (aboveL (fs.take k) f).length ((aboveL (fs.take k) f).map (Value.int .i64)) ∧
        Below (w.heap.size + 1) (w.alloc (.cells #[.int .i64 V, .slice (some ⟨b, off, none⟩) fs.length cap] 30)) wr) (fun _ i _ => fs.length - (intOf i).toNat)
    case atStart => exact ⟨0, Nat.zero_le _, rfl, Hown0.out, (Below.refl _ _).alloc (by simp) _⟩
    case round =>
      obtain ⟨k, hk, rfl, hown, hB⟩ := hrel
      have c0 : wr.cell? ⟨w.heap.size, 0, none⟩ = some (.int .i64 V) := (hB.cell (p := ⟨w.heap.size, 0, none⟩) (by simp)).trans (by simp [go_sem])
      have c1 : wr.cell? ⟨w.heap.size, 1, none⟩ = some (.slice (some ⟨b, off, none⟩) fs.length cap) := (hB.cell (p := ⟨w.heap.size, 1, none⟩) (by simp)).trans (by simp [go_sem])
      have hBW := hB0.trans (hB.mono (by simp))
      have hsz := hB.size
      simp only [World.size_alloc] at hsz
      by_cases hlt : k < fs.length
      · obtain ⟨x, hx⟩ : ∃ x : Nat, (x : Int) = fs[k]?.getD 0 := ⟨(fs[k]?.getD 0).toNat, by have := Hf.out _ (getD_mem hlt); omega⟩
        have hx64 : x < 64 := by have := Hf.out _ (getD_mem hlt); omega
        have hck : wr.cell? ⟨b, off + k, none⟩ = some (.int .i64 (x : Int)) := by rw [hx]; exact (hBW.cell (p := ⟨b, off + k, none⟩) hb).trans (Hc.out k hlt)
        have hi0 : (0 : Int) ≤ (k : Int) := by omega
        have hi1 : (k : Int) < (fs.length : Int) := by omega
        have hfl : (aboveL (fs.take k) f).length ≤ 1048576 := Nat.le_trans (List.length_filter_le _ _) (by simp; omega)
        have Hp : Hid (∀ c, decide (x &&& f = f ∧ ones x = ones f + 1) = c → aboveL (fs.take (k + 1)) f = aboveL (fs.take k) f ++ (if c then [(x : Int)] else [])) := hid (fun c hc => by
          unfold aboveL
          rw [take_snoc hlt, List.filter_append, ← hx]
          cases c <;> simpa using hc)
        have hbits : bits BinOp.and IntKind.i64 (x : Int) (f : Int) = ((x &&& f : Nat) : Int) := (bits_nat .i64 6 (by decide) (fun n h0 h1 => by rw [IntKind.wrap_i64]; omega) x f (by omega) (by omega)).1
        clear hx hB0 hB00
        have ho := ones_le x
        have ho' := ones_le f
        by_cases hpx : x &&& f = f
        · have hd : (((x &&& f : Nat) : Int) == (f : Int)) = true := by simp; omega
          by_cases hox : ones x = ones f + 1
          · have hd2 : ((ones x : Int) == (ones f : Int) + 1) = true := by simp; omega
            have HP := hid (Hp.out true (decide_eq_true ⟨hpx, hox⟩))
            clear hpx hox Hp
            go_wp2_with (first
              | (go_at_call 165; refine (ones_any _ _ (by assumption)).mono ?_; rintro e w' ⟨rfl, rfl⟩)
              | (at_builtin; refine append_int rfl rfl hown hsz (by omega) rfl rfl ?_; intro v' w2 hown2 hgrow2 hB2))
            go_roundw
            case rel => exact ⟨k + 1, by omega, by go_num, by rw [HP.out]; exact hown2, hB.trans hB2⟩
            case measure => simp [intOf]; omega
          · have hd2 : ((ones x : Int) == (ones f : Int) + 1) = false := by simp; omega
            have HP := hid (Hp.out false (decide_eq_false (fun h => hox h.2)))
            clear hpx hox Hp
            go_wp2_with (first
              | (go_at_call 165; refine (ones_any _ _ (by assumption)).mono ?_; rintro e w' ⟨rfl, rfl⟩))
            go_roundw
            case rel => exact ⟨k + 1, by omega, by go_num, by rw [HP.out]; simpa using hown, hB⟩
            case measure => simp [intOf]; omega
        · have hd : (((x &&& f : Nat) : Int) == (f : Int)) = false := by simp; omega
          have HP := hid (Hp.out false (decide_eq_false (fun h => hpx h.1)))
          clear hpx Hp
          go_wp2_with fail
          go_roundw
          case rel => exact ⟨k + 1, by omega, by go_num, by rw [HP.out]; simpa using hown, hB⟩
          case measure => simp [intOf]; omega
      · go_wp2
        go_ret
        obtain rfl : k = fs.length := by omega
        rw [List.take_of_length_le (Nat.le_refl _)] at hown
        exact ⟨_, rfl, ownsRow_base hown (by omega), hBW⟩

/-- What FacetsOf hands back. -/
noncomputable def facetsOfR (V : Int) (fs : List Int) : List Int × Int := if isCB V fs then (facetsL fs, 0) else ([], 1)

theorem facetsOfR_len (V : Int) (fs : List Int) (h : fs.length ≤ 1048576) : (facetsOfR V fs).1.length ≤ 1048576 := by
  unfold facetsOfR
  split
  · exact Nat.le_trans (List.length_filter_le _ _) h
  · simp

end Go.Proofs.Ytgcpakhagbbiiaa

/-! A face that is in another one is in one with a vertex more. -/
namespace Go.Proofs.Ytgcpakhagbbiiaa

theorem above_step : ∀ x f : Fin 64, x.val ≠ 0 → x.val &&& f.val = x.val → x.val ≠ f.val → ∃ y : Fin 64, y.val ≠ 0 ∧ y.val &&& f.val = y.val ∧ y.val &&& x.val = x.val ∧ ones y.val = ones x.val + 1 := by decide +kernel

end Go.Proofs.Ytgcpakhagbbiiaa

/-! FacetsOf, the program's. -/
namespace Go.Proofs.Ytgcpakhagbbiiaa
open Go.RowKit Go.Shelf

attribute [local go_sem] Oper.semAt_some

/-- The parts of one face that are not itself, as they are met. -/
def innerOf (f : Nat) (pre : List (Fin 64)) : List Int := (pre.filter fun p => decide (p.val ≠ f)).map fun p => ((p.val : Nat) : Int)
/-- All parts of faces that are not the faces themselves. -/
def innerL (fs : List Int) : List Int := fs.flatMap fun x => innerOf x.toNat (subsF x.toNat)

theorem innerOf_len (f : Nat) (pre : List (Fin 64)) : (innerOf f pre).length ≤ pre.length := by
  unfold innerOf; rw [List.length_map]; exact List.length_filter_le _ _

theorem innerOf_snoc (f : Nat) (pre : List (Fin 64)) (p : Fin 64) (c : Bool) (h : decide (p.val ≠ f) = c) : innerOf f (pre ++ [p]) = innerOf f pre ++ (if c then [((p.val : Nat) : Int)] else []) := by
  unfold innerOf
  rw [List.filter_append, List.map_append]
  cases c <;> simp only [List.filter_cons, h, List.filter_nil] <;> simp

theorem subsF_len (f : Nat) (hf : f < 64) : (subsF f).length ≤ 63 := by
  have h := subs_len' ⟨f, hf⟩
  have e := congrArg List.length (subsF_map hf)
  rw [List.length_map] at e
  simp only at h
  omega

theorem innerL_len : ∀ (fs : List Int), (∀ x ∈ fs, 1 ≤ x ∧ x ≤ 63) → (innerL fs).length ≤ 63 * fs.length
  | [], _ => by simp [innerL]
  | x :: fs, h => by
    have h1 := innerL_len fs (fun y hy => h y (by simp [hy]))
    have h2 := innerOf_len x.toNat (subsF x.toNat)
    have h3 := subsF_len x.toNat (by have := h x (by simp); omega)
    unfold innerL at h1 ⊢
    rw [List.flatMap_cons, List.length_append, List.length_cons]
    omega

theorem innerL_snoc (fs : List Int) (x : Int) : innerL (fs ++ [x]) = innerL fs ++ innerOf x.toNat (subsF x.toNat) := by simp [innerL]

theorem mem_innerL {fs : List Int} (hr : ∀ x ∈ fs, 1 ≤ x ∧ x ≤ 63) {x : Int} : x ∈ innerL fs ↔ ∃ y ∈ fs, ∃ p : Nat, x = p ∧ p ≠ 0 ∧ p &&& y.toNat = p ∧ p ≠ y.toNat := by
  unfold innerL innerOf
  simp only [List.mem_flatMap, List.mem_map, List.mem_filter]
  constructor
  · rintro ⟨y, hy, p, ⟨hp, hne⟩, rfl⟩
    have := hr y hy
    have hm := (mem_subsF (show y.toNat < 64 by omega)).1 hp
    exact ⟨y, hy, p.val, rfl, hm.1, hm.2, by simpa using hne⟩
  · rintro ⟨y, hy, p, rfl, h0, h1, h2⟩
    have := hr y hy
    have hle := and_le_left' _ _ h1
    exact ⟨y, hy, ⟨p, by omega⟩, ⟨(mem_subsF (show y.toNat < 64 by omega)).2 ⟨h0, h1⟩, by simpa using h2⟩, rfl⟩

/-- The facets are the faces that are no such parts. -/
theorem facets_inner {V : Int} {fs : List Int} (h : IsC V fs) : facetsL fs = fs.filter fun x => !decide (x ∈ innerL fs) := by
  unfold facetsL
  refine List.filter_congr (fun x hx => ?_)
  have hxr := h.range63 x hx
  rw [← decide_not]
  refine decide_eq_decide.2 ?_
  rw [List.length_eq_zero_iff]
  unfold aboveL
  rw [List.filter_eq_nil_iff, mem_innerL h.range63]
  constructor
  · rintro ha ⟨y, hy, p, rfl, h0, h1, h2⟩
    have hyr := h.range63 y hy
    rw [Int.toNat_natCast] at ha
    obtain ⟨z, z0, z1, z2, z3⟩ := above_step ⟨p, by omega⟩ ⟨y.toNat, by omega⟩ h0 h1 h2
    have hz := h.closed y hy z.val z0 z1
    refine ha _ hz ?_
    rw [Int.toNat_natCast]
    exact decide_eq_true ⟨z2, z3⟩
  · intro hn y hy hd
    have hyr := h.range63 y hy
    have hd' := of_decide_eq_true hd
    refine hn ⟨y, hy, x.toNat, by omega, by omega, by rw [Nat.and_comm]; exact hd'.1, fun e => ?_⟩
    rw [← e] at hd'
    omega

/-- What the walk keeps of the world. -/
structure FaW (w W : World) (V : Int) (sl : Value) (mb : Nat) (L : List Int) (Ds : List Nat) : Prop where
  below : Below w.heap.size w W
  lo : w.heap.size + 1 ≤ mb
  kbox : W.heap[w.heap.size]? = some (.cells #[.int .i64 V, sl] 30 (0, 0))
  own : W.ownsMap Try.prog 2 (plainElem (H := Unit) Try.prog 4) mb L.length (knownD L)
  mbox : W.heap[mb + 1]? = some (.cells #[.map (some mb)] 128 (0, 0))
  nodup : Ds.Nodup
  marks : ∀ D ∈ Ds, mb + 2 ≤ D ∧ W.heap[D]? = some (.deferred (some []))

theorem FaW.size {w W : World} {V : Int} {sl : Value} {mb : Nat} {L : List Int} {Ds : List Nat} (h : FaW w W V sl mb L Ds) : mb + 2 ≤ W.heap.size := by
  have := lt_of_get h.mbox; omega

theorem FaW.turn {w W W' : World} {V : Int} {sl : Value} {mb : Nat} {L : List Int} {Ds : List Nat} (h : FaW w W V sl mb L Ds) {row : Option Nat} (hg : W.grownBy W' row)
    (hr : ∀ r, row = some r → mb + 2 ≤ r ∧ r ∉ Ds) : FaW w W' V sl mb L Ds where
  below := h.below.grown hg h.below.size (fun k e => by have := (hr k e).1; have := h.lo; omega)
  lo := h.lo
  kbox := (hg.block _ (lt_of_get h.kbox) (fun e => by have := (hr _ e.symm).1; have := h.lo; omega)).trans h.kbox
  own := h.own.kept hg (fun e => by have := (hr _ e.symm).1; omega)
  mbox := (hg.block _ (lt_of_get h.mbox) (fun e => by have := (hr _ e.symm).1; omega)).trans h.mbox
  nodup := h.nodup
  marks := fun D hD => ⟨(h.marks D hD).1, (hg.block _ (lt_of_get (h.marks D hD).2) (fun e => (hr _ e.symm).2 hD)).trans (h.marks D hD).2⟩

theorem faw_own {w : World} {V : Int} {sl : Value} {mb : Nat} {g : List (Fin 64) → List Int} {Ds : List Nat} {B : Nat} (hB : mb + 2 ≤ B) (hD : ∀ D ∈ Ds, D < B) : OwnFrom B (fun (pre : List (Fin 64)) W => FaW w W V sl mb (g pre) Ds) :=
  fun _ _ _ _ hs hg hr => hs.turn hg (fun r e => ⟨by have := (hr r e).1; omega, fun hm => by have := hD r hm; have := (hr r e).1; omega⟩)

theorem box_own {β : Type} {B fb : Nat} {o : Obj} (hB : fb < B) : OwnFrom B (fun (_ : β) (W : World) => W.heap[fb]? = some o) :=
  fun _ _ _ _ hs hg hr => (hg.block _ (lt_of_get hs) (fun e => by have := (hr _ e.symm).1; omega)).trans hs

/-- A further mark. -/
theorem FaW.mark {w W : World} {V : Int} {sl : Value} {mb : Nat} {L : List Int} {Ds : List Nat} (h : FaW w W V sl mb L Ds) {D : Nat} (hD : W.heap[D]? = some (.deferred (some []))) (hb : mb + 2 ≤ D) (hn : D ∉ Ds) : FaW w W V sl mb L (D :: Ds) where
  below := h.below
  lo := h.lo
  kbox := h.kbox
  own := h.own
  mbox := h.mbox
  nodup := List.nodup_cons.2 ⟨hn, h.nodup⟩
  marks := fun E hE => by
    rcases List.mem_cons.1 hE with rfl | hE
    · exact ⟨hb, hD⟩
    · exact h.marks E hE

/-- A part more in the map. -/
theorem FaW.put {w W w1 : World} {V : Int} {sl : Value} {mb : Nat} {L : List Int} {Ds : List Nat} (h : FaW w W V sl mb L Ds) {x : Int}
    (hown : w1.ownsMap Try.prog 2 (plainElem (H := Unit) Try.prog 4) mb (L.length + 1) ((knownD L).put (.int .i64 x) (.lit (.bool true)))) (hg : W.grownBy w1 (some mb)) : FaW w w1 V sl mb (L ++ [x]) Ds where
  below := h.below.grown hg h.below.size (fun k e => by cases e; have := h.lo; omega)
  lo := h.lo
  kbox := (hg.block _ (lt_of_get h.kbox) (fun e => by have := h.lo; simp at e; omega)).trans h.kbox
  own := by rw [knownD_snoc]; simpa using hown
  mbox := (hg.block _ (lt_of_get h.mbox) (fun e => by simp at e)).trans h.mbox
  nodup := h.nodup
  marks := fun D hD => ⟨(h.marks D hD).1, (hg.block _ (lt_of_get (h.marks D hD).2) (fun e => by have := (h.marks D hD).1; simp at e; omega)).trans (h.marks D hD).2⟩





theorem facets_nil : facetsL [] = [] := rfl


end Go.Proofs.Ytgcpakhagbbiiaa

/-! madeBy: the complex made by some sets. -/
namespace Go.Proofs.Ytgcpakhagbbiiaa
open Go.RowKit Go.Shelf

attribute [local go_sem] Oper.semAt_some

/-- The parts of a set, as they are met. -/
def partsI (f : Nat) : List Int := (subsF f).map fun p => ((p.val : Nat) : Int)
/-- .. of some sets. -/
def partsL (sets : List Int) : List Int := sets.flatMap fun x => partsI x.toNat
/-- The faces of the complex that some sets make. -/
def madeP (sets : List Int) : Int → Bool := fun x => sets.any fun s => decide (x.toNat &&& s.toNat = x.toNat)
def madeL (V : Int) (sets : List Int) : List Int := pickTo (madeP sets) (allV V).toNat

theorem partsI_len (f : Nat) (hf : f < 64) : (partsI f).length ≤ 63 := by
  unfold partsI; rw [List.length_map]; exact subsF_len f hf

theorem partsL_len : ∀ (sets : List Int), (∀ x ∈ sets, 0 ≤ x ∧ x ≤ 63) → (partsL sets).length ≤ 63 * sets.length
  | [], _ => by simp [partsL]
  | x :: sets, h => by
    have ih := partsL_len sets (fun y hy => h y (by simp [hy]))
    have hx := h x (by simp)
    have := partsI_len x.toNat (by omega)
    simp only [partsL, List.flatMap_cons, List.length_append, List.length_cons] at ih ⊢
    omega

theorem partsL_snoc (sets : List Int) (x : Int) : partsL (sets ++ [x]) = partsL sets ++ partsI x.toNat := by simp [partsL]

theorem mem_partsI {f : Nat} (hf : f < 64) {x : Int} : x ∈ partsI f ↔ ∃ p : Nat, x = p ∧ p ≠ 0 ∧ p &&& f = p := by
  unfold partsI
  rw [List.mem_map]
  constructor
  · rintro ⟨p, hp, rfl⟩
    exact ⟨p.val, rfl, (mem_subsF hf).1 hp⟩
  · rintro ⟨p, rfl, h1, h2⟩
    have hle := and_le_left' _ _ h2
    exact ⟨⟨p, by omega⟩, (mem_subsF hf).2 ⟨h1, h2⟩, rfl⟩

theorem mem_partsL {sets : List Int} (hr : ∀ x ∈ sets, 0 ≤ x ∧ x ≤ 63) {x : Int} : x ∈ partsL sets ↔ ∃ y ∈ sets, ∃ p : Nat, x = p ∧ p ≠ 0 ∧ p &&& y.toNat = p := by
  unfold partsL
  rw [List.mem_flatMap]
  constructor
  · rintro ⟨y, hy, h⟩
    exact ⟨y, hy, (mem_partsI (by have := hr y hy; omega)).1 h⟩
  · rintro ⟨y, hy, h⟩
    exact ⟨y, hy, (mem_partsI (by have := hr y hy; omega)).2 h⟩

/-- What is collected is what is made. -/
theorem asc_parts {V : Int} {sets : List Int} (h2 : V ≤ 6) (hr : ∀ x ∈ sets, 0 ≤ x ∧ x ≤ allV V) : ascOf (partsL sets) = madeL V sets := by
  have h63 : ∀ x ∈ sets, 0 ≤ x ∧ x ≤ 63 := fun x hx => ⟨(hr x hx).1, by have := allV_le h2; have := (hr x hx).2; omega⟩
  refine asc_ext (pickTo_asc _ _) (pickTo_asc _ _) fun x => ?_
  unfold ascOf madeL
  rw [mem_pickTo, mem_pickTo]
  simp only [decide_eq_true_eq, mem_partsL h63, madeP, List.any_eq_true]
  constructor
  · rintro ⟨h1, _, y, hy, p, rfl, hp0, hp⟩
    have hle := and_le_left' _ _ hp
    have := hr y hy
    exact ⟨h1, by omega, y, hy, by simpa using hp⟩
  · rintro ⟨h1, h3, y, hy, hp⟩
    have := allV_le h2
    exact ⟨h1, by omega, y, hy, x.toNat, by omega, by omega, hp⟩

theorem parts_range {sets : List Int} (hr : ∀ x ∈ sets, 0 ≤ x ∧ x ≤ 63) : ∀ x ∈ partsL sets, 1 ≤ x ∧ x ≤ 63 := by
  intro x hx
  obtain ⟨y, hy, p, rfl, h0, hp⟩ := (mem_partsL hr).1 hx
  have := and_le_left' _ _ hp
  have := hr y hy
  omega

theorem faw_box {w W : World} {V : Int} {sl : Value} {mb : Nat} {L : List Int} {Ds : List Nat} (h : FaW w W V sl mb L Ds) : W.cell? ⟨mb + 1, 0, none⟩ = some (.map (some mb)) := (box_cell h.mbox).1

set_option maxRecDepth 100000 in
set_option maxHeartbeats 4000000 in
theorem made_in (V : Int) (a : Option Addr) (cap : Nat) (xs : List Int) (w : World) (hx : SlI w w.heap.size a xs) (hl : xs.length ≤ 1048576) (h2 : V ≤ 6) (hr : ∀ x ∈ xs, 0 ≤ x ∧ x ≤ allV V) :
    CallsIn Fence.wide 10 Try.prog 110 #[.int .i64 V, .slice a xs.length cap] w fun e w' => ∃ v, e = .returned (.agg #[.int .i64 V, v]) ∧ Res w w' v (madeL V xs) := by
  have hmm := @run_makeMap Try.prog
  have hB0 : Below w.heap.size w (w.alloc (.cells #[.int .i64 0, .slice none 0 0] 30)) := (Below.refl _ w).alloc (Nat.le_refl _) _
  have h63 : ∀ x ∈ xs, 0 ≤ x ∧ x ≤ 63 := fun x hx => ⟨(hr x hx).1, by have := allV_le h2; have := (hr x hx).2; omega⟩
  have HR := hid (asc_parts h2 hr)
  have Hx0 := hid hx
  have Hf := hid h63
  have HB0 := hid hB0
  have hF0 : FaW w (((w.alloc (.cells #[.int .i64 0, .slice none 0 0] 30)).alloc (.map #[] 0)).alloc (.cells #[.map (some (w.heap.size + 1))] 128)) 0 (.slice none 0 0) (w.heap.size + 1) [] [] := by
    have e3 := heap_alloc_new ((w.alloc (.cells #[.int .i64 0, .slice none 0 0] 30)).alloc (.map #[] 0)) (.cells #[.map (some (w.heap.size + 1))] 128)
    rw [World.size_alloc, World.size_alloc] at e3
    have e4 := (World.ownsMap_made (w.alloc (.cells #[.int .i64 0, .slice none 0 0] 30)) Try.prog 2 (plainElem (H := Unit) Try.prog 4)).alloc (.cells #[.map (some (w.heap.size + 1))] 128)
    rw [World.size_alloc] at e4
    exact {
      below := (hB0.alloc (by simp) _).alloc (by simp <;> omega) _
      lo := Nat.le_refl _
      kbox := (Below.heap_alloc _ _ _ (by simp; omega)).trans ((Below.heap_alloc _ _ _ (by simp)).trans (heap_alloc_new _ _))
      own := e4
      mbox := e3
      nodup := by simp
      marks := by simp }
  have HF0 := hid hF0
  clear hF0 hx hr h63 hB0
  refine callsIn_of_wp_marks Try.func110 rfl trivial ?_ rfl
  simp only [Try.ntmps110, List.size_toArray, List.length_cons, List.length_nil, Nat.reduceAdd, Nat.reduceSub, Array.replicate_succ, Array.replicate_zero, List.push_toArray, List.append_toArray, List.nil_append, List.cons_append]
  gi_wp2
  clear hmm
  obtain ⟨mb, hmb⟩ : ∃ mb, mb = w.heap.size + 1 := ⟨_, rfl⟩
  rw [← hmb] at HF0 ⊢
  clear hmb
  refine wpIn_loop (fun a' W => ∃ (k : Nat) (c7 c8 c13 c14 c15 c16 c17 c18 c19 c20 c21 : Value) (Ds : List Nat),
      a' = { tmps := #[.int .i64 V, .slice a xs.length cap, undef, undef, .pointer (some ⟨w.heap.size, 0, none⟩), .pointer (some ⟨mb + 1, 0, none⟩), undef, c7, c8,
          .map (some mb), .slice a xs.length cap, .int .i64 xs.length,
          .int .i64 k, c13, c14, c15, c16, c17, c18, c19, c20, c21, undef, undef, undef, undef, undef], defers := marks Ds } ∧
      k ≤ xs.length ∧ FaW w W 0 (.slice none 0 0) mb (partsL (xs.take k)) Ds)
    (fun a' _ => xs.length - (RowKit.intOf (a'.tmps.getD 12 undef)).toNat) ?start ?round
  case start => exact ⟨0, _, _, _, _, _, _, _, _, _, _, _, [], rfl, Nat.zero_le _, by simpa [partsL] using HF0.out⟩
  case round =>
    rintro a' W ⟨k, c7, c8, c13, c14, c15, c16, c17, c18, c19, c20, c21, Ds, rfl, hk, hW⟩
    have hsz := hW.size
    have HW := hid hW
    have hlo := hW.lo
    clear hW
    by_cases hlt : k < xs.length
    · obtain ⟨b, off, hb, rfl, hc⟩ : ∃ b off, b < w.heap.size ∧ a = some ⟨b, off, none⟩ ∧ ∀ i, i < xs.length → w.cell? ⟨b, off + i, none⟩ = some (.int .i64 (xs[i]?.getD 0)) := by
        rcases Hx0.out with h | h
        · rw [h] at hlt; simp at hlt
        · exact h
      have Hc := hid hc
      clear hc
      obtain ⟨x, hx⟩ : ∃ x, x = xs[k]?.getD 0 := ⟨_, rfl⟩
      have hck : W.cell? ⟨b, off + k, none⟩ = some (.int .i64 x) := by rw [hx]; exact (HW.out.below.cell (p := ⟨b, off + k, none⟩) hb).trans (Hc.out k hlt)
      have hxr := Hf.out _ (getD_mem hlt)
      rw [← hx] at hxr
      have Hx1 := hid hx
      have hi0 : (0 : Int) ≤ (k : Int) := by omega
      have hi1 : (k : Int) < (xs.length : Int) := by omega
      obtain ⟨f, rfl⟩ : ∃ f : Nat, x = f := ⟨x.toNat, by omega⟩
      have hf : f < 64 := by omega
      clear hx
      gi_wp2_with (first
        | (refine ⟨trivial, ?_⟩; gi_at_call 134; refine (parts_in _ _ trivial rfl _ _).mono ?_; rintro e w' ⟨rfl, rfl⟩))
      have hW2 : FaW w (W.alloc (.cells #[.int .i64 (f : Int)] 2)) 0 (.slice none 0 0) mb (partsL (xs.take k)) Ds := HW.out.turn (World.grownBy_alloc W _ none) (fun r e => by cases e)
      have hsb : (W.alloc (.cells #[.int .i64 (f : Int)] 2)).heap[W.heap.size]? = some (.cells #[.int .i64 (f : Int)] 2 (0, 0)) := heap_alloc_new _ _
      have hDlt : ∀ D ∈ Ds, D < (W.alloc (.cells #[.int .i64 (f : Int)] 2)).heap.size := fun D hD => lt_of_get (hW2.marks D hD).2
      have hLl := partsL_len (xs.take k) (fun y hy => Hf.out y (List.mem_of_mem_take hy))
      have hkl : (xs.take k).length ≤ 1048576 := by simp; omega
      obtain ⟨L0, hL0⟩ : ∃ L0, L0 = partsL (xs.take k) := ⟨_, rfl⟩
      have HL0 := hid hL0
      rw [← hL0] at hW2 hLl HW
      clear hL0
      refine wpIn_rangeFunc_ownG rfl (by decide) (gf := 200) (lb := #[.pointer (some ⟨W.heap.size, 0, none⟩)]) rfl trivial (enters_of Try.func200 (by kernel_rfl) rfl)
        (parts_stops Fence.wide 9 trivial rfl (by decide) W.heap.size f hf _ (by simp) hsb) keepB_t (keepB_b (by simp)) (Below.refl _ _) (fun _ => rfl)
        (fun pre W' => FaW w W' 0 (.slice none 0 0) mb (L0 ++ pre.map (fun p => ((p.val : Nat) : Int))) Ds ∧ W'.heap[W.heap.size]? = some (.cells #[.int .i64 (f : Int)] 2 (0, 0)))
        (fun _ _ _ => False)
        (OwnFrom.and (faw_own (by simp; omega) hDlt) (box_own (by simp <;> omega))) (fun _ => ownFrom_pure _ _)
        ⟨by simpa using hW2, hsb⟩
        (fun x => { tmps := #[.int .i64 V, .slice (some ⟨b, off, none⟩) xs.length cap, undef, undef, .pointer (some ⟨w.heap.size, 0, none⟩), .pointer (some ⟨mb + 1, 0, none⟩), undef, .int .i64 f, .int .i64 (x.val : Int),
          .map (some mb), .slice (some ⟨b, off, none⟩) xs.length cap, .int .i64 xs.length,
          .int .i64 k, .bool true, .pointer (some ⟨b, off + k, none⟩), .int .i64 f, .int .i64 f, .func (.func 200) #[] #[.pointer (some ⟨W.heap.size, 0, none⟩)], .int .i64 (x.val : Int), c19, c20, c21, undef, undef, undef, undef, undef], defers := [] }) ?assign ?body ?done ?stop
      case assign =>
        intro l x W3 K hK
        gi_wp2
        exact hK
      case body =>
        rintro l pre x W3 ⟨hW3, hsb3⟩ hpl
        have m3 : W3.cell? ⟨mb + 1, 0, none⟩ = some (.map (some mb)) := (box_cell hW3.mbox).1
        have hxl := x.isLt
        have hwx : (Lit.int .i64 (x.val : Int)).wf = true := WalkArith.wf_i64 (by omega)
        have HW3 := hid hW3
        have Hsb3 := hid hsb3
        have hkm : (L0 ++ pre.map (fun p => ((p.val : Nat) : Int))).length < maxLen := by unfold maxLen; simp; omega
        clear hW3 hsb3
        gi_wp2_with (gi_at_mapUpdate; refine wpListIn_mapUpdate_own _ rfl _ _ _ 128 rfl 2 4 (Maps.int_keyed Try.underlying2) Try.underlying128 _ mb _ _ rfl HW3.out.own hkm _ _ _ rfl rfl (Maps.keyOf_int_mk Try.underlying2 hwx) _ [] (plainElem_bool Try.underlying4 true) ?_; intro w4 hown4 hgrow4)
        refine ⟨KeepsFrom.of_grownBy hgrow4 (fun j e => by cases e; first | omega | (simp; omega)), (hgrow4.block _ (lt_of_get Hsb3.out) (fun e => by simp at e; omega)), ?_, (hgrow4.block _ (lt_of_get Hsb3.out) (fun e => by simp at e; omega)).trans Hsb3.out⟩
        rw [List.map_append, ← List.append_assoc]
        exact HW3.out.put hown4 hgrow4
      case done =>
        rintro D ys W3 hD rfl ⟨hW3, _⟩ hK
        have hDb : mb + 2 ≤ D := by simp at hD; omega
        have hDn : D ∉ Ds := fun hm => by have := hDlt D hm; omega
        have HW4 := hid (hW3.mark hK hDb hDn)
        have htk : partsL (xs.take (k + 1)) = L0 ++ (subsF f).map (fun p => ((p.val : Nat) : Int)) := by rw [take_snoc hlt, partsL_snoc, ← Hx1.out, HL0.out, Int.toNat_natCast]; rfl
        have Htk := hid htk
        clear hW3 htk
        gi_wp2
        refine ⟨⟨k + 1, ?_⟩, ?_⟩
        · (repeat apply Exists.intro)
          refine ⟨?e, ?_⟩
          case e =>
            rw [show ((k + 1 : Nat) : Int) = (k : Int) + 1 by omega, show ({ target := .collected D, args := #[] } :: marks Ds : List Deferred) = marks (D :: Ds) from rfl]
          exact ⟨by omega, by rw [Htk.out]; exact HW4.out⟩
        · simp [RowKit.intOf]; omega
      case stop =>
        rintro D c pre W3 hD hpre hF hK
        exact hF.elim
    · obtain rfl : k = xs.length := by omega
      rw [List.take_of_length_le (Nat.le_refl _)] at HW
      have m0 := faw_box HW.out
      have hLr := parts_range Hf.out
      have hLl := partsL_len xs Hf.out
      have hkm : Maps.size (knownD (partsL xs)) ≤ (partsL xs).length := HW.out.own.size_le
      have hmax : Maps.size (knownD (partsL xs)) ≤ maxLen := by unfold maxLen; omega
      have hbytes : Maps.size (knownD (partsL xs)) * 8 ≤ 140737488355328 := by omega
      have hown1 := HW.out.own.alloc (.cells #[.map (some mb)] 128)
      have hseq : SeqGives Fence.wide 6 Try.prog 227 #[.pointer (some ⟨W.heap.size, 0, none⟩)] encZ (fun ss => ss.Perm (intKeys (knownD (partsL xs)))) (Maps.size (knownD (partsL xs))) (W.alloc (.cells #[.map (some mb)] 128)) :=
        AnyZI.keys_gives (ρ := keysL_ren) { keysL with } Fence.wide _ trivial rfl (by omega) W.heap.size mb (partsL xs).length (knownD (partsL xs)) _ (by simp) (by simp [go_sem]) hown1
      have cK : ∀ mb' W', CallsIn Fence.wide 9 Try.prog 177 #[.map mb'] W' fun e w' => e = .returned (.func (.func 227) #[] #[.pointer (some ⟨W'.heap.size, 0, none⟩)]) ∧ w' = W'.alloc (.cells #[.map mb'] 128) := fun mb' W' => AnyZI.keys_in keysL Fence.wide 9 trivial rfl mb' W'
      have cS := AnyZI.sorted_in sortedL Fence.wide 9 trivial trivial trivial trivial rfl (by omega) (sortsL _) (enters_of Try.func105 (by kernel_rfl) rfl) 227 #[.pointer (some ⟨W.heap.size, 0, none⟩)] trivial (enters_of Try.func227 (by kernel_rfl) rfl) _ _ hmax hbytes _ hseq
      change CallsIn _ _ Try.prog 146 _ _ _ at cS
      have HcS := hid cS
      have HcK := hid cK
      have Hsort := hid (fun (ss : List Int) (h : ss.Perm (intKeys (knownD (partsL xs)))) => sorted_known HW.out.own hLr h)
      clear hkm hmax hbytes hown1 hseq cK cS
      gi_wp2_with (first
        | (refine ⟨trivial, ?_⟩; gi_at_call 177; refine (HcK.out _ _).mono ?_; rintro e w' ⟨rfl, rfl⟩))
      refine ⟨trivial, ?_⟩
      refine HcS.out.mono ?_
      rintro e w2 ⟨v, ss, rfl, hS, hrow, hnil, hB2⟩
      have hrow2 : w2.ownsRow (W.alloc (.cells #[.map (some mb)] 128)).heap.size 2 1 v ss.length ((madeL V xs).map (Value.int .i64)) := by
        have h := hrow
        rw [Hsort.out ss hS, HR.out] at h
        exact h
      have Hrow := hid hrow2
      have HB2 := hid hB2
      obtain ⟨hln, av, cv, rfl, _⟩ := ownsRow_slI hrow2
      have k2 := (hB2.block _ (by simp; exact Nat.lt_succ_of_lt (lt_of_get HW.out.kbox))).trans ((Below.heap_alloc W _ _ (lt_of_get HW.out.kbox)).trans HW.out.kbox)
      obtain ⟨r0, r1, g0, g1⟩ := two_of k2
      clear hrow hnil hB2 hrow2 k2
      gi_wp2
      have k2 : w2.heap[w.heap.size]? = some (.cells #[.int .i64 0, .slice none 0 0] 30 (0, 0)) := (HB2.out.block _ (by simp; exact Nat.lt_succ_of_lt (lt_of_get HW.out.kbox))).trans ((Below.heap_alloc W _ _ (lt_of_get HW.out.kbox)).trans HW.out.kbox)
      have k3 := two_set k2 (.int .i64 V) (.slice av (madeL V xs).length cv)
      have hWsz := HW.out.below.size
      have hB2' : Below W.heap.size W w2 := ((Below.refl _ W).alloc (Nat.le_refl _) _).trans (HB2.out.mono (by simp))
      have hmk : ∀ D ∈ Ds, ((w2.setCell ⟨w.heap.size, 0, none⟩ (.int .i64 V)).setCell ⟨w.heap.size, 1, none⟩ (.slice av (madeL V xs).length cv)).heap[D]? = some (.deferred (some [])) := fun D hD => by
        have h1 := HW.out.marks D hD
        rw [Below.heap_setCell _ _ _ _ (by show D ≠ w.heap.size; omega), Below.heap_setCell _ _ _ _ (by show D ≠ w.heap.size; omega)]
        exact (hB2'.block _ (lt_of_get h1.2)).trans h1.2
      refine leaves_marks (by simp) Ds _ HW.out.nodup hmk (fun w' hw' => ?_)
      have hDw : w.heap.size ∉ Ds := fun hm => by have := (HW.out.marks _ hm).1; omega
      have k4 := (hw'.block w.heap.size hDw).trans k3
      obtain ⟨q0, q1, _, _⟩ := two_of k4
      have hsh : Below w.heap.size ((w2.setCell ⟨w.heap.size, 0, none⟩ (.int .i64 V)).setCell ⟨w.heap.size, 1, none⟩ (.slice av (madeL V xs).length cv)) w' := hw'.below (fun D hD => by have := (HW.out.marks D hD).1; omega)
      have hres : Res w ((w2.setCell ⟨w.heap.size, 0, none⟩ (.int .i64 V)).setCell ⟨w.heap.size, 1, none⟩ (.slice av (madeL V xs).length cv)) (.slice av (madeL V xs).length cv) (madeL V xs) := by
        have hln' : ss.length = (madeL V xs).length := by have := Hrow.out.1; simpa using this.symm
        have h0 : Res W w2 (.slice av (madeL V xs).length cv) (madeL V xs) := ⟨by have h := Hrow.out; rw [hln'] at h; exact ownsRow_base h (by simp), hB2'⟩
        exact (h0.later HW.out.below).set2 k2 (by decide) (Nat.le_refl _) _ _
      have hown : w'.ownsRow w.heap.size 2 1 (.slice av (madeL V xs).length cv) (madeL V xs).length ((madeL V xs).map (Value.int .i64)) := by
        refine ⟨hres.1.1, ?_⟩
        rcases hres.1.2 with hn | ⟨g, cp, cur, he, hg, hh, rest⟩
        · exact .inl hn
        · refine .inr ⟨g, cp, cur, he, hg, (hw'.block g (fun hm => ?_)).trans hh, rest⟩
          rw [hmk g hm] at hh
          simp at hh
      refine ⟨.agg #[.int .i64 V, .slice av (madeL V xs).length cv], ?_, _, rfl, hown, hres.2.trans hsh⟩
      simp [results, Try.results110, asAddr, load_cx q0 q1]

/-- madeBy. -/
theorem made_any (V : Int) (a : Option Addr) (cap : Nat) (xs : List Int) (w : World) (hx : SlI w w.heap.size a xs) (hl : xs.length ≤ 1048576) (h2 : V ≤ 6) (hr : ∀ x ∈ xs, 0 ≤ x ∧ x ≤ allV V) :
    Calls Try.prog 110 #[.int .i64 V, .slice a xs.length cap] w fun e w' => ∃ v, e = .returned (.agg #[.int .i64 V, v]) ∧ Res w w' v (madeL V xs) :=
  callsIn_wide.1 (made_in V a cap xs w hx hl h2 hr)

end Go.Proofs.Ytgcpakhagbbiiaa

/-! The images of the faces, sorted, are the complex that they make. -/
namespace Go.Proofs.Ytgcpakhagbbiiaa
open Go.RowKit

section
variable {V : Int} {fs p : List Int}
theorem moved_zero (p : List Int) : moved p 0 = 0 := by
  apply Nat.eq_of_testBit_eq
  intro w
  rw [Nat.zero_testBit, Bool.eq_false_iff]
  intro h
  obtain ⟨v, _, h2, _⟩ := (moved_test p 0 w).1 h
  rw [Nat.zero_testBit] at h2
  cases h2
theorem face_lt (hC : IsC V fs) {x : Int} (hx : x ∈ fs) : x.toNat < 2 ^ V.toNat ∧ x.toNat ≠ 0 ∧ ((x.toNat : Nat) : Int) = x := by
  have h := hC.range x hx
  have hp : (0 : Nat) < 2 ^ V.toNat := Nat.two_pow_pos _
  rw [allV_two hC.lo hC.hi] at h
  omega
theorem img_rng (hC : IsC V fs) (hR : IsR p V) {x : Int} (hx : x ∈ imgL p fs) : 1 ≤ x ∧ x ≤ allV V := by
  obtain ⟨f, hf, rfl⟩ := List.mem_map.1 hx
  obtain ⟨f1, f2, f3⟩ := face_lt hC hf
  have hlt : moved p f.toNat < 2 ^ V.toNat := movN_lt (n := V.toNat) (fun x hx => by have := hR.rng x hx; omega) _ _ (Nat.le_refl _)
  have hne : moved p f.toNat ≠ 0 := fun e => f2 (moved_inj hR hC.lo f1 (Nat.two_pow_pos _) (e.trans (moved_zero p).symm))
  rw [allV_two hC.lo hC.hi]
  omega
theorem img_nodup (hC : IsC V fs) (hR : IsR p V) : (imgL p fs).Nodup := by
  unfold imgL List.Nodup
  rw [List.pairwise_map]
  refine List.Pairwise.imp_of_mem (R := (· < ·)) ?_ hC.asc
  intro a b ha hb hab e
  obtain ⟨a1, _, a3⟩ := face_lt hC ha
  obtain ⟨b1, _, b3⟩ := face_lt hC hb
  have := moved_inj hR hC.lo a1 b1 (by omega)
  omega
theorem img_mem (hC : IsC V fs) (hR : IsR p V) {x : Int} : x ∈ imgL p fs ↔ 1 ≤ x ∧ x ≤ ((allV V).toNat : Int) ∧ madeP (imgL p fs) x = true := by
  have hA : ((allV V).toNat : Int) = allV V := by
    rw [allV_two hC.lo hC.hi]
    rfl
  rw [hA]
  unfold madeP
  rw [List.any_eq_true]
  constructor
  · intro hx
    obtain ⟨h1, h2⟩ := img_rng hC hR hx
    exact ⟨h1, h2, x, hx, by simp⟩
  · rintro ⟨h1, h2, s, hs, hsub⟩
    rw [decide_eq_true_eq] at hsub
    obtain ⟨f, hf, rfl⟩ := List.mem_map.1 hs
    obtain ⟨f1, f2, f3⟩ := face_lt hC hf
    rw [Int.toNat_natCast] at hsub
    have hlen := hR.len
    obtain ⟨g, hg⟩ : ∃ g, g = preN p x.toNat f.toNat p.length := ⟨_, rfl⟩
    have hgt : ∀ w, g.testBit w = true ↔ w < p.length ∧ f.toNat.testBit w = true ∧ x.toNat.testBit (p[w]?.getD 0).toNat = true := fun w => by rw [hg]; exact preN_test p x.toNat f.toNat w p.length
    have hmg : moved p g = x.toNat := by
      apply Nat.eq_of_testBit_eq
      intro w
      rw [Bool.eq_iff_iff, moved_test]
      constructor
      · rintro ⟨v, hv, hgv, rfl⟩
        exact ((hgt v).1 hgv).2.2
      · intro hw
        have hw2 : (moved p f.toNat).testBit w = true := by
          have := hw
          rw [← hsub, Nat.testBit_and, Bool.and_eq_true] at this
          exact this.2
        obtain ⟨v, hv, hfv, he⟩ := (moved_test p f.toNat w).1 hw2
        exact ⟨v, hv, (hgt v).2 ⟨hv, hfv, by rw [he]; exact hw⟩, he⟩
    have hg0 : g ≠ 0 := by
      intro e
      rw [e, moved_zero] at hmg
      omega
    have hgf : g &&& f.toNat = g := by
      apply Nat.eq_of_testBit_eq
      intro w
      rw [Nat.testBit_and, Bool.eq_iff_iff, Bool.and_eq_true]
      exact ⟨fun h => h.1, fun h => ⟨h, ((hgt w).1 h).2.1⟩⟩
    have := hC.closed f hf g hg0 hgf
    refine List.mem_map.2 ⟨(g : Int), this, ?_⟩
    rw [Int.toNat_natCast, hmg]
    omega
theorem pick_asc (q : Int → Bool) : ∀ k : Nat, (pickTo q k).Pairwise (· < ·)
  | 0 => List.Pairwise.nil
  | k + 1 => by
    unfold pickTo
    rw [List.pairwise_append]
    refine ⟨pick_asc q k, by split <;> simp, ?_⟩
    intro a ha b hb
    have := (mem_pickTo k).1 ha
    split at hb
    · simp at hb; omega
    · simp at hb
/-- The sorted images. -/
theorem img_sort (hC : IsC V fs) (hR : IsR p V) : (imgL p fs).mergeSort (fun x y => decide (x ≤ y)) = madeL V (imgL p fs) := by
  have hs : ((imgL p fs).mergeSort (fun x y => decide (x ≤ y))).Pairwise (fun a b => decide (a ≤ b) = true) := List.pairwise_mergeSort (by intro a b c; simp; omega) (by intro a b; simp; omega) _
  have hp := List.mergeSort_perm (imgL p fs) (fun x y => decide (x ≤ y))
  have hn : ((imgL p fs).mergeSort (fun x y => decide (x ≤ y))).Nodup := hp.nodup_iff.2 (img_nodup hC hR)
  refine asc_ext ?_ (pick_asc _ _) (fun x => ?_)
  · refine (hs.and hn).imp ?_
    rintro a b ⟨h1, h2⟩
    simp at h1
    omega
  · rw [hp.mem_iff, img_mem hC hR]
    unfold madeL
    rw [mem_pickTo]
end

end Go.Proofs.Ytgcpakhagbbiiaa

/-! Joins: copies of lists. -/
namespace Go.Proofs.Ytgcpakhagbbiiaa
open Go.RowKit

/-- 'append([]int64{}, list...)' of a list that lies in memory. -/
theorem append_all {w : World} {ops : Array Oper} {rest : List Oper} {o : Oper} {a : Act} {Q : Exit → Act → World → Prop} (hgd : o.guard = none) {s y : Operand}
    (ho : o.op = .call { callee := .builtin .append, args := #[s, y], argTypes := #[22, 22] })
    {b off cap : Nat} {xs : List Int} (hl : xs.length ≤ 1048576) (hc : ∀ i, i < xs.length → w.cell? ⟨b, off + i, none⟩ = some (.int .i64 (xs[i]?.getD 0)))
    (hs : a.eval s = .slice (some ⟨w.heap.size, 0, none⟩) 0 0) (hy : a.eval y = .slice (some ⟨b, off, none⟩) xs.length cap)
    (hK : ∀ v' w', w'.ownsRow w.heap.size 2 1 v' xs.length (xs.map (Value.int .i64)) → Below w.heap.size w w' → (v' = .slice none 0 0 → False) → wpList Try.prog ops Q rest (a.put o.dst v') w') :
    wpList Try.prog ops Q (o :: rest) a (w.alloc (.cells #[] 2)) := by
  obtain ⟨i0, hi, hz0, hz1, hz2⟩ := info_parts info_i64
  refine wpList_append_own _ hgd s y 22 ho w.heap.size 2 i0 (.int .i64 0) 1 8 Try.underlying22 hi hz0 hz1 hz2 rfl (by decide) (.slice (some ⟨w.heap.size, 0, none⟩) 0 0) 0 [] hs (World.ownsRow_made w #[] 0 (Nat.le_refl _) (Nat.zero_le _) rfl) ⟨b, off, none⟩ xs.length cap (xs.map (Value.int .i64)) hy (by simp) ?_ (fun u hu => by obtain ⟨x, _, rfl⟩ := List.mem_map.1 hu; rfl) (by unfold maxLen; omega) (by omega) (by simp) ?_
  · intro j u hj
    have hjn : j < xs.length := by
      have := (List.getElem?_eq_some_iff.1 hj).1
      simpa using this
    rw [Addr.add_lit]
    refine (World.cell?_alloc_some w _ _ (show (w.cell? _).isSome = true by rw [hc j hjn]; rfl)).trans ?_
    rw [hc j hjn, ← hj]
    simp [List.getElem?_eq_getElem hjn]
  · intro v' w1 hown hgrow hnil
    refine hK v' w1 (by simpa using hown) (((Below.refl _ w).alloc (Nat.le_refl _) _).grown hgrow (by simp) (by intro k hk; simp [Value.ownBlock] at hk; omega)) (fun e => ?_)
    have := (hnil.1 e).1
    simp at this

theorem own_any (a0 : Option Addr) (cap : Nat) (xs : List Int) (w : World) (hx : SlI w w.heap.size a0 xs) (hl : xs.length ≤ 1048576) :
    Calls Try.prog 140 #[.slice a0 xs.length cap] w fun e w' => ∃ v, e = .returned v ∧ Res w w' v xs := by
  rcases hx with rfl | ⟨b, off, hb, rfl, hc⟩
  · have hr : Res w (w.alloc (.cells #[] 2)) (.slice (some ⟨w.heap.size, 0, none⟩) 0 0) [] := ⟨World.ownsRow_made w #[] 0 (Nat.le_refl _) (Nat.zero_le _) rfl, (Below.refl _ w).alloc (Nat.le_refl _) _⟩
    have Hr := hid hr
    clear hr
    cases a0 with
    | none =>
      go_enter Try.func140, Try.ntmps140
      go_wp2_with fail
      go_ret
      exact ⟨_, rfl, Hr.out⟩
    | some ad =>
      go_enter Try.func140, Try.ntmps140
      go_wp2_with fail
      go_ret
      exact ⟨_, rfl, Hr.out⟩
  · have Hc := hid hc
    clear hc
    go_enter Try.func140, Try.ntmps140
    go_wp2_with (at_builtin; refine append_all rfl rfl hl Hc.out rfl rfl ?_; intro v' w1 hown hB _)
    go_ret
    exact ⟨v', rfl, hown, hB⟩

/-- slices.Clone: nil of nil; else a copy. -/
theorem clone_any (a0 : Option Addr) (cap : Nat) (xs : List Int) (w : World) (hx : SlI w w.heap.size a0 xs) (hl : xs.length ≤ 1048576) :
    Calls Try.prog 180 #[.slice a0 xs.length cap] w fun e w' => ∃ v, e = .returned v ∧ Res w w' v xs := by
  have q22 : ∀ (w : World) (a : Option Addr) (n c n' c' : Nat), (binOp .eql 22 (.slice a n c) (.slice none n' c')).run Try.prog w = .ok (.bool a.isNone) w := fun w a n c n' c' => Lib.run_eql_slice_nil w _ _ a n c n' c' Try.underlying22
  rcases hx with rfl | ⟨b, off, hb, rfl, hc⟩
  · have hr : Res w (w.alloc (.cells #[] 2)) (.slice (some ⟨w.heap.size, 0, none⟩) 0 0) [] := ⟨World.ownsRow_made w #[] 0 (Nat.le_refl _) (Nat.zero_le _) rfl, (Below.refl _ w).alloc (Nat.le_refl _) _⟩
    have hr0 : Res w w (.slice none 0 0) [] := res_nil _ _ (Below.refl _ _)
    have Hr := hid hr
    have Hr0 := hid hr0
    clear hr hr0
    cases a0 with
    | none =>
      go_enter Try.func180, Try.ntmps180
      go_wp2_with fail
      go_ret
      exact ⟨_, rfl, Hr0.out⟩
    | some ad =>
      go_enter Try.func180, Try.ntmps180
      go_wp2_with fail
      go_ret
      exact ⟨_, rfl, Hr.out⟩
  · have Hc := hid hc
    clear hc
    go_enter Try.func180, Try.ntmps180
    go_wp2_with (at_builtin; refine append_all rfl rfl hl Hc.out rfl rfl ?_; intro v' w1 hown hB _)
    go_ret
    exact ⟨v', rfl, hown, hB⟩

/-- step_append_new in a plain region. -/
theorem plain_append_new {W : World} {H : Nat} {ops : Array Oper} {rest : List Oper} {o : Oper} {a : Act} {Q : Exit → Act → World → Prop} (hgd : o.guard = none) {s y : Operand}
    (ho : o.op = .call { callee := .builtin .append, args := #[s, y], argTypes := #[22, 22] })
    {base : Nat} {v : Value} {xs : List Int} {x : Int} (hown : W.ownsRow base 2 1 v xs.length (xs.map (Value.int .i64))) (hH : W.heap.size = H) (hbase : base ≤ H) (hl : xs.length ≤ 1099511627776)
    (hs : a.eval s = v) (hy : a.eval y = .slice (some ⟨H, 0, none⟩) 1 1)
    (hK : ∀ g cap w', w'.ownsRow base 2 1 (.slice (some ⟨g, 0, none⟩) (xs ++ [x]).length cap) (xs ++ [x]).length ((xs ++ [x]).map (Value.int .i64)) → (W.alloc (.cells #[.int .i64 x] 2)).grownBy w' v.ownBlock →
      wpList Try.prog ops Q rest (a.put o.dst (.slice (some ⟨g, 0, none⟩) (xs ++ [x]).length cap)) w') :
    wpList Try.prog ops Q (o :: rest) a (W.alloc (.cells #[.int .i64 x] 2)) := by
  subst hH
  obtain ⟨i0, hi, hz0, hz1, hz2⟩ := info_parts info_i64
  refine wpList_append_lies (W.alloc (.cells #[.int .i64 x] 2)) hgd s y 22 ho base 2 i0 (.int .i64 0) 1 8 Try.underlying22 hi hz0 hz1 hz2 rfl (by decide) v _ _ hs (hown.alloc _) ⟨W.heap.size, 0, none⟩ 1 1 [.int .i64 x] hy rfl (cell_one_new _ _ _) (by simp [Value.oneCell']) (by decide) (by unfold maxLen; omega) (by omega) (by simp; omega) _ rfl ?_
  intro g cap w1 hown1 hg _ _
  have e : (xs ++ [x]).length = xs.length + 1 := by simp
  have h := hK g cap w1 (by rw [e]; simpa using hown1) hg
  rw [e] at h
  exact h

end Go.Proofs.Ytgcpakhagbbiiaa

/-! Duals: the model's. -/
namespace Go.Proofs.Ytgcpakhagbbiiaa
open Go.RowKit

/-- Is a set in the dual? -/
def dualP (V : Int) (fs : List Int) : Int → Bool := fun x => !decide ((allV V - x) ∈ fs)
/-- The dual's faces. -/
def dualL (V : Int) (fs : List Int) : List Int := pickTo (dualP V fs) ((allV V).toNat - 1)

/-- What DualOf hands back. -/
noncomputable def dualOfR (V : Int) (xs : List Int) : Int × List Int × Int := if isCB V xs then (V, dualL V xs, 0) else (0, [], 1)

theorem dualOfR_len (V : Int) (xs : List Int) (_ : xs.length ≤ 1048576) : (dualOfR V xs).2.1.length ≤ 1048576 := by
  unfold dualOfR
  split
  · next h =>
    have h6 := (isCB_iff.1 h).hi
    have := pickTo_len (dualP V xs) ((allV V).toNat - 1)
    have := allV_le h6
    show (dualL V xs).length ≤ 1048576
    unfold dualL
    omega
  · simp

theorem allV_nat {V : Int} (h1 : 1 ≤ V) (h2 : V ≤ 6) : ∃ A : Nat, (A : Int) = allV V ∧ 1 ≤ A ∧ A ≤ 63 := by
  rcases (show V = 1 ∨ V = 2 ∨ V = 3 ∨ V = 4 ∨ V = 5 ∨ V = 6 by omega) with rfl | rfl | rfl | rfl | rfl | rfl
  · exact ⟨1, rfl, by decide, by decide⟩
  · exact ⟨3, rfl, by decide, by decide⟩
  · exact ⟨7, rfl, by decide, by decide⟩
  · exact ⟨15, rfl, by decide, by decide⟩
  · exact ⟨31, rfl, by decide, by decide⟩
  · exact ⟨63, rfl, by decide, by decide⟩

theorem outW_start2 {w W : World} {V : Int} {sl : Value} (hB : Below w.heap.size w W) (hk : W.heap[w.heap.size]? = some (.cells #[.int .i64 V, sl] 30 (0, 0)))
    (hr : W.heap[w.heap.size + 1]? = some (.cells #[.int .i64 0, .slice none 0 0] 30 (0, 0))) :
    OutW w ((W.alloc (.cells #[.int .i64 V, .slice (some ⟨W.heap.size + 1, 0, none⟩) 0 0] 30)).alloc (.cells #[] 2)) V sl W.heap.size [] (some ⟨W.heap.size + 1, 0, none⟩) 0 where
  below := (hB.alloc hB.size _).alloc (by have := hB.size; simp; omega) _
  kbox := (Below.heap_alloc _ _ _ (by have := lt_get hk; simp; omega)).trans ((Below.heap_alloc _ _ _ (lt_get hk)).trans hk)
  res := (Below.heap_alloc _ _ _ (by have := lt_get hr; simp; omega)).trans ((Below.heap_alloc _ _ _ (lt_get hr)).trans hr)
  out := (Below.heap_alloc _ _ _ (by simp)).trans (heap_alloc_new W _)
  own := by
    have h := World.ownsRow_made (base := w.heap.size) (e := 2) (size := 1) (W.alloc (.cells #[.int .i64 V, .slice (some ⟨W.heap.size + 1, 0, none⟩) 0 0] 30)) #[] 0 (by have := hB.size; simp; omega) (by simp [maxLen]) rfl
    rw [World.size_alloc] at h
    exact h
  bo := by have := lt_get hr; omega

/-- .. where nothing is put in it yet. -/
theorem outW_start0 {w W : World} {V : Int} {sl : Value} (hB : Below w.heap.size w W) (hk : W.heap[w.heap.size]? = some (.cells #[.int .i64 V, sl] 30 (0, 0)))
    (hr : W.heap[w.heap.size + 1]? = some (.cells #[.int .i64 0, .slice none 0 0] 30 (0, 0))) :
    OutW w (W.alloc (.cells #[.int .i64 V, .slice none 0 0] 30)) V sl W.heap.size [] none 0 where
  below := hB.alloc hB.size _
  kbox := (Below.heap_alloc _ _ _ (lt_get hk)).trans hk
  res := (Below.heap_alloc _ _ _ (lt_get hr)).trans hr
  out := heap_alloc_new W _
  own := World.ownsRow_nil _ _ _ _
  bo := by have := lt_get hr; omega



end Go.Proofs.Ytgcpakhagbbiiaa

/-! The complex made by some sets: the model's; ComplexOf. -/
namespace Go.Proofs.Ytgcpakhagbbiiaa
open Go.RowKit Go.Shelf

/-- What the model's loops keep of the world while they build a complex in block Bo, nothing being boxed. -/
structure OutN (w W : World) (V : Int) (Bo : Nat) (xs : List Int) (a : Option Addr) (c : Nat) : Prop where
  below : Below w.heap.size w W
  res : W.heap[w.heap.size]? = some (.cells #[.int .i64 0, .slice none 0 0] 30 (0, 0))
  out : W.heap[Bo]? = some (.cells #[.int .i64 V, .slice a xs.length c] 30 (0, 0))
  own : W.ownsRow w.heap.size 2 1 (.slice a xs.length c) xs.length (xs.map (Value.int .i64))
  bo : w.heap.size < Bo

theorem OutN.drewN {w W : World} {V : Int} {Bo : Nat} {xs : List Int} {a : Option Addr} {c : Nat} (h : OutN w W V Bo xs a c) (n : Nat) : OutN w (W.drewN n) V Bo xs a c :=
  ⟨⟨h.below.os, h.below.tape, h.below.output, h.below.size, h.below.block⟩, h.res, h.out, h.own, h.bo⟩

theorem OutN.step {w W w2 : World} {V : Int} {Bo : Nat} {xs : List Int} {a : Option Addr} {c : Nat} (h : OutN w W V Bo xs a c) {x : Int} {g cap : Nat} {o : Obj}
    (hown : w2.ownsRow w.heap.size 2 1 (.slice (some ⟨g, 0, none⟩) (xs ++ [x]).length cap) (xs ++ [x]).length ((xs ++ [x]).map (Value.int .i64))) (hg : (W.alloc o).grownBy w2 (Value.ownBlock (.slice a xs.length c))) :
    OutN w (w2.setCell ⟨Bo, 1, none⟩ (.slice (some ⟨g, 0, none⟩) (xs ++ [x]).length cap)) V Bo (xs ++ [x]) (some ⟨g, 0, none⟩) cap := by
  have hgr : W.grownBy w2 (Value.ownBlock (.slice a xs.length c)) := (World.grownBy_alloc W o _).trans hg
  have hbo := h.bo
  have r2 := (hgr.block _ (lt_get h.res) (row_ne h.own h.res (by decide))).trans h.res
  have o2 := (hgr.block _ (lt_get h.out) (row_ne h.own h.out (by decide))).trans h.out
  refine ⟨?_, ?_, ?_, ?_, h.bo⟩
  · exact (h.below.grown hgr h.below.size (fun k hk => (h.own.lt k hk).1)).setCell (p := ⟨Bo, 1, none⟩) (by simp only; omega) _
  · exact (Below.heap_setCell _ _ _ _ (by simp only; omega)).trans r2
  · simp only [World.setCell, Array.getElem?_modify, o2]
    simp
  · exact ownsRow_set hown (by
      have := row_ne hown o2 (by decide)
      exact fun e => this e.symm) _

theorem OutN.done {w W : World} {V : Int} {Bo : Nat} {xs : List Int} {a : Option Addr} {c : Nat} (h : OutN w W V Bo xs a c) (u v : Value) :
    Res w ((W.setCell ⟨w.heap.size, 0, none⟩ u).setCell ⟨w.heap.size, 1, none⟩ v) (.slice a xs.length c) xs := by
  have hn := row_ne h.own h.res (by decide)
  exact ⟨ownsRow_set (ownsRow_set h.own (fun e => hn e.symm) _) (fun e => hn e.symm) _, (h.below.setCell (p := ⟨w.heap.size, 0, none⟩) (by simp) _).setCell (p := ⟨w.heap.size, 1, none⟩) (by simp) _⟩

theorem OutN.mid {w W w2 : World} {V : Int} {Bo : Nat} {xs : List Int} {a : Option Addr} {c : Nat} (h : OutN w W V Bo xs a c) {o : Obj} (hg : (W.alloc o).grownBy w2 (Value.ownBlock (.slice a xs.length c))) :
    w2.cell? ⟨Bo, 1, none⟩ = some (.slice a xs.length c) ∧ w2.frozen? ⟨Bo, 1, none⟩ = false := by
  have hgr : W.grownBy w2 (Value.ownBlock (.slice a xs.length c)) := (World.grownBy_alloc _ o _).trans hg
  have o2 := (hgr.block _ (lt_get h.out) (row_ne h.own h.out (by decide))).trans h.out
  constructor <;> simp [World.cell?, World.frozen?, o2]

theorem OutN.start {w : World} {V : Int} : OutN w (((w.alloc (.cells #[.int .i64 0, .slice none 0 0] 30)).alloc (.cells #[] 2)).alloc (.cells #[.int .i64 V, .slice (some ⟨w.heap.size + 1, 0, none⟩) 0 0] 30)) V (w.heap.size + 1 + 1) [] (some ⟨w.heap.size + 1, 0, none⟩) 0 where
  below := (((Below.refl _ w).alloc (Nat.le_refl _) _).alloc (by simp) _).alloc (by simp <;> omega) _
  res := (Below.heap_alloc _ _ _ (by simp; omega)).trans ((Below.heap_alloc _ _ _ (by simp)).trans (heap_alloc_new _ _))
  out := new3 _ _ _ _
  own := by
    have h := World.ownsRow_made (base := w.heap.size) (e := 2) (size := 1) (w.alloc (.cells #[.int .i64 0, .slice none 0 0] 30)) #[] 0 (by simp) (by simp [maxLen]) rfl
    rw [World.size_alloc] at h
    exact h.alloc _
  bo := by omega

theorem madeP_take {xs : List Int} {f j : Nat} (hj : j < xs.length) (h : (xs.take j).any (fun s => decide ((f : Int).toNat &&& s.toNat = (f : Int).toNat)) = false) (c : Bool) (hc : decide (f &&& (xs[j]?.getD 0).toNat = f) = c) :
    (xs.take (j + 1)).any (fun s => decide ((f : Int).toNat &&& s.toNat = (f : Int).toNat)) = c := by
  rw [take_snoc hj, List.any_append, h]
  simpa using hc

theorem madeP_yes {xs : List Int} {f j : Nat} (hj : j < xs.length) (hc : f &&& (xs[j]?.getD 0).toNat = f) : madeP xs (f : Int) = true := by
  unfold madeP
  rw [List.any_eq_true]
  exact ⟨_, getD_mem hj, by simpa using hc⟩

set_option maxRecDepth 100000 in
set_option maxHeartbeats 4000000 in
theorem madeS_any (V : Int) (a0 : Option Addr) (cap : Nat) (xs : List Int) (w : World) (hx : SlI w w.heap.size a0 xs) (hl : xs.length ≤ 1048576) (h1 : 1 ≤ V) (h2 : V ≤ 6) (hr : ∀ x ∈ xs, 1 ≤ x ∧ x ≤ 63) :
    Calls Try.prog 173 #[.int .i64 V, .slice a0 xs.length cap] w fun e w' => ∃ v, e = .returned (.agg #[.int .i64 V, v]) ∧ Res w w' v (madeL V xs) := by
  obtain ⟨A, hA, hA1, hA2⟩ := allV_nat h1 h2
  have Hx := hid hx
  have HA := hid hA
  have Hf := hid hr
  have Hall : Hid (∀ W, Calls Try.prog 95 #[.int .i64 V] W fun e w' => e = .returned (.int .i64 (A : Int)) ∧ W = w') := hid (fun W => by rw [hA]; exact all_any V W (by omega) h2)
  clear hx hA hr
  go_enter Try.func173, Try.ntmps173
  go_wp2_with fail
  go_loopw [6] (fun i wr => ∃ (k : Nat) (a : Option Addr) (c : Nat), k ≤ A ∧ i = .int .i64 ((k : Int) + 1) ∧ OutN w wr V (w.heap.size + 1 + 1) (pickTo (madeP xs) k) a c) (fun i _ => A + 1 - (RowKit.intOf i).toNat)
  case atStart => exact ⟨0, some ⟨w.heap.size + 1, 0, none⟩, 0, Nat.zero_le _, rfl, OutN.start⟩
  case round =>
    obtain ⟨k, a, c, hk, rfl, hW⟩ := hrel
    have HW := hid hW
    obtain ⟨o0, o1, f0, f1⟩ := two_of hW.out
    have hbs := hW.below.size
    have hlen := pickTo_len (madeP xs) k
    clear hW
    by_cases hlt : k < A
    · have hd : decide ((k : Int) + 1 ≤ (A : Int)) = true := decide_eq_true (by omega)
      have Hs : Hid (∀ b : Bool, madeP xs ((k : Int) + 1) = b → pickTo (madeP xs) (k + 1) = pickTo (madeP xs) k ++ (if b then [(k : Int) + 1] else [])) := hid (fun b hb => by rw [← hb]; rfl)
      go_wp2_with fail
      refine (Hall.out _).mono ?_
      rintro e w1 ⟨rfl, rfl⟩
      go_wp2_with fail
      go_loop [7] (fun i => ∃ j : Nat, j ≤ xs.length ∧ i = .int .i64 j ∧ Hid ((xs.take j).any (fun s => decide (((k + 1 : Nat) : Int).toNat &&& s.toNat = ((k + 1 : Nat) : Int).toNat)) = false)) (fun i => xs.length - (RowKit.intOf i).toNat)
      case atStart => exact ⟨0, Nat.zero_le _, rfl, hid (by simp)⟩
      case round =>
        obtain ⟨j, hj, rfl, Hj⟩ := hrel
        by_cases hjl : j < xs.length
        · obtain ⟨b, off, hb, rfl, hc⟩ : ∃ b off, b < w.heap.size ∧ a0 = some ⟨b, off, none⟩ ∧ ∀ i, i < xs.length → w.cell? ⟨b, off + i, none⟩ = some (.int .i64 (xs[i]?.getD 0)) := by
            rcases Hx.out with rfl | h
            · simp at hjl
            · exact h
          have Hc := hid hc
          clear hc
          obtain ⟨x, hx⟩ : ∃ x : Nat, (x : Int) = xs[j]?.getD 0 := ⟨(xs[j]?.getD 0).toNat, by have := Hf.out _ (getD_mem hjl); omega⟩
          have hx64 : x < 64 := by have := Hf.out _ (getD_mem hjl); omega
          have hck : wr.cell? ⟨b, off + j, none⟩ = some (.int .i64 (x : Int)) := by rw [hx]; exact (HW.out.below.cell (p := ⟨b, off + j, none⟩) hb).trans (Hc.out j hjl)
          have hi0 : (0 : Int) ≤ (j : Int) := by omega
          have hi1 : (j : Int) < (xs.length : Int) := by omega
          have hxn : (xs[j]?.getD 0).toNat = x := by omega
          have hbits : bits BinOp.and IntKind.i64 ((k : Int) + 1) (x : Int) = (((k + 1) &&& x : Nat) : Int) := (bits_nat .i64 6 (by decide) (fun n h0 h1 => by rw [IntKind.wrap_i64]; omega) (k + 1) x (by omega) (by omega)).1
          have Hxn := hid hxn
          clear hx hxn
          by_cases hp : (k + 1) &&& x = k + 1
          · have hd2 : ((((k + 1) &&& x : Nat) : Int) == (k : Int) + 1) = true := by rw [hp]; simp
            have HP := hid ((Hs.out true (madeP_yes (f := k + 1) hjl (by rw [Hxn.out]; exact hp))).trans (by rw [if_pos rfl]))
            clear hp Hs Hj
            go_wp2_with (at_builtin; refine plain_append_new rfl rfl HW.out.own (by rfl) hbs (by omega) (by rfl) (by rfl) ?_; intro g cp w2 hown2 hgrow2; obtain ⟨o12, o22⟩ := HW.out.mid hgrow2)
            go_roundw
            case rel => exact ⟨k + 1, some ⟨g, 0, none⟩, cp, by omega, by go_num, by rw [HP.out]; simpa using HW.out.step hown2 hgrow2⟩
            case measure => simp [RowKit.intOf]; omega
          · have hd2 : ((((k + 1) &&& x : Nat) : Int) == (k : Int) + 1) = false := by simp; omega
            have He := hid (madeP_take (f := k + 1) hjl Hj.out false (by rw [Hxn.out]; exact decide_eq_false hp))
            clear hp Hs
            go_wp2_with fail
            go_round
            case rel => exact ⟨j + 1, by omega, by go_num, He.out⟩
            case measure => simp [RowKit.intOf]; omega
        · have hjn : j = xs.length := by omega
          have HP := hid (Hs.out false (by have h := Hj.out; rw [hjn, List.take_length] at h; exact h))
          go_wp2_with fail
          go_roundw
          case rel => exact ⟨k + 1, a, c, by omega, by go_num, by rw [HP.out, if_neg (by decide), List.append_nil]; exact HW.out⟩
          case measure => simp [RowKit.intOf]; omega
    · have hd : decide ((k : Int) + 1 ≤ (A : Int)) = false := decide_eq_false (by omega)
      have HE : Hid (pickTo (madeP xs) k = madeL V xs) := hid (by unfold madeL; rw [← HA.out, Int.toNat_natCast, show A = k by omega])
      obtain ⟨r0, r1, g0, g1⟩ := two_of HW.out.res
      go_wp2_with fail
      refine (Hall.out _).mono ?_
      rintro e w1 ⟨rfl, rfl⟩
      go_wp2_with fail
      (try simp only [Exit.inBlock, Exit.then])
      have R2 := two_of (two_set HW.out.res (.int .i64 V) (.slice a (pickTo (madeP xs) k).length c))
      refine done_cx1 (p := 4) (by kernel_rfl) rfl rfl R2.1 R2.2.1 ⟨_, rfl, ?_⟩
      rw [← HE.out]
      exact HW.out.done _ _

/-- What ComplexOf hands back. -/
def setsOk (V : Int) (xs : List Int) : Bool := xs.all fun x => decide (1 ≤ x) && decide (x ≤ allV V)
def complexOfR (V : Int) (xs : List Int) : Int × List Int × Int := if 1 ≤ V ∧ V ≤ 6 then (if xs.length ≤ 64 then (if setsOk V xs = true then (V, madeL V xs, 0) else (0, [], 2)) else (0, [], 2)) else (0, [], 2)

theorem complexOfR_len (V : Int) (xs : List Int) (_ : xs.length ≤ 1048576) : (complexOfR V xs).2.1.length ≤ 1048576 := by
  unfold complexOfR
  split
  · next h =>
    split
    · split
      · have h1 := allV_le h.2
        have h2 := pickTo_len (madeP xs) (allV V).toNat
        show (madeL V xs).length ≤ 1048576
        unfold madeL
        omega
      · simp
    · simp
  · simp

theorem setsOk_iff {V : Int} {xs : List Int} : setsOk V xs = true ↔ ∀ x ∈ xs, 1 ≤ x ∧ x ≤ allV V := by
  unfold setsOk
  rw [List.all_eq_true]
  simp

theorem bad_end {fn : Func} {a : Act} {w W : World} {p u : Tmp} {V : Int} {xs : List Int} (hR : complexOfR V xs = (0, [], 2)) (hr : fn.results = #[.cell p 30, .tmp u]) (hd : a.defers = []) (hp : a.tmps.getD p undef = .pointer (some ⟨w.heap.size, 0, none⟩)) (hu : a.tmps.getD u undef = .int .i64 2)
    (hb : W.heap[w.heap.size]? = some (.cells #[.int .i64 0, .slice none 0 0] 30 (0, 0))) (hB : Below w.heap.size w W) :
    bodyPost Try.prog fn (fun e w' => ∃ v, e = .returned (.tuple #[.agg #[.int .i64 (complexOfR V xs).1, v], .int .i64 (complexOfR V xs).2.2]) ∧ Res w w' v (complexOfR V xs).2.1) .ret a ((W.setCell ⟨w.heap.size, 0, none⟩ (.int .i64 0)).setCell ⟨w.heap.size, 1, none⟩ (.slice none 0 0)) := by
  rw [hR]
  have R3 := two_of (two_set hb (.int .i64 0) (.slice none 0 0))
  exact done_cx hr hd hp R3.1 R3.2.1 hu ⟨_, rfl, (res_nil _ _ hB).set2 hb (by decide) (Nat.le_refl _) _ _⟩


end Go.Proofs.Ytgcpakhagbbiiaa

/-! slices.Reverse at []int64. -/
namespace Go.Proofs.Ytgcpakhagbbiiaa
open Go.RowKit Go.Lib Go.Sort

set_option maxHeartbeats 1600000 in
set_option maxRecDepth 1000000 in
theorem rev_arr (blk off cap : Nat) (d : Array Int) (w : World) (hH : Holds encI w blk off d) (hsz : d.size ≤ 9223372036854775807) :
    Calls Try.prog 242 #[.slice (some ⟨blk, off, none⟩) d.size cap] w fun e w' => (∃ v, e = .returned v) ∧ ∃ n, w' = putRow encI (Sort.ahead w n) blk off d.reverse := by
  go_enter Try.func242, Try.ntmps242
  go_wp2
  go_loopg [2, 3] d.size (fun k s2 s3 wr => ∃ (i jn : Nat) (jz : Int) (dk : Array Int) (n : Nat), s2 = .int .i64 i ∧ s3 = .int .i64 jz ∧ ((i : Int) < jz → jz = jn ∧ jn < d.size) ∧ (¬ (i : Int) < jz → ¬ i < jn) ∧ jn - i ≤ k ∧
    dk.size = d.size ∧ wr = putRow encI (Sort.ahead w n) blk off dk ∧ reverseLoop i jn dk = reverseLoop 0 (d.size - 1) d)
  case atStart => exact ⟨0, d.size - 1, (d.size : Int) - 1, d, 0, rfl, rfl, fun h => ⟨by omega, by omega⟩, fun h => by omega, by omega, rfl, (putRow_self encI w blk off d hH).symm, rfl⟩
  case round =>
    obtain ⟨i, jn, jz, dk, n, rfl, rfl, h1, h2, hk, hds, hwr, heq⟩ := hrel
    by_cases hlt : (i : Int) < jz
    · obtain ⟨rfl, hjn⟩ := h1 hlt
      have hij : i < jn := by omega
      have hHk : Holds encI wr blk off dk := by rw [hwr]; exact holds_putRow encI _ blk off d dk (holds_ahead encI w n blk off d hH) hds
      obtain ⟨ci, fi⟩ := hHk i (by omega)
      obtain ⟨cj, fj⟩ := hHk jn (by omega)
      have A : Aside (wr = putRow encI (Sort.ahead w n) blk off dk) := hwr
      clear hwr hHk hH h1 h2
      go_wp2_with fail
      go_region
      go_wp2
      go_roundg (jn - 1 - (i + 1))
      case measure => omega
      case rel =>
        rw [reverseLoop, if_pos hij] at heq
        exact ⟨i + 1, jn - 1, (jn : Int) - 1, swp dk i jn, n + 1, by simp, rfl, fun h => ⟨by omega, by omega⟩, fun h => by omega, Nat.le_refl _, by rw [size_swp]; exact hds,
          swap_world encI (by omega) (by omega) A.out (by first | rfl | simp [encI, getElem!_pos, show jn < dk.size by omega]) (by first | rfl | simp [encI, getElem!_pos, show i < dk.size by omega]), heq⟩
    · have hnot := h2 hlt
      go_wp2
      go_end0
      refine ⟨⟨_, rfl⟩, n, ?_⟩
      rw [reverseLoop, if_neg hnot] at heq
      rw [← Lib.reverseLoop_reverse, ← heq]

theorem rev_empty (a : Option Addr) (cap : Nat) (w : World) :
    Calls Try.prog 242 #[.slice a 0 cap] w fun e w' => (∃ v, e = .returned v) ∧ w' = w := by
  go_enter Try.func242, Try.ntmps242
  go_wp2
  refine wp_loop_rounds 1 ?_; rw [rounds_succ]
  go_wp2
  go_end0
  exact ⟨⟨_, rfl⟩, rfl⟩

end Go.Proofs.Ytgcpakhagbbiiaa

/-! RenumberComplex, on both sides. -/
namespace Go.Proofs.Ytgcpakhagbbiiaa
open Go.RowKit
open Go.Sort hiding Below

theorem imgL_snoc (p fs : List Int) {k : Nat} (hk : k < fs.length) : imgL p (fs.take (k + 1)) = imgL p (fs.take k) ++ [((moved p (fs[k]?.getD 0).toNat : Nat) : Int)] := by
  unfold imgL
  rw [take_snoc hk, List.map_append]
  rfl
theorem imgL_len (p fs : List Int) (k : Nat) : (imgL p (fs.take k)).length ≤ fs.length := by
  unfold imgL
  simp
  omega
theorem isR_small {p : List Int} {V : Int} (h : IsR p V) (h2 : V ≤ 6) : (∀ x ∈ p, 0 ≤ x ∧ x < 6) ∧ p.length ≤ 6 := ⟨fun x hx => by have := h.rng x hx; omega, by have := h.len; omega⟩

/-- What RenumberComplex answers. -/
noncomputable def renumR (V : Int) (fs p : List Int) : Int × List Int × Int := if isCB V fs then (if isRB p V then (V, madeL V (imgL p fs), 0) else (0, [], 2)) else (0, [], 1)
theorem renumR_len (V : Int) (fs p : List Int) (_h : fs.length ≤ 1048576) (_h2 : p.length ≤ 1048576) : (renumR V fs p).2.1.length ≤ 1048576 := by
  unfold renumR
  split
  · rename_i hc
    have hC := isCB_iff.1 hc
    split
    · show (madeL V (imgL p fs)).length ≤ _
      unfold madeL
      have h1 := pickTo_len (madeP (imgL p fs)) (allV V).toNat
      have h2 := allV_le hC.hi
      omega
    · simp
  · simp

set_option maxRecDepth 100000 in
set_option maxHeartbeats 4000000 in
theorem renamedS_any (V : Int) (a0 : Option Addr) (cap : Nat) (fs : List Int) (a1 : Option Addr) (cap1 : Nat) (p : List Int) (w : World) (hx : SlI w w.heap.size a0 fs) (hx1 : SlI w w.heap.size a1 p) (hC : IsC V fs) (hR : IsR p V) :
    Calls Try.prog 102 #[.agg #[.int .i64 V, .slice a0 fs.length cap], .slice a1 p.length cap1] w fun e w' => ∃ v, e = .returned (.agg #[.int .i64 V, v]) ∧ Res w w' v (madeL V (imgL p fs)) := by
  have h63 := hC.len63
  have Hrg := hid hC.range63
  have hlo := hC.lo
  have hhi := hC.hi
  have Hp := hid (isR_small hR hC.hi)
  have Himg := hid (fun x (h : x ∈ imgL p fs) => img_rng hC hR h)
  have hav := allV_le hC.hi
  obtain ⟨W0, hW0⟩ : ∃ W0, W0 = (w.alloc (.cells #[.int .i64 V, .slice a0 fs.length cap] 30)).alloc (.cells #[.int .i64 0, .slice none 0 0] 30) := ⟨_, rfl⟩
  have hB0 : Below w.heap.size w W0 := by rw [hW0]; exact ((Below.refl _ w).alloc (Nat.le_refl _) _).alloc (by simp) _
  have hs0 : W0.heap.size = w.heap.size + 2 := by rw [hW0]; simp
  have Hk : Hid (W0.heap[w.heap.size]? = some (.cells #[.int .i64 V, .slice a0 fs.length cap] 30 (0, 0))) := hid (by rw [hW0]; exact (Below.heap_alloc _ _ _ (by simp)).trans (heap_alloc_new _ _))
  have Hr : Hid (W0.heap[w.heap.size + 1]? = some (.cells #[.int .i64 0, .slice none 0 0] 30 (0, 0))) := hid (by rw [hW0]; exact new2 _ _ _)
  have hown0 := World.ownsRow_made (base := W0.heap.size) (e := 2) (size := 1) W0 #[] 0 (by simp) (by simp [maxLen]) rfl
  have Hown0 := hid hown0
  have HB00 := hid ((Below.refl W0.heap.size W0).alloc (Nat.le_refl _) (.cells #[] 2))
  have Hx := hid hx
  have Hy := hid hx1
  have HB0 := hid hB0
  clear hx hx1 hC hR hB0 hown0
  go_enter Try.func102, Try.ntmps102
  go_wp2_with fail
  rw [← hW0]
  rw [← hs0]
  have Hs0 := hid hs0
  clear hW0 hs0
  go_loopw [5, 6] (fun ov iv wx => ∃ (k : Nat) (v : Value), k ≤ fs.length ∧ ov = v ∧ iv = .int .i64 k ∧ Hid (wx.ownsRow W0.heap.size 2 1 v (imgL p (fs.take k)).length ((imgL p (fs.take k)).map (Value.int .i64))) ∧ Hid (Below W0.heap.size W0 wx)) (fun _ iv _ => fs.length - (intOf iv).toNat)
  case atStart => exact ⟨0, _, Nat.zero_le _, rfl, rfl, Hown0, HB00⟩
  case round =>
    clear Hown0 HB00
    obtain ⟨k, v, hk, rfl, rfl, HO, HB⟩ := hrel
    have hsz := HB.out.size
    obtain ⟨k0, k1, _, _⟩ := two_of ((HB.out.block _ (lt_of_get Hk.out)).trans Hk.out)
    by_cases hlt : k < fs.length
    · obtain ⟨b, off, hb, rfl, hc⟩ : ∃ b off, b < w.heap.size ∧ a0 = some ⟨b, off, none⟩ ∧ ∀ i, i < fs.length → w.cell? ⟨b, off + i, none⟩ = some (.int .i64 (fs[i]?.getD 0)) := by
        rcases Hx.out with h | h
        · rw [h] at hlt; simp at hlt
        · exact h
      have hxr := Hrg.out _ (getD_mem hlt)
      obtain ⟨f, hf⟩ : ∃ f : Nat, (f : Int) = fs[k]?.getD 0 := ⟨(fs[k]?.getD 0).toNat, by omega⟩
      have hBw := HB0.out.trans (HB.out.mono (by have := Hs0.out; omega))
      have hck : wr.cell? ⟨b, off + k, none⟩ = some (.int .i64 (f : Int)) := by rw [hf]; exact (hBw.cell (p := ⟨b, off + k, none⟩) hb).trans (hc k hlt)
      have hsn := imgL_snoc p fs hlt
      rw [← hf, Int.toNat_natCast] at hsn
      have HM := hid (movedS_any f a1 cap1 p wr (Hy.out.later hBw hBw.size) (by omega) Hp.out.1 Hp.out.2)
      obtain ⟨m, hm⟩ : ∃ m, m = moved p f := ⟨_, rfl⟩
      obtain ⟨xs, hxs⟩ : ∃ xs, xs = imgL p (fs.take k) := ⟨_, rfl⟩
      have hxl : xs.length ≤ 63 := by rw [hxs]; have := imgL_len p fs k; omega
      rw [← hm] at hsn HM
      rw [← hxs] at hsn HO
      have Hsn := hid hsn
      have hi0 : (0 : Int) ≤ (k : Int) := by omega
      have hi1 : (k : Int) < (fs.length : Int) := by omega
      clear hc hf hsn hm hxs hBw
      go_wp2_with fail
      refine HM.out.mono ?_
      rintro e w2 ⟨rfl, rfl⟩
      go_wp2_with (at_builtin; refine append_int rfl rfl HO.out hsz (by omega) rfl rfl ?_; intro v' w4 hown4 hgrow4 hB4)
      have Hown4 := hid hown4
      have HB4 := hid (HB.out.trans (hB4.mono (Nat.le_refl _)))
      clear hown4 hgrow4 hB4
      go_wp2_with fail
      go_roundw
      case rel => exact ⟨k + 1, v', by omega, rfl, by go_num, hid (by rw [Hsn.out]; exact Hown4.out), HB4⟩
      case measure => simp [intOf]; omega
    · obtain rfl : k = fs.length := by omega
      rw [List.take_length] at HO
      obtain ⟨_, av, cv, rfl, hs⟩ := ownsRow_slI HO.out
      have hil : (imgL p fs).length ≤ 1048576 := by unfold imgL; simp; omega
      have HMd := hid (madeS_any V av cv (imgL p fs) wr hs hil hlo hhi (fun x hx => by have := Himg.out x hx; omega))
      have hk2 := (HB.out.block _ (lt_of_get Hr.out)).trans Hr.out
      have HK2 := hid hk2
      have HBw := hid (HB0.out.trans (HB.out.mono (by have := Hs0.out; omega)))
      clear hs hk2
      go_wp2_with fail
      refine HMd.out.mono ?_
      rintro e w5 ⟨u, rfl, hr⟩
      obtain ⟨_, au, cu, rfl, _⟩ := ownsRow_slI hr.1
      have k5 := (hr.2.block _ (lt_of_get HK2.out)).trans HK2.out
      obtain ⟨r0, r1, g0, g1⟩ := two_of k5
      have K5 := hid k5
      have HR5 := hid (hr.later HBw.out)
      clear k5 hr
      go_wp2_with fail
      (try simp only [Exit.inBlock, Exit.then])
      have R3 := two_of (two_set K5.out (.int .i64 V) (.slice au (madeL V (imgL p fs)).length cu))
      refine done_cx1 (p := 4) (by kernel_rfl) rfl rfl R3.1 R3.2.1 ⟨_, rfl, ?_⟩
      exact HR5.out.set2 K5.out (by decide) (by omega) _ _

/-- An error's answer. -/
theorem bad_ren {fn : Func} {a : Act} {w W : World} {p u : Tmp} {R : Int × List Int × Int} {c : Int} {b : Nat} (hR : R = (0, [], c)) (hr : fn.results = #[.cell p 30, .tmp u]) (hd : a.defers = []) (hp : a.tmps.getD p undef = .pointer (some ⟨b, 0, none⟩)) (hu : a.tmps.getD u undef = .int .i64 c)
    (hb : W.heap[b]? = some (.cells #[.int .i64 0, .slice none 0 0] 30 (0, 0))) (hB : Below w.heap.size w W) (hbw : w.heap.size ≤ b) :
    bodyPost Try.prog fn (fun e w' => ∃ v, e = .returned (.tuple #[.agg #[.int .i64 R.1, v], .int .i64 R.2.2]) ∧ Res w w' v R.2.1) .ret a ((W.setCell ⟨b, 0, none⟩ (.int .i64 0)).setCell ⟨b, 1, none⟩ (.slice none 0 0)) := by
  rw [hR]
  have R3 := two_of (two_set hb (.int .i64 0) (.slice none 0 0))
  exact done_cx hr hd hp R3.1 R3.2.1 hu ⟨_, rfl, (res_nil _ _ hB).set2 hb (by decide) hbw _ _⟩

set_option maxRecDepth 100000 in
set_option maxHeartbeats 4000000 in
theorem specRenumberComplex (V : Int) (a0 : Option Addr) (cap : Nat) (fs : List Int) (a1 : Option Addr) (cap1 : Nat) (p : List Int) (w : World) (hx : SlI w w.heap.size a0 fs) (hx1 : SlI w w.heap.size a1 p) (hl : fs.length ≤ 1048576) (hg : p.length ≤ 1048576) :
    Calls Try.prog 50 #[.agg #[.int .i64 V, .slice a0 fs.length cap], .slice a1 p.length cap1] w fun e w' => ∃ v, e = .returned (.tuple #[.agg #[.int .i64 (renumR V fs p).1, v], .int .i64 (renumR V fs p).2.2]) ∧ Res w w' v (renumR V fs p).2.1 := by
  obtain ⟨W0, hW0⟩ : ∃ W0, W0 = (w.alloc (.cells #[.int .i64 V, .slice a0 fs.length cap] 30)).alloc (.cells #[.int .i64 0, .slice none 0 0] 30) := ⟨_, rfl⟩
  have hB0 : Below w.heap.size w W0 := by rw [hW0]; exact ((Below.refl _ w).alloc (Nat.le_refl _) _).alloc (by simp) _
  have hs0 : W0.heap.size = w.heap.size + 2 := by rw [hW0]; simp
  have Hk : Hid (W0.heap[w.heap.size]? = some (.cells #[.int .i64 V, .slice a0 fs.length cap] 30 (0, 0))) := hid (by rw [hW0]; exact (Below.heap_alloc _ _ _ (by simp)).trans (heap_alloc_new _ _))
  have Hr : Hid (W0.heap[w.heap.size + 1]? = some (.cells #[.int .i64 0, .slice none 0 0] 30 (0, 0))) := hid (by rw [hW0]; exact new2 _ _ _)
  have Hx := hid hx
  have Hy := hid hx1
  have HB0 := hid hB0
  have HI := hid (is_all V a0 cap fs W0 (hx.later hB0 hB0.size) hl)
  rw [hW0] at HI
  clear hx hx1 hB0
  cases hc : isCB V fs
  · have HR : Hid (renumR V fs p = (0, [], 1)) := hid (by unfold renumR; rw [hc]; rfl)
    rw [hc] at HI
    clear hc
    go_enter Try.func50, Try.ntmps50
    go_wp2_with fail
    refine HI.out.mono ?_
    rintro e w1 ⟨rfl, hB1⟩
    rw [← hW0] at hB1
    have hr1 := (hB1.block _ (lt_of_get Hr.out)).trans Hr.out
    obtain ⟨r0, r1, g0, g1⟩ := two_of hr1
    have Hr1 := hid hr1
    have HB1 := hid (HB0.out.trans (hB1.mono HB0.out.size))
    clear hB1 hr1
    go_wp2_with fail
    (try simp only [Exit.inBlock, Exit.then])
    exact bad_ren (p := 4) (u := 5) HR.out (by kernel_rfl) rfl rfl rfl Hr1.out HB1.out (by omega)
  · have hC := isCB_iff.1 hc
    have hlo := hC.lo
    have hhi := hC.hi
    obtain ⟨vn, rfl⟩ : ∃ vn : Nat, V = (vn : Int) := ⟨V.toNat, by omega⟩
    rw [hc] at HI
    have HO := hid (fun W (h : Below w.heap.size w W) => renS_any a1 cap1 p vn W (Hy.out.later h h.size) hg (by omega))
    cases hrb : isRB p (vn : Int)
    · have HR : Hid (renumR vn fs p = (0, [], 2)) := hid (by unfold renumR; rw [hc, hrb]; rfl)
      rw [hrb] at HO
      clear hc hrb hC
      go_enter Try.func50, Try.ntmps50
      go_wp2_with fail
      refine HI.out.mono ?_
      rintro e w1 ⟨rfl, hB1⟩
      rw [← hW0] at hB1
      obtain ⟨k0, k1, _, _⟩ := two_of ((hB1.block _ (lt_of_get Hk.out)).trans Hk.out)
      have Hr1 := hid ((hB1.block _ (lt_of_get Hr.out)).trans Hr.out)
      have HB1 := hid (HB0.out.trans (hB1.mono HB0.out.size))
      clear hB1
      go_wp2_with fail
      refine (HO.out w1 HB1.out).mono ?_
      rintro e w2 ⟨rfl, hB2⟩
      have hr2 := (hB2.block _ (lt_of_get Hr1.out)).trans Hr1.out
      obtain ⟨r0, r1, g0, g1⟩ := two_of hr2
      have Hr2 := hid hr2
      have HB2 := hid (HB1.out.trans (hB2.mono HB1.out.size))
      clear hB2 hr2
      go_wp2_with fail
      (try simp only [Exit.inBlock, Exit.then])
      exact bad_ren (p := 4) (u := 5) HR.out (by kernel_rfl) rfl rfl rfl Hr2.out HB2.out (by omega)
    · have hRn := isRB_iff.1 hrb
      have HR : Hid (renumR vn fs p = ((vn : Int), madeL vn (imgL p fs), 0)) := hid (by unfold renumR; rw [hc, hrb]; rfl)
      have HA := hid (fun W (h : Below w.heap.size w W) => renamedS_any vn a0 cap fs a1 cap1 p W (Hx.out.later h h.size) (Hy.out.later h h.size) hC hRn)
      rw [hrb] at HO
      clear hc hrb hC hRn
      go_enter Try.func50, Try.ntmps50
      go_wp2_with fail
      refine HI.out.mono ?_
      rintro e w1 ⟨rfl, hB1⟩
      rw [← hW0] at hB1
      have Hk1 := hid ((hB1.block _ (lt_of_get Hk.out)).trans Hk.out)
      obtain ⟨k0, k1, _, _⟩ := two_of Hk1.out
      have Hr1 := hid ((hB1.block _ (lt_of_get Hr.out)).trans Hr.out)
      have HB1 := hid (HB0.out.trans (hB1.mono HB0.out.size))
      clear hB1
      go_wp2_with fail
      refine (HO.out w1 HB1.out).mono ?_
      rintro e w2 ⟨rfl, hB2⟩
      obtain ⟨k0, k1, _, _⟩ := two_of ((hB2.block _ (lt_of_get Hk1.out)).trans Hk1.out)
      have Hr2 := hid ((hB2.block _ (lt_of_get Hr1.out)).trans Hr1.out)
      have HB2 := hid (HB1.out.trans (hB2.mono HB1.out.size))
      clear hB2
      go_wp2_with fail
      refine (HA.out w2 HB2.out).mono ?_
      rintro e w3 ⟨v, rfl, hr⟩
      obtain ⟨_, av, cv, rfl, _⟩ := ownsRow_slI hr.1
      have hr3 := (hr.2.block _ (lt_of_get Hr2.out)).trans Hr2.out
      obtain ⟨r0, r1, g0, g1⟩ := two_of hr3
      have Hr3 := hid hr3
      have HRs := hid (hr.later HB2.out)
      clear hr3 hr
      go_wp2_with fail
      (try simp only [Exit.inBlock, Exit.then])
      rw [HR.out]
      have R3 := two_of (two_set Hr3.out (.int .i64 vn) (.slice av (madeL vn (imgL p fs)).length cv))
      exact done_cx (p := 4) (u := 5) (by kernel_rfl) rfl rfl R3.1 R3.2.1 rfl ⟨_, rfl, HRs.out.set2 Hr3.out (by decide) (by omega) _ _⟩

/-- slices.Sort on a list of the call's own. -/
theorem sort_ownL (base : Nat) (v : Value) (xs : List Int) (w : World) (hown : w.ownsRow base 2 1 v xs.length (xs.map (Value.int .i64))) (hl : xs.length ≤ 1048576) :
    Calls Try.prog 105 #[v] w fun e w' => (∃ u, e = .returned u) ∧ w'.ownsRow base 2 1 v (xs.mergeSort fun x y => decide (x ≤ y)).length ((xs.mergeSort fun x y => decide (x ≤ y)).map (Value.int .i64)) ∧ w.grownBy w' v.ownBlock := by
  rcases hown.2 with ⟨rfl, h0⟩ | ⟨g, cap, cur, rfl, hg, hh, h1, h2, h3, h4⟩
  · obtain rfl : xs = [] := List.eq_nil_of_length_eq_zero h0
    have h : Calls Try.prog 105 #[.slice none 0 0] w fun e w' => e = .returned (.tuple #[]) ∧ w' = w := AnyM.slices_Sort_int_none sortL none 0 w
    exact h.mono fun e w' ⟨hv, hw⟩ => ⟨⟨_, hv⟩, by rw [hw, List.mergeSort_nil]; exact World.ownsRow_nil _ _ _ _, by rw [hw]; exact ⟨rfl, rfl, rfl, Nat.le_refl _, fun _ _ _ => rfl⟩⟩
  · have hH := holds_of_blockI hh (by simpa using h4)
    have hlen : (xs.mergeSort fun x y => decide (x ≤ y)).length = xs.length := List.length_mergeSort ..
    have h : Calls Try.prog 105 #[.slice (some ⟨g, 0, none⟩) xs.length cap] w fun e w' => e = .returned (.tuple #[]) ∧ ∃ n os, w' = Go.Sort.grow (putRow (Value.int .i64) (Sort.ahead w n) g 0 (xs.mergeSort fun x y => decide (x ≤ y)).toArray) os := AnyM.slices_Sort_int sortL g 0 cap xs w hH (lt_of_get hh) (by omega)
    refine h.mono fun e w' ⟨hv, m, os, hw⟩ => ⟨⟨_, hv⟩, ?_, ?_⟩
    · have h := ownsRow_sortedI (n := m) (os := os) (ss := xs) (ts := xs.mergeSort fun x y => decide (x ≤ y)) hlen hg hh h1 h2 h3
      rw [hw, hlen]
      exact h
    · have h := grownBy_sortedI (w := w) (g := g) (n := m) (os := os) (xs.mergeSort fun x y => decide (x ≤ y)).toArray
      rw [hw]
      exact h

set_option maxRecDepth 100000 in
set_option maxHeartbeats 4000000 in
theorem implRenumberComplex (V : Int) (a0 : Option Addr) (cap : Nat) (fs : List Int) (a1 : Option Addr) (cap1 : Nat) (p : List Int) (w : World) (hx : SlI w w.heap.size a0 fs) (hx1 : SlI w w.heap.size a1 p) (hl : fs.length ≤ 1048576) (hg : p.length ≤ 1048576) :
    Calls Try.prog 51 #[.agg #[.int .i64 V, .slice a0 fs.length cap], .slice a1 p.length cap1] w fun e w' => ∃ v, e = .returned (.tuple #[.agg #[.int .i64 (renumR V fs p).1, v], .int .i64 (renumR V fs p).2.2]) ∧ Res w w' v (renumR V fs p).2.1 := by
  obtain ⟨W0, hW0⟩ : ∃ W0, W0 = (w.alloc (.cells #[.int .i64 V, .slice a0 fs.length cap] 30)).alloc (.cells #[.int .i64 0, .slice none 0 0] 30) := ⟨_, rfl⟩
  have hB0 : Below w.heap.size w W0 := by rw [hW0]; exact ((Below.refl _ w).alloc (Nat.le_refl _) _).alloc (by simp) _
  have hs0 : W0.heap.size = w.heap.size + 2 := by rw [hW0]; simp
  have Hk : Hid (W0.heap[w.heap.size]? = some (.cells #[.int .i64 V, .slice a0 fs.length cap] 30 (0, 0))) := hid (by rw [hW0]; exact (Below.heap_alloc _ _ _ (by simp)).trans (heap_alloc_new _ _))
  have Hr : Hid (W0.heap[w.heap.size + 1]? = some (.cells #[.int .i64 0, .slice none 0 0] 30 (0, 0))) := hid (by rw [hW0]; exact new2 _ _ _)
  have Hx := hid hx
  have Hy := hid hx1
  have HB0 := hid hB0
  have HI := hid (implIsComplex V a0 cap fs W0 (hx.later hB0 hB0.size) hl)
  rw [hW0] at HI
  clear hx hx1 hB0
  cases hc : isCB V fs
  · have HR : Hid (renumR V fs p = (0, [], 1)) := hid (by unfold renumR; rw [hc]; rfl)
    rw [hc] at HI
    clear hc
    go_enter Try.func51, Try.ntmps51
    go_wp2_with fail
    refine HI.out.mono ?_
    rintro e w1 ⟨rfl, hB1⟩
    rw [← hW0] at hB1
    have hr1 := (hB1.block _ (lt_of_get Hr.out)).trans Hr.out
    obtain ⟨r0, r1, g0, g1⟩ := two_of hr1
    have Hr1 := hid hr1
    have HB1 := hid (HB0.out.trans (hB1.mono HB0.out.size))
    clear hB1 hr1
    go_wp2_with fail
    (try simp only [Exit.inBlock, Exit.then])
    exact bad_ren (p := 4) (u := 5) HR.out (by kernel_rfl) rfl rfl rfl Hr1.out HB1.out (by omega)
  · have hC := isCB_iff.1 hc
    have hlo := hC.lo
    have hhi := hC.hi
    have HO := hid (fun W (h : Below w.heap.size w W) => renI_any a1 cap1 p V W (Hy.out.later h h.size) hg ⟨hlo, hhi⟩)
    rw [hc] at HI
    cases hrb : isRB p V
    · have HR : Hid (renumR V fs p = (0, [], 2)) := hid (by unfold renumR; rw [hc, hrb]; rfl)
      rw [hrb] at HO
      clear hc hrb hC
      go_enter Try.func51, Try.ntmps51
      go_wp2_with fail
      refine HI.out.mono ?_
      rintro e w1 ⟨rfl, hB1⟩
      rw [← hW0] at hB1
      obtain ⟨k0, k1, _, _⟩ := two_of ((hB1.block _ (lt_of_get Hk.out)).trans Hk.out)
      have Hr1 := hid ((hB1.block _ (lt_of_get Hr.out)).trans Hr.out)
      have HB1 := hid (HB0.out.trans (hB1.mono HB0.out.size))
      clear hB1
      go_wp2_with fail
      refine (HO.out w1 HB1.out).mono ?_
      rintro e w2 ⟨rfl, hB2⟩
      have hr2 := (hB2.block _ (lt_of_get Hr1.out)).trans Hr1.out
      obtain ⟨r0, r1, g0, g1⟩ := two_of hr2
      have Hr2 := hid hr2
      have HB2 := hid (HB1.out.trans (hB2.mono HB1.out.size))
      clear hB2 hr2
      go_wp2_with fail
      (try simp only [Exit.inBlock, Exit.then])
      exact bad_ren (p := 4) (u := 5) HR.out (by kernel_rfl) rfl rfl rfl Hr2.out HB2.out (by omega)
    · have hRn := isRB_iff.1 hrb
      have HR : Hid (renumR V fs p = (V, madeL V (imgL p fs), 0)) := hid (by unfold renumR; rw [hc, hrb]; rfl)
      have Hsort := hid (img_sort hC hRn)
      have Hrg := hid hC.range63
      have Hp := hid (isR_small hRn hC.hi)
      have h63 := hC.len63
      rw [hrb] at HO
      clear hc hrb hC hRn
      go_enter Try.func51, Try.ntmps51
      go_wp2_with fail
      refine HI.out.mono ?_
      rintro e w1 ⟨rfl, hB1⟩
      rw [← hW0] at hB1
      have Hk1 := hid ((hB1.block _ (lt_of_get Hk.out)).trans Hk.out)
      obtain ⟨k0, k1, _, _⟩ := two_of Hk1.out
      have Hr1 := hid ((hB1.block _ (lt_of_get Hr.out)).trans Hr.out)
      have HB1 := hid (HB0.out.trans (hB1.mono HB0.out.size))
      clear hB1
      go_wp2_with fail
      refine (HO.out w1 HB1.out).mono ?_
      rintro e w2 ⟨rfl, hB2⟩
      have Hk2 := hid ((hB2.block _ (lt_of_get Hk1.out)).trans Hk1.out)
      obtain ⟨k0, k1, _, _⟩ := two_of Hk2.out
      have Hr2 := hid ((hB2.block _ (lt_of_get Hr1.out)).trans Hr1.out)
      have HB2 := hid (HB1.out.trans (hB2.mono HB1.out.size))
      clear hB2
      go_wp2_with fail
      go_loopw [6, 22] (fun ov iv wx => ∃ (k : Nat) (v : Value), k ≤ fs.length ∧ ov = v ∧ iv = .int .i64 k ∧ Hid (wx.ownsRow w2.heap.size 2 1 v (imgL p (fs.take k)).length ((imgL p (fs.take k)).map (Value.int .i64))) ∧ Hid (Below w2.heap.size w2 wx)) (fun _ iv _ => fs.length - (intOf iv).toNat)
      case atStart => exact ⟨0, .slice none 0 0, Nat.zero_le _, rfl, rfl, hid (World.ownsRow_nil _ _ _ _), hid (Below.refl _ _)⟩
      case round =>
        obtain ⟨k, v, hk, rfl, rfl, HO2, HB⟩ := hrel
        have hsz := HB.out.size
        by_cases hlt : k < fs.length
        · obtain ⟨b, off, hb, rfl, hc⟩ : ∃ b off, b < w.heap.size ∧ a0 = some ⟨b, off, none⟩ ∧ ∀ i, i < fs.length → w.cell? ⟨b, off + i, none⟩ = some (.int .i64 (fs[i]?.getD 0)) := by
            rcases Hx.out with h | h
            · rw [h] at hlt; simp at hlt
            · exact h
          have hxr := Hrg.out _ (getD_mem hlt)
          obtain ⟨f, hf⟩ : ∃ f : Nat, (f : Int) = fs[k]?.getD 0 := ⟨(fs[k]?.getD 0).toNat, by omega⟩
          have hBw := HB2.out.trans (HB.out.mono HB2.out.size)
          have hck : wr.cell? ⟨b, off + k, none⟩ = some (.int .i64 (f : Int)) := by rw [hf]; exact (hBw.cell (p := ⟨b, off + k, none⟩) hb).trans (hc k hlt)
          have hsn := imgL_snoc p fs hlt
          rw [← hf, Int.toNat_natCast] at hsn
          have HM := hid (movedI_any f a1 cap1 p wr (Hy.out.later hBw hBw.size) (by omega) Hp.out.1 Hp.out.2)
          obtain ⟨m, hm⟩ : ∃ m, m = moved p f := ⟨_, rfl⟩
          obtain ⟨xs, hxs⟩ : ∃ xs, xs = imgL p (fs.take k) := ⟨_, rfl⟩
          have hxl : xs.length ≤ 63 := by rw [hxs]; have := imgL_len p fs k; omega
          rw [← hm] at hsn HM
          rw [← hxs] at hsn HO2
          have Hsn := hid hsn
          have hi0 : (0 : Int) ≤ (k : Int) := by omega
          have hi1 : (k : Int) < (fs.length : Int) := by omega
          clear hc hf hsn hm hxs hBw
          go_wp2_with fail
          refine HM.out.mono ?_
          rintro e w5 ⟨rfl, rfl⟩
          go_wp2_with (at_builtin; refine append_int rfl rfl HO2.out hsz (by omega) rfl rfl ?_; intro v' w4 hown4 hgrow4 hB4)
          have Hown4 := hid hown4
          have HB4 := hid (HB.out.trans (hB4.mono (Nat.le_refl _)))
          clear hown4 hgrow4 hB4
          go_wp2_with fail
          go_roundw
          case rel => exact ⟨k + 1, v', by omega, rfl, by go_num, hid (by rw [Hsn.out]; exact Hown4.out), HB4⟩
          case measure => simp [intOf]; omega
        · obtain rfl : k = fs.length := by omega
          rw [List.take_length] at HO2
          have hil : (imgL p fs).length ≤ 1048576 := by unfold imgL; simp; omega
          have HS := hid (sort_ownL _ _ (imgL p fs) wr HO2.out hil)
          rw [Hsort.out] at HS
          have Hk3 := hid ((HB.out.block _ (lt_of_get Hk2.out)).trans Hk2.out)
          have Hr3 := hid ((HB.out.block _ (lt_of_get Hr2.out)).trans Hr2.out)
          have HBw := hid (HB2.out.trans (HB.out.mono HB2.out.size))
          have Hoff := hid HO2.out.lt
          have hsz2 := HB2.out.size
          have hl1 := lt_of_get Hr2.out
          go_wp2_with fail
          refine HS.out.mono ?_
          rintro e w6 ⟨⟨u, rfl⟩, hown6, hg6⟩
          have hk6 := (hg6.block _ (lt_of_get Hk3.out) (fun e => by have := (Hoff.out _ e.symm).1; omega)).trans Hk3.out
          have hr6 := (hg6.block _ (lt_of_get Hr3.out) (fun e => by have := (Hoff.out _ e.symm).1; omega)).trans Hr3.out
          obtain ⟨k0, k1, _, _⟩ := two_of hk6
          obtain ⟨r0, r1, g0, g1⟩ := two_of hr6
          have Hr6 := hid hr6
          obtain ⟨_, av, cv, rfl, _⟩ := ownsRow_slI hown6
          have HRs := hid (show Res w w6 (.slice av (madeL V (imgL p fs)).length cv) (madeL V (imgL p fs)) from ⟨ownsRow_base hown6 hsz2, HBw.out.grown hg6 HBw.out.size (fun q e => by have := (Hoff.out q e).1; omega)⟩)
          clear hown6 hg6 hk6 hr6
          go_wp2_with fail
          (try simp only [Exit.inBlock, Exit.then])
          rw [HR.out]
          have R3 := two_of (two_set Hr6.out (.int .i64 V) (.slice av (madeL V (imgL p fs)).length cv))
          exact done_cx (p := 4) (u := 5) (by kernel_rfl) rfl rfl R3.1 R3.2.1 rfl ⟨_, rfl, HRs.out.set2 Hr6.out (by decide) (by omega) _ _⟩

end Go.Proofs.Ytgcpakhagbbiiaa

/-! The law on RenumberComplex, walked. -/
namespace Go.Proofs.Ytgcpakhagbbiiaa
open Go.RowKit

set_option maxRecDepth 100000 in
set_option maxHeartbeats 8000000 in
theorem law_RenumberComplex (V0 : Int) (a0 : Option Addr) (cap0 : Nat) (xs0 : List Int) (a1 : Option Addr) (cap1 : Nat) (gs1 : List Int) (w : World) (hx0 : SlI w w.heap.size a0 xs0) (hx1 : SlI w w.heap.size a1 gs1)  (hn0 : xs0.length ≤ 9223372036854775807)  :
    Calls Try.prog 12 #[.agg #[.int .i64 V0, .slice a0 xs0.length cap0], .slice a1 gs1.length cap1] w fun e w' => e = .returned (.bool true) ∧ Below w.heap.size w w' := by
  have F0 : Book w w [(a0, xs0), (a1, gs1)] [] [] := ⟨Below.refl _ _, by simp; exact ⟨hx0, hx1⟩, by simp, by simp⟩
  have F0 := F0.alloc (.cells #[.int .i64 V0, .slice a0 xs0.length cap0] 24)
  (try simp only [World.size_alloc] at F0)
  have B0 := hid F0
  clear F0 hx0 hx1
  obtain ⟨r0, hr0⟩ : ∃ r, r = szR 1048576 xs0.length := ⟨_, rfl⟩
  have Hr0 := hid hr0
  by_cases hbL1 : 1048576 < gs1.length
  · clear hr0
    have hbi1 : (gs1.length : Int) > 1048576 := by omega
    go_enter Try.func12, Try.ntmps12
    go_wp2_with fail
    go_ret
    exact ⟨rfl, B0.out.from0⟩
  have hl1 : gs1.length ≤ 1048576 := by omega
  have hbi1 : ¬ (gs1.length : Int) > 1048576 := by omega
  by_cases hb0 : 1048576 < xs0.length
  · have hm0 : r0 = -1 := by rw [hr0]; exact szR_big (by omega)
    clear hb0
    clear hr0
    go_enter Try.func12, Try.ntmps12
    go_wp2_with fail
    refine (szCx V0 a0 xs0.length cap0 1048576 _ (by omega) (by omega) hn0).mono ?_
    rintro e s0 ⟨rfl, hB⟩
    have zs0 := hB.size
    (try simp only [World.size_alloc] at zs0)
    have B0 := hid (B0.out.below hB)
    clear hB
    rw [← Hr0.out]
    go_wp2_with fail
    go_ret
    exact ⟨rfl, B0.out.from0⟩
  · have hv0 : r0 = 1048576 - xs0.length := by rw [hr0, szR_fit (by omega)]
    have hg0 : 0 ≤ r0 := by omega
    have hu0 : r0 ≤ 1048576 := by omega
    have hl0 : xs0.length ≤ 1048576 := by omega
    clear hr0 hb0
    have Hv0 := hid hv0
    clear hv0
    obtain ⟨R, hR⟩ : ∃ R, R = renumR V0 xs0 gs1 := ⟨_, rfl⟩
    have hRl : R.2.1.length ≤ 1048576 := by rw [hR]; exact renumR_len V0 xs0 gs1 hl0 hl1
    obtain ⟨U, ys, c⟩ := R
    simp only at hRl
    have HS : Hid (∀ a0 cap0 a1 cap1 w', SlI w' w'.heap.size a0 xs0 → SlI w' w'.heap.size a1 gs1 → Calls Try.prog 50 #[.agg #[.int .i64 V0, .slice a0 xs0.length cap0], .slice a1 gs1.length cap1] w' fun e w'' => ∃ v, e = .returned (.tuple #[.agg #[.int .i64 U, v], .int .i64 c]) ∧ Res w' w'' v ys) :=
      hid (fun a0 cap0 a1 cap1 w' hs0 hs1 => by have := specRenumberComplex V0 a0 cap0 xs0 a1 cap1 gs1 w' hs0 hs1 hl0 hl1; rwa [← hR] at this)
    have HI : Hid (∀ a0 cap0 a1 cap1 w', SlI w' w'.heap.size a0 xs0 → SlI w' w'.heap.size a1 gs1 → Calls Try.prog 51 #[.agg #[.int .i64 V0, .slice a0 xs0.length cap0], .slice a1 gs1.length cap1] w' fun e w'' => ∃ v, e = .returned (.tuple #[.agg #[.int .i64 U, v], .int .i64 c]) ∧ Res w' w'' v ys) :=
      hid (fun a0 cap0 a1 cap1 w' hs0 hs1 => by have := implRenumberComplex V0 a0 cap0 xs0 a1 cap1 gs1 w' hs0 hs1 hl0 hl1; rwa [← hR] at this)
    have hcc : (c != c) = false := by simp
    clear hR
    go_enter Try.func12, Try.ntmps12
    go_wp2_with fail
    refine (szCx V0 a0 xs0.length cap0 1048576 _ (by omega) (by omega) hn0).mono ?_
    rintro e s0 ⟨rfl, hB⟩
    have zs0 := hB.size
    (try simp only [World.size_alloc] at zs0)
    have B0 := hid (B0.out.below hB)
    clear hB
    rw [← Hr0.out]
    obtain ⟨q0, q1⟩ := B0.out.two (.head _)
    go_wp2_with fail
    clear q0 q1
    refine (toCx V0 a0 cap0 xs0 _ (B0.out.arg (.head _)) hl0).mono ?_
    rintro e u0 ⟨gu0, rfl, hown, hB⟩
    have zu0 := hB.size
    (try simp only [World.size_alloc] at zu0)
    have B0 := hid (B0.out.row hown hB)
    clear hown hB
    (try simp only [World.size_alloc] at B0)
    go_wp2_with fail
    refine (toInts a1 cap1 gs1 _ (B0.out.arg (.tail _ (.head _))) hl1).mono ?_
    rintro e u1 ⟨rfl, hown, hB⟩
    have zu1 := hB.size
    (try simp only [World.size_alloc] at zu1)
    have B0 := hid (B0.out.row hown hB)
    clear hown hB
    (try simp only [World.size_alloc] at B0)
    go_wp2_with fail
    refine (HS.out _ _ _ _ _ (B0.out.slI (.tail _ (.head _))) (B0.out.slI (.head _))).mono ?_
    rintro e u9 ⟨vw, rfl, hres⟩
    have zu9 := hres.2.size
    (try simp only [World.size_alloc] at zu9)
    obtain ⟨_, aw, cw, rfl, _⟩ := ownsRow_slI hres.1
    have B0 := hid (B0.out.row hres.1 hres.2)
    clear hres
    (try simp only [World.size_alloc] at B0)
    have B0 := hid (B0.out.alloc (.cells #[.int .i64 U, .slice aw ys.length cw] 30))
    obtain ⟨q0, q1⟩ := B0.out.two (.tail _ (.head _))
    go_wp2_with fail
    clear q0 q1
    refine (toCx V0 a0 cap0 xs0 _ (B0.out.arg (.head _)) hl0).mono ?_
    rintro e x0 ⟨gx0, rfl, hown, hB⟩
    have zx0 := hB.size
    (try simp only [World.size_alloc] at zx0)
    have B0 := hid (B0.out.row hown hB)
    clear hown hB
    (try simp only [World.size_alloc] at B0)
    have B0 := hid (B0.out.alloc (.cells #[.int .i64 V0, .slice (some ⟨gx0, 0, none⟩) xs0.length xs0.length] 30))
    go_wp2_with fail
    refine (toInts a1 cap1 gs1 _ (B0.out.arg (.tail _ (.head _))) hl1).mono ?_
    rintro e x1 ⟨rfl, hown, hB⟩
    have zx1 := hB.size
    (try simp only [World.size_alloc] at zx1)
    have B0 := hid (B0.out.row hown hB)
    clear hown hB
    (try simp only [World.size_alloc] at B0)
    obtain ⟨p00, p01⟩ := B0.out.two (.head _)
    go_wp2_with fail
    clear p00 p01
    refine (HI.out _ _ _ _ _ (B0.out.slI (.tail _ (.head _))) (B0.out.slI (.head _))).mono ?_
    rintro e v9 ⟨vg, rfl, hres⟩
    have zv9 := hres.2.size
    (try simp only [World.size_alloc] at zv9)
    obtain ⟨_, ag, cg, rfl, _⟩ := ownsRow_slI hres.1
    have B0 := hid (B0.out.row hres.1 hres.2)
    clear hres
    (try simp only [World.size_alloc] at B0)
    have B0 := hid (B0.out.alloc (.cells #[.int .i64 U, .slice ag ys.length cg] 30))
    obtain ⟨lgb0, lgb1⟩ := B0.out.two (.head _)
    obtain ⟨lwb0, lwb1⟩ := B0.out.two (.tail _ (.tail _ (.head _)))
    go_wp2_with fail
    clear lgb0 lgb1
    clear lwb0 lwb1
    refine (eqCx_yes U _ _ _ _ ys ys _ (B0.out.slI (.head _)) (B0.out.slI (.tail _ (.tail _ (.tail _ (.head _))))) hRl hRl rfl).mono ?_
    rintro e e1 ⟨rfl, hB⟩
    have ze1 := hB.size
    (try simp only [World.size_alloc] at ze1)
    have B0 := hid (B0.out.below hB)
    clear hB
    obtain ⟨lxb00, lxb01⟩ := B0.out.two (.tail _ (.head _))
    obtain ⟨lk00, lk01⟩ := B0.out.two (.tail _ (.tail _ (.tail _ (.head _))))
    go_wp2_with fail
    go_region_with (first
      | (go_at_call 18; refine (toCx V0 a0 cap0 xs0 _ (B0.out.drew.arg (.head _)) hl0).mono ?_; rintro e f0 ⟨gf0, rfl, hown, hB⟩; have zf0 := hB.size; have C0 := hid (B0.out.drew.row hown hB); clear hown hB; obtain ⟨m00, m01⟩ := C0.out.two (.tail _ (.head _)))
      | (go_at_call 22; refine (eqCx_yes V0 _ _ _ _ xs0 xs0 _ (C0.out.slI (.tail _ (.tail _ (.tail _ (.head _))))) (C0.out.slI (.head _)) hl0 hl0 rfl).mono ?_; rintro e h0 ⟨rfl, hB⟩))
    all_goals
      have zh0 := hB.size
      have D0 := hid (C0.out.below hB)
      clear hB C0 B0 m00 m01
      clear lxb00 lxb01
      clear lk00 lk01
      have B0 := D0
      clear D0
      skip
      go_wp2_with fail
      refine (toInts a1 cap1 gs1 _ (B0.out.arg (.tail _ (.head _))) hl1).mono ?_
      rintro e f1 ⟨rfl, hown, hB⟩
      have zf1 := hB.size
      (try simp only [World.size_alloc] at zf1)
      have B0 := hid (B0.out.row hown hB)
      clear hown hB
      (try simp only [World.size_alloc] at B0)
      go_wp2_with fail
      refine (eqInts_yes _ _ _ _ gs1 gs1 _ (B0.out.slI (.tail _ (.tail _ (.tail _ (.head _))))) (B0.out.slI (.head _)) hl1 hl1 rfl).mono ?_
      rintro e h1 ⟨rfl, hB⟩
      have zh1 := hB.size
      (try simp only [World.size_alloc] at zh1)
      have B0 := hid (B0.out.below hB)
      clear hB
      (try simp only [World.size_alloc] at B0)
      have B0 := hid (B0.out.only (bs' := _) (L' := [⟨u9.heap.size + 1, x0.heap.size, 2, 1, xs0.length, .slice (some ⟨gx0, 0, none⟩) xs0.length xs0.length, xs0⟩, ⟨x0.heap.size + 1, x1.heap.size, 2, 1, gs1.length, .slice (some ⟨x0.heap.size + 1, 0, none⟩) gs1.length gs1.length, gs1⟩, ⟨x1.heap.size, v9.heap.size, 2, 1, ys.length, .slice ag ys.length cg, ys⟩, ⟨u1.heap.size, u9.heap.size, 2, 1, ys.length, .slice aw ys.length cw, ys⟩]) (fun _ h => h) (by simp))
      obtain ⟨lxb00, lxb01⟩ := B0.out.two (.tail _ (.head _))
      go_wp2_with fail
      clear lxb00 lxb01
      refine (markCx V0 _ _ _ xs0 (1) _ (B0.out.own (.head _)) hl0 (by omega) (by omega)).mono ?_
      rintro e m0 ⟨rfl, hown, hg⟩
      have zm0 := hg.size
      (try simp only [World.size_alloc] at zm0)
      have B0 := hid (B0.out.mark (ys := count (1) xs0.length) (L' := [⟨x0.heap.size + 1, x1.heap.size, 2, 1, gs1.length, .slice (some ⟨x0.heap.size + 1, 0, none⟩) gs1.length gs1.length, gs1⟩, ⟨x1.heap.size, v9.heap.size, 2, 1, ys.length, .slice ag ys.length cg, ys⟩, ⟨u1.heap.size, u9.heap.size, 2, 1, ys.length, .slice aw ys.length cw, ys⟩]) (.head _) hown hg (by simp only; omega) (by simp; omega) (by simp <;> omega))
      clear hown hg
      go_wp2_with fail
      refine (markInts _ _ _ gs1 (1 + xs0.length) _ (B0.out.own (.head _)) hl1 (by omega) (by omega)).mono ?_
      rintro e m1 ⟨rfl, hown, hg⟩
      have zm1 := hg.size
      (try simp only [World.size_alloc] at zm1)
      have B0 := hid (B0.out.mark (ys := count (1 + xs0.length) gs1.length) (L' := [⟨x1.heap.size, v9.heap.size, 2, 1, ys.length, .slice ag ys.length cg, ys⟩, ⟨u1.heap.size, u9.heap.size, 2, 1, ys.length, .slice aw ys.length cw, ys⟩]) (.head _) hown hg (by simp only; omega) (by simp; omega) (by simp <;> omega))
      clear hown hg
      obtain ⟨lgb0, lgb1⟩ := B0.out.two (.head _)
      obtain ⟨lwb0, lwb1⟩ := B0.out.two (.tail _ (.tail _ (.head _)))
      go_wp2_with fail
      clear lgb0 lgb1
      clear lwb0 lwb1
      refine (eqCx_yes U _ _ _ _ ys ys _ (B0.out.slI (.head _)) (B0.out.slI (.tail _ (.head _))) hRl hRl rfl).mono ?_
      rintro e e2 ⟨rfl, hB⟩
      have ze2 := hB.size
      (try simp only [World.size_alloc] at ze2)
      have B0 := hid (B0.out.below hB)
      clear hB
      obtain ⟨lgb0, lgb1⟩ := B0.out.two (.head _)
      go_wp2_with fail
      clear lgb0 lgb1
      refine (markCx U _ _ _ ys 1 _ (B0.out.own (.head _)) hRl (by omega) (by omega)).mono ?_
      rintro e m8 ⟨rfl, hown, hg⟩
      have zm8 := hg.size
      (try simp only [World.size_alloc] at zm8)
      have B0 := hid (B0.out.mark (ys := count 1 ys.length) (L' := [⟨x1.heap.size, v9.heap.size, 2, 1, ys.length, .slice ag ys.length cg, count 1 ys.length⟩, ⟨u1.heap.size, u9.heap.size, 2, 1, ys.length, .slice aw ys.length cw, ys⟩]) (.head _) hown hg (by simp only; omega) (by simp; omega) (by simp <;> omega))
      clear hown hg
      obtain ⟨lgb0, lgb1⟩ := B0.out.two (.head _)
      go_wp2_with fail
      clear lgb0 lgb1
      refine (heldCx U _ _ ys.length _ 1 _ rfl (B0.out.slI (.head _)) hRl (by omega) (by omega)).mono ?_
      rintro e t1 ⟨rfl, hB⟩
      have zt1 := hB.size
      (try simp only [World.size_alloc] at zt1)
      have B0 := hid (B0.out.below hB)
      clear hB
      have hnn : ((1 : Int) + ys.length != 1 + ys.length) = false := by simp
      obtain ⟨q0, q1⟩ := B0.out.two (.tail _ (.tail _ (.tail _ (.head _))))
      go_wp2_with fail
      clear q0 q1
      refine (toCx V0 a0 cap0 xs0 _ (B0.out.arg (.head _)) hl0).mono ?_
      rintro e y0 ⟨gy0, rfl, hown, hB⟩
      have zy0 := hB.size
      (try simp only [World.size_alloc] at zy0)
      have B0 := hid (B0.out.row hown hB)
      clear hown hB
      (try simp only [World.size_alloc] at B0)
      go_wp2_with fail
      refine (toInts a1 cap1 gs1 _ (B0.out.arg (.tail _ (.head _))) hl1).mono ?_
      rintro e y1 ⟨rfl, hown, hB⟩
      have zy1 := hB.size
      (try simp only [World.size_alloc] at zy1)
      have B0 := hid (B0.out.row hown hB)
      clear hown hB
      (try simp only [World.size_alloc] at B0)
      go_wp2_with fail
      refine (HI.out _ _ _ _ _ (B0.out.slI (.tail _ (.head _))) (B0.out.slI (.head _))).mono ?_
      rintro e t2 ⟨vh, rfl, hres⟩
      have zt2 := hres.2.size
      (try simp only [World.size_alloc] at zt2)
      obtain ⟨_, ah, ch, rfl, _⟩ := ownsRow_slI hres.1
      have B0 := hid (B0.out.row hres.1 hres.2)
      clear hres
      (try simp only [World.size_alloc] at B0)
      have B0 := hid (B0.out.alloc (.cells #[.int .i64 U, .slice ah ys.length ch] 30))
      obtain ⟨lhb0, lhb1⟩ := B0.out.two (.head _)
      obtain ⟨lwb0, lwb1⟩ := B0.out.two (.tail _ (.tail _ (.tail _ (.head _))))
      go_wp2_with fail
      clear lhb0 lhb1
      clear lwb0 lwb1
      refine (eqCx_yes U _ _ _ _ ys ys _ (B0.out.slI (.head _)) (B0.out.slI (.tail _ (.tail _ (.tail _ (.tail _ (.head _)))))) hRl hRl rfl).mono ?_
      rintro e t3 ⟨rfl, hB⟩
      have zt3 := hB.size
      (try simp only [World.size_alloc] at zt3)
      have B0 := hid (B0.out.below hB)
      clear hB
      obtain ⟨lgb0, lgb1⟩ := B0.out.two (.tail _ (.head _))
      go_wp2_with fail
      clear lgb0 lgb1
      refine (heldCx U _ _ ys.length _ 1 _ rfl (B0.out.slI (.tail _ (.tail _ (.tail _ (.head _))))) hRl (by omega) (by omega)).mono ?_
      rintro e t4 ⟨rfl, hB⟩
      have zt4 := hB.size
      (try simp only [World.size_alloc] at zt4)
      have B0 := hid (B0.out.below hB)
      clear hB
      go_wp2_with fail
      go_ret
      exact ⟨rfl, B0.out.from0⟩

end Go.Proofs.Ytgcpakhagbbiiaa
