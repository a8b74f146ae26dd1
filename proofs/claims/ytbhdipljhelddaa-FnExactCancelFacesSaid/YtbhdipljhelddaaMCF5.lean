import Derived.Maps.OwnIn
import Derived.Maps.OwnSet
import Derived.RangeFuncNested
import Derived.Test.YtbhdipljhelddaaMCF1
import Derived.Test.YtbhdipljhelddaaMCF2
import Derived.Test.YtbhdipljhelddaaMCF3
import Derived.Test.YtbhdipljhelddaaMCF4
/-! Results of several parts: rows in intervals of blocks that do not meet. -/
namespace Go.Proofs.Ytbhdipljhelddaa
open Go.RowKit

/-- A result: a slice of pairs in new memory. -/
def ResP (w w' : World) (v : Value) (L : List (Int × Int)) : Prop := w'.ownsRow w.heap.size 65 2 v L.length ((flatP L).map (Value.int .i64)) ∧ Below w.heap.size w w'

theorem ResP.later {w0 w w' : World} {v : Value} {L : List (Int × Int)} (h : ResP w w' v L) (h0 : Below w0.heap.size w0 w) : ResP w0 w' v L :=
  ⟨ownsRow_base h.1 h0.size, h0.trans (h.2.mono h0.size)⟩
theorem resP_nil (w w' : World) (h : Below w.heap.size w w') : ResP w w' (.slice none 0 0) [] := ⟨World.ownsRow_nil _ _ _ _, h⟩

structure PartB (w w' : World) (p : Bk) : Prop where
  own : w'.ownsRow p.lo p.ty p.sz p.v p.n (p.xs.map (Value.int .i64))
  lt : ∀ g, p.v.ownBlock = some g → g < p.hi
  le : p.hi ≤ w'.heap.size
  ge : w.heap.size ≤ p.lo

theorem part_ints {w w' : World} {v : Value} {xs : List Int} (h : Res w w' v xs) : PartB w w' ⟨w.heap.size, w'.heap.size, 2, 1, xs.length, v, xs⟩ :=
  ⟨h.1, fun g hg => (h.1.lt g hg).2, Nat.le_refl _, Nat.le_refl _⟩
theorem part_pairs {w w' : World} {v : Value} {L : List (Int × Int)} (h : ResP w w' v L) : PartB w w' ⟨w.heap.size, w'.heap.size, 65, 2, L.length, v, flatP L⟩ :=
  ⟨h.1, fun g hg => (h.1.lt g hg).2, Nat.le_refl _, Nat.le_refl _⟩

/-- Two rows in blocks of their own. -/
def Apart (v q : Value) : Prop := ∀ g, v.ownBlock = some g → q.ownBlock ≠ some g

theorem apart_ty {w : World} {b1 e1 s1 n1 b2 e2 s2 n2 : Nat} {v q : Value} {xs ys : List Value} (h1 : w.ownsRow b1 e1 s1 v n1 xs) (h2 : w.ownsRow b2 e2 s2 q n2 ys) (hne : e1 ≠ e2) : Apart v q := by
  intro g hv hq
  rcases h1.2 with ⟨rfl, _⟩ | ⟨g1, _, _, rfl, _, hg1, _⟩
  · simp [Value.ownBlock] at hv
  rcases h2.2 with ⟨rfl, _⟩ | ⟨g2, _, _, rfl, _, hg2, _⟩
  · simp [Value.ownBlock] at hq
  simp [Value.ownBlock] at hv hq
  subst hv hq
  rw [hg1] at hg2
  simp at hg2
  exact hne hg2.2

theorem row_at {w : World} {b e s n : Nat} {v : Value} {xs : List Value} (h : w.ownsRow b e s v n xs) : (v.ownBlock = none ∧ ∀ b', w.ownsRow b' e s v n xs) ∨ ∃ g, v.ownBlock = some g ∧ b ≤ g ∧ g < w.heap.size ∧ w.ownsRow g e s v n xs := by
  rcases h.2 with ⟨rfl, hn⟩ | ⟨g, cp, cur, rfl, hb, hg, rest⟩
  · exact .inl ⟨rfl, fun b' => ⟨h.1, .inl ⟨rfl, hn⟩⟩⟩
  · exact .inr ⟨g, rfl, hb, (Array.getElem?_eq_some_iff.1 hg).1, h.1, .inr ⟨g, cp, cur, rfl, Nat.le_refl _, hg, rest⟩⟩

theorem two_parts {w w' : World} {e1 s1 n1 e2 s2 n2 : Nat} {v q : Value} {xs ys : List Int} (h1 : w'.ownsRow w.heap.size e1 s1 v n1 (xs.map (Value.int .i64))) (h2 : w'.ownsRow w.heap.size e2 s2 q n2 (ys.map (Value.int .i64))) (ha : Apart v q) (hB : Below w.heap.size w w') :
    ∃ l1 r1 l2 r2, PartB w w' ⟨l1, r1, e1, s1, n1, v, xs⟩ ∧ PartB w w' ⟨l2, r2, e2, s2, n2, q, ys⟩ ∧ (r1 ≤ l2 ∨ r2 ≤ l1) := by
  have hs := hB.size
  rcases row_at h1 with ⟨hv, h1'⟩ | ⟨g1, hv, hb1, hl1, h1'⟩
  · rcases row_at h2 with ⟨hq, h2'⟩ | ⟨g2, hq, hb2, hl2, h2'⟩
    · exact ⟨_, _, _, _, ⟨h1' w.heap.size, fun g hg => (by simp only at hg; rw [hv] at hg; cases hg), hs, Nat.le_refl _⟩, ⟨h2' w.heap.size, fun g hg => (by simp only at hg; rw [hq] at hg; cases hg), hs, Nat.le_refl _⟩, .inl (Nat.le_refl _)⟩
    · exact ⟨_, w.heap.size, _, g2 + 1, ⟨h1' w.heap.size, fun g hg => (by simp only at hg; rw [hv] at hg; cases hg), hs, Nat.le_refl _⟩, ⟨h2', fun g hg => (by simp only at hg; rw [hq] at hg; cases hg; simp only; omega), hl2, hb2⟩, .inl hb2⟩
  · rcases row_at h2 with ⟨hq, h2'⟩ | ⟨g2, hq, hb2, hl2, h2'⟩
    · exact ⟨_, g1 + 1, _, w.heap.size, ⟨h1', fun g hg => (by simp only at hg; rw [hv] at hg; cases hg; simp only; omega), hl1, hb1⟩, ⟨h2' w.heap.size, fun g hg => (by simp only at hg; rw [hq] at hg; cases hg), hs, Nat.le_refl _⟩, .inr hb1⟩
    · have hne : g1 ≠ g2 := fun e => ha g1 hv (by rw [hq, e])
      exact ⟨_, g1 + 1, _, g2 + 1, ⟨h1', fun g hg => (by simp only at hg; rw [hv] at hg; cases hg; simp only; omega), hl1, hb1⟩, ⟨h2', fun g hg => (by simp only at hg; rw [hq] at hg; cases hg; simp only; omega), hl2, hb2⟩, (by omega)⟩

theorem pairs_form {w : World} {base e n : Nat} {v : Value} {L : List (Int × Int)} (h : w.ownsRow base e 2 v n ((flatP L).map (Value.int .i64))) : n = L.length ∧ ∃ a cap, v = .slice a L.length cap ∧ True := by
  have hl := h.1
  simp [flatP_len] at hl
  have hn : n = L.length := by omega
  rcases h.2 with ⟨rfl, hn0⟩ | ⟨g, cap, cur, rfl, _⟩
  · refine ⟨hn, none, 0, ?_, trivial⟩
    rw [show L.length = 0 by omega]
  · exact ⟨hn, _, cap, by rw [hn], trivial⟩

theorem Book.add {w0 w w' : World} {A : List (Option Addr × List Int)} {bs : List (Nat × Obj)} {L : List Bk} {p : Bk} (h : Book w0 w' A bs L) (hp : PartB w w' p) : Book w0 w' A bs (p :: L) :=
  ⟨h.from0, h.args, h.blocks, fun q hq => by
    rcases List.mem_cons.1 hq with rfl | hq
    · exact ⟨hp.own, hp.lt, hp.le⟩
    · exact h.rows q hq⟩

end Go.Proofs.Ytbhdipljhelddaa

/-! settledPairs: what it keeps of the world, and what a pass does. -/
namespace Go.Proofs.Ytbhdipljhelddaa
open Go.RowKit Go.Shelf

attribute [local go_sem] Oper.semAt_some

def pairAt (ps : List Int) (i : Nat) : Int × Int := (at0 ps (i * 2), at0 ps (i * 2 + 1))
def setP (ps : List Int) (L : List Nat) : List (Int × Int) := L.map (pairAt ps)
theorem setP_snoc (ps : List Int) (L : List Nat) (i : Nat) : setP ps (L ++ [i]) = setP ps L ++ [pairAt ps i] := by simp [setP]
theorem setP_len (ps : List Int) (L : List Nat) : (setP ps L).length = L.length := by simp [setP]

/-- What has settled. -/
structure Stl (ps : List Int) (n : Nat) (L : List Nat) : Prop where
  ord : Ordered ps n L
  nodup : L.Nodup
  lt : ∀ i ∈ L, i < n
theorem nodup_le : ∀ (n : Nat) (L : List Nat), L.Nodup → (∀ i ∈ L, i < n) → L.length ≤ n
  | 0, L, _, hl => by
    cases L with
    | nil => simp
    | cons x L => exact absurd (hl x (by simp)) (Nat.not_lt_zero _)
  | n + 1, L, hn, hl => by
    have ih := nodup_le n (L.erase n) (hn.erase n) (fun i hi => by
      have h1 := hl i (List.mem_of_mem_erase hi)
      have h2 : i ≠ n := (hn.mem_erase_iff.1 hi).1
      omega)
    have h := @List.length_erase _ _ _ n L
    split at h <;> omega
theorem Stl.len {ps : List Int} {n : Nat} {L : List Nat} (h : Stl ps n L) : L.length ≤ n := nodup_le n L h.nodup h.lt
/-- The first k pairs have settled, or a step leads to one that has not. -/
def SatTo (ps : List Int) (n k : Nat) (L : List Nat) : Prop := ∀ i, i < k → i ∉ L → ∃ j, j < n ∧ StepP ps n i j ∧ j ∉ L
theorem SatTo.zero (ps : List Int) (n : Nat) (L : List Nat) : SatTo ps n 0 L := fun _ hi => absurd hi (Nat.not_lt_zero _)
theorem SatTo.skip {ps : List Int} {n k : Nat} {L : List Nat} (h : SatTo ps n k L) (hk : k ∈ L ∨ ∃ j, j < n ∧ StepP ps n k j ∧ j ∉ L) : SatTo ps n (k + 1) L := by
  intro i hi hn
  by_cases e : i = k
  · subst e
    exact hk.resolve_left hn
  · exact h i (by omega) hn
theorem Stl.snoc {ps : List Int} {n : Nat} {L : List Nat} (h : Stl ps n L) {i : Nat} (hi : i < n) (hL : i ∉ L) (hs : ∀ j, j < n → StepP ps n i j → j ∈ L) : Stl ps n (L ++ [i]) :=
  ⟨h.ord.snoc hs, by
    rw [List.nodup_append]
    exact ⟨h.nodup, by simp, fun a ha b hb => by simp at hb; subst hb; exact fun e => hL (e ▸ ha)⟩, fun j hj => by
    rcases List.mem_append.1 hj with h1 | h1
    · exact h.lt j h1
    · simp at h1; omega⟩
theorem Stl.nil (ps : List Int) (n : Nat) : Stl ps n [] := ⟨Ordered.nil ps n, by simp, by simp⟩

theorem lows_inj {ps : List Int} {n : Nat} (hd : LowsApart ps n) {i j : Nat} (hi : i < n) (hj : j < n) (h : at0 ps (i * 2) = at0 ps (j * 2)) : i = j := by
  rcases Nat.lt_trichotomy i j with h1 | h1 | h1
  · exact absurd h (hd i j h1 hj)
  · exact h1
  · exact absurd h.symm (hd j i h1 hi)
theorem mem_setP {ps : List Int} {n : Nat} (hd : LowsApart ps n) {L : List Nat} (hL : ∀ i ∈ L, i < n) {i : Nat} (hi : i < n) : pairAt ps i ∈ setP ps L ↔ i ∈ L := by
  unfold setP
  constructor
  · intro h
    obtain ⟨j, hj, e⟩ := List.mem_map.1 h
    have := lows_inj hd (hL j hj) hi (congrArg Prod.fst e)
    exact this ▸ hj
  · exact fun h => List.mem_map.2 ⟨i, h, rfl⟩
theorem wf_pairAt {ps : List Int} {n : Nat} (hp : ps.length = 2 * n) (hw : ∀ x ∈ ps, (Lit.int .i64 x).wf = true) {i : Nat} (hi : i < n) : wfP (pairAt ps i) :=
  ⟨hw _ (getD_mem (by omega)), hw _ (getD_mem (by omega))⟩
theorem wf_setP {ps : List Int} {n : Nat} (hp : ps.length = 2 * n) (hw : ∀ x ∈ ps, (Lit.int .i64 x).wf = true) {L : List Nat} (hL : ∀ i ∈ L, i < n) : ∀ q ∈ setP ps L, wfP q := by
  intro q hq
  obtain ⟨j, hj, rfl⟩ := List.mem_map.1 hq
  exact wf_pairAt hp hw (hL j hj)

/-- 'own, ok := lows[a]', told by the pairs. -/
theorem lows_look2 {w : World} {b N n : Nat} {ps : List Int} {a : Int} (hown : w.ownsMap Try.prog 2 pairElem b N (lowsD ps n)) (hd : LowsApart ps n) (ha : (Lit.int .i64 a).wf = true) :
    (∃ i, i < n ∧ at0 ps (i * 2) = a ∧ (Instr.lookup 147 (.map (some b)) (.int .i64 a) true).run Try.prog w = .ok (.tuple #[.agg #[.int .i64 a, .int .i64 (at0 ps (i * 2 + 1))], .bool true]) w) ∨
    ((∀ i, i < n → at0 ps (i * 2) ≠ a) ∧ (Instr.lookup 147 (.map (some b)) (.int .i64 a) true).run Try.prog w = .ok (.tuple #[.agg #[.int .i64 0, .int .i64 0], .bool false]) w) := by
  obtain ⟨v, qs, hrun, hv⟩ := hown.look_ok (Maps.int_keyed Try.underlying2) Try.underlying147 (zero_pair w) (pairElem_mk 0 0) (Maps.keyOf_int_mk Try.underlying2 ha)
  by_cases hex : ∃ i, i < n ∧ at0 ps (i * 2) = a
  · obtain ⟨i, hi, hia⟩ := hex
    obtain ⟨h1, h2⟩ := lows_hit n i hd hi hia
    rw [h1] at hv
    rw [h2, pairElem_inv hv] at hrun
    exact .inl ⟨i, hi, hia, hrun⟩
  · obtain ⟨h1, h2⟩ := lows_miss n (fun i hi e => hex ⟨i, hi, e⟩)
    rw [h1] at hv
    rw [h2, pairElem_inv hv] at hrun
    exact .inr ⟨fun i hi e => hex ⟨i, hi, e⟩, hrun⟩

/-- What the walk keeps of the world: M the map of the low faces, B its box. -/
structure SetW (w W : World) (M B n : Nat) (ps : List Int) (L : List Nat) (v : Value) (Ds : List Nat) : Prop where
  below : Below w.heap.size w W
  lo : w.heap.size ≤ M
  mb : M < B
  lows : W.ownsMap Try.prog 2 pairElem M n (lowsD ps n)
  b3 : W.heap[B]? = some (.cells #[.map (some M)] 147 (0, 0))
  own : MapP W (B + 1) L.length (setP ps L)
  b4 : W.heap[B + 2]? = some (.cells #[.map (some (B + 1))] 153 (0, 0))
  row : W.ownsRow (B + 3) 65 2 v (setP ps L).length ((flatP (setP ps L)).map (Value.int .i64))
  off : ∀ D ∈ Ds, v.ownBlock ≠ some D
  nodup : Ds.Nodup
  marks : ∀ D ∈ Ds, B + 3 ≤ D ∧ W.heap[D]? = some (.deferred (some []))
theorem SetW.size {w W : World} {M B n : Nat} {ps : List Int} {L : List Nat} {v : Value} {Ds : List Nat} (h : SetW w W M B n ps L v Ds) : B + 3 ≤ W.heap.size := by
  have := lt_of_get h.b4; omega
/-- A turn of what lies beyond. -/
theorem SetW.turn {w W W' : World} {M B n : Nat} {ps : List Int} {L : List Nat} {v : Value} {Ds : List Nat} (h : SetW w W M B n ps L v Ds) {row : Option Nat} (hg : W.grownBy W' row) (hr : ∀ r, row = some r → B + 3 ≤ r ∧ r ∉ Ds ∧ v.ownBlock ≠ some r) : SetW w W' M B n ps L v Ds where
  below := h.below.grown hg (by have := h.size; have := h.lo; have := h.mb; omega) (fun k e => by have := (hr k e).1; have := h.lo; have := h.mb; omega)
  lo := h.lo
  mb := h.mb
  lows := h.lows.kept hg (fun e => by have := (hr _ e.symm).1; have := h.mb; omega)
  b3 := (hg.block _ (lt_of_get h.b3) (fun e => by have := (hr _ e.symm).1; omega)).trans h.b3
  own := World.ownsMap.kept h.own hg (fun e => by have := (hr _ e.symm).1; omega)
  b4 := (hg.block _ (lt_of_get h.b4) (fun e => by have := (hr _ e.symm).1; omega)).trans h.b4
  row := by
    cases hv : v.ownBlock with
    | none => exact h.row.kept hg (.inl hv)
    | some g => exact h.row.kept hg (.inr (fun e => by rw [hv] at e; exact (hr g e.symm).2.2 hv))
  off := h.off
  nodup := h.nodup
  marks := fun D hD => ⟨(h.marks D hD).1, (hg.block _ (lt_of_get (h.marks D hD).2) (fun e => (hr _ e.symm).2.1 hD)).trans (h.marks D hD).2⟩
theorem SetW.alloc {w W : World} {M B n : Nat} {ps : List Int} {L : List Nat} {v : Value} {Ds : List Nat} (h : SetW w W M B n ps L v Ds) (o : Obj) : SetW w (W.alloc o) M B n ps L v Ds := h.turn (World.grownBy_alloc W o none) (fun r e => by cases e)
theorem SetW.mark {w W : World} {M B n : Nat} {ps : List Int} {L : List Nat} {v : Value} {Ds : List Nat} (h : SetW w W M B n ps L v Ds) {D : Nat} (hD : W.heap[D]? = some (.deferred (some []))) (hb : B + 3 ≤ D) (hn : D ∉ Ds) (hv : v.ownBlock ≠ some D) : SetW w W M B n ps L v (D :: Ds) :=
  { h with
    off := fun E hE => by
      rcases List.mem_cons.1 hE with rfl | hE
      · exact hv
      · exact h.off E hE
    nodup := List.nodup_cons.2 ⟨hn, h.nodup⟩
    marks := fun E hE => by
      rcases List.mem_cons.1 hE with rfl | hE
      · exact ⟨hb, hD⟩
      · exact h.marks E hE }
/-- Within a range: everything of the walk lies ahead of its blocks. -/
theorem set_ownIn {β : Type} {w : World} {M B n : Nat} {ps : List Int} {L : List Nat} {v : Value} {Ds : List Nat} {lo k : Nat} (hlo : B + 3 ≤ lo) (hD : ∀ D ∈ Ds, D < lo) (hv : ∀ g, v.ownBlock = some g → g < lo) :
    OwnIn lo k (fun (_ : β) W' => SetW w W' M B n ps L v Ds) := by
  intro s A C row h hg hr
  refine h.turn hg (fun r e => ?_)
  obtain ⟨h1, _⟩ := hr r e
  exact ⟨by omega, fun hm => by have := hD r hm; omega, fun ev => by have := hv r ev; omega⟩
/-- A pair settles: the map has it. -/
theorem SetW.put {w W W' : World} {M B n : Nat} {ps : List Int} {L : List Nat} {v : Value} {Ds : List Nat} (h : SetW w W M B n ps L v Ds) {i : Nat} (hown : W'.ownsMap Try.prog 65 (plainElem (H := Unit) Try.prog 4) (B + 1) (L.length + 1) ((pknD (setP ps L)).put (keyP (pairAt ps i)) (.lit (.bool true)))) (hg : W.grownBy W' (some (B + 1)))
    {W2 : World} {v2 : Value} (hrow : W2.ownsRow (B + 3) 65 2 v2 (setP ps L ++ [pairAt ps i]).length ((flatP (setP ps L ++ [pairAt ps i])).map (Value.int .i64))) (hg2 : W'.grownBy W2 v.ownBlock) (hat : v2.ownBlock = v.ownBlock ∨ ∃ k, v2.ownBlock = some k ∧ W'.heap.size ≤ k) : SetW w W2 M B n ps (L ++ [i]) v2 Ds := by
  have hvlo : ∀ g, v.ownBlock = some g → B + 3 ≤ g ∧ g < W.heap.size := h.row.lt
  have hsz := h.size
  have hlo := h.lo
  have hmb := h.mb
  have t1 : ∀ j, j < W.heap.size → j ≠ B + 1 → v.ownBlock ≠ some j → W2.heap[j]? = W.heap[j]? := fun j hj h1 h2 =>
    (hg2.block j (Nat.lt_of_lt_of_le hj hg.size) (fun e => h2 e.symm)).trans (hg.block j hj (fun e => h1 (by injection e)))
  have ne3 : ∀ j, j < B + 3 → v.ownBlock ≠ some j := fun j hj e => by have := (hvlo j e).1; omega
  refine { below := ?_, lo := h.lo, mb := h.mb, lows := ?_, b3 := (t1 B (by omega) (by omega) (ne3 _ (by omega))).trans h.b3, own := ?_, b4 := (t1 (B + 2) (by omega) (by omega) (ne3 _ (by omega))).trans h.b4, row := by rw [setP_snoc]; exact hrow, off := fun D hD e => ?_, nodup := h.nodup, marks := fun D hD => ⟨(h.marks D hD).1, (t1 D (lt_of_get (h.marks D hD).2) (by have := (h.marks D hD).1; omega) (h.off D hD)).trans (h.marks D hD).2⟩ }
  · have hb1 := h.below.grown hg (by omega) (fun k e => by cases e; omega)
    exact hb1.grown hg2 (by have := hb1.size; omega) (fun k e => by have := (hvlo k e).1; omega)
  · have h1 := h.lows.kept hg (fun e => by injection e; omega)
    exact h1.kept hg2 (fun e => by have := (hvlo M e.symm).1; omega)
  · have h1 : W'.ownsMap Try.prog 65 (plainElem (H := Unit) Try.prog 4) (B + 1) (L ++ [i]).length (pknD (setP ps (L ++ [i]))) := by
      rw [setP_snoc, pknD_snoc]
      simpa using hown
    exact World.ownsMap.kept h1 hg2 (fun e => by have := (hvlo _ e.symm).1; omega)
  · rcases hat with h1 | ⟨k, h1, h2⟩
    · exact h.off D hD (h1.symm.trans e)
    · rw [h1] at e
      injection e with e
      have := lt_of_get (h.marks D hD).2
      have := hg.size
      omega

/-- At the end. -/
theorem SetW.leaves {w W w' : World} {M B n : Nat} {ps : List Int} {L : List Nat} {v : Value} {Ds : List Nat} (h : SetW w W M B n ps L v Ds) (hw' : Shut Ds W w') : ResP w w' v (setP ps L) := by
  have h1 := h.lo
  have h2 := h.mb
  refine ⟨?_, h.below.trans (hw'.below (fun D hD => by have := (h.marks D hD).1; omega))⟩
  have hr := ownsRow_base h.row (show w.heap.size ≤ B + 3 by omega)
  refine ⟨hr.1, ?_⟩
  rcases hr.2 with hn | ⟨g, cap, cur, hv, hb, hg, rest⟩
  · exact .inl hn
  · exact .inr ⟨g, cap, cur, hv, hb, (hw'.block g (fun hm => h.off g hm (by rw [hv]; rfl))).trans hg, rest⟩

/-- 'order = append(order, pair)', at the operation. -/
theorem append_pairIn {F : Fence} {nF : Nat} {w : World} {ops : Array Oper} {rest : List Oper} {o : Oper} {a : Act} {Q : Exit → Act → World → Prop} (hgd : o.guard = none) {s y : Operand}
    (ho : o.op = .call { callee := .builtin .append, args := #[s, y], argTypes := #[37, 37] })
    {base : Nat} {v : Value} {L : List (Int × Int)} {x x' : Int} (hown : w.ownsRow base 65 2 v L.length ((flatP L).map (Value.int .i64))) (hbase : base ≤ w.heap.size) (hl : L.length ≤ 1099511627776)
    (hs : a.eval s = v) (hy : a.eval y = .slice (some ⟨w.heap.size, 0, none⟩) 1 1)
    (hK : ∀ v' w', w'.ownsRow base 65 2 v' (L ++ [(x, x')]).length ((flatP (L ++ [(x, x')])).map (Value.int .i64)) → w.grownBy w' v.ownBlock → (v'.ownBlock = v.ownBlock ∨ ∃ k, v'.ownBlock = some k ∧ w.heap.size ≤ k) → wpListIn F nF Try.prog ops Q rest (a.put o.dst v') w') :
    wpListIn F nF Try.prog ops Q (o :: rest) a (w.alloc (.cells #[.int .i64 x, .int .i64 x'] 65)) := by
  obtain ⟨i0, hi, hz0, hz1, hz2⟩ := info_parts info_pair
  refine wpListIn_append_own_at _ hgd s y 37 ho base 65 i0 (.agg #[.int .i64 0, .int .i64 0]) 2 16 Try.underlying37 hi hz0 hz1 hz2 rfl (by decide) v _ _ hs (hown.alloc _) ⟨w.heap.size, 0, none⟩ 1 1 [.int .i64 x, .int .i64 x'] hy rfl ?_ (by simp [Value.oneCell']) (by unfold maxLen; omega) (by omega) (by simp; omega) ?_
  · intro j u hj
    match j, hj with
    | 0, hj => simp at hj; subst hj; simp [go_sem, Addr.add]
    | 1, hj => simp at hj; subst hj; simp [go_sem, Addr.add]
    | j + 2, hj => simp at hj
  · intro v' w1 hown1 hgrow1 _ hat
    refine hK v' w1 (by rw [flatP_snoc]; simpa using hown1) ((World.grownBy_alloc w _ _).trans hgrow1) ?_
    rcases hat with h | h
    · exact .inl h
    · exact .inr ⟨_, h, by simp⟩

end Go.Proofs.Ytbhdipljhelddaa

/-! A map of numbers to numbers, as a function: what is not in it counts as 0. -/
namespace Go.Proofs.Ytbhdipljhelddaa
open Go.RowKit Go.Shelf Go.ChangeMaps

theorem wf_wrap (x : Int) : (Lit.int .i64 (wrap64 x)).wf = true := WalkArith.wf_i64 (by unfold wrap64; omega)
theorem zero_i64 (w : World) : (zeroValue 2).run Try.prog w = .ok (.int .i64 0) w := by kernel_rfl

/-- The map in block b, after at most N stores. -/
def CntM (W : World) (b N : Nat) (f : Int → Int) : Prop :=
  ∃ D : DataW Unit, Maps.IsMap D ∧ W.ownsMap Try.prog 2 (plainElem (H := Unit) Try.prog 2) b N D ∧ ∀ p, D.atKey (.int .i64 p) (.lit (.int .i64 0)) = .lit (.int .i64 (f p))
theorem CntM.made (w : World) : CntM (w.alloc (.map #[] 0)) w.heap.size 0 (fun _ => 0) :=
  ⟨_, Maps.isMap_empty, World.ownsMap_made w _ _ _, fun _ => rfl⟩
theorem CntM.lt {W : World} {b N : Nat} {f : Int → Int} (h : CntM W b N f) : b < W.heap.size := by
  obtain ⟨D, _, h1, _⟩ := h
  exact h1.lt
theorem CntM.kept {W W' : World} {b N : Nat} {f : Int → Int} (h : CntM W b N f) {row : Option Nat} (hg : W.grownBy W' row) (hn : some b ≠ row) : CntM W' b N f := by
  obtain ⟨D, h0, h1, h2⟩ := h
  exact ⟨D, h0, h1.kept hg hn, h2⟩
theorem CntM.alloc {W : World} {b N : Nat} {f : Int → Int} (h : CntM W b N f) (o : Obj) : CntM (W.alloc o) b N f := h.kept (World.grownBy_alloc W o none) (by simp)
set_option maxRecDepth 100000 in
theorem CntM.lookup {W : World} {b N : Nat} {f : Int → Int} (h : CntM W b N f) {p : Int} (hp : (Lit.int .i64 p).wf = true) :
    (Instr.lookup 92 (.map (some b)) (.int .i64 p) false).run Try.prog W = .ok (.int .i64 (f p)) W := by
  obtain ⟨D, h0, h1, h2⟩ := h
  obtain ⟨v, qs, hrun, hv⟩ := h1.lookup (Maps.int_keyed Try.underlying2) Try.underlying92 (zero_i64 W) (plainElem_int Try.underlying2 (show (Lit.int .i64 0).wf = true by decide)) (Maps.keyOf_int_mk Try.underlying2 hp)
  rw [h2] at hv
  obtain ⟨a, rfl, hz, _⟩ := plainElem_int_inv Try.underlying2 hv
  injection hz with hz _
  injection hz with hz
  injection hz with _ hz
  rw [hrun, hz]
theorem CntM.update {W : World} {b N : Nat} {f : Int → Int} (h : CntM W b N f) (hN : N < maxLen) {p x : Int} (hp : (Lit.int .i64 p).wf = true) (hx : (Lit.int .i64 x).wf = true) :
    ∃ W', (Instr.mapUpdate 92 (.map (some b)) (.int .i64 p) (.int .i64 x)).run Try.prog W = .ok () W' ∧ CntM W' b (N + 1) (fun q => if q = p then x else f q) ∧ W.grownBy W' (some b) ∧ W'.heap.size = W.heap.size := by
  obtain ⟨D, h0, h1, h2⟩ := h
  obtain ⟨W', hrun, ho, ht⟩ := World.ownsMap.store h1 (Maps.int_keyed Try.underlying2) Try.underlying92 hN (Maps.keyOf_int_mk Try.underlying2 hp) (plainElem_int Try.underlying2 hx)
  have hs : W'.heap.size = W.heap.size := by
    obtain ⟨es, c, es', c', hb, rfl⟩ := ht
    simp [setBlock]
  refine ⟨W', hrun, ⟨_, h0.put _ _, ho, fun q => ?_⟩, ?_, hs⟩
  · by_cases e : q = p
    · subst e
      rw [Maps.atKey_put_same h0 (show WideAt.IsKeyLit (.int .i64 q) from trivial)]
      simp
    · rw [Maps.atKey_put_other (by simpa using e), h2]
      simp [e]
  · obtain ⟨es, c, es', c', hb, rfl⟩ := ht
    exact ⟨rfl, rfl, rfl, by simp [setBlock], fun i _ hi => heap_setBlock_other hb _ (fun e => hi (by rw [e]))⟩

end Go.Proofs.Ytbhdipljhelddaa

/-! CountGradientWays, the program's: what its map holds, pair by pair. -/
namespace Go.Proofs.Ytbhdipljhelddaa
open Go.RowKit Go.Shelf

/-- The low face of a pair that does not stand among the first k settled ones. -/
def waitsB (ps : List Int) (n : Nat) (L : List Nat) (k : Nat) (p : Int) : Bool := (List.range n).any fun i => decide (at0 ps (i * 2) = p) && !(decide (i ∈ L.take k))
theorem waits_iff {ps : List Int} {n : Nat} {L : List Nat} {k : Nat} {p : Int} : waitsB ps n L k p = true ↔ ∃ i, i < n ∧ at0 ps (i * 2) = p ∧ i ∉ L.take k := by
  unfold waitsB
  rw [List.any_eq_true]
  simp
/-- The map's number at p behind the first k settled pairs. -/
def gwV (ps : List Int) (n : Nat) (b : Int) (L : List Nat) (k : Nat) (p : Int) : Int := if waitsB ps n L k p then (if p = b then 1 else 0) else wrap64 (gw ps n b p)
/-- .. and within the next one, whose low face is x, behind some steps. -/
def gwU (ps : List Int) (n : Nat) (b : Int) (L : List Nat) (k : Nat) (x : Int) (pre : List (Fin 64)) (p : Int) : Int :=
  if p = x then wrap64 ((if x = b then 1 else 0) + (pre.map fun z => gw ps n b (z.val : Int)).sum) else gwV ps n b L k p

theorem wrap64_01 (c : Prop) [Decidable c] : wrap64 (if c then 1 else 0) = if c then 1 else 0 := by split <;> simp [wrap64]
theorem gwV_zero (ps : List Int) (n : Nat) (b : Int) (L : List Nat) : gwV ps n b L 0 = fun p => if p = b then 1 else 0 := by
  funext p
  unfold gwV
  by_cases h : waitsB ps n L 0 p = true
  · rw [if_pos h]
  · rw [if_neg h, gw_none (fun i hi e => h (waits_iff.2 ⟨i, hi, e, by simp⟩)), wrap64_01]
theorem gwU_nil {ps : List Int} {n : Nat} {b : Int} {L : List Nat} (hS : Stl ps n L) {k : Nat} (hk : k < L.length) : gwU ps n b L k (at0 ps (L[k] * 2)) [] = gwV ps n b L k := by
  funext p
  unfold gwU
  by_cases h : p = at0 ps (L[k] * 2)
  · rw [if_pos h]
    have hw : waitsB ps n L k p = true := waits_iff.2 ⟨L[k], hS.lt _ (List.getElem_mem hk), h.symm, fun hm => by
      have hn := hS.nodup
      rw [← List.take_append_drop k L, List.nodup_append] at hn
      refine hn.2.2 _ hm _ ?_ rfl
      rw [List.drop_eq_getElem_cons hk]
      exact List.mem_cons_self⟩
    unfold gwV
    rw [if_pos hw, h]
    simp [wrap64_01]
  · rw [if_neg h]
/-- A step leads to a face whose ways are all known. -/
theorem gwU_next {ps : List Int} {n : Nat} {b : Int} {L : List Nat} (hS : Stl ps n L) {k : Nat} (hk : k < L.length) {y : Int} (hy : y ∈ nextL ps n (at0 ps (L[k] * 2))) (pre : List (Fin 64)) :
    gwU ps n b L k (at0 ps (L[k] * 2)) pre y = wrap64 (gw ps n b y) := by
  unfold gwU
  rw [if_neg (nextL_ne hy)]
  unfold gwV
  rw [if_neg]
  intro hw
  obtain ⟨j, hj, e, hn⟩ := waits_iff.1 hw
  refine hn (hS.ord (L.take k) L[k] (L.drop (k + 1)) ?_ j hj (by unfold StepP; rw [e]; exact hy))
  rw [← List.drop_eq_getElem_cons hk, List.take_append_drop]
theorem gwU_self (ps : List Int) (n : Nat) (b : Int) (L : List Nat) (k : Nat) (x : Int) (pre : List (Fin 64)) : gwU ps n b L k x pre x = wrap64 ((if x = b then 1 else 0) + (pre.map fun z => gw ps n b (z.val : Int)).sum) := by
  unfold gwU
  rw [if_pos rfl]
theorem gwU_snoc (ps : List Int) (n : Nat) (b : Int) (L : List Nat) (k : Nat) (x : Int) (pre : List (Fin 64)) (z : Fin 64) :
    (fun q => if q = x then wrap64 (gwU ps n b L k x pre x + wrap64 (gw ps n b (z.val : Int))) else gwU ps n b L k x pre q) = gwU ps n b L k x (pre ++ [z]) := by
  funext q
  by_cases h : q = x
  · subst h
    rw [if_pos rfl, gwU_self, gwU_self, wrap64_add]
    simp [Int.add_assoc]
  · rw [if_neg h]
    unfold gwU
    rw [if_neg h, if_neg h]
/-- All steps: the pair has settled. -/
theorem gwU_all {ps : List Int} {n : Nat} {b : Int} {L : List Nat} (hc : NoCycle ps n) (hh : HighsB ps n) (hd : LowsApart ps n) (hS : Stl ps n L) {k : Nat} (hk : k < L.length) :
    gwU ps n b L k (at0 ps (L[k] * 2)) (stepsF ps n (at0 ps (L[k] * 2))) = gwV ps n b L (k + 1) := by
  have ht : L.take (k + 1) = L.take k ++ [L[k]] := by rw [List.take_add_one, List.getElem?_eq_getElem hk]; rfl
  funext p
  unfold gwU
  by_cases h : p = at0 ps (L[k] * 2)
  · rw [if_pos h, gw_steps hh _ (gw ps n b), ← gw_step hc]
    unfold gwV
    rw [if_neg, h]
    intro hw
    obtain ⟨j, hj, e, hn⟩ := waits_iff.1 hw
    have := lows_inj hd hj (hS.lt _ (List.getElem_mem hk)) (e.trans h)
    exact hn (by rw [ht, this]; exact List.mem_append_right _ (List.mem_singleton.2 rfl))
  · rw [if_neg h]
    unfold gwV
    have he : waitsB ps n L k p = waitsB ps n L (k + 1) p := by
      rw [Bool.eq_iff_iff, waits_iff, waits_iff]
      constructor
      · rintro ⟨j, hj, e, hn⟩
        refine ⟨j, hj, e, fun hm => ?_⟩
        rw [ht] at hm
        rcases List.mem_append.1 hm with h1 | h1
        · exact hn h1
        · simp at h1
          exact h (by rw [← e, h1])
      · rintro ⟨j, hj, e, hn⟩
        exact ⟨j, hj, e, fun hm => hn (by rw [ht]; exact List.mem_append_left _ hm)⟩
    rw [he]
theorem gwV_all {ps : List Int} {n : Nat} {b : Int} {L : List Nat} (hall : ∀ i, i < n → i ∈ L) : gwV ps n b L L.length = fun p => wrap64 (gw ps n b p) := by
  funext p
  unfold gwV
  rw [if_neg]
  intro hw
  obtain ⟨j, hj, _, hn⟩ := waits_iff.1 hw
  exact hn (by rw [List.take_length]; exact hall j hj)
theorem steps_few (ps : List Int) (n : Nat) (a : Int) : (stepsF ps n a).length ≤ 6 := by
  rw [stepsF_hit]
  exact Nat.le_trans (List.length_filter_le _ _) (sides_len _ 6)

/-- What the walk keeps of the world: the map lies first, its box behind it. -/
structure GwW (w W : World) (N : Nat) (f : Int → Int) (Ds : List Nat) : Prop where
  below : Below w.heap.size w W
  cnt : CntM W w.heap.size N f
  b1 : W.heap[w.heap.size + 1]? = some (.cells #[.map (some w.heap.size)] 92 (0, 0))
  nodup : Ds.Nodup
  marks : ∀ D ∈ Ds, w.heap.size + 2 ≤ D ∧ W.heap[D]? = some (.deferred (some []))
theorem GwW.size {w W : World} {N : Nat} {f : Int → Int} {Ds : List Nat} (h : GwW w W N f Ds) : w.heap.size + 2 ≤ W.heap.size := by
  have := lt_of_get h.b1; omega
theorem GwW.turn {w W W' : World} {N : Nat} {f : Int → Int} {Ds : List Nat} (h : GwW w W N f Ds) {row : Option Nat} (hg : W.grownBy W' row) (hr : ∀ r, row = some r → w.heap.size + 2 ≤ r ∧ r ∉ Ds) : GwW w W' N f Ds where
  below := h.below.grown hg (by have := h.size; omega) (fun k e => by have := (hr k e).1; omega)
  cnt := h.cnt.kept hg (fun e => by have := (hr _ e.symm).1; omega)
  b1 := (hg.block _ (lt_of_get h.b1) (fun e => by have := (hr _ e.symm).1; omega)).trans h.b1
  nodup := h.nodup
  marks := fun D hD => ⟨(h.marks D hD).1, (hg.block _ (lt_of_get (h.marks D hD).2) (fun e => (hr _ e.symm).2 hD)).trans (h.marks D hD).2⟩
theorem GwW.alloc {w W : World} {N : Nat} {f : Int → Int} {Ds : List Nat} (h : GwW w W N f Ds) (o : Obj) : GwW w (W.alloc o) N f Ds := h.turn (World.grownBy_alloc W o none) (fun r e => by cases e)
theorem GwW.mark {w W : World} {N : Nat} {f : Int → Int} {Ds : List Nat} (h : GwW w W N f Ds) {D : Nat} (hD : W.heap[D]? = some (.deferred (some []))) (hb : w.heap.size + 2 ≤ D) (hn : D ∉ Ds) : GwW w W N f (D :: Ds) :=
  { h with
    nodup := List.nodup_cons.2 ⟨hn, h.nodup⟩
    marks := fun E hE => by
      rcases List.mem_cons.1 hE with rfl | hE
      · exact ⟨hb, hD⟩
      · exact h.marks E hE }
theorem CntM.mono {W : World} {b N N' : Nat} {f : Int → Int} (h : CntM W b N f) (hN : N ≤ N') : CntM W b N' f := by
  obtain ⟨D, h0, h1, h2⟩ := h
  exact ⟨D, h0, h1.mono hN, h2⟩
theorem GwW.mono {w W : World} {N N' : Nat} {f : Int → Int} {Ds : List Nat} (h : GwW w W N f Ds) (hN : N ≤ N') : GwW w W N' f Ds := { h with cnt := h.cnt.mono hN }
theorem GwW.put {w W W' : World} {N N' : Nat} {f g : Int → Int} {Ds : List Nat} (h : GwW w W N f Ds) (hc : CntM W' w.heap.size N' g) (hg : W.grownBy W' (some w.heap.size)) : GwW w W' N' g Ds where
  below := h.below.grown hg (by have := h.size; omega) (fun k e => by cases e; exact Nat.le_refl _)
  cnt := hc
  b1 := (hg.block _ (lt_of_get h.b1) (fun e => by injection e with e; omega)).trans h.b1
  nodup := h.nodup
  marks := fun D hD => ⟨(h.marks D hD).1, (hg.block _ (lt_of_get (h.marks D hD).2) (fun e => by injection e with e; have := (h.marks D hD).1; omega)).trans (h.marks D hD).2⟩
theorem gw_ownIn {β : Type} {w : World} {N : β → Nat} {f : β → Int → Int} {Ds : List Nat} {lo k : Nat} (hlo : w.heap.size + 2 ≤ lo) (hD : ∀ D ∈ Ds, D < lo) :
    OwnIn lo k (fun (p : β) W' => GwW w W' (N p) (f p) Ds) := by
  intro s A C row h hg hr
  refine h.turn hg (fun r e => ?_)
  obtain ⟨h1, _⟩ := hr r e
  exact ⟨by omega, fun hm => by have := hD r hm; omega⟩

end Go.Proofs.Ytbhdipljhelddaa

/-! waysFrom, the mathematics: numbers of ways, carried along the steps. -/
namespace Go.Proofs.Ytbhdipljhelddaa
open Go.RowKit

theorem sum_turn {F F' : Int → Int} {y : Int} : ∀ {L : List Int}, L.Nodup → y ∈ L → (∀ q ∈ L, q ≠ y → F' q = F q) → (L.map F').sum = (L.map F).sum + (F' y - F y)
  | [], _, hy, _ => by simp at hy
  | x :: L, hn, hy, h => by
    have hn' := List.nodup_cons.1 hn
    simp only [List.map_cons, List.sum_cons]
    by_cases e : x = y
    · subst e
      have : L.map F' = L.map F := List.map_congr_left (fun q hq => h q (by simp [hq]) (fun e => hn'.1 (e ▸ hq)))
      rw [this]
      omega
    · have hyL : y ∈ L := by
        rcases List.mem_cons.1 hy with h1 | h1
        · exact absurd h1.symm e
        · exact h1
      rw [sum_turn hn'.2 hyL (fun q hq hne => h q (by simp [hq]) hne), h x (by simp) e]
      omega

/-- The numbers a face may have. -/
def allU : List Int := (List.range 64).map fun i => ((i : Nat) : Int)
theorem allU_nodup : allU.Nodup := by decide +kernel
theorem mem_allU {x : Int} : x ∈ allU ↔ 0 ≤ x ∧ x < 64 := by
  unfold allU
  rw [List.mem_map]
  constructor
  · rintro ⟨i, hi, rfl⟩
    have : i < 64 := by simpa using hi
    omega
  · intro h
    exact ⟨x.toNat, by simp; omega, by omega⟩

def totW (wt u : Int → Int) : Int := (allU.map fun x => wt x * u x).sum
theorem totW_put {wt u : Int → Int} {y : Int} (d : Int) (hy : 0 ≤ y ∧ y < 64) : totW wt (fun q => if q = y then u y + d else u q) = totW wt u + wt y * d := by
  unfold totW
  rw [sum_turn (F := fun x => wt x * u x) (y := y) allU_nodup (mem_allU.2 hy) (fun q _ hne => by simp only [if_neg hne])]
  show _ + (wt y * (if y = y then u y + d else u y) - wt y * u y) = _
  rw [if_pos rfl, Int.mul_add]
  omega
theorem totW_wt {wt wt' u : Int → Int} {y : Int} (hy : 0 ≤ y ∧ y < 64) (h : ∀ q, q ≠ y → wt' q = wt q) : totW wt' u = totW wt u + (wt' y - wt y) * u y := by
  unfold totW
  rw [sum_turn (F := fun x => wt x * u x) (y := y) allU_nodup (mem_allU.2 hy) (fun q _ hne => by rw [h q hne]), Int.sub_mul]
theorem totW_one {u : Int → Int} {a : Int} (ha : 0 ≤ a ∧ a < 64) : totW (fun x => if x = a then 1 else 0) u = u a := by
  have h0 : ∀ L : List Int, (L.map fun x => (0 : Int) * u x).sum = 0 := fun L => by induction L with
    | nil => rfl
    | cons x L ih =>
      show 0 * u x + (L.map fun x => (0 : Int) * u x).sum = 0
      rw [ih, Int.zero_mul]
      rfl
  have h1 := totW_wt (wt := fun _ => 0) (wt' := fun x => if x = a then 1 else 0) (u := u) ha (fun q hq => by simp [hq])
  rw [h1]
  unfold totW
  rw [h0]
  simp

/-- A list of pairs in which each pair has all pairs to which its steps lead ahead of it. -/
def OrdQ (qs : List Int) (n : Nat) : Prop := ∀ i j, i < n → j < n → StepP qs n i j → j < i

/-- What a way that has come to x counts behind k pairs: those to a, or being at a. -/
def wtB (qs : List Int) (n k : Nat) (x : Int) : Bool := (List.range n).any fun i => decide (at0 qs (i * 2) = x) && decide (n - k ≤ i)
theorem wtB_iff {qs : List Int} {n k : Nat} {x : Int} : wtB qs n k x = true ↔ ∃ i, i < n ∧ at0 qs (i * 2) = x ∧ n - k ≤ i := by
  unfold wtB
  rw [List.any_eq_true]
  simp
def wtK (qs : List Int) (n : Nat) (a : Int) (k : Nat) (x : Int) : Int := if wtB qs n k x then (if x = a then 1 else 0) else gw qs n a x
theorem wtK_zero (qs : List Int) (n : Nat) (a : Int) : wtK qs n a 0 = gw qs n a := by
  funext x
  unfold wtK
  rw [if_neg]
  intro h
  obtain ⟨i, hi, _, h2⟩ := wtB_iff.1 h
  omega
theorem wtK_all (qs : List Int) (n : Nat) (a : Int) : wtK qs n a n = fun x => if x = a then 1 else 0 := by
  funext x
  unfold wtK
  by_cases h : wtB qs n n x = true
  · rw [if_pos h]
  · rw [if_neg h, gw_none (fun i hi e => h (wtB_iff.2 ⟨i, hi, e, by omega⟩))]
/-- A step of pair n - 1 - k leads to what has not been gone through. -/
theorem wtK_next {qs : List Int} {n : Nat} (hO : OrdQ qs n) (a : Int) {k : Nat} (hk : k < n) {y : Int} (hy : y ∈ nextL qs n (at0 qs ((n - 1 - k) * 2))) : wtK qs n a k y = gw qs n a y := by
  unfold wtK
  rw [if_neg]
  intro h
  obtain ⟨j, hj, e, h2⟩ := wtB_iff.1 h
  have := hO (n - 1 - k) j (by omega) hj (by unfold StepP; rw [e]; exact hy)
  omega
theorem wtK_self {qs : List Int} {n : Nat} (hd : LowsApart qs n) (a : Int) {k : Nat} (hk : k < n) : wtK qs n a k (at0 qs ((n - 1 - k) * 2)) = gw qs n a (at0 qs ((n - 1 - k) * 2)) := by
  unfold wtK
  rw [if_neg]
  intro h
  obtain ⟨j, hj, e, h2⟩ := wtB_iff.1 h
  have := lows_inj hd hj (show n - 1 - k < n by omega) e
  omega
theorem wtK_succ {qs : List Int} {n : Nat} (a : Int) {k : Nat} (hk : k < n) :
    wtK qs n a (k + 1) (at0 qs ((n - 1 - k) * 2)) = (if at0 qs ((n - 1 - k) * 2) = a then 1 else 0) ∧ ∀ q, q ≠ at0 qs ((n - 1 - k) * 2) → wtK qs n a (k + 1) q = wtK qs n a k q := by
  constructor
  · unfold wtK
    rw [if_pos (wtB_iff.2 ⟨n - 1 - k, by omega, rfl, by omega⟩)]
  · intro q hq
    unfold wtK
    have : wtB qs n (k + 1) q = wtB qs n k q := by
      rw [Bool.eq_iff_iff, wtB_iff, wtB_iff]
      constructor
      · rintro ⟨j, hj, e, h2⟩
        refine ⟨j, hj, e, ?_⟩
        by_cases h3 : j = n - 1 - k
        · subst h3; exact absurd e.symm hq
        · omega
      · rintro ⟨j, hj, e, h2⟩
        exact ⟨j, hj, e, by omega⟩
    rw [this]

theorem ordQ_acyclic {qs : List Int} {n : Nat} (hO : OrdQ qs n) : NoCycle qs n := by
  have key : ∀ {x y : Int}, Way qs n x y → ∀ i j, i < n → j < n → at0 qs (i * 2) = x → at0 qs (j * 2) = y → j < i := by
    intro x y h
    induction h with
    | one h1 =>
      intro i j hi hj hx hy
      exact hO i j hi hj (by unfold StepP; rw [hx, hy]; exact h1)
    | @more z y _ h2 ih =>
      intro i j hi hj hx hy
      obtain ⟨m, hm, hz⟩ := next_low h2
      have h3 := ih i m hi hm hx hz
      have h4 := hO m j hm hj (by unfold StepP; rw [hz, hy]; exact h2)
      omega
  intro i hi hw
  have := key hw i i hi hi rfl rfl
  omega

/-- A pair has been gone through: all ways have been carried on. -/
theorem totW_round {qs : List Int} {n : Nat} (hO : OrdQ qs n) (hh : HighsB qs n) (hd : LowsApart qs n) (a : Int) {k : Nat} (hk : k < n) {x : Int} (hx : x = at0 qs ((n - 1 - k) * 2)) (hx2 : 0 ≤ x ∧ x < 64) {u : Int → Int} {S : Int}
    (h : totW (wtK qs n a k) u = S + u x * ((stepsF qs n x).map fun z => gw qs n a (z.val : Int)).sum) : totW (wtK qs n a (k + 1)) u = S := by
  obtain ⟨h1, h2⟩ := wtK_succ (qs := qs) a hk
  rw [← hx] at h1 h2
  have h3 : wtK qs n a k x = gw qs n a x := by rw [hx]; exact wtK_self hd a hk
  have hg := gw_step (ordQ_acyclic hO) a x
  rw [gw_steps hh x (gw qs n a)] at h
  rw [totW_wt hx2 h2, h, h1, h3, hg]
  rw [Int.mul_comm (u x)]
  have : ((if x = a then (1 : Int) else 0) - ((if x = a then 1 else 0) + ((nextL qs n x).map (gw qs n a)).sum)) = -((nextL qs n x).map (gw qs n a)).sum := by omega
  rw [this, Int.neg_mul]
  omega
theorem totW_next {qs : List Int} {n : Nat} (hO : OrdQ qs n) (hh : HighsB qs n) (a : Int) {k : Nat} (hk : k < n) {x : Int} (hx : x = at0 qs ((n - 1 - k) * 2)) {u : Int → Int} {S : Int} {pre : List (Fin 64)} {z : Fin 64} (hz : (z.val : Int) ∈ nextL qs n x)
    (h : totW (wtK qs n a k) u = S + u x * (pre.map fun z => gw qs n a (z.val : Int)).sum) :
    totW (wtK qs n a k) (fun q => if q = (z.val : Int) then u (z.val : Int) + u x else u q) = S + (fun q => if q = (z.val : Int) then u (z.val : Int) + u x else u q) x * ((pre ++ [z]).map fun z => gw qs n a (z.val : Int)).sum := by
  have hne := nextL_ne hz
  rw [totW_put (u x) (next_range hh hz), h, wtK_next hO a hk (by rw [← hx]; exact hz)]
  simp only [if_neg (fun e => hne e.symm : ¬ x = (z.val : Int)), List.map_append, List.map_cons, List.map_nil, List.sum_append, List.sum_cons, List.sum_nil, Int.add_zero, Int.mul_add]
  rw [Int.mul_comm (gw qs n a (z.val : Int)), Int.add_assoc]

theorem sides_nodup : ∀ f : Fin 64, (sidesF f.val).Nodup := by decide +kernel
/-- The sides, one way each. -/
def sideU (pre : List (Fin 64)) (x : Int) : Int := if x ∈ pre.map (fun z => (z.val : Int)) then 1 else 0
theorem sideU_snoc (pre : List (Fin 64)) (z : Fin 64) : (fun q => if q = (z.val : Int) then 1 else sideU pre q) = sideU (pre ++ [z]) := by
  funext q
  unfold sideU
  by_cases h : q = (z.val : Int)
  · simp [h]
  · rw [if_neg h]
    simp only [List.map_append, List.mem_append, List.map_cons, List.map_nil, List.mem_singleton, h, or_false]
theorem totW_sides (g : Int → Int) : ∀ (l : List (Fin 64)), l.Nodup → totW g (sideU l) = (l.map fun z => g (z.val : Int)).sum := by
  intro l
  have h0 : ∀ L : List Int, (L.map fun x => g x * 0).sum = 0 := fun L => by induction L with
    | nil => rfl
    | cons x L ih =>
      show g x * 0 + (L.map fun x => g x * 0).sum = 0
      rw [ih, Int.mul_zero]
      rfl
  have key : ∀ (m : Nat) (l : List (Fin 64)), l.length = m → l.Nodup → totW g (sideU l) = (l.map fun z => g (z.val : Int)).sum := by
    intro m
    induction m with
    | zero =>
      intro l hl _
      have : l = [] := List.eq_nil_of_length_eq_zero hl
      subst this
      unfold totW sideU
      simp only [List.map_nil, List.not_mem_nil, if_false]
      rw [h0]
      rfl
    | succ m ih =>
      intro l hl hn
      obtain ⟨l', z, rfl⟩ : ∃ l' z, l = l' ++ [z] := by
        rcases List.eq_nil_or_concat l with h | ⟨l', z, h⟩
        · rw [h] at hl; simp at hl
        · exact ⟨l', z, by rw [h, List.concat_eq_append]⟩
      rw [List.nodup_append] at hn
      have hz : sideU l' (z.val : Int) = 0 := by
        unfold sideU
        rw [if_neg]
        intro h
        obtain ⟨z', hz', e⟩ := List.mem_map.1 h
        have : z' = z := Fin.ext (by omega)
        exact hn.2.2 z' hz' z (by simp) this
      have h1 := totW_put (wt := g) (u := sideU l') (y := (z.val : Int)) 1 ⟨by omega, by have := z.isLt; omega⟩
      rw [hz, Int.zero_add, sideU_snoc, ih l' (by simpa using hl) hn.1] at h1
      rw [h1]
      simp
  exact key l.length l rfl

/-- How many ways begin at a side of b and end at a. -/
def wsum (ps : List Int) (n : Nat) (b a : Int) : Int := ((sidesF b.toNat).map fun s => gw ps n a (s.val : Int)).sum

theorem wsum_start {qs : List Int} {n : Nat} {b : Nat} (hb : b < 64) (a : Int) : totW (wtK qs n a 0) (sideU (sidesF b)) = wsum qs n (b : Int) a := by
  rw [wtK_zero, totW_sides _ _ (sides_nodup ⟨b, hb⟩)]
  rfl
theorem wsum_end {qs : List Int} {n : Nat} {b a : Int} {u : Int → Int} (ha : 0 ≤ a ∧ a < 64) (h : totW (wtK qs n a n) u = wsum qs n b a) : u a = wsum qs n b a := by
  rw [wtK_all, totW_one ha] at h
  exact h

end Go.Proofs.Ytbhdipljhelddaa

/-! How many gradient ways there can be: with n pairs no more than 2 to the n + 1 from a face, so the counts don't wrap. -/
namespace Go.Proofs.Ytbhdipljhelddaa
open Go.RowKit

theorem sum_nonneg : ∀ {l : List Int}, (∀ x ∈ l, 0 ≤ x) → 0 ≤ l.sum
  | [], _ => by simp
  | x :: l, h => by
    have := sum_nonneg (l := l) (fun y hy => h y (by simp [hy]))
    have := h x (by simp)
    simp
    omega
theorem gwN_nonneg (ps : List Int) (n : Nat) (b : Int) : ∀ (f : Nat) (a : Int), 0 ≤ gwN ps n b f a
  | 0, a => by simp [gwN]
  | f + 1, a => by
    have : 0 ≤ ((nextL ps n a).map (gwN ps n b f)).sum := sum_nonneg fun x hx => by
      obtain ⟨y, _, rfl⟩ := List.mem_map.1 hx
      exact gwN_nonneg ps n b f y
    unfold gwN
    split <;> omega
theorem gw_nonneg (ps : List Int) (n : Nat) (b a : Int) : 0 ≤ gw ps n b a := gwN_nonneg ps n b _ a

theorem below_nodup : ∀ f : Fin 64, (belowR f.val 63).Nodup := by decide +kernel
theorem nextL_nodup {ps : List Int} {n : Nat} (hh : HighsB ps n) (a : Int) : (nextL ps n a).Nodup := by
  unfold nextL
  split
  · simp
  · have := hh a
    exact (below_nodup ⟨(highOf ps n a).toNat, by omega⟩).sublist List.filter_sublist

theorem sum_one {c : Int} {g : Int} (hg : 0 ≤ g) : ∀ {l : List Int}, l.Nodup → (l.map fun y => if c = y then g else 0).sum ≤ g
  | [], _ => by simpa using hg
  | y :: l, h => by
    obtain ⟨h1, h2⟩ := List.nodup_cons.1 h
    simp only [List.map_cons, List.sum_cons]
    by_cases e : c = y
    · subst e
      have h0 : (l.map fun y => if c = y then g else 0).sum = 0 := by
        have : (l.map fun y => if c = y then g else 0) = l.map fun _ => 0 := List.map_congr_left fun y hy => if_neg fun e => h1 (by rw [e]; exact hy)
        rw [this]
        clear this h h1 h2
        induction l with
        | nil => rfl
        | cons z l ih => simpa using ih
      rw [if_pos rfl, h0]
      omega
    · rw [if_neg e]
      have := sum_one (c := c) hg h2
      omega
theorem sum_add (l : List Int) (f g : Int → Int) : (l.map fun y => f y + g y).sum = (l.map f).sum + (l.map g).sum := by
  induction l with
  | nil => rfl
  | cons x l ih => simp only [List.map_cons, List.sum_cons, ih]; omega
theorem sum_mono {f g : Int → Int} : ∀ {l : List Int}, (∀ y ∈ l, f y ≤ g y) → (l.map f).sum ≤ (l.map g).sum
  | [], _ => by simp
  | x :: l, h => by
    have := sum_mono (l := l) (fun y hy => h y (by simp [hy]))
    have := h x (by simp)
    simp only [List.map_cons, List.sum_cons]
    omega

/-- The ways from the low faces of the first i pairs, together. -/
def lowSum (ps : List Int) (n : Nat) (b : Int) (i : Nat) : Int := ((List.range i).map fun j => gw ps n b (at0 ps (j * 2))).sum
theorem lowSum_succ (ps : List Int) (n : Nat) (b : Int) (i : Nat) : lowSum ps n b (i + 1) = lowSum ps n b i + gw ps n b (at0 ps (i * 2)) := by
  unfold lowSum
  rw [List.range_succ, List.map_append, List.sum_append]
  simp
def hitSum (ps : List Int) (n : Nat) (b : Int) (i : Nat) (y : Int) : Int := ((List.range i).map fun j => if at0 ps (j * 2) = y then gw ps n b (at0 ps (j * 2)) else 0).sum
theorem hitSum_succ (ps : List Int) (n : Nat) (b : Int) (i : Nat) (y : Int) : hitSum ps n b (i + 1) y = hitSum ps n b i y + (if at0 ps (i * 2) = y then gw ps n b (at0 ps (i * 2)) else 0) := by
  unfold hitSum
  rw [List.range_succ, List.map_append, List.sum_append]
  simp
theorem hitSum_nonneg (ps : List Int) (n : Nat) (b y : Int) : ∀ i, 0 ≤ hitSum ps n b i y
  | 0 => by simp [hitSum]
  | i + 1 => by
    rw [hitSum_succ]
    have := hitSum_nonneg ps n b y i
    have := gw_nonneg ps n b (at0 ps (i * 2))
    split <;> omega
theorem hitSum_ge (ps : List Int) (n : Nat) (b : Int) : ∀ {i j : Nat}, j < i → gw ps n b (at0 ps (j * 2)) ≤ hitSum ps n b i (at0 ps (j * 2))
  | i + 1, j, h => by
    rw [hitSum_succ]
    by_cases e : j = i
    · subst e
      have := hitSum_nonneg ps n b (at0 ps (j * 2)) j
      rw [if_pos rfl]
      omega
    · have := hitSum_ge ps n b (i := i) (j := j) (by omega)
      have := gw_nonneg ps n b (at0 ps (i * 2))
      split <;> omega
theorem hits_le (ps : List Int) (n : Nat) (b : Int) {l : List Int} (hl : l.Nodup) : ∀ i, (l.map (hitSum ps n b i)).sum ≤ lowSum ps n b i
  | 0 => by
    have : (l.map (hitSum ps n b 0)) = l.map fun _ => 0 := rfl
    rw [this]
    have h2 : lowSum ps n b 0 = 0 := rfl
    rw [h2]
    clear this h2 hl
    induction l with
    | nil => simp
    | cons x l ih => simpa using ih
  | i + 1 => by
    have h1 : (l.map (hitSum ps n b (i + 1))).sum = (l.map (hitSum ps n b i)).sum + (l.map fun y => if at0 ps (i * 2) = y then gw ps n b (at0 ps (i * 2)) else 0).sum := by
      rw [← sum_add]
      congr 1
      exact List.map_congr_left fun y _ => hitSum_succ ps n b i y
    have := hits_le ps n b hl i
    have := sum_one (c := at0 ps (i * 2)) (gw_nonneg ps n b (at0 ps (i * 2))) hl
    rw [h1, lowSum_succ]
    omega

theorem gw_low_le {ps : List Int} {n : Nat} (hc : NoCycle ps n) (hh : HighsB ps n) (hO : OrdQ ps n) (b : Int) {i : Nat} (hi : i < n) : gw ps n b (at0 ps (i * 2)) ≤ 2 + lowSum ps n b i := by
  rw [gw_step hc]
  have hnd := nextL_nodup hh (at0 ps (i * 2))
  have h1 : ((nextL ps n (at0 ps (i * 2))).map (gw ps n b)).sum ≤ ((nextL ps n (at0 ps (i * 2))).map fun y => (if b = y then 1 else 0) + hitSum ps n b i y).sum := sum_mono fun y hy => by
    have h0 := hitSum_nonneg ps n b y i
    by_cases hlow : ∃ j, j < n ∧ at0 ps (j * 2) = y
    · obtain ⟨j, hj, rfl⟩ := hlow
      have hji := hO i j hi hj hy
      have := hitSum_ge ps n b hji
      split <;> omega
    · rw [gw_none (fun j hj e => hlow ⟨j, hj, e⟩)]
      by_cases e : y = b
      · rw [if_pos e, if_pos e.symm]; omega
      · rw [if_neg e]; split <;> omega
  rw [sum_add] at h1
  have h2 := sum_one (c := b) (g := 1) (by decide) hnd
  have h3 := hits_le ps n b hnd i
  split <;> omega

theorem lowSum_le {ps : List Int} {n : Nat} (hc : NoCycle ps n) (hh : HighsB ps n) (hO : OrdQ ps n) (b : Int) : ∀ i, i ≤ n → lowSum ps n b i ≤ 2 ^ (i + 1) - 2
  | 0, _ => by simp [lowSum]
  | i + 1, h => by
    have h1 := lowSum_le hc hh hO b i (by omega)
    have h2 := gw_low_le hc hh hO b (show i < n by omega)
    rw [lowSum_succ, Int.pow_succ]
    omega

/-- From whatever face, for pairs that are settled. -/
theorem gw_le {ps : List Int} {n : Nat} (hc : NoCycle ps n) (hh : HighsB ps n) (hO : OrdQ ps n) (b a : Int) : gw ps n b a ≤ 2 ^ (n + 1) := by
  have hp : (1 : Int) ≤ 2 ^ (n + 1) := Int.pow_pos (by decide)
  by_cases hlow : ∃ j, j < n ∧ at0 ps (j * 2) = a
  · obtain ⟨j, hj, rfl⟩ := hlow
    have h1 := lowSum_le hc hh hO b n (Nat.le_refl _)
    have h2 : gw ps n b (at0 ps (j * 2)) ≤ lowSum ps n b n := by
      have h3 := hits_le ps n b (l := [at0 ps (j * 2)]) (by simp) n
      have h4 := hitSum_ge ps n b hj
      simp at h3
      omega
    omega
  · rw [gw_none (fun j hj e => hlow ⟨j, hj, e⟩)]
    split <;> omega

theorem sum_bound {B : Int} : ∀ {l : List Int}, (∀ x ∈ l, x ≤ B) → l.sum ≤ l.length * B
  | [], _ => by simp
  | x :: l, h => by
    have := sum_bound (l := l) (fun y hy => h y (by simp [hy]))
    have := h x (by simp)
    simp only [List.sum_cons, List.length_cons, Int.natCast_add, Int.add_mul]
    omega

theorem sidesF_len : ∀ f : Fin 64, (sidesF f.val).length ≤ 6 := by decide +kernel
/-- The ways from a critical face, for at most 31 settled pairs: no wrapping. -/
theorem wsum_rng {ps : List Int} {n : Nat} (hn : n ≤ 31) (hc : NoCycle ps n) (hh : HighsB ps n) (hO : OrdQ ps n) {b : Nat} (hb : b < 64) (a : Int) : 0 ≤ wsum ps n (b : Int) a ∧ wsum ps n (b : Int) a ≤ 25769803776 := by
  unfold wsum
  rw [Int.toNat_natCast]
  refine ⟨sum_nonneg fun x hx => ?_, ?_⟩
  · obtain ⟨s, _, rfl⟩ := List.mem_map.1 hx
    exact gw_nonneg ..
  · have h1 : ((sidesF b).map fun s => gw ps n a ((s.val : Nat) : Int)).sum ≤ ((sidesF b).map fun s => gw ps n a ((s.val : Nat) : Int)).length * 4294967296 := sum_bound fun x hx => by
      obtain ⟨s, _, rfl⟩ := List.mem_map.1 hx
      refine Int.le_trans (gw_le hc hh hO a _) ?_
      have h2 : (2 : Nat) ^ (n + 1) ≤ 2 ^ 32 := Nat.pow_le_pow_right (by decide) (by omega)
      have h3 : ((2 : Nat) ^ (n + 1) : Nat) = ((2 : Int) ^ (n + 1)) := by push_cast; rfl
      omega
    have h2 := sidesF_len ⟨b, hb⟩
    simp only at h2
    rw [List.length_map] at h1
    omega

end Go.Proofs.Ytbhdipljhelddaa

/-! Pairs put into an ascending list, and pairs sorted. -/
namespace Go.Proofs.Ytbhdipljhelddaa
open Go.RowKit

/-- Not behind. -/
def leP (p q : Int × Int) : Prop := lessP q.1 q.2 p.1 p.2 = false
theorem leP_iff {p q : Int × Int} : leP p q ↔ p.1 < q.1 ∨ (p.1 = q.1 ∧ p.2 ≤ q.2) := by
  unfold leP lessP
  simp only [Bool.or_eq_false_iff, Bool.and_eq_false_iff, decide_eq_false_iff_not]
  omega
theorem leP_anti {p q : Int × Int} (h1 : leP p q) (h2 : leP q p) : p = q := by
  rw [leP_iff] at h1 h2
  obtain ⟨a, b⟩ := p
  obtain ⟨c, d⟩ := q
  simp only at h1 h2
  simp only [Prod.mk.injEq]
  omega
theorem leP_trans {p q r : Int × Int} (h1 : leP p q) (h2 : leP q r) : leP p r := by
  rw [leP_iff] at *
  omega
theorem leP_of_less {p q : Int × Int} (h : lessP p.1 p.2 q.1 q.2 = true) : leP p q := by
  rw [leP_iff]
  unfold lessP at h
  simp only [Bool.or_eq_true, Bool.and_eq_true, decide_eq_true_eq] at h
  omega
/-- Two ascending lists of the same pairs are one. -/
theorem asc_one : ∀ {a b : List (Int × Int)}, a.Perm b → a.Pairwise leP → b.Pairwise leP → a = b
  | [], b, h, _, _ => (List.nil_perm.1 h).symm
  | x :: a, [], h, _, _ => by simp at h
  | x :: a, y :: b, h, ha, hb => by
    obtain ⟨ha1, ha2⟩ := List.pairwise_cons.1 ha
    obtain ⟨hb1, hb2⟩ := List.pairwise_cons.1 hb
    have hxy : x = y := by
      rcases List.mem_cons.1 (h.mem_iff.1 (List.mem_cons_self (a := x) (l := a))) with e | hx
      · exact e
      · rcases List.mem_cons.1 (h.mem_iff.2 (List.mem_cons_self (a := y) (l := b))) with e | hy
        · exact e.symm
        · exact leP_anti (ha1 _ hy) (hb1 _ hx)
    subst hxy
    rw [asc_one (List.Perm.cons_inv h) ha2 hb2]

/-- The place of a pair, from the end on. -/
def plL (L : List (Int × Int)) (p : Int × Int) : Nat → Nat
  | 0 => 0
  | k + 1 => if lessP p.1 p.2 (L[k]?.getD (0, 0)).1 (L[k]?.getD (0, 0)).2 then plL L p k else k + 1
theorem plL_le (L : List (Int × Int)) (p : Int × Int) : ∀ n, plL L p n ≤ n
  | 0 => Nat.le_refl _
  | k + 1 => by
    unfold plL
    split
    · exact Nat.le_succ_of_le (plL_le L p k)
    · exact Nat.le_refl _
/-- Behind the place all are greater; ahead of it stands one that isn't. -/
theorem plL_spec (L : List (Int × Int)) (p : Int × Int) : ∀ n, (∀ j, plL L p n ≤ j → j < n → leP p (L[j]?.getD (0, 0))) ∧ (0 < plL L p n → leP (L[plL L p n - 1]?.getD (0, 0)) p)
  | 0 => ⟨fun j _ h => absurd h (by omega), fun h => by simp [plL] at h⟩
  | k + 1 => by
    obtain ⟨i1, i2⟩ := plL_spec L p k
    unfold plL
    split
    · rename_i h
      refine ⟨fun j h1 h2 => ?_, i2⟩
      by_cases e : j = k
      · rw [e]; exact leP_of_less h
      · exact i1 j h1 (by omega)
    · rename_i h
      refine ⟨fun j h1 h2 => absurd h2 (by omega), fun _ => ?_⟩
      rw [Nat.add_sub_cancel]
      unfold leP
      simpa using h
/-- The list with the pair. -/
def insL (L : List (Int × Int)) (p : Int × Int) : List (Int × Int) := L.take (plL L p L.length) ++ (p :: L.drop (plL L p L.length))
theorem insL_perm (L : List (Int × Int)) (p : Int × Int) : (insL L p).Perm (p :: L) := by
  unfold insL
  refine List.perm_middle.trans ?_
  rw [List.take_append_drop]
theorem insL_asc {L : List (Int × Int)} (p : Int × Int) (h : L.Pairwise leP) : (insL L p).Pairwise leP := by
  obtain ⟨s1, s2⟩ := plL_spec L p L.length
  have hle := plL_le L p L.length
  unfold insL
  obtain ⟨P, hP⟩ : ∃ P, P = plL L p L.length := ⟨_, rfl⟩
  rw [← hP] at s1 s2 hle ⊢
  have hsp : (L.take P ++ L.drop P).Pairwise leP := by rw [List.take_append_drop]; exact h
  obtain ⟨h1, h2, h3⟩ := List.pairwise_append.1 hsp
  have hb : ∀ q ∈ L.drop P, leP p q := fun q hq => by
    obtain ⟨i, hi, rfl⟩ := List.mem_iff_getElem.1 hq
    have hi' : P + i < L.length := by simp at hi; omega
    have := s1 (P + i) (by omega) hi'
    rw [List.getElem?_eq_getElem hi'] at this
    rw [List.getElem_drop]
    exact this
  have ht : ∀ q ∈ L.take P, leP q p := fun q hq => by
    obtain ⟨i, hi, rfl⟩ := List.mem_iff_getElem.1 hq
    have hi' : i < P := by simp at hi; omega
    have hl := s2 (by omega)
    have hPl : P - 1 < L.length := by omega
    rw [List.getElem?_eq_getElem hPl] at hl
    rw [List.getElem_take]
    by_cases e : i = P - 1
    · subst e; exact hl
    · exact leP_trans (List.pairwise_iff_getElem.1 h i (P - 1) (by omega) hPl (by omega)) hl
  refine List.pairwise_append.2 ⟨h1, List.pairwise_cons.2 ⟨hb, h2⟩, fun x hx y hy => ?_⟩
  rcases List.mem_cons.1 hy with rfl | hy
  · exact ht x hx
  · exact h3 x hx y hy
/-- All pairs put in, one after the other. -/
def insAll (ps : List (Int × Int)) : List (Int × Int) := ps.foldl insL []
theorem insAll_from (ps : List (Int × Int)) : ∀ L : List (Int × Int), L.Pairwise leP → (ps.foldl insL L).Pairwise leP ∧ (ps.foldl insL L).Perm (ps ++ L) := by
  induction ps with
  | nil => exact fun L h => ⟨h, List.Perm.refl _⟩
  | cons p ps ih =>
    intro L h
    obtain ⟨i1, i2⟩ := ih (insL L p) (insL_asc p h)
    refine ⟨i1, i2.trans ?_⟩
    exact ((insL_perm L p).append_left ps).trans (List.perm_middle)
/-- What is sorted of the same pairs is that list. -/
theorem insAll_eq {ps qs : List (Int × Int)} (hp : qs.Perm ps) (hs : qs.Pairwise leP) : qs = insAll ps := by
  obtain ⟨i1, i2⟩ := insAll_from ps [] List.Pairwise.nil
  rw [List.append_nil] at i2
  exact asc_one (hp.trans i2.symm) hs i1
theorem insAll_snoc (ps : List (Int × Int)) (p : Int × Int) : insAll (ps ++ [p]) = insL (insAll ps) p := by unfold insAll; rw [List.foldl_append]; rfl
theorem insAll_len (ps : List (Int × Int)) : (insAll ps).length = ps.length := by
  have h := (insAll_from ps [] List.Pairwise.nil).2.length_eq
  rw [List.append_nil] at h
  exact h

end Go.Proofs.Ytbhdipljhelddaa

/-! Loops over iterators that keep cells of their own: boxed variables, and loops within a round. -/
namespace Go.Proofs.Ytbhdipljhelddaa
open Go.RowKit Go.Shelf

attribute [local go_sem] Oper.semAt_some

/-- A loop over such an iterator whose variable is boxed; the body is told of its own record. -/
theorem wpIn_rangeFunc_PH {α : Type} {F : Fence} {n : Nat} {P : Program} {w : World} {g : Operand} {ps : Array Tmp} {assign body : Code} {Q : Exit → Act → World → Prop} {a : Act}
    (hro : F.round = none) (h1 : 1 ≤ n) {gf : Nat} {lb : Array Value} (hg : a.eval g = .func (.func gf) #[] lb) (hFg : F.fn gf) (eg : ∀ args w, (callFunc gf args).run P w = .ok (.enter gf args) w)
    {encs : α → Array Value} {Bs : List Nat} {k : Nat} {L : List α} {w0 : World} (hseq : SeqStopsP F (n - 1) P gf lb encs Bs k L w0) (hBs : ∀ b ∈ Bs, b < w.heap.size)
    (hb0 : Below w0.heap.size w0 w) (hps : ∀ x, (encs x).size = ps.size)
    (I : List α → World → Prop) (Ix : Code → List α → World → Prop) (hI : OwnIn w.heap.size (2 + k) I) (hIx : ∀ c, OwnIn w.heap.size (2 + k) (Ix c)) (h0 : I [] w) (ob : α → Obj) (a₁ : α → Nat → Act)
    (hassign : ∀ (l : Nat) (x : α) (W : World) (K : Act → World → Prop), K (a₁ x W.heap.size) (W.alloc (ob x)) →
      assign.wpIn (F.inRound l) (n - 1 - 1) P (Exit.then K (fun _ _ _ => False)) { tmps := (ps.zip (encs x)).foldl (fun t (p, v) => t.setIfInBounds p v) a.tmps, defers := [] } W)
    (hbody : ∀ (pre : List α) (x : α) (bx : Nat) (W : World), pre ++ [x] <+: L → w.heap.size + (2 + k) ≤ bx → W.heap.size = bx + 1 → W.heap[bx]? = some (ob x) → (∃ r, W.heap[w.heap.size + 1]? = some (.loop r)) → I pre W → body.wpIn (F.inRound (w.heap.size + 1)) (n - 1 - 1) P (postP Bs w.heap.size (2 + k) I Ix (pre ++ [x]) W) (a₁ x bx) W)
    (hdone : ∀ (W : World), I L W → W.heap[w.heap.size]? = some (.deferred (some [])) → Q .normal { a with defers := { target := .collected w.heap.size, args := #[] } :: a.defers } W)
    (hstop : ∀ (c : Code) (pre : List α) (W : World), pre <+: L → Ix c pre W → W.heap[w.heap.size]? = some (.deferred (some [])) → c.wpIn F n P Q { a with defers := { target := .collected w.heap.size, args := #[] } :: a.defers } W) :
    (Code.rangeFunc g ps assign body).wpIn F n P Q a w := by
  refine wpIn_rangeFunc ?_
  intro fn hfn
  rw [hro]
  let rec_ : LoopState → Option Code → Loop := fun st pe => { state := st, pending := pe, fn, tmps := a.tmps, params := ps, assign, body, defers := w.heap.size }
  obtain ⟨rec, hrec⟩ : ∃ rec, rec = rec_ := ⟨_, rfl⟩
  obtain ⟨W1, hW1⟩ : ∃ W1, (w.alloc (.deferred (some []))).alloc (.loop (rec .ready none)) = W1 := ⟨_, rfl⟩
  have hs1 : W1.heap.size = w.heap.size + 2 := by rw [← hW1]; simp
  have hL1 : W1.heap[w.heap.size + 1]? = some (.loop (rec .ready none)) := by
    rw [← hW1]; have := World.alloc_heap_new (w.alloc (.deferred (some []))) (.loop (rec .ready none)); rwa [World.size_alloc] at this
  have hK1 : W1.heap[w.heap.size]? = some (.deferred (some [])) := by
    rw [← hW1]; exact (Below.heap_alloc _ _ _ (by simp)).trans (World.alloc_heap_new w _)
  have hI1 : I [] W1 := by rw [← hW1]; exact hI.alloc _ (hI.alloc _ h0)
  have hb1 : Below w0.heap.size w0 W1 := by
    rw [← hW1]; exact hb0.trans ((((Below.refl _ w).alloc (Nat.le_refl _) _).alloc (by simp) _).mono hb0.size)
  have hIk : ∀ {I' : List α → World → Prop}, OwnIn w.heap.size (2 + k) I' → OwnIn W1.heap.size k I' := fun h => h.less (by omega) (by omega)
  refine ⟨w.heap.size + 1, [{ target := .collected w.heap.size, args := #[] }], W1, { target := .fn (.func gf) lb, args := #[.func (.yield (w.heap.size + 1)) #[] #[]] }, W1, gf,
    #[.func (.yield (w.heap.size + 1)) #[] #[]] ++ lb, W1, ?_, ?_, ?_, ?_, fun _ => h1, ?_⟩
  · rw [← hW1, hrec]; exact run_enterLoop_outer _ _ _ _ _
  · simp only [resolve, hg]
    simp [go_sem]
  · intro f' hf'; simp [Target.leads] at hf'; subst hf'; exact hFg
  · simp [invoke, go_sem, eg]
  · have hrow : ∀ {A B : World} {row : Option Nat} {b : Nat} {o : Obj}, A.grownBy B row → (∀ r, row = some r → W1.heap.size ≤ r ∧ (r < W1.heap.size + k ∨ ∃ o : Obj, A.heap[r]? = some o ∧ o.isCells = false)) → b < W1.heap.size → A.heap[b]? = some o → B.heap[b]? = some o :=
      fun hg' hr hb ho => (hg'.block _ (Array.getElem?_eq_some_iff.1 ho).1 (fun e => by have := (hr _ e.symm).1; omega)).trans ho
    refine (hseq (w.heap.size + 1)
      (fun pre W => I pre W ∧ W.heap[w.heap.size + 1]? = some (.loop (rec .ready none)) ∧ W.heap[w.heap.size]? = some (.deferred (some [])))
      (fun pre W => ∃ c, Ix c pre W ∧ W.heap[w.heap.size + 1]? = some (.loop (rec .done (some c))) ∧ W.heap[w.heap.size]? = some (.deferred (some [])))
      W1 hb1
      (fun s A B row hs hg' hr => ⟨hIk hI s A B row hs.1 hg' hr, hrow hg' hr (by omega) hs.2.1, hrow hg' hr (by omega) hs.2.2⟩)
      (fun s A B row hs hg' hr => by
        obtain ⟨c, hc, hl, hk⟩ := hs
        exact ⟨c, hIk (hIx c) s A B row hc hg' hr, hrow hg' hr (by omega) hl, hrow hg' hr (by omega) hk⟩)
      ?_ ⟨hI1, hL1, hK1⟩).mono ?_
    · rintro pre x W hpre hsk ⟨hi, hl, hk⟩
      have hlt : w.heap.size + 1 < W.heap.size := (Array.getElem?_eq_some_iff.1 hl).1
      have hy := run_yield (P := P) (args := encs x) hl (by rw [hrec]; exact hps x)
      rw [hrec] at hy
      refine ⟨fn, _, assign, body, hy, roundIn_of_wpIn hfn (hassign _ x W _ ?_)⟩
      clear hy
      obtain ⟨Wa, hWa⟩ : ∃ Wa, Wa = W.alloc (ob x) := ⟨_, rfl⟩
      have hsa : Wa.heap.size = W.heap.size + 1 := by rw [hWa]; simp
      have hla : Wa.heap[w.heap.size + 1]? = some (.loop (rec .ready none)) := by rw [hWa]; exact (Below.heap_alloc _ _ _ hlt).trans hl
      have hka : Wa.heap[w.heap.size]? = some (.deferred (some [])) := by rw [hWa]; exact (Below.heap_alloc _ _ _ (by omega)).trans hk
      have hia : I pre Wa := by rw [hWa]; exact hI.alloc _ hi
      have hoa : Wa.heap[W.heap.size]? = some (ob x) := by rw [hWa]; exact World.alloc_heap_new _ _
      have hkpa : KeepP Bs W1.heap.size k W Wa := by
        rw [hWa]
        refine ⟨by simp, fun r hr => Below.heap_alloc _ _ _ ?_⟩
        rcases hr with h | h
        · have := hBs r h; omega
        · omega
      rw [← hWa]
      refine ⟨_, run_beginRound hla (by rw [hrec]), ?_⟩
      obtain ⟨W2, hW2⟩ : ∃ W2, W2 = Wa.putObj (w.heap.size + 1) (.loop { rec .ready none with state := .busy }) := ⟨_, rfl⟩
      have hl2 : W2.heap[w.heap.size + 1]? = some (.loop { rec .ready none with state := .busy }) := by rw [hW2]; exact World.putObj_heap_same (by omega)
      have hk2 : W2.heap[w.heap.size]? = some (.deferred (some [])) := by rw [hW2]; exact (World.putObj_heap_other (by omega)).trans hka
      have ho2 : W2.heap[W.heap.size]? = some (ob x) := by rw [hW2]; exact (World.putObj_heap_other (by omega)).trans hoa
      have hi2 : I pre W2 := by rw [hW2]; exact hI.putObj _ hia (by omega) (by omega)
      have hkp : ∀ {X Y : World} {o : Obj}, X = Y.putObj (w.heap.size + 1) o → KeepP Bs W1.heap.size k Y X := fun e => ⟨by rw [e, World.putObj_size]; exact Nat.le_refl _, fun r hr => by
        rw [e]
        refine World.putObj_heap_other ?_
        rcases hr with h | h
        · have := hBs r h; omega
        · omega⟩
      refine wpIn_mono (hbody pre x W.heap.size _ hpre (by omega) (by rw [World.putObj_size]; exact hsa) (by rw [← hW2]; exact ho2) ⟨_, by rw [← hW2]; exact hl2⟩ (by rw [← hW2]; exact hi2)) ?_
      rw [← hW2]
      have fin : ∀ (jump : Option Code) (W3 : World), KeepP Bs w.heap.size (2 + k) W2 W3 →
          (Instr.endRound (w.heap.size + 1) jump).run P W3 = .ok (.bool jump.isNone) (W3.putObj (w.heap.size + 1) (.loop (rec (if jump.isNone then .ready else .done) jump))) ∧
          (W3.putObj (w.heap.size + 1) (.loop (rec (if jump.isNone then .ready else .done) jump))).heap[w.heap.size + 1]? = some (.loop (rec (if jump.isNone then .ready else .done) jump)) ∧
          (W3.putObj (w.heap.size + 1) (.loop (rec (if jump.isNone then .ready else .done) jump))).heap[w.heap.size]? = some (.deferred (some [])) ∧
          KeepP Bs W1.heap.size k W (W3.putObj (w.heap.size + 1) (.loop (rec (if jump.isNone then .ready else .done) jump))) := fun jump W3 hk3 => by
        have hl3 := (hk3.same (w.heap.size + 1) (.inr ⟨by omega, by omega⟩)).trans hl2
        have hd3 := (hk3.same w.heap.size (.inr ⟨by omega, by omega⟩)).trans hk2
        have := run_endRound (P := P) jump hl3
        rw [hrec] at this ⊢
        exact ⟨this, World.putObj_heap_same (Array.getElem?_eq_some_iff.1 hl3).1, (World.putObj_heap_other (by omega)).trans hd3,
          hkpa.trans ((hkp hW2).trans ((hk3.less (fun b hb => .inl hb) (by omega) (by omega)).trans (hkp rfl)))⟩
      rintro e a3 W3 hp
      cases e with
      | normal =>
        obtain ⟨hr, hl4, hk4, hkk⟩ := fin none W3 hp.1
        exact ⟨_, _, hr, hkk, .inl ⟨rfl, hI.putObj _ hp.2 (by omega) (by omega), hl4, hk4⟩⟩
      | ret =>
        obtain ⟨hr, hl4, hk4, hkk⟩ := fin (some .ret) W3 hp.1
        exact ⟨_, _, hr, hkk, .inr ⟨rfl, .ret, (hIx _).putObj _ hp.2 (by omega) (by omega), hl4, hk4⟩⟩
      | exit id =>
        obtain ⟨hr, hl4, hk4, hkk⟩ := fin (some (.exit id)) W3 hp.1
        exact ⟨_, _, hr, hkk, .inr ⟨rfl, .exit id, (hIx _).putObj _ hp.2 (by omega) (by omega), hl4, hk4⟩⟩
      | goto t =>
        obtain ⟨hr, hl4, hk4, hkk⟩ := fin (some (.goto t)) W3 hp.1
        exact ⟨_, _, hr, hkk, .inr ⟨rfl, .goto t, (hIx _).putObj _ hp.2 (by omega) (by omega), hl4, hk4⟩⟩
      | panic ch => exact hp.elim
      | outgrown => exact hp.elim
    · rintro e W2 ⟨⟨v, rfl⟩, (⟨hi, hl, hk⟩ | ⟨pre, hSp, c, hi, hl, hk⟩)⟩
      · exact ⟨none, _, by have := run_endLoop (P := P) hl (by rw [hrec]; simp [rec_]); rw [hrec] at this; exact this, hdone _ (hI.putObj _ hi (by omega) (by omega)) ((World.putObj_heap_other (by omega)).trans hk)⟩
      · exact ⟨some c, _, by have := run_endLoop (P := P) hl (by rw [hrec]; simp [rec_]); rw [hrec] at this; exact this, hstop c pre _ hSp ((hIx c).putObj _ hi (by omega) (by omega)) ((World.putObj_heap_other (by omega)).trans hk)⟩


/-- A loop over such an iterator within a round of loop l₀. -/
theorem wpIn_rangeFunc_PN {α : Type} {F : Fence} {n : Nat} {P : Program} {w : World} {g : Operand} {ps : Array Tmp} {assign body : Code} {Q : Exit → Act → World → Prop} {a : Act}
    {l₀ : Nat} {r₀ : Loop} (hro : F.round = some l₀) (hl₀ : w.heap[l₀]? = some (.loop r₀)) (h1 : 1 ≤ n) {gf : Nat} {lb : Array Value} (hg : a.eval g = .func (.func gf) #[] lb) (hFg : F.fn gf) (eg : ∀ args w, (callFunc gf args).run P w = .ok (.enter gf args) w)
    {encs : α → Array Value} {Bs : List Nat} {k : Nat} {L : List α} {w0 : World} (hseq : SeqStopsP F (n - 1) P gf lb encs Bs k L w0) (hBs : ∀ b ∈ Bs, b < w.heap.size)
    (hb0 : Below w0.heap.size w0 w) (hps : ∀ x, (encs x).size = ps.size)
    (I : List α → World → Prop) (Ix : Code → List α → World → Prop) (hI : OwnIn w.heap.size (1 + k) I) (hIx : ∀ c, OwnIn w.heap.size (1 + k) (Ix c)) (h0 : I [] w) (a₁ : α → Act)
    (hassign : ∀ (l : Nat) (x : α) (W : World) (K : Act → World → Prop), K (a₁ x) W →
      assign.wpIn (F.inRound l) (n - 1 - 1) P (Exit.then K (fun _ _ _ => False)) { tmps := (ps.zip (encs x)).foldl (fun t (p, v) => t.setIfInBounds p v) a.tmps, defers := [] } W)
    (hbody : ∀ (l : Nat) (pre : List α) (x : α) (W : World), pre ++ [x] <+: L → w.heap.size + (1 + k) ≤ W.heap.size → I pre W → body.wpIn (F.inRound l) (n - 1 - 1) P (postP Bs w.heap.size (1 + k) I Ix (pre ++ [x]) W) (a₁ x) W)
    (hdone : ∀ (W : World), I L W → Q .normal a W)
    (hstop : ∀ (c : Code) (pre : List α) (W : World), pre <+: L → Ix c pre W → c.wpIn F n P Q a W) :
    (Code.rangeFunc g ps assign body).wpIn F n P Q a w := by
  refine wpIn_rangeFunc ?_
  intro fn hfn
  rw [hro]
  let rec_ : LoopState → Option Code → Loop := fun st pe => { state := st, pending := pe, fn, tmps := a.tmps, params := ps, assign, body, defers := r₀.defers }
  obtain ⟨rec, hrec⟩ : ∃ rec, rec = rec_ := ⟨_, rfl⟩
  obtain ⟨W1, hW1⟩ : ∃ W1, w.alloc (.loop (rec .ready none)) = W1 := ⟨_, rfl⟩
  have hs1 : W1.heap.size = w.heap.size + 1 := by rw [← hW1]; simp
  have hL1 : W1.heap[w.heap.size]? = some (.loop (rec .ready none)) := by rw [← hW1]; exact World.alloc_heap_new w _
  have hI1 : I [] W1 := by rw [← hW1]; exact hI.alloc _ h0
  have hb1 : Below w0.heap.size w0 W1 := by
    rw [← hW1]; exact hb0.trans (((Below.refl _ w).alloc (Nat.le_refl _) _).mono hb0.size)
  have hIk : ∀ {I' : List α → World → Prop}, OwnIn w.heap.size (1 + k) I' → OwnIn W1.heap.size k I' := fun h => h.less (by omega) (by omega)
  refine ⟨w.heap.size, [], W1, { target := .fn (.func gf) lb, args := #[.func (.yield (w.heap.size)) #[] #[]] }, W1, gf,
    #[.func (.yield (w.heap.size)) #[] #[]] ++ lb, W1, ?_, ?_, ?_, ?_, fun _ => h1, ?_⟩
  · rw [← hW1, hrec]; exact run_enterLoop_inner hl₀ _ _ _ _ _
  · simp only [resolve, hg]
    simp [go_sem]
  · intro f' hf'; simp [Target.leads] at hf'; subst hf'; exact hFg
  · simp [invoke, go_sem, eg]
  · have hrow : ∀ {A B : World} {row : Option Nat} {b : Nat} {o : Obj}, A.grownBy B row → (∀ r, row = some r → W1.heap.size ≤ r ∧ (r < W1.heap.size + k ∨ ∃ o : Obj, A.heap[r]? = some o ∧ o.isCells = false)) → b < W1.heap.size → A.heap[b]? = some o → B.heap[b]? = some o :=
      fun hg' hr hb ho => (hg'.block _ (Array.getElem?_eq_some_iff.1 ho).1 (fun e => by have := (hr _ e.symm).1; omega)).trans ho
    refine (hseq (w.heap.size)
      (fun pre W => I pre W ∧ W.heap[w.heap.size]? = some (.loop (rec .ready none)))
      (fun pre W => ∃ c, Ix c pre W ∧ W.heap[w.heap.size]? = some (.loop (rec .done (some c))))
      W1 hb1
      (fun s A B row hs hg' hr => ⟨hIk hI s A B row hs.1 hg' hr, hrow hg' hr (by omega) hs.2⟩)
      (fun s A B row hs hg' hr => by
        obtain ⟨c, hc, hl⟩ := hs
        exact ⟨c, hIk (hIx c) s A B row hc hg' hr, hrow hg' hr (by omega) hl⟩)
      ?_ ⟨hI1, hL1⟩).mono ?_
    · rintro pre x W hpre hsk ⟨hi, hl⟩
      have hlt : w.heap.size < W.heap.size := (Array.getElem?_eq_some_iff.1 hl).1
      have hy := run_yield (P := P) (args := encs x) hl (by rw [hrec]; exact hps x)
      rw [hrec] at hy
      refine ⟨fn, _, assign, body, hy, roundIn_of_wpIn hfn (hassign _ x W _ ?_)⟩
      clear hy
      refine ⟨_, run_beginRound hl (by rw [hrec]), ?_⟩
      obtain ⟨W2, hW2⟩ : ∃ W2, W2 = W.putObj (w.heap.size) (.loop { rec .ready none with state := .busy }) := ⟨_, rfl⟩
      have hl2 : W2.heap[w.heap.size]? = some (.loop { rec .ready none with state := .busy }) := by rw [hW2]; exact World.putObj_heap_same hlt
      have hi2 : I pre W2 := by rw [hW2]; exact hI.putObj _ hi (by omega) (by omega)
      have hkp : ∀ {X Y : World} {o : Obj}, X = Y.putObj (w.heap.size) o → KeepP Bs W1.heap.size k Y X := fun e => ⟨by rw [e, World.putObj_size]; exact Nat.le_refl _, fun r hr => by
        rw [e]
        refine World.putObj_heap_other ?_
        rcases hr with h | h
        · have := hBs r h; omega
        · omega⟩
      refine wpIn_mono (hbody _ pre x _ hpre (by rw [World.putObj_size]; omega) (by rw [← hW2]; exact hi2)) ?_
      rw [← hW2]
      have fin : ∀ (jump : Option Code) (W3 : World), KeepP Bs w.heap.size (1 + k) W2 W3 →
          (Instr.endRound (w.heap.size) jump).run P W3 = .ok (.bool jump.isNone) (W3.putObj (w.heap.size) (.loop (rec (if jump.isNone then .ready else .done) jump))) ∧
          (W3.putObj (w.heap.size) (.loop (rec (if jump.isNone then .ready else .done) jump))).heap[w.heap.size]? = some (.loop (rec (if jump.isNone then .ready else .done) jump)) ∧
          KeepP Bs W1.heap.size k W (W3.putObj (w.heap.size) (.loop (rec (if jump.isNone then .ready else .done) jump))) := fun jump W3 hk3 => by
        have hl3 := (hk3.same (w.heap.size) (.inr ⟨by omega, by omega⟩)).trans hl2
        have := run_endRound (P := P) jump hl3
        rw [hrec] at this ⊢
        exact ⟨this, World.putObj_heap_same (Array.getElem?_eq_some_iff.1 hl3).1,
          (hkp hW2).trans ((hk3.less (fun b hb => .inl hb) (by omega) (by omega)).trans (hkp rfl))⟩
      rintro e a3 W3 hp
      cases e with
      | normal =>
        obtain ⟨hr, hl4, hkk⟩ := fin none W3 hp.1
        exact ⟨_, _, hr, hkk, .inl ⟨rfl, hI.putObj _ hp.2 (by omega) (by omega), hl4⟩⟩
      | ret =>
        obtain ⟨hr, hl4, hkk⟩ := fin (some .ret) W3 hp.1
        exact ⟨_, _, hr, hkk, .inr ⟨rfl, .ret, (hIx _).putObj _ hp.2 (by omega) (by omega), hl4⟩⟩
      | exit id =>
        obtain ⟨hr, hl4, hkk⟩ := fin (some (.exit id)) W3 hp.1
        exact ⟨_, _, hr, hkk, .inr ⟨rfl, .exit id, (hIx _).putObj _ hp.2 (by omega) (by omega), hl4⟩⟩
      | goto t =>
        obtain ⟨hr, hl4, hkk⟩ := fin (some (.goto t)) W3 hp.1
        exact ⟨_, _, hr, hkk, .inr ⟨rfl, .goto t, (hIx _).putObj _ hp.2 (by omega) (by omega), hl4⟩⟩
      | panic ch => exact hp.elim
      | outgrown => exact hp.elim
    · rintro e W2 ⟨⟨v, rfl⟩, (⟨hi, hl⟩ | ⟨pre, hSp, c, hi, hl⟩)⟩
      · exact ⟨none, _, by have := run_endLoop (P := P) hl (by rw [hrec]; simp [rec_]); rw [hrec] at this; exact this, hdone _ (hI.putObj _ hi (by omega) (by omega))⟩
      · exact ⟨some c, _, by have := run_endLoop (P := P) hl (by rw [hrec]; simp [rec_]); rw [hrec] at this; exact this, hstop c pre _ hSp ((hIx c).putObj _ hi (by omega) (by omega))⟩


end Go.Proofs.Ytbhdipljhelddaa

/-! slices.Backward over a list of pairs. -/
namespace Go.Proofs.Ytbhdipljhelddaa
open Go.RowKit Go.Shelf

attribute [local go_sem] Oper.semAt_some

set_option maxHeartbeats 1000000 in
/-- Its argument is boxed; the function value captures the box. -/
theorem backward_in (n : Nat) (a : Option Addr) (m cap : Nat) (w : World) :
    CallsIn Fence.wide n Try.prog 125 #[.slice a m cap] w fun e w' => e = .returned (.func (.func 181) #[] #[.pointer (some ⟨w.heap.size, 0, none⟩)]) ∧ w' = w.alloc (.cells #[.slice a m cap] 37) := by
  refine callsIn_of_wp Try.func125 rfl trivial ?_ rfl
  simp only [Try.ntmps125, List.size_toArray, List.length_cons, List.length_nil, Nat.reduceAdd, Nat.reduceSub, Array.replicate_succ, Array.replicate_zero, List.push_toArray, List.append_toArray, List.nil_append, List.cons_append]
  gi_wp2
  go_ret
  exact ⟨rfl, rfl⟩

theorem cell_same {W W' : World} {b o : Nat} (h : W'.heap[b]? = W.heap[b]?) : W'.cell? ⟨b, o, none⟩ = W.cell? ⟨b, o, none⟩ := by
  unfold World.cell?
  simp only [h]

/-- The numbers of the pairs, from the last one to the first. -/
def downL (n : Nat) : List Nat := (List.range n).reverse
theorem downL_take {n k : Nat} (hk : k < n) : (downL n).take (k + 1) = (downL n).take k ++ [n - 1 - k] := by
  unfold downL
  rw [List.take_add_one, List.getElem?_reverse (by simpa using hk)]
  simp [List.getElem?_range (show n - 1 - k < n by omega)]
theorem downL_len (n : Nat) : (downL n).length = n := by simp [downL]

set_option maxRecDepth 100000 in
set_option maxHeartbeats 2000000 in
theorem backward_P (m : Nat) (hm : 1 ≤ m) (B0 b off n cap : Nat) (a : Option Addr) (qs : List Int) (w : World)
    (hc : w.heap[B0]? = some (.cells #[.slice a n cap] 37 (0, 0))) (hb : b < w.heap.size) (hn : n ≤ 1048576)
    (ha : n = 0 ∨ (a = some ⟨b, off, none⟩ ∧ ∀ i, i < 2 * n → w.cell? ⟨b, off + i, none⟩ = some (.int .i64 (at0 qs i)))) :
    SeqStopsP Fence.wide m Try.prog 181 #[.pointer (some ⟨B0, 0, none⟩)] (fun i : Nat => #[Value.int .i64 (i : Int), .agg #[.int .i64 (at0 qs (i * 2)), .int .i64 (at0 qs (i * 2 + 1))]]) [B0, b] 0 (downL n) w := by
  intro l J Jx W hW hJ hJx hY h0
  have hcW := (hW.block B0 (lt_of_get hc)).trans hc
  have hbW : b < W.heap.size := Nat.lt_of_lt_of_le hb hW.size
  have Ha : Hid (n = 0 ∨ (a = some ⟨b, off, none⟩ ∧ ∀ i, i < 2 * n → W.cell? ⟨b, off + i, none⟩ = some (.int .i64 (at0 qs i)))) := hid (ha.imp id (fun h => ⟨h.1, fun i hi => (hW.cell (p := ⟨b, off + i, none⟩) hb).trans (h.2 i hi)⟩))
  have HY := hid hY
  have c0 := (box_cell hcW).1
  have Hc := hid hcW
  clear hY ha hc hcW hb
  show CallsIn Fence.wide m Try.prog 181 #[.func (.yield l) #[] #[], .pointer (some ⟨B0, 0, none⟩)] W _
  refine callsIn_of_wp Try.func181 rfl trivial ?_ rfl
  simp only [Try.ntmps181, List.size_toArray, List.length_cons, List.length_nil, Nat.reduceAdd, Nat.reduceSub, Array.replicate_succ, Array.replicate_zero, List.push_toArray, List.append_toArray, List.nil_append, List.cons_append]
  gi_wp2
  gi_loopw [3] (fun p wr => ∃ (k : Nat), p = .int .i64 ((n : Int) - 1 - (k : Int)) ∧ k ≤ n ∧ J ((downL n).take k) wr ∧ wr.heap[B0]? = W.heap[B0]? ∧ wr.heap[b]? = W.heap[b]? ∧ W.heap.size ≤ wr.heap.size)
    (fun p _ => (intOf p + 1).toNat)
  case atStart =>
    exact ⟨0, by simp, by omega, h0, rfl, rfl, Nat.le_refl _⟩
  case round =>
    obtain ⟨k, rfl, hk, hJs, hB0, hBb, hsz⟩ := hrel
    by_cases hlt : k < n
    · obtain ⟨i, hi⟩ : ∃ i : Nat, i = n - 1 - k := ⟨_, rfl⟩
      have hpi : (n : Int) - 1 - (k : Int) = (i : Int) := by omega
      rw [hpi]
      obtain ⟨rfl, hcl⟩ := Ha.out.resolve_left (by omega)
      have hc2 : wr.cell? ⟨b, off + i * 2, none⟩ = some (.int .i64 (at0 qs (i * 2))) := (cell_same hBb).trans (hcl (i * 2) (by omega))
      have hc3 : wr.cell? ⟨b, off + i * 2 + 1, none⟩ = some (.int .i64 (at0 qs (i * 2 + 1))) := (cell_same hBb).trans (hcl (i * 2 + 1) (by omega))
      have c0r : wr.cell? ⟨B0, 0, none⟩ = some (.slice (some ⟨b, off, none⟩) n cap) := (box_cell (hB0.trans Hc.out)).1
      have htk : (downL n).take (k + 1) = (downL n).take k ++ [i] := by rw [downL_take hlt, hi]
      have hpre : (downL n).take k ++ [i] <+: downL n := by rw [← htk]; exact List.take_prefix _ _
      have hys := HY.out _ i wr hpre (by omega) hJs
      rw [← htk] at hys
      obtain ⟨fn, tmps, assign, body, hy, hR⟩ := hys
      have hi0 : (0 : Int) ≤ (i : Int) := by omega
      have hi1 : (i : Int) < (n : Int) := by omega
      have Hpre := hid hpre
      have Htk := hid htk
      have Hi := hid hi
      have HB0 := hid hB0
      have HBb := hid hBb
      have Hpi := hid hpi
      clear hcl hpre htk hi hB0 hBb hJs hpi
      gi_wp2
      refine hR.mono ?_
      rintro e W3 ⟨hk3, (⟨rfl, hJ3⟩ | ⟨rfl, hJx3⟩)⟩
      · have Hk3 := hid hk3
        have HJ3 := hid hJ3
        clear hk3 hJ3
        gi_wp2
        go_roundw
        case rel => exact ⟨k + 1, by rw [show ((i : Int) - 1) = (n : Int) - 1 - ((k + 1 : Nat) : Int) by have := Hpi.out; omega], by omega, HJ3.out, (Hk3.out.same B0 (.inl (by simp))).trans HB0.out, (Hk3.out.same b (.inl (by simp))).trans HBb.out, Nat.le_trans hsz Hk3.out.size⟩
        case measure => simp [intOf]
      · gi_wp2
        refine bodyPost_ret (results_none rfl _ _ _) rfl ?_
        exact ⟨⟨_, rfl⟩, .inr ⟨_, by rw [Htk.out]; exact Hpre.out, hJx3⟩⟩
    · obtain rfl : k = n := by omega
      have hpi : (k : Int) - 1 - (k : Int) = -1 := by omega
      rw [hpi]
      rw [List.take_of_length_le (by rw [downL_len]; exact Nat.le_refl _)] at hJs
      gi_wp2
      go_end0
      exact ⟨⟨_, rfl⟩, .inl hJs⟩

end Go.Proofs.Ytbhdipljhelddaa

/-! All pairs as keys of a map. -/
namespace Go.Proofs.Ytbhdipljhelddaa
open Go.RowKit

theorem row_pair {w : World} {base g cap : Nat} {L : List (Int × Int)} (h : w.ownsRow base 65 2 (.slice (some ⟨g, 0, none⟩) L.length cap) L.length ((flatP L).map (Value.int .i64))) {k : Nat} (hk : k < L.length) {x y : Int} (hx : L[k]?.getD (0, 0) = (x, y)) :
    w.cell? ⟨g, k * 2, none⟩ = some (.int .i64 x) ∧ w.cell? ⟨g, k * 2 + 1, none⟩ = some (.int .i64 y) := by
  have hlen := flatP_len L
  have ha := flatP_at L k hk
  rw [hx] at ha
  unfold at0 at ha
  simp only at ha
  have h0 : k * 2 < (flatP L).length := by omega
  have h1 : k * 2 + 1 < (flatP L).length := by omega
  constructor
  · rw [h.cellAt (k * 2) (by omega), List.getElem?_map, List.getElem?_eq_getElem h0, ← ha.1, List.getElem?_eq_getElem h0]; rfl
  · rw [h.cellAt (k * 2 + 1) (by omega), List.getElem?_map, List.getElem?_eq_getElem h1, ← ha.2, List.getElem?_eq_getElem h1]; rfl

set_option maxRecDepth 100000 in
set_option maxHeartbeats 4000000 in
theorem known_any (vn : Nat) (a0 : Option Addr) (cap : Nat) (fs : List Int) (w : World) (hx : SlI w w.heap.size a0 fs) (hl : fs.length ≤ 1048576) (hC : IsC (vn : Int) fs) :
    Calls Try.prog 222 #[.agg #[.int .i64 vn, .slice a0 fs.length cap]] w fun e w' => ∃ b n, e = .returned (.map (some b)) ∧ MapP w' b n (pairsL fs vn fs.length) ∧ w.heap.size ≤ b ∧ Below w.heap.size w w' := by
  have hB0 : Hid (Below w.heap.size w ((w.alloc (.cells #[.int .i64 vn, .slice a0 fs.length cap] 28)).alloc (.map #[] 0))) := hid (((Below.refl _ w).alloc (Nat.le_refl _) _).alloc (by simp) _)
  have Hx := hid (hx.later hB0.out hB0.out.size)
  have hvn : vn ≤ 6 := by have := hC.hi; omega
  have Hf := hid hC.range63
  have HC := hid hC
  have Hpl := hid (pairsL_len fs vn fs.length (Nat.le_refl _))
  have Hwf : Hid (∀ q ∈ pairsL fs vn fs.length, wfP q) := hid (fun q hq => by
    obtain ⟨x, y⟩ := q
    have h := (mem_pairsL HC.out x y).1 (by simpa using hq)
    unfold pairB at h
    simp only [Bool.and_eq_true, decide_eq_true_eq] at h
    have h0 := Hf.out x h.1.1.1
    have h1 := Hf.out y h.1.1.2
    exact ⟨wf_face h0.1 h0.2, wf_face h1.1 h1.2⟩)
  have hw0 := World.ownsMap_made (H := Unit) (w.alloc (.cells #[.int .i64 vn, .slice a0 fs.length cap] 28)) Try.prog 65 (plainElem (H := Unit) Try.prog 4)
  have Hw0 := hid hw0
  obtain ⟨L, hL⟩ : ∃ L, L = pairsL fs vn fs.length := ⟨_, rfl⟩
  rw [← hL] at Hwf Hpl ⊢
  have HL := hid hL
  clear hL
  have hmm := @run_makeMap Try.prog
  clear hx hC hw0
  go_enter Try.func222, Try.ntmps222
  go_wp2_with fail
  refine (pairsOf_any vn a0 cap fs _ Hx.out hl HC.out).mono ?_
  rintro e w1 ⟨v, rfl, hrow, hB1⟩
  rw [← HL.out] at hrow
  have hB01 := hid (hB0.out.trans (hB1.mono (by simp <;> omega)))
  have hm1 : w1.ownsMap Try.prog 65 (plainElem (H := Unit) Try.prog 4) (w.heap.size + 1) 0 (.map []) := by
    have := World.ownsMap.kept Hw0.out (row := none) ⟨hB1.os, hB1.tape, hB1.output, hB1.size, fun k hk _ => hB1.block k hk⟩ (by simp)
    simpa using this
  have Hm1 := hid hm1
  have hrow1 := ownsRow_base hrow (show w.heap.size + 1 + 1 ≤ _ by simp)
  have Hrow := hid hrow1
  clear hB1 hrow hm1 hmm hrow1 Hw0 Hx hB0
  rcases Hrow.out.2 with ⟨rfl, hn⟩ | ⟨g, cp, _, rfl, _⟩
  · have hLn : L = [] := List.length_eq_zero_iff.1 hn
    subst hLn
    clear hn
    go_wp2
    refine wp_loop_rounds 1 ?_; rw [rounds_succ]
    go_wp2
    go_ret
    exact ⟨_, _, rfl, Hm1.out, by omega, hB01.out⟩
  · go_wp2
    go_loopw [10] (fun i wr => ∃ k : Nat, k ≤ L.length ∧ i = .int .i64 k ∧ MapP wr (w.heap.size + 1) k (L.take k) ∧ wr.ownsRow (w.heap.size + 1 + 1) 65 2 (.slice (some ⟨g, 0, none⟩) L.length cp) L.length ((flatP L).map (Value.int .i64)) ∧ Below w.heap.size w wr) (fun i _ => L.length - (intOf i).toNat)
    case atStart => exact ⟨0, Nat.zero_le _, rfl, Hm1.out, Hrow.out, hB01.out⟩
    case round =>
      obtain ⟨k, hk, rfl, hm, hr, hB⟩ := hrel
      clear Hrow hB01 Hm1
      by_cases hlt : k < L.length
      · obtain ⟨x, y, hxy⟩ : ∃ x y, L[k]?.getD (0, 0) = (x, y) := ⟨_, _, rfl⟩
        obtain ⟨hc0, hc1⟩ := row_pair hr hlt hxy
        have hmem : (x, y) ∈ L := by rw [← hxy, List.getElem?_eq_getElem hlt]; simp
        have Hsn : Hid (L.take (k + 1) = L.take k ++ [(x, y)]) := hid (by rw [List.take_add_one, ← hxy, List.getElem?_eq_getElem hlt]; rfl)
        have Hwk := hid (Hwf.out _ hmem)
        have hi0 : (0 : Int) ≤ (k : Int) := by omega
        have hi1 : (k : Int) < (L.length : Int) := by omega
        have hLl : L.length ≤ 6291456 := Nat.le_trans Hpl.out (Nat.le_trans (Nat.mul_le_mul hl hvn) (by decide))
        have hkm : k < maxLen := by unfold maxLen; omega
        have Hm := hid hm
        have Hr := hid hr
        have HB := hid hB
        clear hm hr hB hmem hxy
        have HmA := hid (World.ownsMap.alloc Hm.out (.cells #[.int .i64 x, .int .i64 y] 65))
        go_wp2_with (first | (at_mapUpdate; refine wpList_mapUpdate_own _ rfl _ _ _ 153 rfl 65 4 keyedP Try.underlying153 _ (w.heap.size + 1) _ _ rfl HmA.out hkm _ _ _ rfl rfl (keyOfP Hwk.out) _ [] (plainElem_bool Try.underlying4 true) ?_; intro w2 hown2 hgrow2) | go_in)
        go_roundw
        case rel =>
          have hgg : ∀ q, (some g : Option Nat) = some q → w.heap.size + 1 + 1 ≤ q ∧ q < wr.heap.size := fun q hq => Hr.out.lt q hq
          refine ⟨k + 1, by omega, by go_num, ?_, ?_, (HB.out.alloc HB.out.size _).grown hgrow2 (by have := HB.out.size; simp; omega) (fun r e => by cases e; omega)⟩
          · rw [Hsn.out]
            unfold MapP
            rw [pknD_snoc]
            exact hown2
          · exact (Hr.out.alloc _).kept hgrow2 (Or.inr (fun e => by have := hgg g rfl; simp [Value.ownBlock] at e; omega))
        case measure => simp [intOf]; omega
      · obtain rfl : k = L.length := by omega
        rw [List.take_of_length_le (Nat.le_refl _)] at hm
        go_wp2
        go_ret
        exact ⟨_, _, rfl, hm, by omega, hB⟩

end Go.Proofs.Ytbhdipljhelddaa

/-! The program's IsPairing. -/
namespace Go.Proofs.Ytbhdipljhelddaa
open Go.RowKit

/-- What the program has asked of the first k pairs. -/
def GoodTo (fs ps : List Int) (k : Nat) : Prop := ∀ i, i < k → pairB fs (at0 ps (i * 2)) (at0 ps (i * 2 + 1)) = true ∧ at0 ps (i * 2) ∉ ps.take (i * 2) ∧ at0 ps (i * 2 + 1) ∉ ps.take (i * 2)

theorem mem_take_at {ps : List Int} {m : Nat} {x : Int} (hm : m ≤ ps.length) : x ∈ ps.take m ↔ ∃ j, j < m ∧ at0 ps j = x := by
  rw [List.mem_iff_getElem?]
  constructor
  · rintro ⟨j, hj⟩
    rw [List.getElem?_take] at hj
    split at hj
    · next h => exact ⟨j, h, by unfold at0; rw [hj]; rfl⟩
    · cases hj
  · rintro ⟨j, h, rfl⟩
    refine ⟨j, ?_⟩
    rw [List.getElem?_take, if_pos h]
    unfold at0
    rw [List.getElem?_eq_getElem (by omega)]; rfl

theorem clash_iff {x y u v : Int} : clashB x y u v = false ↔ x ≠ u ∧ x ≠ v ∧ y ≠ u ∧ y ≠ v := by
  unfold clashB; simp [Bool.or_eq_false_iff, and_assoc]

theorem good_free {ps : List Int} {n i : Nat} (hp : ps.length = 2 * n) (hi : i < n) :
    (at0 ps (i * 2) ∉ ps.take (i * 2) ∧ at0 ps (i * 2 + 1) ∉ ps.take (i * 2)) ↔ ∀ j, j < i → clashB (at0 ps (i * 2)) (at0 ps (i * 2 + 1)) (at0 ps (j * 2)) (at0 ps (j * 2 + 1)) = false := by
  rw [mem_take_at (by omega), mem_take_at (by omega)]
  constructor
  · rintro ⟨h0, h1⟩ j hj
    rw [clash_iff]
    exact ⟨fun e => h0 ⟨j * 2, by omega, e.symm⟩, fun e => h0 ⟨j * 2 + 1, by omega, e.symm⟩, fun e => h1 ⟨j * 2, by omega, e.symm⟩, fun e => h1 ⟨j * 2 + 1, by omega, e.symm⟩⟩
  · intro h
    have key : ∀ j, j < i * 2 → at0 ps j ≠ at0 ps (i * 2) ∧ at0 ps j ≠ at0 ps (i * 2 + 1) := by
      intro j hj
      have hc := clash_iff.1 (h (j / 2) (by omega))
      rcases Nat.mod_two_eq_zero_or_one j with hm | hm
      · have e : j / 2 * 2 = j := by omega
        rw [e] at hc
        exact ⟨fun e => hc.1 e.symm, fun e => hc.2.2.1 e.symm⟩
      · have e : j / 2 * 2 + 1 = j := by omega
        rw [e] at hc
        exact ⟨fun e => hc.2.1 e.symm, fun e => hc.2.2.2 e.symm⟩
    exact ⟨fun ⟨j, hj, e⟩ => (key j hj).1 e, fun ⟨j, hj, e⟩ => (key j hj).2 e⟩

theorem less_asym {x y u v : Int} (h : lessP x y u v = true) : lessP u v x y = false := by
  unfold lessP at *
  simp only [Bool.or_eq_true, Bool.and_eq_true, decide_eq_true_eq, Bool.or_eq_false_iff, Bool.and_eq_false_iff, decide_eq_false_iff_not] at *
  omega

theorem okTo_good {fs ps : List Int} {n : Nat} (hp : ps.length = 2 * n) (h : OkTo fs ps n) : NoDrop ps n 1 ∧ GoodTo fs ps n :=
  ⟨fun j _ h2 h3 => less_asym ((h j h3).2.1 h2), fun i hi => ⟨(h i hi).1, (good_free hp hi).2 (h i hi).2.2⟩⟩

theorem good_okTo {fs ps : List Int} {n : Nat} (hp : ps.length = 2 * n) (hs : NoDrop ps n 1) (h : GoodTo fs ps n) : OkTo fs ps n := by
  intro i hi
  have hc := (good_free hp hi).1 (h i hi).2
  refine ⟨(h i hi).1, fun h1 => ?_, hc⟩
  have hd := hs i h1 h1 hi
  have hn := clash_iff.1 (hc (i - 1) (by omega))
  unfold lessP at *
  simp only [Bool.or_eq_true, Bool.and_eq_true, decide_eq_true_eq, Bool.or_eq_false_iff, Bool.and_eq_false_iff, decide_eq_false_iff_not] at *
  omega

/-- The answer. -/
noncomputable def isPairingR (V : Int) (fs : List Int) (n : Nat) (ps : List Int) : Bool × Int := if isCB V fs then (pairingB fs ps n, 0) else (false, 1)

theorem two_mono {P : Program} {f : FuncId} {args : Array Value} {w : World} {r : Bool × Int} {b : Bool} {c : Int} (hr : r = (b, c))
    (h : Calls P f args w fun e w' => e = .returned (.tuple #[.bool b, .int .i64 c]) ∧ Below w.heap.size w w') : Calls P f args w fun e w' => e = .returned (.tuple #[.bool r.1, .int .i64 r.2]) ∧ Below w.heap.size w w' := by
  subst hr; exact h

set_option maxRecDepth 100000 in
set_option maxHeartbeats 4000000 in
theorem implIsPairing (V : Int) (a0 : Option Addr) (cap : Nat) (fs : List Int) (a1 : Option Addr) (n cap1 : Nat) (ps : List Int) (w : World) (hx : SlI w w.heap.size a0 fs) (hx1 : SlI w w.heap.size a1 ps) (hl : fs.length ≤ 1048576) (hp : ps.length = 2 * n) (hn : n ≤ 1048576) (hw : ∀ x ∈ ps, (Lit.int .i64 x).wf = true) :
    Calls Try.prog 206 #[.agg #[.int .i64 V, .slice a0 fs.length cap], .slice a1 n cap1] w fun e w' => e = .returned (.tuple #[.bool (isPairingR V fs n ps).1, .int .i64 (isPairingR V fs n ps).2]) ∧ Below w.heap.size w w' := by
  have hB0 : Below w.heap.size w (w.alloc (.cells #[.int .i64 V, .slice a0 fs.length cap] 28)) := (Below.refl _ w).alloc (Nat.le_refl _) _
  have Hx := hid (hx.later hB0 hB0.size)
  have Hx0 := hid hx
  have Hy := hid hx1
  clear hx hx1
  by_cases hC : IsC V fs
  · obtain ⟨vn, rfl⟩ : ∃ vn : Nat, V = vn := ⟨V.toNat, by have := hC.lo; omega⟩
    refine two_mono (show isPairingR vn fs n ps = (pairingB fs ps n, 0) by unfold isPairingR; rw [isCB_true hC, if_pos rfl]) ?_
    have HC := hid hC
    have Hp := hid hp
    have Hw := hid hw
    clear hC hp hw
    have hent : ∀ args w, (callFunc 59 args).run Try.prog w = .ok (.enter 59 args) w := enters_of Try.func59 (by kernel_rfl) rfl
    go_enter Try.func206, Try.ntmps206
    go_wp2_with fail
    refine (isc_yes (vn : Int) a0 cap fs _ Hx.out hl HC.out).mono ?_
    rintro e w1 ⟨rfl, hB1⟩
    have HB1 := hid (hB0.trans (hB1.mono (by simp)))
    have k0 : w1.cell? ⟨w.heap.size, 0, none⟩ = some (.int .i64 vn) := (hB1.cell (p := ⟨w.heap.size, 0, none⟩) (by simp)).trans (by simp [go_sem])
    have k1 : w1.cell? ⟨w.heap.size, 1, none⟩ = some (.slice a0 fs.length cap) := (hB1.cell (p := ⟨w.heap.size, 1, none⟩) (by simp)).trans (by simp [go_sem])
    have hs1 : w.heap.size < w1.heap.size := by have := hB1.size; simp at this; omega
    clear hB0 hB1
    go_wp2_with fail
    refine (sorted_any a1 n cap1 ps _ (Hy.out.later HB1.out HB1.out.size) Hp.out hn).mono ?_
    rintro e w2 ⟨rfl, hB2⟩
    by_cases hnd : NoDrop ps n 1
    rotate_left
    · rw [noDropB_false hnd]
      have He := hid (pairingB_false (fs := fs) (fun h => hnd (okTo_good Hp.out h).1))
      clear hnd
      go_wp2_with fail
      go_ret2
      exact ⟨by rw [He.out]; rfl, HB1.out.trans (hB2.mono HB1.out.size)⟩
    · rw [noDropB_true hnd]
      have Hnd := hid hnd
      have HB2 := hid (HB1.out.trans (hB2.mono HB1.out.size))
      have k02 := (hB2.cell (p := ⟨w.heap.size, 0, none⟩) hs1).trans k0
      have k12 := (hB2.cell (p := ⟨w.heap.size, 1, none⟩) hs1).trans k1
      have hs2 : w1.heap.size ≤ w2.heap.size := hB2.size
      clear hnd hB2 k0 k1 HB1 hent
      have hmm := @run_makeMap Try.prog
      go_wp2_with fail
      refine (known_any vn a0 cap fs _ (Hx0.out.later HB2.out HB2.out.size) hl HC.out).mono ?_
      rintro e w3 ⟨bm, nm, rfl, hm, hbm, hB3⟩
      have HB3 := hid (HB2.out.trans (hB3.mono HB2.out.size))
      have Hm := hid hm
      obtain ⟨L, hL⟩ : ∃ L, L = pairsL fs vn fs.length := ⟨_, rfl⟩
      have HL : Hid (∀ x y : Int, (x, y) ∈ L ↔ pairB fs x y = true) := hid (fun x y => by rw [hL]; exact mem_pairsL HC.out x y)
      have Hwl : Hid (∀ q ∈ L, wfP q) := hid (fun q hq => by
        obtain ⟨x, y⟩ := q
        have h := (HL.out x y).1 hq
        unfold pairB at h
        simp only [Bool.and_eq_true, decide_eq_true_eq] at h
        have h0 := HC.out.range63 x h.1.1.1
        have h1 := HC.out.range63 y h.1.1.2
        exact ⟨wf_face h0.1 h0.2, wf_face h1.1 h1.2⟩)
      have hbm3 : bm < w3.heap.size := World.ownsMap.lt hm
      rw [← hL] at Hm
      clear hm hB3 hL HB2 k02 k12
      go_wp2_with fail
      clear hmm
      go_loopw [21] (fun i wr => ∃ k : Nat, k ≤ n ∧ i = .int .i64 k ∧ Hid (GoodTo fs ps k) ∧ MapW wr w3.heap.size (k * 2) (ps.take (k * 2)) ∧ MapP wr bm nm L ∧ Below w.heap.size w wr) (fun i _ => n - (intOf i).toNat)
      case atStart => exact ⟨0, Nat.zero_le _, rfl, hid (fun i hi => by omega), World.ownsMap_made w3 Try.prog 2 _, World.ownsMap.alloc Hm.out _, HB3.out.alloc HB3.out.size _⟩
      case round =>
        obtain ⟨k, hk, rfl, Hg, hown, hm, hB⟩ := hrel
        by_cases hlt : k < n
        · obtain ⟨b, off, hb, rfl, hc⟩ : ∃ b off, b < w.heap.size ∧ a1 = some ⟨b, off, none⟩ ∧ ∀ i, i < ps.length → w.cell? ⟨b, off + i, none⟩ = some (.int .i64 (ps[i]?.getD 0)) := by
            rcases Hy.out with h | h
            · have := Hp.out; rw [h] at this; simp at this; omega
            · exact h
          have hc2 : wr.cell? ⟨b, off + k * 2, none⟩ = some (.int .i64 (at0 ps (k * 2))) := (hB.cell (p := ⟨b, off + k * 2, none⟩) hb).trans (hc _ (by have := Hp.out; omega))
          have hc3 : wr.cell? ⟨b, off + k * 2 + 1, none⟩ = some (.int .i64 (at0 ps (k * 2 + 1))) := (hB.cell (p := ⟨b, off + (k * 2 + 1), none⟩) hb).trans (hc _ (by have := Hp.out; omega))
          obtain ⟨x, hx⟩ : ∃ x, x = at0 ps (k * 2) := ⟨_, rfl⟩
          obtain ⟨y, hy⟩ : ∃ y, y = at0 ps (k * 2 + 1) := ⟨_, rfl⟩
          have hlen := Hp.out
          have hwx : (Lit.int .i64 x).wf = true := Hw.out x (by rw [hx]; exact getD_mem (by omega))
          have hwy : (Lit.int .i64 y).wf = true := Hw.out y (by rw [hy]; exact getD_mem (by omega))
          have Hsn : Hid (ps.take ((k + 1) * 2) = ps.take (k * 2) ++ [x] ++ [y]) := hid (by
            rw [show (k + 1) * 2 = k * 2 + 1 + 1 by omega, take_snoc (show k * 2 + 1 < ps.length by omega), take_snoc (show k * 2 < ps.length by omega), hx, hy]; rfl)
          have Hgood : Hid (GoodTo fs ps n → pairB fs x y = true ∧ x ∉ ps.take (k * 2) ∧ y ∉ ps.take (k * 2)) := hid (fun h => by rw [hx, hy]; exact h k hlt)
          have Hgs : Hid (pairB fs x y = true → x ∉ ps.take (k * 2) → y ∉ ps.take (k * 2) → GoodTo fs ps (k + 1)) := hid (fun h0 h1 h2 i hi => by
            by_cases hik : i < k
            · exact Hg.out i hik
            · obtain rfl : i = k := by omega
              rw [← hx, ← hy]; exact ⟨h0, h1, h2⟩)
          rw [← hx] at hc2
          rw [← hy] at hc3
          have HmA : Hid (MapP (wr.alloc (.cells #[.int .i64 x, .int .i64 y] 65)) bm nm L) := hid (World.ownsMap.alloc hm _)
          have Hown := hid hown
          have HoA : Hid (MapW (wr.alloc (.cells #[.int .i64 x, .int .i64 y] 65)) w3.heap.size (k * 2) (ps.take (k * 2))) := hid (World.ownsMap.alloc hown _)
          have hlk := lookup_pair HmA.out Hwl.out (p := (x, y)) ⟨hwx, hwy⟩
          have hl0 := lookup_known HoA.out hwx
          have hl1 := lookup_known HoA.out hwy
          have hi0 : (0 : Int) ≤ (k : Int) := by omega
          have hi1 : (k : Int) < (n : Int) := by omega
          have HB := hid hB
          have Hbad : Hid (¬ GoodTo fs ps n → pairingB fs ps n = false) := hid (fun h => pairingB_false (fun ho => h (okTo_good Hp.out ho).2))
          clear hx hy hc hB hm hown hlen
          by_cases hxy : (x, y) ∈ L
          rotate_left
          · rw [decide_eq_false hxy] at hlk
            have He := hid (Hbad.out (fun h => hxy ((HL.out x y).2 (Hgood.out h).1)))
            clear hxy
            go_wp2_with (simp only [hlk, hl0, hl1])
            go_ret2
            exact ⟨by rw [He.out]; rfl, HB.out.alloc HB.out.size _⟩
          · rw [decide_eq_true hxy] at hlk
            have Hxy := hid ((HL.out x y).1 hxy)
            clear hxy
            by_cases h0 : x ∈ ps.take (k * 2)
            · rw [decide_eq_true h0] at hl0
              have He := hid (Hbad.out (fun h => (Hgood.out h).2.1 h0))
              clear h0
              go_wp2_with (simp only [hlk, hl0, hl1])
              go_ret2
              exact ⟨by rw [He.out]; rfl, HB.out.alloc HB.out.size _⟩
            · rw [decide_eq_false h0] at hl0
              by_cases h1 : y ∈ ps.take (k * 2)
              · rw [decide_eq_true h1] at hl1
                have He := hid (Hbad.out (fun h => (Hgood.out h).2.2 h1))
                clear h0 h1
                go_wp2_with (simp only [hlk, hl0, hl1])
                go_ret2
                exact ⟨by rw [He.out]; rfl, HB.out.alloc HB.out.size _⟩
              · rw [decide_eq_false h1] at hl1
                have He := hid (Hgs.out Hxy.out h0 h1)
                clear h0 h1
                go_wp2_with (simp only [hlk, hl0, hl1])
                have hu1 := World.ownsMap.update (w := World.drew (wr.alloc (.cells #[.int .i64 x, .int .i64 y] 65))) HoA.out (Maps.int_keyed Try.underlying2) Try.underlying82 (show k * 2 < maxLen by unfold maxLen; omega) (Maps.keyOf_int_mk Try.underlying2 hwx) (plainElem_bool Try.underlying4 true)
                obtain ⟨wa, hrun1, hwa, hga⟩ := hu1
                obtain ⟨wb, hrun2, hwb, hgb⟩ := World.ownsMap.update hwa (Maps.int_keyed Try.underlying2) Try.underlying82 (show k * 2 + 1 < maxLen by unfold maxLen; omega) (Maps.keyOf_int_mk Try.underlying2 hwy) (plainElem_bool Try.underlying4 true)
                have hlw : w3.heap.size < wr.heap.size := by have := World.ownsMap.lt HoA.out; have hne := World.ownsMap.lt (b := w3.heap.size) Hown.out; exact hne
                have hba : ∀ j, j ≠ w3.heap.size → j < wr.heap.size + 1 → wa.heap[j]? = (wr.alloc (.cells #[.int .i64 x, .int .i64 y] 65)).heap[j]? := fun j hj hlt => hga.block j (by show j < (wr.alloc _).heap.size; simp; omega) (by simpa using hj)
                have Hba := hid hba
                have qa : wa.heap[wr.heap.size]? = some (.cells #[.int .i64 x, .int .i64 y] 65 (0, 0)) := (Hba.out _ (by omega) (by omega)).trans (heap_alloc_new _ _)
                have qb : wb.heap[wr.heap.size]? = some (.cells #[.int .i64 x, .int .i64 y] 65 (0, 0)) := (hgb.block _ (lt_get qa) (by simp; omega)).trans qa
                obtain ⟨ca0, ca1, _, _⟩ := two_of qa
                obtain ⟨cb0, cb1, _, _⟩ := two_of qb
                have Hga := hid hga
                have Hgb := hid hgb
                have Hwb := hid hwb
                clear hga hgb hwb hwa hba qa qb
                go_region_held3 (fun w' => w'.cell? ⟨wr.heap.size, 0, none⟩ = some (.int .i64 x) ∧ w'.cell? ⟨wr.heap.size, 1, none⟩ = some (.int .i64 y)) (go_keep) (first
                  | (simp only [hrun1])
                  | (simp only [hrun2]))
                go_wp2_with fail
                go_roundw
                case rel =>
                  have hm2 : MapP wb bm nm L := World.ownsMap.kept (World.ownsMap.kept HmA.out (row := some w3.heap.size) ⟨Hga.out.os, Hga.out.tape, Hga.out.output, Hga.out.size, Hga.out.block⟩ (by simp; omega)) Hgb.out (by simp; omega)
                  have hBx : Below w.heap.size w wa := (HB.out.alloc HB.out.size _).grown (w := wr.alloc (.cells #[.int .i64 x, .int .i64 y] 65)) ⟨Hga.out.os, Hga.out.tape, Hga.out.output, Hga.out.size, Hga.out.block⟩ (by have := HB.out.size; simp; omega) (fun r e => by cases e; have := HB3.out.size; omega)
                  refine ⟨k + 1, by omega, by go_num, He.out, ?_, hm2, hBx.grown Hgb.out hBx.size (fun r e => by cases e; have := HB3.out.size; omega)⟩
                  rw [Hsn.out]
                  unfold MapW
                  rw [knownD_snoc, knownD_snoc, show (k + 1) * 2 = k * 2 + 1 + 1 by omega]
                  exact Hwb.out
                case measure => simp [intOf]; omega
        · obtain rfl : k = n := by omega
          have He := hid (pairingB_true (good_okTo Hp.out Hnd.out Hg.out))
          go_wp2
          go_ret2
          exact ⟨by rw [He.out]; rfl, hB⟩
  · refine two_mono (show isPairingR V fs n ps = (false, 1) by unfold isPairingR; rw [isCB_false hC, if_neg (by simp)]) ?_
    go_enter Try.func206, Try.ntmps206
    go_wp2_with fail
    refine (isc_no V a0 cap fs _ Hx.out hl hC).mono ?_
    rintro e w1 ⟨rfl, hB1⟩
    go_wp2_with fail
    go_ret2
    exact ⟨rfl, hB0.trans (hB1.mono (by simp))⟩

end Go.Proofs.Ytbhdipljhelddaa

/-! The critical faces, the program's. -/
namespace Go.Proofs.Ytbhdipljhelddaa
open Go.RowKit

noncomputable def pcodeR (V : Int) (fs : List Int) (n : Nat) (ps : List Int) : Int := if isCB V fs then (if pairingB fs ps n then 0 else 2) else 1
def critL (fs ps : List Int) : List Int := fs.filter fun x => !decide (x ∈ ps)
noncomputable def criticalFacesR (V : Int) (fs : List Int) (n : Nat) (ps : List Int) : List Int × Int := if pcodeR V fs n ps = 0 then (critL fs ps, 0) else ([], pcodeR V fs n ps)

theorem pcode_cases (V : Int) (fs : List Int) (n : Nat) (ps : List Int) :
    (IsC V fs ∧ OkTo fs ps n ∧ pcodeR V fs n ps = 0 ∧ isPairingR V fs n ps = (true, 0) ∧ pairingB fs ps n = true) ∨ (IsC V fs ∧ ¬ OkTo fs ps n ∧ pcodeR V fs n ps = 2 ∧ isPairingR V fs n ps = (false, 0) ∧ pairingB fs ps n = false) ∨ (¬ IsC V fs ∧ pcodeR V fs n ps = 1 ∧ isPairingR V fs n ps = (false, 1)) := by
  unfold pcodeR isPairingR
  by_cases hC : IsC V fs
  · rw [isCB_true hC]
    by_cases ho : OkTo fs ps n
    · rw [pairingB_true ho]; exact .inl ⟨hC, ho, by simp, by simp, rfl⟩
    · rw [pairingB_false ho]; exact .inr (.inl ⟨hC, ho, by simp, by simp, rfl⟩)
  · rw [isCB_false hC]; exact .inr (.inr ⟨hC, by simp, by simp⟩)

set_option maxRecDepth 100000 in
set_option maxHeartbeats 1000000 in
theorem pcode_impl (V : Int) (a0 : Option Addr) (cap : Nat) (fs : List Int) (a1 : Option Addr) (n cap1 : Nat) (ps : List Int) (w : World) (hx : SlI w w.heap.size a0 fs) (hx1 : SlI w w.heap.size a1 ps) (hl : fs.length ≤ 1048576) (hp : ps.length = 2 * n) (hn : n ≤ 1048576) (hw : ∀ x ∈ ps, (Lit.int .i64 x).wf = true) :
    Calls Try.prog 173 #[.agg #[.int .i64 V, .slice a0 fs.length cap], .slice a1 n cap1] w fun e w' => e = .returned (.int .i64 (pcodeR V fs n ps)) ∧ Below w.heap.size w w' := by
  have hB0 : Below w.heap.size w (w.alloc (.cells #[.int .i64 V, .slice a0 fs.length cap] 28)) := (Below.refl _ w).alloc (Nat.le_refl _) _
  have HI := hid (implIsPairing V a0 cap fs a1 n cap1 ps _ (hx.later hB0 hB0.size) (hx1.later hB0 hB0.size) hl hp hn hw)
  clear hx hx1 hp hw
  rcases pcode_cases V fs n ps with ⟨_, _, h0, h1, _⟩ | ⟨_, _, h0, h1, _⟩ | ⟨_, h0, h1⟩
  all_goals
    rw [h1] at HI
    rw [h0]
    clear h0 h1
    go_enter Try.func173, Try.ntmps173
    go_wp2_with fail
    refine HI.out.mono ?_
    rintro e w1 ⟨rfl, hB1⟩
    go_wp2_with fail
    go_ret
    exact ⟨rfl, hB0.trans (hB1.mono (by simp))⟩


end Go.Proofs.Ytbhdipljhelddaa

/-! The model's IsPairing. -/
namespace Go.Proofs.Ytbhdipljhelddaa
open Go.RowKit

set_option maxRecDepth 100000 in
set_option maxHeartbeats 1000000 in
theorem pis_any (V : Int) (a : Option Addr) (cap : Nat) (fs : List Int) (a1 : Option Addr) (n c2 : Nat) (ps : List Int) (w : World) (hx : SlI w w.heap.size a fs) (hx1 : SlI w w.heap.size a1 ps) (hl : fs.length ≤ 1048576) (hf : ∀ x ∈ fs, 1 ≤ x ∧ x ≤ 63) (hp : ps.length = 2 * n) (hn : n ≤ 1048576) :
    Calls Try.prog 115 #[.agg #[.int .i64 V, .slice a fs.length cap], .slice a1 n c2] w fun e w' => e = .returned (.bool (pairingB fs ps n)) ∧ Below w.heap.size w w' := by
  rcases hx1 with rfl | ⟨b, off, hb, rfl, hc⟩
  · obtain rfl : n = 0 := by simp at hp; omega
    have He := hid (pairingB_true (fs := fs) (ps := []) (n := 0) (fun i hi => by omega))
    clear hp hf hx
    go_enter Try.func115, Try.ntmps115
    go_wp2
    refine wp_loop_rounds 1 ?_; rw [rounds_succ]
    go_wp2
    go_ret
    exact ⟨ret_bool He.out.symm, (Below.refl _ w).alloc (Nat.le_refl _) _⟩
  · exact pis_some V a cap fs b off n c2 ps w hx hl hf hb hc hp hn

end Go.Proofs.Ytbhdipljhelddaa
