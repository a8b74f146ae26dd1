import Derived.Test.YtpdhnjdnlgnniaaDoorRows
import Derived.ProofKit
import Derived.OpenShut
import Derived.ShutString
import Derived.ChangeOld
import Derived.Below
import Derived.Lib.SmallJoins
import Derived.Test.YtpdhnjdnlgnniaaDoorTie
import Derived.Test.YtpdhnjdnlgnniaaDoorCards
import Derived.OpenVars
import Derived.LaidMore
import Derived.MakeChecks
import Derived.Stop.LaidErr
import Derived.SevenTiedAt
import Derived.Test.YtpdhnjdnlgnniaaDoorMB1
import Derived.Test.YtpdhnjdnlgnniaaDoorMB5
/-! Marks: what the laws write into results, and find again. -/
namespace Go.Proofs.YtpdhnjdnlgnniaaDoor
open Go.RowKit

/-- k, k + 1, .. -/
def count (k : Int) : Nat → List Int
  | 0 => []
  | n + 1 => count k n ++ [k + n]

theorem count_len (k : Int) : ∀ n, (count k n).length = n
  | 0 => rfl
  | n + 1 => by simp [count, count_len k n]

theorem count_get (k : Int) : ∀ n i, i < n → (count k n)[i]?.getD 0 = k + i
  | 0, i, h => by omega
  | n + 1, i, h => by
    unfold count
    by_cases hi : i < n
    · rw [List.getElem?_append_left (by rw [count_len]; exact hi)]
      exact count_get k n i hi
    · obtain rfl : i = n := by omega
      rw [List.getElem?_append_right (by rw [count_len]; omega), count_len]
      simp

theorem mark_step {k : Int} {xs : List Int} {j : Nat} (h : j < xs.length) :
    ((count k j ++ xs.drop j).map (Value.int .i64)).set j (.int .i64 (k + j)) = (count k (j + 1) ++ xs.drop (j + 1)).map (Value.int .i64) := by
  rw [← List.map_set]
  congr 1
  rw [List.set_append_right _ _ (by rw [count_len]; exact Nat.le_refl _), count_len, Nat.sub_self]
  rw [List.drop_eq_getElem_cons h, List.set_cons_zero]
  simp [count]



/-- A slice of int64 that lies in blocks from lo to hi. -/
structure Sl where
  lo : Nat
  hi : Nat
  v : Value
  xs : List Int

structure OwnI (w : World) (p : Sl) : Prop where
  own : w.ownsRow p.lo 2 1 p.v p.xs.length (p.xs.map (Value.int .i64))
  lt : ∀ g, p.v.ownBlock = some g → g < p.hi
  le : p.hi ≤ w.heap.size

structure Facts (w0 : World) (w : World) (A : List (Option Addr × List Int)) (bs : List (Nat × Obj)) (L : List Sl) : Prop where
  from0 : Below w0.heap.size w0 w
  args : ∀ q ∈ A, SlI w w0.heap.size q.1 q.2
  blocks : ∀ b ∈ bs, w.heap[b.1]? = some b.2
  slices : ∀ p ∈ L, OwnI w p

section
variable {w0 w w' : World} {A : List (Option Addr × List Int)} {bs : List (Nat × Obj)} {L : List Sl}

theorem Facts.ge (h : Facts w0 w A bs L) : w0.heap.size ≤ w.heap.size := h.from0.size

theorem Facts.below (h : Facts w0 w A bs L) (hb : Below w.heap.size w w') : Facts w0 w' A bs L where
  from0 := h.from0.trans (hb.mono h.ge)
  args := fun q hq => (h.args q hq).below (hb.mono h.ge)
  blocks := fun b hbm => (hb.block b.1 (Array.getElem?_eq_some_iff.1 (h.blocks b hbm)).1).trans (h.blocks b hbm)
  slices := fun p hp => ⟨ownsRow_below (h.slices p hp).own hb (fun g hg => Nat.lt_of_lt_of_le ((h.slices p hp).lt g hg) (h.slices p hp).le), (h.slices p hp).lt, Nat.le_trans (h.slices p hp).le hb.size⟩

theorem Facts.drew (h : Facts w0 w A bs L) : Facts w0 w.drew A bs L := h.below (Below.refl _ _).drew

theorem Facts.arg (h : Facts w0 w A bs L) {q : Option Addr × List Int} (hq : q ∈ A) : SlI w w.heap.size q.1 q.2 := (h.args q hq).mono h.ge

/-- A new block. -/
theorem Facts.alloc (h : Facts w0 w A bs L) (o : Obj) : Facts w0 (w.alloc o) A ((w.heap.size, o) :: bs) L where
  from0 := h.from0.alloc h.ge o
  args := fun q hq => (h.args q hq).below ((Below.refl _ w).alloc h.ge _)
  blocks := fun b hb => by
    rcases List.mem_cons.1 hb with rfl | hb
    · exact heap_alloc_new w o
    · exact (Below.heap_alloc w o _ (Array.getElem?_eq_some_iff.1 (h.blocks b hb)).1).trans (h.blocks b hb)
  slices := fun p hp => ⟨(h.slices p hp).own.alloc o, (h.slices p hp).lt, by have := (h.slices p hp).le; simp; omega⟩

/-- A new slice, out of a call. -/
theorem Facts.slice (h : Facts w0 w A bs L) {v : Value} {xs : List Int}
    (hown : w'.ownsRow w.heap.size 2 1 v xs.length (xs.map (Value.int .i64))) (hb : Below w.heap.size w w') : Facts w0 w' A bs (⟨w.heap.size, w'.heap.size, v, xs⟩ :: L) :=
  { h.below hb with
    slices := fun p hp => by
      rcases List.mem_cons.1 hp with rfl | hp
      · exact ⟨hown, fun g hg => (hown.lt g hg).2, Nat.le_refl _⟩
      · exact (h.below hb).slices p hp }

/-- A slice is marked: the others stay. -/
theorem Facts.mark {L' : List Sl} (h : Facts w0 w A bs L) {p : Sl} {ys : List Int} (hp : p ∈ L)
    (hown : w'.ownsRow p.lo 2 1 p.v ys.length (ys.map (Value.int .i64))) (hg : w.grownBy w' p.v.ownBlock)
    (hB : w0.heap.size ≤ p.lo) (hbs : ∀ b ∈ bs, b.1 < p.lo ∨ p.hi ≤ b.1) (hL : ∀ q ∈ L', q = { p with xs := ys } ∨ (q ∈ L ∧ (q.hi ≤ p.lo ∨ p.hi ≤ q.lo))) : Facts w0 w' A bs L' where
  from0 := h.from0.grown hg h.ge (fun k e => Nat.le_trans hB ((h.slices p hp).own.lt k e).1)
  args := fun q hq => (h.args q hq).below ((Below.refl _ w).grown hg h.ge (fun k e => Nat.le_trans hB ((h.slices p hp).own.lt k e).1))
  blocks := fun b hb => (hg.block b.1 (Array.getElem?_eq_some_iff.1 (h.blocks b hb)).1 (fun e => by
    have h1 := ((h.slices p hp).own.lt _ e.symm).1
    have h2 := (h.slices p hp).lt _ e.symm
    rcases hbs b hb with h3 | h3 <;> omega)).trans (h.blocks b hb)
  slices := fun q hq => by
    rcases hL q hq with rfl | ⟨hqm, hap⟩
    · exact ⟨hown, (h.slices p hp).lt, Nat.le_trans (h.slices p hp).le hg.size⟩
    · refine ⟨(h.slices q hqm).own.kept hg ?_, (h.slices q hqm).lt, Nat.le_trans (h.slices q hqm).le hg.size⟩
      cases hv : q.v.ownBlock with
      | none => exact .inl rfl
      | some g =>
        refine .inr (fun e => ?_)
        have h1 := ((h.slices p hp).own.lt _ e.symm).1
        have h2 := (h.slices p hp).lt _ e.symm
        have h3 := ((h.slices q hqm).own.lt _ hv).1
        have h4 := (h.slices q hqm).lt _ hv
        rcases hap with h5 | h5 <;> omega

theorem Facts.slI (h : Facts w0 w A bs L) {lo hi : Nat} {a : Option Addr} {m cap : Nat} {xs : List Int} (hp : (⟨lo, hi, .slice a m cap, xs⟩ : Sl) ∈ L) : SlI w w.heap.size a xs :=
  owned_slI (h.slices _ hp).own

theorem Facts.own (h : Facts w0 w A bs L) {lo hi : Nat} {v : Value} {xs : List Int} (hp : (⟨lo, hi, v, xs⟩ : Sl) ∈ L) : w.ownsRow lo 2 1 v xs.length (xs.map (Value.int .i64)) := (h.slices _ hp).own

theorem Facts.two (h : Facts w0 w A bs L) {b t : Nat} {u v : Value} (hb : (b, Obj.cells #[u, v] t (0, 0)) ∈ bs) : w.cell? ⟨b, 0, none⟩ = some u ∧ w.cell? ⟨b, 1, none⟩ = some v := by
  have := h.blocks _ hb
  constructor <;> simp [World.cell?, this]
end



end Go.Proofs.YtpdhnjdnlgnniaaDoor

/-! What a law keeps of the world, for rows of any type that are read as integers (a list of n pairs: 2 * n integers). -/
namespace Go.Proofs.YtpdhnjdnlgnniaaDoor
open Go.RowKit

/-- A row that lies in blocks from lo to hi: n elements of a type and size, read as integers. -/
structure Bk where
  lo : Nat
  hi : Nat
  ty : TypeId
  sz : Nat
  n : Nat
  v : Value
  xs : List Int

structure OwnB (w : World) (p : Bk) : Prop where
  own : w.ownsRow p.lo p.ty p.sz p.v p.n (p.xs.map (Value.int .i64))
  lt : ∀ g, p.v.ownBlock = some g → g < p.hi
  le : p.hi ≤ w.heap.size

/-- What is owned reads as integers. -/
theorem flat_slI {w : World} {base e sz : Nat} {a : Option Addr} {n m cap : Nat} {xs : List Int} (h : w.ownsRow base e sz (.slice a m cap) n (xs.map (Value.int .i64))) : SlI w w.heap.size a xs := by
  have hl := h.1
  rcases h.2 with ⟨hv, hn⟩ | ⟨g, cap', cur, hv, _, hg, _⟩
  · subst hn
    exact .inl (List.eq_nil_of_length_eq_zero (by simpa using hl))
  · cases hv
    refine .inr ⟨g, 0, (Array.getElem?_eq_some_iff.1 hg).1, rfl, fun i hi => ?_⟩
    have := h.cells (g := g) rfl i (.int .i64 (xs[i]?.getD 0)) (by simp [hi])
    have hadd : (⟨g, 0, none⟩ : Addr).add i = ⟨g, i, none⟩ := by unfold Addr.add; split <;> simp_all
    rw [hadd] at this
    simpa using this

structure Book (w0 : World) (w : World) (A : List (Option Addr × List Int)) (bs : List (Nat × Obj)) (L : List Bk) : Prop where
  from0 : Below w0.heap.size w0 w
  args : ∀ q ∈ A, SlI w w0.heap.size q.1 q.2
  blocks : ∀ b ∈ bs, w.heap[b.1]? = some b.2
  rows : ∀ p ∈ L, OwnB w p

section
variable {w0 w w' : World} {A : List (Option Addr × List Int)} {bs : List (Nat × Obj)} {L : List Bk}

theorem Book.ge (h : Book w0 w A bs L) : w0.heap.size ≤ w.heap.size := h.from0.size

theorem Book.below (h : Book w0 w A bs L) (hb : Below w.heap.size w w') : Book w0 w' A bs L where
  from0 := h.from0.trans (hb.mono h.ge)
  args := fun q hq => (h.args q hq).below (hb.mono h.ge)
  blocks := fun b hbm => (hb.block b.1 (Array.getElem?_eq_some_iff.1 (h.blocks b hbm)).1).trans (h.blocks b hbm)
  rows := fun p hp => ⟨ownsRow_below (h.rows p hp).own hb (fun g hg => Nat.lt_of_lt_of_le ((h.rows p hp).lt g hg) (h.rows p hp).le), (h.rows p hp).lt, Nat.le_trans (h.rows p hp).le hb.size⟩

theorem Book.drew (h : Book w0 w A bs L) : Book w0 w.drew A bs L := h.below (Below.refl _ _).drew
theorem Book.drewN (h : Book w0 w A bs L) (n : Nat) : Book w0 (w.drewN n) A bs L := h.below ⟨rfl, rfl, rfl, Nat.le_refl _, fun _ _ => rfl⟩

theorem Book.arg (h : Book w0 w A bs L) {q : Option Addr × List Int} (hq : q ∈ A) : SlI w w.heap.size q.1 q.2 := (h.args q hq).mono h.ge

theorem Book.alloc (h : Book w0 w A bs L) (o : Obj) : Book w0 (w.alloc o) A ((w.heap.size, o) :: bs) L where
  from0 := h.from0.alloc h.ge o
  args := fun q hq => (h.args q hq).below ((Below.refl _ w).alloc h.ge _)
  blocks := fun b hb => by
    rcases List.mem_cons.1 hb with rfl | hb
    · exact heap_alloc_new w o
    · exact (Below.heap_alloc w o _ (Array.getElem?_eq_some_iff.1 (h.blocks b hb)).1).trans (h.blocks b hb)
  rows := fun p hp => ⟨(h.rows p hp).own.alloc o, (h.rows p hp).lt, by have := (h.rows p hp).le; simp; omega⟩

/-- A new row, out of a call. -/
theorem Book.row (h : Book w0 w A bs L) {ty : TypeId} {sz n : Nat} {v : Value} {xs : List Int}
    (hown : w'.ownsRow w.heap.size ty sz v n (xs.map (Value.int .i64))) (hb : Below w.heap.size w w') : Book w0 w' A bs (⟨w.heap.size, w'.heap.size, ty, sz, n, v, xs⟩ :: L) :=
  { h.below hb with
    rows := fun p hp => by
      rcases List.mem_cons.1 hp with rfl | hp
      · exact ⟨hown, fun g hg => (hown.lt g hg).2, Nat.le_refl _⟩
      · exact (h.below hb).rows p hp }

/-- A row is marked: the others stay. -/
theorem Book.mark {L' : List Bk} (h : Book w0 w A bs L) {p : Bk} {ys : List Int} (hp : p ∈ L)
    (hown : w'.ownsRow p.lo p.ty p.sz p.v p.n (ys.map (Value.int .i64))) (hg : w.grownBy w' p.v.ownBlock)
    (hB : w0.heap.size ≤ p.lo) (hbs : ∀ b ∈ bs, b.1 < p.lo ∨ p.hi ≤ b.1) (hL : ∀ q ∈ L', q = { p with xs := ys } ∨ (q ∈ L ∧ (q.hi ≤ p.lo ∨ p.hi ≤ q.lo))) : Book w0 w' A bs L' where
  from0 := h.from0.grown hg h.ge (fun k e => Nat.le_trans hB ((h.rows p hp).own.lt k e).1)
  args := fun q hq => (h.args q hq).below ((Below.refl _ w).grown hg h.ge (fun k e => Nat.le_trans hB ((h.rows p hp).own.lt k e).1))
  blocks := fun b hb => (hg.block b.1 (Array.getElem?_eq_some_iff.1 (h.blocks b hb)).1 (fun e => by
    have h1 := ((h.rows p hp).own.lt _ e.symm).1
    have h2 := (h.rows p hp).lt _ e.symm
    rcases hbs b hb with h3 | h3 <;> omega)).trans (h.blocks b hb)
  rows := fun q hq => by
    rcases hL q hq with rfl | ⟨hqm, hap⟩
    · exact ⟨hown, (h.rows p hp).lt, Nat.le_trans (h.rows p hp).le hg.size⟩
    · refine ⟨(h.rows q hqm).own.kept hg ?_, (h.rows q hqm).lt, Nat.le_trans (h.rows q hqm).le hg.size⟩
      cases hv : q.v.ownBlock with
      | none => exact .inl rfl
      | some g =>
        refine .inr (fun e => ?_)
        have h1 := ((h.rows p hp).own.lt _ e.symm).1
        have h2 := (h.rows p hp).lt _ e.symm
        have h3 := ((h.rows q hqm).own.lt _ hv).1
        have h4 := (h.rows q hqm).lt _ hv
        rcases hap with h5 | h5 <;> omega

/-- Some of it. -/
theorem Book.only {bs' : List (Nat × Obj)} {L' : List Bk} (h : Book w0 w A bs L) (hb : ∀ b ∈ bs', b ∈ bs) (hL : ∀ p ∈ L', p ∈ L) : Book w0 w A bs' L' :=
  ⟨h.from0, h.args, fun b hbm => h.blocks b (hb b hbm), fun p hp => h.rows p (hL p hp)⟩

/-- A block of another type is written. -/
theorem Book.set2 {b t : Nat} {x y u v : Value} (h : Book w0 w A ((b, .cells #[x, y] t (0, 0)) :: bs) L) (hw : w0.heap.size ≤ b) (hb : ∀ q ∈ bs, q.1 ≠ b) (hty : ∀ p ∈ L, p.ty ≠ t) :
    Book w0 ((w.setCell ⟨b, 0, none⟩ u).setCell ⟨b, 1, none⟩ v) A ((b, .cells #[u, v] t (0, 0)) :: bs) L where
  from0 := (h.from0.setCell (p := ⟨b, 0, none⟩) hw _).setCell (p := ⟨b, 1, none⟩) hw _
  args := fun q hq => (h.args q hq).below (((Below.refl _ w).setCell (p := ⟨b, 0, none⟩) hw _).setCell (p := ⟨b, 1, none⟩) hw _)
  blocks := fun q hq => by
    rcases List.mem_cons.1 hq with rfl | hq
    · have hbk := h.blocks _ (List.mem_cons_self ..)
      simp only at hbk
      simp only [World.setCell, Array.getElem?_modify, hbk]
      simp
    · exact (Below.heap_setCell _ _ _ _ (hb q hq)).trans ((Below.heap_setCell _ _ _ _ (hb q hq)).trans (h.blocks q (List.mem_cons_of_mem _ hq)))
  rows := fun p hp => by
    have hbk := h.blocks _ (List.mem_cons_self ..)
    have hn : p.v.ownBlock ≠ some b := by
      intro e
      have ho := (h.rows p hp).own
      rcases ho.2 with ⟨hv, _⟩ | ⟨g, cap, cur, hv, _, hg, _⟩
      · rw [hv] at e; simp [Value.ownBlock] at e
      · rw [hv] at e
        simp [Value.ownBlock] at e
        subst e
        rw [hg] at hbk
        simp at hbk
        exact hty p hp hbk.2
    exact ⟨ownsRow_set (ownsRow_set (h.rows p hp).own hn _) hn _, (h.rows p hp).lt, by have := (h.rows p hp).le; simpa [World.setCell] using this⟩

theorem Book.slI (h : Book w0 w A bs L) {lo hi : Nat} {ty : TypeId} {sz n : Nat} {a : Option Addr} {m cap : Nat} {xs : List Int} (hp : (⟨lo, hi, ty, sz, n, .slice a m cap, xs⟩ : Bk) ∈ L) : SlI w w.heap.size a xs :=
  flat_slI (h.rows _ hp).own

theorem Book.own (h : Book w0 w A bs L) {lo hi : Nat} {ty : TypeId} {sz n : Nat} {v : Value} {xs : List Int} (hp : (⟨lo, hi, ty, sz, n, v, xs⟩ : Bk) ∈ L) : w.ownsRow lo ty sz v n (xs.map (Value.int .i64)) := (h.rows _ hp).own

theorem Book.two (h : Book w0 w A bs L) {b t : Nat} {u v : Value} (hb : (b, Obj.cells #[u, v] t (0, 0)) ∈ bs) : w.cell? ⟨b, 0, none⟩ = some u ∧ w.cell? ⟨b, 1, none⟩ = some v := by
  have := h.blocks _ hb
  constructor <;> simp [World.cell?, this]

end

end Go.Proofs.YtpdhnjdnlgnniaaDoor

/-! BoundaryOf, IsCycle, IsChain, on both sides. -/
namespace Go.Proofs.YtpdhnjdnlgnniaaDoor
open Go.RowKit

/-- What BoundaryOf answers. -/
noncomputable def bdyR (V : Int) (fs ch : List Int) : List Int × Int := if chnR V fs ch = 0 then (bdL fs ch, 0) else ([], chnR V fs ch)
/-- What IsCycle answers. -/
noncomputable def cycleR (V : Int) (fs ch : List Int) : Bool × Int := if chnR V fs ch = 0 then (decide ((bdL fs ch).length = 0), 0) else (false, chnR V fs ch)
/-- What IsChain answers. -/
noncomputable def isChainR (V : Int) (fs ch : List Int) : Bool × Int := if isCB V fs then (chainB fs ch, 0) else (false, 1)

theorem chn_zero {V : Int} {fs ch : List Int} (h : chnR V fs ch = 0) : isCB V fs = true ∧ chainB fs ch = true := by
  unfold chnR at h
  split at h
  · rename_i h1
    split at h
    · rename_i h2; exact ⟨h1, h2⟩
    · simp at h
  · simp at h
theorem bdL_len {fs ch : List Int} : (bdL fs ch).length ≤ fs.length := by unfold bdL; exact List.length_filter_le _ _
theorem bdyR_len (V : Int) (fs ch : List Int) (h : fs.length ≤ 1048576) (_h2 : ch.length ≤ 1048576) : (bdyR V fs ch).1.length ≤ 1048576 := by
  unfold bdyR
  split
  · exact Nat.le_trans bdL_len h
  · simp
theorem ret_two {a b : Bool} {c : Int} (h : a = b) : Ending.returned (.tuple #[.bool a, .int .i64 c]) = .returned (.tuple #[.bool b, .int .i64 c]) := by rw [h]
theorem chns_one {V : Int} {fs : List Int} (a : Option Addr) (cap : Nat) (ch : List Int) : chnsR V fs ([(a, cap, ch)].map (·.2.2)) = chnR V fs ch := by
  unfold chnsR chnR
  simp



/-- chainCode at one list that has just been put into a slice. -/
theorem code_one (V : Int) (a0 : Option Addr) (cap : Nat) (fs : List Int) (a1 : Option Addr) (cap1 : Nat) (ch : List Int) (w : World) (pv : Value) (hx : SlI w w.heap.size a0 fs) (hx1 : SlI w w.heap.size a1 ch) (hl : fs.length ≤ 1048576) (hg : ch.length ≤ 1048576)
    (hG : w.cell? ⟨0, 0, none⟩ = some (.iface 74 pv)) :
    Calls Tryd.prog 17 #[.agg #[.int .i64 V, .slice a0 fs.length cap], .slice (some ⟨w.heap.size + 1, 0, none⟩) 1 1] ((w.alloc (.cells #[.int .i64 V, .slice a0 fs.length cap] 28)).alloc (.cells #[.slice a1 ch.length cap1] 22)) fun e w' =>
      e = .returned (.int .i64 (chnR V fs ch)) ∧ Below w.heap.size w w' ∧ w'.heap[w.heap.size]? = some (.cells #[.int .i64 V, .slice a0 fs.length cap] 28 (0, 0)) := by
  obtain ⟨W, hW0⟩ : ∃ W, W = (w.alloc (.cells #[.int .i64 V, .slice a0 fs.length cap] 28)).alloc (.cells #[.slice a1 ch.length cap1] 22) := ⟨_, rfl⟩
  have hB : Below w.heap.size w W := by rw [hW0]; exact ((Below.refl _ w).alloc (Nat.le_refl _) _).alloc (by simp) _
  have hk : W.heap[w.heap.size]? = some (.cells #[.int .i64 V, .slice a0 fs.length cap] 28 (0, 0)) := by rw [hW0]; exact (Below.heap_alloc _ _ _ (by simp)).trans (heap_alloc_new _ _)
  have hW : W.heap[w.heap.size + 1]? = some (.cells #[.slice a1 ch.length cap1] 22 (0, 0)) := by rw [hW0]; exact new2 _ _ _
  rw [← hW0]
  have hlt := lt_get hW
  have h := code_any V a0 cap fs (w.heap.size + 1) 1 [(a1, cap1, ch)] W pv (hx.later hB hB.size) hl hlt (by
    intro i a c xs hi
    match i, hi with
    | 0, hi =>
      simp at hi
      obtain ⟨rfl, rfl, rfl⟩ := hi
      exact ⟨(box_cell hW).1, hx1.later hB hB.size, hg⟩) (by simp) ((hB.cell (p := ⟨0, 0, none⟩) (World.block_lt_of_cell? w _ hG)).trans hG)
  rw [chns_one] at h
  exact h.mono fun e w' ⟨he, hb⟩ => ⟨he, hB.trans (hb.mono hB.size), (hb.block _ (lt_get hk)).trans hk⟩



end Go.Proofs.YtpdhnjdnlgnniaaDoor

/-! IsChain, on both sides. -/
namespace Go.Proofs.YtpdhnjdnlgnniaaDoor
open Go.RowKit Go.Sort



theorem chain_code {V : Int} {fs ch : List Int} : (chnR V fs ch = 2 → isChainR V fs ch = (false, 0)) ∧ (¬ chnR V fs ch = 2 → isChainR V fs ch = (decide (chnR V fs ch = 0), chnR V fs ch)) := by
  unfold chnR isChainR
  cases isCB V fs <;> cases chainB fs ch <;> simp


end Go.Proofs.YtpdhnjdnlgnniaaDoor

/-! Bounds and AreHomologous, both doors. -/
namespace Go.Proofs.YtpdhnjdnlgnniaaDoor
open Go.RowKit

/-- What Bounds answers. -/
noncomputable def bndsR (V : Int) (fs ch : List Int) : Bool × Int := if chnR V fs ch = 0 then (boundsB fs ch, 0) else (false, chnR V fs ch)

set_option maxRecDepth 100000 in
set_option maxHeartbeats 2000000 in
theorem specBounds (V : Int) (a0 : Option Addr) (cap : Nat) (fs : List Int) (a1 : Option Addr) (cap1 : Nat) (ch : List Int) (w : World) (hx : SlI w w.heap.size a0 fs) (hx1 : SlI w w.heap.size a1 ch) (hl : fs.length ≤ 1048576) (hg : ch.length ≤ 1048576) :
    Calls Tryd.prog 6 #[.agg #[.int .i64 V, .slice a0 fs.length cap], .slice a1 ch.length cap1] w fun e w' => e = .returned (.tuple #[.bool (bndsR V fs ch).1, .int .i64 (bndsR V fs ch).2]) ∧ Below w.heap.size w w' := by
  obtain ⟨W0, hW0⟩ : ∃ W0, W0 = w.alloc (.cells #[.int .i64 V, .slice a0 fs.length cap] 28) := ⟨_, rfl⟩
  have hB0 : Below w.heap.size w W0 := by rw [hW0]; exact (Below.refl _ w).alloc (Nat.le_refl _) _
  have Hx := hid hx
  have Hy := hid hx1
  have HB0 := hid hB0
  have Hk0 : Hid (W0.heap[w.heap.size]? = some (.cells #[.int .i64 V, .slice a0 fs.length cap] 28 (0, 0))) := hid (by rw [hW0]; exact heap_alloc_new _ _)
  have HI := hid (chain3_any V a0 cap fs a1 cap1 ch W0 (hx.later hB0 hB0.size) (hx1.later hB0 hB0.size) hl hg)
  rw [hW0] at HI
  clear hx hx1 hB0
  by_cases h0 : chnR V fs ch = 0
  · obtain ⟨hc, hch⟩ := chn_zero h0
    have hC := isCB_iff.1 hc
    have HR : Hid (bndsR V fs ch = (boundsB fs ch, 0)) := hid (by unfold bndsR; rw [if_pos h0])
    have HD := hid (fun W (h : Below w.heap.size w W) => bdsS_bds V a0 cap fs a1 cap1 ch W (Hx.out.later h h.size) (Hy.out.later h h.size) hl hg hC (chain_dim hch))
    rw [h0] at HI
    clear h0 hc hch hC
    go_enter Tryd.func6, Tryd.ntmps6
    go_wp2_with fail
    refine HI.out.mono ?_
    rintro e w1 ⟨rfl, hB1⟩
    rw [← hW0] at hB1
    have HB1 := hid (HB0.out.trans (hB1.mono HB0.out.size))
    obtain ⟨k0, k1, _, _⟩ := two_of ((hB1.block _ (lt_get Hk0.out)).trans Hk0.out)
    clear hB1
    go_wp2_with fail
    refine (HD.out w1 HB1.out).mono ?_
    rintro e w2 ⟨rfl, hr⟩
    have HB2 := hid (HB1.out.trans (hr.mono HB1.out.size))
    clear hr
    go_wp2_with fail
    go_ret2
    rw [HR.out]
    exact ⟨rfl, HB2.out⟩
  · obtain ⟨c, hcc⟩ : ∃ c, c = chnR V fs ch := ⟨_, rfl⟩
    have HR : Hid (bndsR V fs ch = (false, c)) := hid (by unfold bndsR; rw [if_neg h0, hcc])
    rw [← hcc] at h0 HI
    clear hcc
    have hn : (c != 0) = true := by simpa using h0
    go_enter Tryd.func6, Tryd.ntmps6
    go_wp2_with fail
    refine HI.out.mono ?_
    rintro e w1 ⟨rfl, hB1⟩
    rw [← hW0] at hB1
    have HB1 := hid (HB0.out.trans (hB1.mono HB0.out.size))
    clear hB1 h0
    go_wp2_with fail
    go_ret2
    rw [HR.out]
    exact ⟨rfl, HB1.out⟩

set_option maxRecDepth 100000 in
set_option maxHeartbeats 2000000 in
theorem implBounds (V : Int) (a0 : Option Addr) (cap : Nat) (fs : List Int) (a1 : Option Addr) (cap1 : Nat) (ch : List Int) (w : World) (hx : SlI w w.heap.size a0 fs) (hx1 : SlI w w.heap.size a1 ch) (hl : fs.length ≤ 1048576) (hg : ch.length ≤ 1048576)
    (pv : Value) (hG : w.cell? ⟨0, 0, none⟩ = some (.iface 74 pv)) :
    Calls Tryd.prog 9 #[.agg #[.int .i64 V, .slice a0 fs.length cap], .slice a1 ch.length cap1] w fun e w' => e = .returned (.tuple #[.bool (bndsR V fs ch).1, .int .i64 (bndsR V fs ch).2]) ∧ Below w.heap.size w w' := by
  have Hx := hid hx
  have Hy := hid hx1
  have HI := hid (code_one V a0 cap fs a1 cap1 ch w pv hx hx1 hl hg hG)
  clear hx hx1 hG
  by_cases h0 : chnR V fs ch = 0
  · obtain ⟨hc, hch⟩ := chn_zero h0
    have hC := isCB_iff.1 hc
    have HR : Hid (bndsR V fs ch = (boundsB fs ch, 0)) := hid (by unfold bndsR; rw [if_pos h0])
    have HD := hid (fun W (h : Below w.heap.size w W) => isBd_any V a0 cap fs a1 cap1 ch W (Hx.out.later h h.size) (Hy.out.later h h.size) hl hg hC (chain_dim hch))
    rw [h0] at HI
    clear h0 hc hch hC
    go_enter Tryd.func9, Tryd.ntmps9
    go_wp2_with fail
    refine HI.out.mono ?_
    rintro e w1 ⟨rfl, hB1, hk1⟩
    have HB1 := hid hB1
    obtain ⟨k0, k1, _, _⟩ := two_of hk1
    clear hB1
    go_wp2_with fail
    refine (HD.out w1 HB1.out).mono ?_
    rintro e w2 ⟨rfl, hr⟩
    have HB2 := hid (HB1.out.trans (hr.mono HB1.out.size))
    clear hr
    go_wp2_with fail
    go_ret2
    rw [HR.out]
    exact ⟨rfl, HB2.out⟩
  · obtain ⟨c, hcc⟩ : ∃ c, c = chnR V fs ch := ⟨_, rfl⟩
    have HR : Hid (bndsR V fs ch = (false, c)) := hid (by unfold bndsR; rw [if_neg h0, hcc])
    rw [← hcc] at h0 HI
    clear hcc
    have hn : (c != 0) = true := by simpa using h0
    go_enter Tryd.func9, Tryd.ntmps9
    go_wp2_with fail
    refine HI.out.mono ?_
    rintro e w1 ⟨rfl, hB1, hk1⟩
    have HB1 := hid hB1
    clear hB1 h0
    go_wp2_with fail
    go_ret2
    rw [HR.out]
    exact ⟨rfl, HB1.out⟩

/-- The faces of a complex that are in just one of two lists. -/
def symL (fs a b : List Int) : List Int := fs.filter fun x => decide (x ∈ a) != decide (x ∈ b)
theorem chain_asc {fs ch : List Int} (h : chainB fs ch = true) : ch.Pairwise (· < ·) := by
  unfold chainB at h
  rw [List.all_eq_true] at h
  rw [List.pairwise_iff_getElem]
  have step : ∀ i, i + 1 < ch.length → ch[i]?.getD 0 < ch[i + 1]?.getD 0 := fun i hi => by
    have := h (i + 1) (by simpa using hi)
    unfold linkB at this
    simp only [Bool.and_eq_true, Bool.or_eq_true, decide_eq_true_eq] at this
    rcases this.2 with h1 | h1
    · omega
    · simpa using h1
  have all : ∀ n i, i + n + 1 < ch.length → ch[i]?.getD 0 < ch[i + n + 1]?.getD 0 := by
    intro n
    induction n with
    | zero => exact fun i hi => step i hi
    | succ n ih => exact fun i hi => Int.lt_trans (ih i (by omega)) (by have := step (i + n + 1) (by omega); rwa [show i + n + 1 + 1 = i + (n + 1) + 1 by omega] at this)
  intro i j hi hj hij
  have := all (j - i - 1) i (by omega)
  rw [show i + (j - i - 1) + 1 = j by omega, List.getElem?_eq_getElem hi, List.getElem?_eq_getElem hj] at this
  simpa using this
theorem sum_sym {V : Int} {fs a b : List Int} (hC : IsC V fs) (ha : chainB fs a = true) (hb : chainB fs b = true) : sumL a b = symL fs a b := by
  obtain ⟨h1, h2⟩ := sumL_spec _ a b (Nat.le_refl _) (chain_asc ha) (chain_asc hb)
  refine asc_ext h2 (hC.asc.filter _) (fun x => ?_)
  rw [h1]
  unfold symL
  rw [List.mem_filter]
  have m1 := links_mem ha x
  have m2 := links_mem hb x
  by_cases e1 : x ∈ a <;> by_cases e2 : x ∈ b <;> simp [e1, e2]
  · exact m1 e1
  · exact m2 e2
/-- Both have faces of other dimensions. -/
def clashB (a b : List Int) : Bool := decide (a ≠ []) && (decide (b ≠ []) && decide (dimC a ≠ dimC b))
noncomputable def homR (V : Int) (fs a b : List Int) : Bool × Int :=
  if chnR V fs a = 0 then (if chnR V fs b = 0 then (if clashB a b then (false, 5) else (boundsB fs (symL fs a b), 0)) else (false, chnR V fs b)) else (false, chnR V fs a)
theorem sym_dim {V : Int} {fs a b : List Int} (_hC : IsC V fs) (ha : chainB fs a = true) (hb : chainB fs b = true) (hcl : clashB a b = false) : ∀ x ∈ symL fs a b, x ∈ ofDim fs (dimC (symL fs a b)) := by
  have key : ∃ D, ∀ x ∈ symL fs a b, x ∈ ofDim fs D := by
    by_cases e1 : a = []
    · refine ⟨dimC b, fun x hx => ?_⟩
      unfold symL at hx
      rw [List.mem_filter] at hx
      subst e1
      exact chain_dim hb x (by simpa using hx.2)
    · refine ⟨dimC a, fun x hx => ?_⟩
      unfold symL at hx
      rw [List.mem_filter] at hx
      by_cases h1 : x ∈ a
      · exact chain_dim ha x h1
      · have h2 : x ∈ b := by simpa [h1] using hx.2
        have e2 : b ≠ [] := fun e => by rw [e] at h2; simp at h2
        have : dimC a = dimC b := by
          unfold clashB at hcl
          rw [decide_eq_true e1, decide_eq_true e2] at hcl
          simpa using hcl
        rw [this]
        exact chain_dim hb x h2
  obtain ⟨D, hD⟩ := key
  intro x hx
  have hlen : 0 < (symL fs a b).length := List.length_pos_of_mem hx
  have h0 := hD _ (getD_mem (xs := symL fs a b) (k := 0) hlen)
  have : dimC (symL fs a b) = D := by
    have := (ofDim_mem.1 h0).2
    unfold dimC
    omega
  rw [this]
  exact hD x hx
theorem symL_len (fs a b : List Int) : (symL fs a b).length ≤ fs.length := List.length_filter_le _ _

end Go.Proofs.YtpdhnjdnlgnniaaDoor

/-! What a complex that comes in is told as, for the rows of all laws. -/
namespace Go.Proofs.YtpdhnjdnlgnniaaDoor
open Go.ChangeShapes Go.WideShapes Go.ChangeAt Go.RowKit Go.Joins

theorem own : ownKnob Tryd.prog.godebug = none := by kernel_rfl
theorem laidOut : laidOutB Tryd.prog = true := by kernel_rfl

variable {H : Type} {enc : TypeId × Value → H}

/-- A slice of int64 that came in. -/
theorem slI_of_trod {W : World} {n : Nat} {v : Value} {y : DataW H × List MemPlace} (hf : DataW.trod enc Tryd.prog W 0 (fun _ => true) true n 22 [v] = some y) :
    ∃ a len cap xs, v = .slice a len cap ∧ xs.length = len ∧ len ≤ 9223372036854775807 ∧ SlI W W.heap.size a xs ∧ ∀ x ∈ xs, (Lit.int .i64 x).wf = true := by
  rcases open_ints Tryd.underlying22 Tryd.underlying2 (by kernel_rfl) hf with ⟨hcs, _⟩ | ⟨x, l, c, zs, hcs, _, hl, hm, hz, _, hcell, hwf⟩
  · simp at hcs
    subst hcs
    exact ⟨none, 0, 0, [], rfl, rfl, by omega, .inl rfl, by simp⟩
  · simp at hcs
    subst hcs
    simp at hz
    have hlen : (zs.take l).length = l := by simp; omega
    unfold maxLen at hm
    refine ⟨some x, l, c, zs.take l, rfl, hlen, by omega, ?_, fun y hy => hwf y (List.mem_of_mem_take hy)⟩
    by_cases h0 : l = 0
    · subst h0; exact .inl (by simp)
    · right
      obtain ⟨b, off, spot⟩ := x
      have hc0 := hcell 0 (by omega)
      have hspot : spot = none := by simpa [Addr.add] using World.cell?_spot hc0
      subst hspot
      refine ⟨b, off, ?_, rfl, fun i hi => ?_⟩
      · have := World.block_lt_of_cell? W _ hc0
        simpa [Addr.add] using this
      · rw [hlen] at hi
        have := hcell i (by omega)
        have hadd : (⟨b, off, none⟩ : Addr).add i = ⟨b, off + i, none⟩ := by unfold Addr.add; split <;> simp_all
        rw [hadd] at this
        rw [List.getElem?_take, if_pos hi]
        simpa using this

end Go.Proofs.YtpdhnjdnlgnniaaDoor

/-! What the listed variables hold, for the rows of tied cards. -/
namespace Go.Proofs.YtpdhnjdnlgnniaaDoor
open Go.ChangeShapes Go.WideShapes Go.ChangeAt Go.RowKit Go.Joins

theorem starErr : "*" ++ "errors.errorString" = "*errors.errorString" := by decide
theorem rowErr (u : TypeId) (h : Tryd.prog.typeName? 3 u = some "*errors.errorString") : u = 74 :=
  typeName_ptr_named (nm := "errors.errorString") (by rw [starErr]; kernel_rfl) (by kernel_rfl) (by decide) u (by rw [starErr]; exact h)

theorem gChain : Tryd.prog.globalNamed "loop.example/g01348/impl.errNoChain" = some 0 := by kernel_rfl
theorem tChain : (Tryd.prog.globals[0]?).map (·.type) = some 55 := by kernel_rfl
theorem sentChain {W : World} (h : laidMet Tryd.prog [("loop.example/g01348/impl.errNoChain", Rows.laid_loop_example_g01348_impl_errNoChain)] W) : ∃ pv, W.cell? ⟨0, 0, none⟩ = some (.iface 74 pv) := by
  unfold Rows.laid_loop_example_g01348_impl_errNoChain at h
  obtain ⟨a, s, hv, _, _, _⟩ := laid_sentinel h gChain tChain Tryd.underlying55 rowErr Tryd.underlying74 Tryd.underlying92 rfl rfl Tryd.underlying9 (by kernel_rfl) (by kernel_rfl)
  exact ⟨_, by simpa using World.var?_cell gChain hv 0⟩


end Go.Proofs.YtpdhnjdnlgnniaaDoor
