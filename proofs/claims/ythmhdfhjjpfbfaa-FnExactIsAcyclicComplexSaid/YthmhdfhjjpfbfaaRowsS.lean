import Derived.Test.YthmhdfhjjpfbfaaBndM
import Derived.Test.YthmhdfhjjpfbfaaPlace
import Derived.Test.YthmhdfhjjpfbfaaClear
import Derived.Test.YthmhdfhjjpfbfaaNewRows
import Derived.Test.YthmhdfhjjpfbfaaMathL
import Derived.Test.YthmhdfhjjpfbfaaDim
import Derived.Test.YthmhdfhjjpfbfaaCx
import Derived.Deep.CutRange
import Derived.Deep.RegionHeld3
import Derived.StillTailTactics
/-! The model's l03Rows. -/
namespace Go.Proofs.Ythmhdfhjjpfbfaa
open Go.RowKit
open Go.Sort hiding Below

/-- 'out = append(out, row)'. -/
theorem append_row {w : World} {ops : Array Oper} {rest : List Oper} {o : Oper} {a : Act} {Q : Exit → Act → World → Prop} (hgd : o.guard = none) {s y : Operand}
    (ho : o.op = .call { callee := .builtin .append, args := #[s, y], argTypes := #[107, 107] })
    {base : Nat} {v : Value} {xs : List Value} {T n : Nat} (hown : w.ownsRow base 22 1 v xs.length xs) (hbase : base ≤ w.heap.size) (hl : xs.length ≤ 1048576)
    (hs : a.eval s = v) (hy : a.eval y = .slice (some ⟨w.heap.size, 0, none⟩) 1 1)
    (hK : ∀ v' w', w'.ownsRow base 22 1 v' (xs ++ [Value.slice (some ⟨T, 0, none⟩) n n]).length (xs ++ [Value.slice (some ⟨T, 0, none⟩) n n]) → w.grownBy w' v.ownBlock → Below base w w' → wpList Try.prog ops Q rest (a.put o.dst v') w') :
    wpList Try.prog ops Q (o :: rest) a (w.alloc (.cells #[.slice (some ⟨T, 0, none⟩) n n] 22)) := by
  obtain ⟨i0, hi, hz0, hz1, hz2⟩ := info_parts info_rows
  refine wpList_append_own _ hgd s y 107 ho base 22 i0 (.slice none 0 0) 1 24 Try.underlying107 hi hz0 hz1 hz2 rfl (by decide) v _ _ hs (hown.alloc _) ⟨w.heap.size, 0, none⟩ 1 1 [.slice (some ⟨T, 0, none⟩) n n] hy rfl (cell_one_new _ _ _) (by simp [Value.oneCell']) (by unfold maxLen; omega) (by omega) (by simp; omega) ?_
  intro v' w1 hown1 hgrow1 _
  have hg : w.grownBy w1 v.ownBlock := (World.grownBy_alloc w _ _).trans hgrow1
  refine hK v' w1 (by simpa using hown1) hg ((Below.refl base w).grown hg hbase (fun k hk => (hown.lt k hk).1))

/-- The model's rows, the first k of them laid; row i in block Ts i. -/
def slT (wd : Nat) (T : Nat) : Value := .slice (some ⟨T, 0, none⟩) wd wd
structure RowsW (W0 W : World) (base wd : Nat) (Ts : List Nat) (rows : List (List Int)) (v : Value) : Prop where
  below : Below base W0 W
  len : Ts.length = rows.length
  out : W.ownsRow base 22 1 v (Ts.map (slT wd)).length (Ts.map (slT wd))
  row : ∀ i, i < Ts.length → (rows[i]?.getD []).length = wd ∧ W.ownsRow base 2 1 (slT wd (Ts[i]?.getD 0)) wd ((rows[i]?.getD []).map (Value.int .i64))
  nodup : Ts.Nodup
  lt : ∀ T ∈ Ts, T < W.heap.size

/-- Whatever keeps all that lay. -/
theorem RowsW.later {W0 W W' : World} {base wd : Nat} {Ts : List Nat} {rows : List (List Int)} {v : Value} (h : RowsW W0 W base wd Ts rows v) (hb : Below W.heap.size W W') (hs : base ≤ W.heap.size) : RowsW W0 W' base wd Ts rows v where
  below := h.below.trans (hb.mono hs)
  len := h.len
  out := ownsRow_below h.out hb (fun g hg => (h.out.lt g hg).2)
  row := fun i hi => ⟨(h.row i hi).1, ownsRow_below (h.row i hi).2 hb (fun g hg => ((h.row i hi).2.lt g hg).2)⟩
  nodup := h.nodup
  lt := fun T hT => Nat.lt_of_lt_of_le (h.lt T hT) hb.size

/-- A further row: laid in block T beyond all that lay. -/
theorem RowsW.snoc {W0 W W' : World} {base wd T : Nat} {Ts : List Nat} {rows : List (List Int)} {v v' : Value} {row : List Int} (h : RowsW W0 W base wd Ts rows v) (hl : row.length = wd) (hT : T ∉ Ts)
    (hrow : W.ownsRow base 2 1 (slT wd T) wd (row.map (Value.int .i64)))
    (hown : W'.ownsRow base 22 1 v' (Ts.map (slT wd) ++ [slT wd T]).length (Ts.map (slT wd) ++ [slT wd T])) (hg : W.grownBy W' v.ownBlock) (hb : Below base W W') : RowsW W0 W' base wd (Ts ++ [T]) (rows ++ [row]) v' := by
  have hkeep : ∀ {T' : Nat} {r : List Int}, W.ownsRow base 2 1 (slT wd T') wd (r.map (Value.int .i64)) → W'.ownsRow base 2 1 (slT wd T') wd (r.map (Value.int .i64)) := by
    intro T' r hr
    refine hr.kept hg (.inr (fun e => ?_))
    obtain ⟨cur, hh, _, _⟩ := owned_block hr
    exact row_ne h.out hh (by decide) e
  refine ⟨h.below.trans hb, by simp [h.len], by simpa using hown, ?_, ?_, ?_⟩
  · intro i hi
    by_cases hlt : i < Ts.length
    · rw [List.getElem?_append_left (by rw [← h.len]; exact hlt), List.getElem?_append_left hlt]
      exact ⟨(h.row i hlt).1, hkeep (h.row i hlt).2⟩
    · obtain rfl : i = Ts.length := by simp at hi; omega
      rw [List.getElem?_append_right (Nat.le_refl _), List.getElem?_append_right (by rw [h.len]; exact Nat.le_refl _), h.len]
      simp only [Nat.sub_self, List.getElem?_cons_zero, Option.getD_some]
      exact ⟨hl, hkeep hrow⟩
  · rw [List.nodup_append]
    exact ⟨h.nodup, by simp, fun a ha b hb e => by simp at hb; subst hb; subst e; exact hT ha⟩
  · intro U hU
    rcases List.mem_append.1 hU with h1 | h1
    · exact Nat.lt_of_lt_of_le (h.lt U h1) hb.size
    · simp at h1
      subst h1
      have := (hrow.lt U rfl).2
      exact Nat.lt_of_lt_of_le this hb.size

/-- The rows as a matrix. -/
theorem RowsW.mat {W0 W : World} {base wd : Nat} {Ts : List Nat} {rows : List (List Int)} {R m cap : Nat} (h : RowsW W0 W base wd Ts rows (.slice (some ⟨R, 0, none⟩) m cap)) : MatW W base R rows.length wd (Ts.map fun T => (T, 0)) rows := by
  obtain ⟨cur, hR, ht, hb⟩ := owned_block h.out
  have hH := holdsV_of_block hR (ss := Ts.map (slT wd)) ht
  have ha : ∀ i, i < Ts.length → adr (Ts.map fun T => (T, 0)) i = (Ts[i]?.getD 0, 0) := fun i hi => by simp [adr, hi]
  have hTm : ∀ i, i < Ts.length → Ts[i]?.getD 0 ∈ Ts := fun i hi => by rw [List.getElem?_eq_getElem hi]; simp
  have hle := h.len
  refine ⟨rfl, by simp [h.len], fun i hi => (h.row i (by omega)).1, ?_, ?_, ?_, ?_, ?_, ⟨hb, lt_of_get hR⟩⟩
  · intro i hi
    rw [ha i (by omega)]
    have h2 := holdsV_at hH (i := i) (by simp; omega)
    have : (Ts.map (slT wd))[i]?.getD undef = slT wd (Ts[i]?.getD 0) := by simp [show i < Ts.length by omega]
    rw [this] at h2
    exact h2
  · intro i hi
    rw [ha i (by omega)]
    obtain ⟨c2, hT, ht2, _⟩ := owned_block (h.row i (by omega)).2
    have hl := (h.row i (by omega)).1
    exact holds_of_blockI hT (by rw [hl]; exact ht2)
  · intro i k hi hk hik
    rw [ha i (by omega), ha k (by omega)]
    refine .inl (fun e => hik ?_)
    simp only at e
    rw [List.getElem?_eq_getElem (by omega : i < Ts.length), List.getElem?_eq_getElem (by omega : k < Ts.length)] at e
    simp only [Option.getD_some] at e
    exact (List.getElem_inj h.nodup).1 e
  · intro i hi
    rw [ha i (by omega)]
    intro e
    simp only at e
    obtain ⟨c2, hT, _, _⟩ := owned_block (h.row i (by omega)).2
    rw [e, hR] at hT
    injection hT with hT
    injection hT with _ ht _
    exact absurd ht (by decide)
  · intro i hi
    rw [ha i (by omega)]
    have := (h.row i (by omega)).2.lt (Ts[i]?.getD 0) rfl
    exact this

/-- .. with the lists of faces and sides. -/
structure RowsX (W0 W : World) (base wd : Nat) (Ts : List Nat) (rows : List (List Int)) (v q1 q2 : Value) (F S : List Int) : Prop where
  main : RowsW W0 W base wd Ts rows v
  oF : W.ownsRow base 2 1 q1 F.length (F.map (Value.int .i64))
  oS : W.ownsRow base 2 1 q2 S.length (S.map (Value.int .i64))
  size : base ≤ W.heap.size

theorem RowsX.later {W0 W W' : World} {base wd : Nat} {Ts : List Nat} {rows : List (List Int)} {v q1 q2 : Value} {F S : List Int} (h : RowsX W0 W base wd Ts rows v q1 q2 F S) (hb : Below W.heap.size W W') : RowsX W0 W' base wd Ts rows v q1 q2 F S :=
  ⟨h.main.later hb h.size, ownsRow_below h.oF hb (fun g hg => (h.oF.lt g hg).2), ownsRow_below h.oS hb (fun g hg => (h.oS.lt g hg).2), Nat.le_trans h.size hb.size⟩

theorem RowsX.snoc {W0 W W' : World} {base wd T : Nat} {Ts : List Nat} {rows : List (List Int)} {v v' q1 q2 : Value} {F S row : List Int} (h : RowsX W0 W base wd Ts rows v q1 q2 F S) (hl : row.length = wd) (hT : T ∉ Ts)
    (hrow : W.ownsRow base 2 1 (slT wd T) wd (row.map (Value.int .i64)))
    (hown : W'.ownsRow base 22 1 v' (Ts.map (slT wd) ++ [slT wd T]).length (Ts.map (slT wd) ++ [slT wd T])) (hg : W.grownBy W' v.ownBlock) (hb : Below base W W') : RowsX W0 W' base wd (Ts ++ [T]) (rows ++ [row]) v' q1 q2 F S := by
  have hkeep : ∀ {q : Value} {r : List Int}, W.ownsRow base 2 1 q r.length (r.map (Value.int .i64)) → W'.ownsRow base 2 1 q r.length (r.map (Value.int .i64)) := by
    intro q r hr
    refine hr.kept hg ?_
    cases hq : q.ownBlock with
    | none => exact .inl rfl
    | some b =>
      refine .inr (fun e => ?_)
      rcases hr.2 with ⟨h0, _⟩ | ⟨g, cap, cur, hv, _, hh, _⟩
      · rw [h0] at hq; simp [Value.ownBlock] at hq
      · rw [hv] at hq
        simp [Value.ownBlock] at hq
        subst hq
        exact row_ne h.main.out hh (by decide) e
  exact ⟨h.main.snoc hl hT hrow hown hg hb, hkeep h.oF, hkeep h.oS, Nat.le_trans h.size hb.size⟩

/-- At address a, in a block beyond T, lie the integers xs. -/
def SlA (w : World) (T : Nat) (a : Option Addr) (xs : List Int) : Prop :=
  xs = [] ∨ ∃ b off, T < b ∧ b < w.heap.size ∧ a = some ⟨b, off, none⟩ ∧ ∀ i, i < xs.length → w.cell? ⟨b, off + i, none⟩ = some (.int .i64 (xs[i]?.getD 0))
theorem slA_of {w : World} {base e T : Nat} {a : Option Addr} {n m cap : Nat} {xs : List Int} (h : w.ownsRow base e 1 (.slice a m cap) n (xs.map (Value.int .i64))) (hT : T < base) : SlA w T a xs := by
  have hs := owned_slI h
  rcases hs with rfl | ⟨b, off, hb, rfl, hc⟩
  · exact .inl rfl
  · rcases h.2 with ⟨h0, _⟩ | ⟨g, cap', cur, hv, hg, _⟩
    · cases h0
    · injection hv with e1 _ _
      injection e1 with e1
      injection e1 with e1 e2 _
      exact .inr ⟨b, off, by omega, hb, rfl, hc⟩
theorem SlA.later {w w' : World} {T : Nat} {a : Option Addr} {xs : List Int} (h : SlA w T a xs) (hb : Below w.heap.size w w') : SlA w' T a xs := by
  rcases h with rfl | ⟨b, off, h1, h2, rfl, hc⟩
  · exact .inl rfl
  · exact .inr ⟨b, off, h1, Nat.lt_of_lt_of_le h2 hb.size, rfl, fun i hi => (hb.cell (p := ⟨b, off + i, none⟩) h2).trans (hc i hi)⟩

theorem grow_none (w : World) : Sort.grow w #[] = w := by cases w; simp [Sort.grow]
theorem row_put {w5 : World} {base T wd : Nat} (m : Nat) {row : List Int} (h : w5.ownsRow base 2 1 (slT wd T) wd ((List.replicate wd (0 : Int)).map (Value.int .i64))) (hl : row.length = wd) :
    (putRow encI (Sort.ahead w5 m) T 0 row.toArray).ownsRow base 2 1 (slT wd T) wd (row.map (Value.int .i64)) := by
  rcases h.2 with ⟨h0, _⟩ | ⟨g, cap, cur, hv, hg, hh, h1, h2, h3, _⟩
  · cases h0
  · cases hv
    have := ownsRow_sortedI (n := m) (os := #[]) (ss := List.replicate wd (0 : Int)) (ts := row) (by simp [hl]) hg hh (by simp) h2 h3
    rw [grow_none, List.length_replicate] at this
    exact this
theorem below_row {w5 w0 : World} {T : Nat} (m : Nat) (row : List Int) (h : Below T w0 w5) : Below T w0 (putRow encI (Sort.ahead w5 m) T 0 row.toArray) := by
  refine ⟨h.os, h.tape, h.output, by simpa using h.size, fun k hk => ?_⟩
  have : T ≠ k := by omega
  rw [← h.block k hk]
  simp [putRow, mapBlock, Sort.ahead, Array.getElem?_modify, this]
theorem wp_tail {P : Program} {id : Nat} {Q : Exit → Act → World → Prop} {a : Act} {w : World} {l : List Oper} (n : Nat) (hm : P.follows .mixedOrders = true) (hB : Region.lexTailB .any l.toArray n = true)
    (h : wpStill P l.toArray w.drew (fun a' => wpList P l.toArray Q (l.drop n) a' w.drew) (l.take n) a) : (Code.region id l.toArray true).wp P Q a w := wp_region_still_tail n hm hB h
theorem PI_of (a : Option Addr) (cap : Nat) (xs : List Int) (x : Int) (w : World) (B : Nat) (hx : SlI w B a xs) (hB : B ≤ w.heap.size) (hl : xs.length ≤ 1048576) (hm : x ∈ xs) :
    Calls Try.prog 143 #[.slice a xs.length cap, .int .i64 x] w fun e w' => e = .returned (.int .i64 (xs.idxOf x : Int)) ∧ w' = w :=
  (place_at a cap xs x w (hx.mono hB) hl hm).mono fun _ _ ⟨he, hw⟩ => ⟨he, hw.symm⟩
theorem take_snocL {α : Type} {l : List α} {j : Nat} (hj : j < l.length) : l.take (j + 1) = l.take j ++ [l[j]] := by rw [List.take_succ_eq_append_getElem hj]

theorem rowsX_start {w W : World} {wd bo : Nat} {q1 q2 : Value} {F S : List Int} (hb : Below w.heap.size w W) (hh : W.heap[bo]? = some (.cells #[] 22 (0, 0))) (hbo : w.heap.size ≤ bo)
    (oF : W.ownsRow w.heap.size 2 1 q1 F.length (F.map (Value.int .i64))) (oS : W.ownsRow w.heap.size 2 1 q2 S.length (S.map (Value.int .i64))) : RowsX w W w.heap.size wd [] [] (.slice (some ⟨bo, 0, none⟩) 0 0) q1 q2 F S :=
  ⟨⟨hb, rfl, ⟨rfl, .inr ⟨bo, 0, #[], rfl, hbo, hh, Nat.le_refl _, by simp [maxLen], rfl, rfl⟩⟩, fun i hi => by simp at hi, List.nodup_nil, fun T hT => by simp at hT⟩, oF, oS, hb.size⟩

set_option maxRecDepth 1000000 in
set_option maxHeartbeats 4000000 in
theorem rowsS_any (V : Int) (a0 : Option Addr) (cap : Nat) (fs : List Int) (d p : Int) (w : World) (hx : SlI w w.heap.size a0 fs) (hl : fs.length ≤ 1048576) (hC : IsC V fs) (hp : p = 2 ∨ p = 3) (hd0 : 1 ≤ d) (hd1 : d ≤ 5) :
    Calls Try.prog 124 #[.agg #[.int .i64 V, .slice a0 fs.length cap], .int .i64 d, .int .i64 p] w fun e w' => ∃ R ad cp, e = .returned (.slice (some ⟨R, 0, none⟩) (ofDim fs d).length cp) ∧ MatW w' w.heap.size R (ofDim fs d).length (ofDim fs (d - 1)).length ad (bndM fs d p) ∧ Below w.heap.size w w' := by
  have hB0 : Below w.heap.size w (w.alloc (.cells #[.int .i64 V, .slice a0 fs.length cap] 28)) := (Below.refl _ w).alloc (Nat.le_refl _) _
  have hBd := below_drewN hB0 1
  have h63 := hC.len63
  have HF := hid (fun dd w' (h0 : 0 ≤ dd) (h5 : dd ≤ 5) (hw : Below w.heap.size w w') => of_any V a0 cap fs dd w' (hx.later hw hw.size) hl hC.range63 h0 h5)
  have hsub : IntKind.i64.wrap (d - 1) = d - 1 := IntWalk.i64_in _ (by omega)
  have HBd : Hid (Below w.heap.size w (w.alloc (.cells #[.int .i64 V, .slice a0 fs.length cap] 28)).drew) := hid hBd
  have HBs : Hid (Below w.heap.size w ((w.alloc (.cells #[.int .i64 V, .slice a0 fs.length cap] 28)).alloc (.cells #[] 22)).drew) := hid (below_drewN (hB0.alloc (by simp) (.cells #[] 22)) 1)
  have HC := hid hC
  have HP := hid hp
  have hF63 := ofDim_len fs d
  have hS63 := ofDim_len fs (d - 1)
  clear hx hB0 hBd hC hp
  go_enter Try.func124, Try.ntmps124
  go_wp2_with fail
  go_cut [7, 8, 9] from 15 to 22 (fun q1 q2 q3 wx => ∃ (a1 a2 : Option Addr) (c1 c2 bo : Nat), q1 = .slice a1 (ofDim fs d).length c1 ∧ q2 = .slice a2 (ofDim fs (d - 1)).length c2 ∧ q3 = .slice (some ⟨bo, 0, none⟩) 0 0 ∧ Hid (RowsX w wx w.heap.size (ofDim fs (d - 1)).length [] [] (.slice (some ⟨bo, 0, none⟩) 0 0) (.slice a1 (ofDim fs d).length c1) (.slice a2 (ofDim fs (d - 1)).length c2) (ofDim fs d) (ofDim fs (d - 1))))
  case first =>
    go_region_held3 (fun w' => w'.cell? ⟨w.heap.size, 0, none⟩ = some (.int .i64 V) ∧ w'.cell? ⟨w.heap.size, 1, none⟩ = some (.slice a0 fs.length cap)) (go_keep) (first
      | (go_at_call 94; refine (HF.out _ _ (by omega) (by omega) (by first | with_reducible exact HBd.out | with_reducible exact HBs.out)).mono ?_; rintro e w1 ⟨v1, rfl, hr1⟩; obtain ⟨_, a1, c1, rfl, _⟩ := ownsRow_slI hr1.1; have n0 : w1.cell? ⟨w.heap.size, 0, none⟩ = some (.int .i64 V) := (hr1.2.cell (p := ⟨w.heap.size, 0, none⟩) (by simp <;> omega)).trans (by simp [go_sem]); have n1 : w1.cell? ⟨w.heap.size, 1, none⟩ = some (.slice a0 fs.length cap) := (hr1.2.cell (p := ⟨w.heap.size, 1, none⟩) (by simp <;> omega)).trans (by simp [go_sem]); have hb1 : Below w.heap.size w w1 := (by first | exact HBd.out.trans (hr1.2.mono HBd.out.size) | exact HBs.out.trans (hr1.2.mono HBs.out.size)); have Hlt1 : Hid (w.heap.size < w1.heap.size) := hid (by have := hr1.2.size; simp at this; omega); have HB1s := hid (hb1.alloc hb1.size (.cells #[] 22)); have HB1 := hid hb1; have HR1 := hid hr1; clear hr1 hb1)
      | (go_at_call 94; have hz := HB1.out; clear HB1; refine (HF.out _ _ (by omega) (by omega) (by first | with_reducible exact hz | with_reducible exact HB1s.out)).mono ?_; rintro e w2 ⟨v2, rfl, hr2⟩; obtain ⟨_, a2, c2, rfl, _⟩ := ownsRow_slI hr2.1; have hzz := hr2.2.size; have o0 : w2.cell? ⟨w.heap.size, 0, none⟩ = some (.int .i64 V) := (hr2.2.cell (p := ⟨w.heap.size, 0, none⟩) (by first | exact Hlt1.out | (simp; have := Hlt1.out; omega))).trans (by first | assumption | exact n0 | exact cell_alloc0 n0 _); have o1 : w2.cell? ⟨w.heap.size, 1, none⟩ = some (.slice a0 fs.length cap) := (hr2.2.cell (p := ⟨w.heap.size, 1, none⟩) (by first | exact Hlt1.out | (simp; have := Hlt1.out; omega))).trans (by first | assumption | exact n1 | exact cell_alloc0 n1 _); have HR2 := hid hr2; have HB1 := hid hz; clear hr2 hz hzz))
    all_goals
      have hb12 : Below w1.heap.size w1 w2 := by first | exact HR2.out.2 | exact ((Below.refl _ w1).alloc (Nat.le_refl _) _).trans (HR2.out.2.mono (by simp))
      have hb2 : Below w.heap.size w w2 := HB1.out.trans (hb12.mono HB1.out.size)
      have o1 := ownsRow_base (base' := w.heap.size) (ownsRow_below HR1.out.1 hb12 (fun g hg => (HR1.out.1.lt g hg).2)) (by simp <;> omega)
      have o2 := ownsRow_base (base' := w.heap.size) HR2.out.1 (by have := HB1.out.size; simp <;> omega)
      have hs12 := hb2.size
      have Hb12 := hid hb12
      have Hb2 := hid hb2
      have O1 := hid o1
      have O2 := hid o2
      have hs1 : w.heap.size < w1.heap.size := Hlt1.out
      clear hb12 hb2 o1 o2
      go_wp2_with fail
      go_meet
      case rel => first
        | exact ⟨a1, a2, c1, c2, _, rfl, rfl, rfl, hid (rowsX_start (Hb2.out.alloc Hb2.out.size _) (heap_alloc_new w2 _) (by omega) (O1.out.alloc _) (O2.out.alloc _))⟩
        | exact ⟨a2, a1, c2, c1, _, rfl, rfl, rfl, hid (rowsX_start (Hb2.out.alloc Hb2.out.size _) (heap_alloc_new w2 _) (by omega) (O2.out.alloc _) (O1.out.alloc _))⟩
        | exact ⟨a1, a2, c1, c2, _, rfl, rfl, rfl, hid (rowsX_start Hb2.out ((HR2.out.2.block _ (by simp)).trans (heap_alloc_new w1 _)) (by omega) O1.out O2.out)⟩
        | exact ⟨a2, a1, c2, c1, _, rfl, rfl, rfl, hid (rowsX_start Hb2.out ((HR2.out.2.block _ (by simp)).trans (heap_alloc_new w1 _)) (by omega) O2.out O1.out)⟩
        | exact ⟨a1, a2, c1, c2, w.heap.size + 1, rfl, rfl, rfl, hid (rowsX_start Hb2.out ((Hb12.out.block _ (by have := HR1.out.2.size; simp at this; omega)).trans ((HR1.out.2.block _ (by simp)).trans (new2 w _ _))) (by omega) O1.out O2.out)⟩
        | exact ⟨a2, a1, c2, c1, w.heap.size + 1, rfl, rfl, rfl, hid (rowsX_start Hb2.out ((Hb12.out.block _ (by have := HR1.out.2.size; simp at this; omega)).trans ((HR1.out.2.block _ (by simp)).trans (new2 w _ _))) (by omega) O2.out O1.out)⟩
  case rest =>
    obtain ⟨a1, a2, c1, c2, bo, rfl, rfl, rfl, HX⟩ := hcut
    have hn63 : (ofDim fs d).length ≤ 63 := by omega
    have hw63 : (ofDim fs (d - 1)).length ≤ 63 := by omega
    clear HF HBd HBs hsub hF63 hS63
    go_wp2_with fail
    go_loopw [9, 10] (fun v i wr => ∃ (k R cp : Nat) (Ts : List Nat), v = .slice (some ⟨R, 0, none⟩) k cp ∧ i = .int .i64 k ∧ k ≤ (ofDim fs d).length ∧ Hid (RowsX w wr w.heap.size (ofDim fs (d - 1)).length Ts (((ofDim fs d).take k).map fun f => bndRow (ofDim fs (d - 1)) p (signedF f.toNat)) v (.slice a1 (ofDim fs d).length c1) (.slice a2 (ofDim fs (d - 1)).length c2) (ofDim fs d) (ofDim fs (d - 1)))) (fun _ i _ => (ofDim fs d).length - (intOf i).toNat)
    case atStart => exact ⟨0, bo, 0, [], rfl, rfl, Nat.zero_le _, HX⟩
    case round =>
      clear HX
      obtain ⟨k, R, cp, Ts, rfl, rfl, hk, HX⟩ := hrel
      by_cases hlt : k < (ofDim fs d).length
      · obtain ⟨b1, o1, hb1, rfl, hc1⟩ : ∃ b off, b < wr.heap.size ∧ a1 = some ⟨b, off, none⟩ ∧ ∀ i, i < (ofDim fs d).length → wr.cell? ⟨b, off + i, none⟩ = some (.int .i64 ((ofDim fs d)[i]?.getD 0)) := by
          rcases owned_slI HX.out.oF with h | h
          · rw [h] at hlt; simp at hlt
          · exact h
        obtain ⟨x, hxx⟩ : ∃ x, x = (ofDim fs d)[k]?.getD 0 := ⟨_, rfl⟩
        have hxm : x ∈ ofDim fs d := by rw [hxx]; exact getD_mem hlt
        have hxr := HC.out.range63 x (ofDim_mem.1 hxm).1
        have hck := hc1 k hlt
        rw [← hxx] at hck
        obtain ⟨f, rfl⟩ : ∃ f : Nat, x = f := ⟨x.toNat, by omega⟩
        have hf : f < 64 := by omega
        have hf0 : f ≠ 0 := by omega
        have Hsd := hid (fun x hx => side_in HC.out hxm (x := x) hx)
        rw [Int.toNat_natCast] at Hsd
        have Hrev := hid (bndRow_rev HC.out (ofDim_mem.1 hxm).1 (d - 1) p)
        rw [Int.toNat_natCast] at Hrev
        have Htk : Hid (((ofDim fs d).take (k + 1)).map (fun f => bndRow (ofDim fs (d - 1)) p (signedF f.toNat)) = ((ofDim fs d).take k).map (fun f => bndRow (ofDim fs (d - 1)) p (signedF f.toNat)) ++ [bndRow (ofDim fs (d - 1)) p (signedF f)]) := hid (by rw [take_snoc hlt, ← hxx, List.map_append]; simp)
        have hi0 : (0 : Int) ≤ (k : Int) := by omega
        have hi1 : (k : Int) < ((ofDim fs d).length : Int) := by omega
        have HS := hid (owned_slI HX.out.oS)
        clear hxx hxm hc1 hxr
        go_wp2_with (first
          | (refine make_int rfl rfl (n := (ofDim fs (d - 1)).length) rfl rfl (by omega) ?_; intro w3 hown3 hg3 hB3))
        have hck3 : w3.cell? ⟨b1, o1 + k, none⟩ = some (.int .i64 (f : Int)) := (hB3.cell (p := ⟨b1, o1 + k, none⟩) hb1).trans hck
        have hT3 := (hown3.lt wr.heap.size rfl).2
        have HB3 := hid hB3
        have Hown3 := hid (ownsRow_base hown3 HX.out.size)
        have HBl := hid (fun w' => below_int (f : Int) w' (by omega) (by omega))
        have HSg := hid (fun w' => signs_any f w' hf hf0)
        rw [Int.toNat_natCast] at HBl
        have hsb := signed_below ⟨f, hf⟩ hf0
        simp only at hsb
        rw [← hsb.1] at HBl
        rw [← hsb.2] at HSg
        clear hck hB3 hown3 hg3 hsb
        obtain ⟨rv, hrv⟩ : ∃ rv, rv = (signedF f).reverse := ⟨_, rfl⟩
        rw [← hrv] at HBl HSg Hrev
        have Hrv := hid hrv
        have hrl : rv.length ≤ 63 := by
          rw [hrv, List.length_reverse]
          unfold signedF
          rw [signedL_len]
          have := sides_len f 6
          unfold sidesF
          omega
        have hLm : ∀ g : Fin 64 × Int → Int, (rv.map g).length = rv.length := fun g => by simp
        clear hrv
        go_wp2_with fail
        go_cut [12, 13] from 32 to 41 (fun q1 q2 wx => ∃ (a4 a5 : Option Addr) (c4 c5 : Nat), q1 = .slice a4 rv.length c4 ∧ q2 = .slice a5 rv.length c5 ∧ Hid (SlA wx wr.heap.size a4 (rv.map fun x => ((x.1.val : Nat) : Int))) ∧ Hid (SlA wx wr.heap.size a5 (rv.map Prod.snd)) ∧ Hid (Below w3.heap.size w3 wx))
        case first =>
          clear hLm
          have hck3d : w3.drew.cell? ⟨b1, o1 + k, none⟩ = some (.int .i64 (f : Int)) := hck3
          have Hw3 : Hid (b1 < w3.drew.heap.size) := hid (by have := HB3.out.size; show b1 < w3.heap.size; omega)
          have HBl2 : Hid (∀ w', b1 < w'.heap.size → w'.cell? ⟨b1, o1 + k, none⟩ = some (.int .i64 (f : Int)) → Calls Try.prog 97 #[.int .i64 (f : Int)] w' fun e w'' => ∃ a c, e = .returned (.slice a rv.length c) ∧ w''.ownsRow w'.heap.size 2 1 (.slice a rv.length c) rv.length ((rv.map fun x => ((x.1.val : Nat) : Int)).map (Value.int .i64)) ∧ Below w'.heap.size w' w'' ∧ b1 < w''.heap.size ∧ w''.cell? ⟨b1, o1 + k, none⟩ = some (.int .i64 (f : Int))) := hid (fun w' h1 h2 => (HBl.out w').mono fun e w'' ⟨v, he, ho, hb⟩ => by
            obtain ⟨_, a, c, rfl, _⟩ := ownsRow_slI ho
            simp only [List.length_map] at he ho
            exact ⟨a, c, he, ho, hb, Nat.lt_of_lt_of_le h1 hb.size, (hb.cell (p := ⟨b1, o1 + k, none⟩) h1).trans h2⟩)
          have HSg2 : Hid (∀ w', b1 < w'.heap.size → w'.cell? ⟨b1, o1 + k, none⟩ = some (.int .i64 (f : Int)) → Calls Try.prog 58 #[.int .i64 (f : Int)] w' fun e w'' => ∃ a c, e = .returned (.slice a rv.length c) ∧ w''.ownsRow w'.heap.size 2 1 (.slice a rv.length c) rv.length ((rv.map Prod.snd).map (Value.int .i64)) ∧ Below w'.heap.size w' w'' ∧ b1 < w''.heap.size ∧ w''.cell? ⟨b1, o1 + k, none⟩ = some (.int .i64 (f : Int))) := hid (fun w' h1 h2 => (HSg.out w').mono fun e w'' ⟨v, he, ho, hb⟩ => by
            obtain ⟨_, a, c, rfl, _⟩ := ownsRow_slI ho
            simp only [List.length_map] at he ho
            exact ⟨a, c, he, ho, hb, Nat.lt_of_lt_of_le h1 hb.size, (hb.cell (p := ⟨b1, o1 + k, none⟩) h1).trans h2⟩)
          go_region_with (first
            | (go_at_call 97; refine (HBl2.out _ (by first | exact Hw3.out | exact Hw5.out) (by first | exact hck3d | exact hck5)).mono ?_; rintro e w4 ⟨a4, c4, rfl, ho4, hb4, hw4, hck4⟩; have HO4 := hid ho4; have HB4 := hid hb4; have Hw4 := hid hw4; clear ho4 hb4 hw4)
            | (go_at_call 58; refine (HSg2.out _ (by first | exact Hw3.out | exact Hw4.out) (by first | exact hck3d | exact hck4)).mono ?_; rintro e w5 ⟨a5, c5, rfl, ho5, hb5, hw5, hck5⟩; have HO5 := hid ho5; have HB5 := hid hb5; have Hw5 := hid hw5; clear ho5 hb5 hw5))
          all_goals
            have hTd : wr.heap.size < w3.drew.heap.size := hT3
            have hd3 : Below w3.heap.size w3 w3.drew := below_drewN (Below.refl _ w3) 1
            go_wp2_with fail
            go_meet
            case rel => first
              | exact ⟨a4, a5, c4, c5, rfl, rfl, hid ((slA_of HO4.out hTd).later HB5.out), hid (slA_of HO5.out (Nat.lt_of_lt_of_le hTd HB4.out.size)), hid (hd3.trans (HB4.out.trans (HB5.out.mono HB4.out.size)))⟩
              | exact ⟨a4, a5, c4, c5, rfl, rfl, hid (slA_of HO4.out (Nat.lt_of_lt_of_le hTd HB5.out.size)), hid ((slA_of HO5.out hTd).later HB4.out), hid (hd3.trans (HB5.out.trans (HB4.out.mono HB5.out.size)))⟩
        case rest =>
          obtain ⟨a4, a5, c4, c5, rfl, rfl, HP4, HP5, HB5⟩ := hcut
          obtain ⟨w5, rfl⟩ : ∃ w5 : World, w5 = wc := ⟨_, rfl⟩
          have HT5 : Hid (wr.heap.size < w5.heap.size) := hid (Nat.lt_of_lt_of_le hT3 HB5.out.size)
          have HO5 := hid (ownsRow_below Hown3.out HB5.out (fun g hg => (Hown3.out.lt g hg).2))
          have HBT : Hid (Below wr.heap.size wr w5) := hid (HB3.out.trans (HB5.out.mono HB3.out.size))
          have HH : Hid (Holds encI w5 wr.heap.size 0 (bndRow (ofDim fs (d - 1)) p (rv.take 0)).toArray) := hid (by
            obtain ⟨cur, hh, ht, _⟩ := owned_block HO5.out
            rw [List.take_zero, bndRow_nil _ HP.out]
            exact holds_of_blockI hh (by simpa using ht))
          clear HBl HSg Hown3 hck3 hT3
          go_wp2_with fail
          obtain ⟨wo, rfl⟩ : ∃ wo : World, wo = wr := ⟨_, rfl⟩
          go_loopw [14] (fun s14 wx => ∃ (j m : Nat), s14 = .int .i64 j ∧ j ≤ rv.length ∧ Aside (wx = putRow encI (Sort.ahead w5 m) wo.heap.size 0 (bndRow (ofDim fs (d - 1)) p (rv.take j)).toArray)) (fun s14 _ => rv.length - (intOf s14).toNat)
          case atStart => exact ⟨0, 0, rfl, Nat.zero_le _, (Sort.putRow_self encI w5 _ _ _ HH.out).symm⟩
          case round =>
            obtain ⟨j, m, rfl, hj, A⟩ := hrel
            have HBx : Hid (Below wo.heap.size wo wr) := hid (by rw [A.out]; exact below_row m _ HBT.out)
            by_cases hltj : j < rv.length
            · obtain ⟨x, hx⟩ : ∃ x, x = rv[j] := ⟨_, rfl⟩
              have hxm : x ∈ signedF f := by have := List.getElem_mem hltj; rw [← hx, Hrv.out] at this; simpa using this
              have hss := (signed_sub ⟨f, hf⟩ x hxm).2.2.2
              have hmS := Hsd.out x hxm
              have htk := take_snocL hltj
              rw [← hx] at htk
              have hnew : ∀ y ∈ rv.take j, y.1 ≠ x.1 := nodup_snoc (l := rv) (by rw [Hrv.out, List.map_reverse]; exact List.pairwise_reverse.2 ((signed_nodup ⟨f, hf⟩).imp (fun h e => h e.symm))) (by rw [← htk]; exact List.take_prefix _ _)
              have hst := bndRow_snoc (p := p) (S := ofDim fs (d - 1)) (L := rv.take j) (x := x) (ofDim_asc HC.out.asc _) (fun s hs => by have := HC.out.range63 s (ofDim_mem.1 hs).1; omega) hnew hmS
              rw [← htk] at hst
              have hil := List.idxOf_lt_length_of_mem hmS
              have hq := PI_of a2 c2 (ofDim fs (d - 1)) ((x.1.val : Nat) : Int) wr.drew wo.heap.size (HS.out.below (below_drewN HBx.out 1)) (by have := HBx.out.size; simp; omega) (by omega) hmS
              obtain ⟨q, hqq⟩ : ∃ q, q = (ofDim fs (d - 1)).idxOf ((x.1.val : Nat) : Int) := ⟨_, rfl⟩
              rw [← hqq] at hst hil hq
              have hHk : Holds encI wr wo.heap.size 0 (bndRow (ofDim fs (d - 1)) p (rv.take j)).toArray := by rw [A.out]; exact Sort.holds_putRow encI _ _ _ _ _ (Sort.holds_ahead encI _ m _ _ _ HH.out) (by simp [bndRow_len])
              obtain ⟨cst, fst_⟩ := holds_at hHk (i := q) (by rw [bndRow_len]; exact hil)
              rw [Nat.zero_add] at cst fst_
              have hoth : ∀ b o, wo.heap.size < b → wr.cell? ⟨b, o, none⟩ = w5.cell? ⟨b, o, none⟩ := fun b o hb => by
                rw [A.out, Sort.cell?_putRow_other _ _ _ _ _ _ (.inl (by simp only; omega))]
                rfl
              obtain ⟨b4, o4, hb4, _, rfl, hc4⟩ : ∃ b off, wo.heap.size < b ∧ b < w5.heap.size ∧ a4 = some ⟨b, off, none⟩ ∧ ∀ i, i < (rv.map fun x => ((x.1.val : Nat) : Int)).length → w5.cell? ⟨b, off + i, none⟩ = some (.int .i64 ((rv.map fun x => ((x.1.val : Nat) : Int))[i]?.getD 0)) := by
                rcases HP4.out with h | h
                · have := congrArg List.length h; simp at this; rw [this] at hltj; simp at hltj
                · exact h
              obtain ⟨b5, o5, hb5, _, rfl, hc5⟩ : ∃ b off, wo.heap.size < b ∧ b < w5.heap.size ∧ a5 = some ⟨b, off, none⟩ ∧ ∀ i, i < (rv.map Prod.snd).length → w5.cell? ⟨b, off + i, none⟩ = some (.int .i64 ((rv.map Prod.snd)[i]?.getD 0)) := by
                rcases HP5.out with h | h
                · have := congrArg List.length h; simp at this; rw [this] at hltj; simp at hltj
                · exact h
              have cpt := (hoth b4 (o4 + j) hb4).trans (hc4 j (by simpa using hltj))
              have csg := (hoth b5 (o5 + j) hb5).trans (hc5 j (by simpa using hltj))
              rw [List.getElem?_map, List.getElem?_eq_getElem hltj, ← hx] at cpt csg
              simp only [Option.map_some, Option.getD_some] at cpt csg
              have hp := HP.out
              obtain ⟨v, hv⟩ : ∃ v, v = (x.2 + p) % p := ⟨_, rfl⟩
              rw [← hv] at hst
              have hsum : IntKind.i64.wrap (x.2 + p) = x.2 + p := IntWalk.i64_in _ (by omega)
              have hrem : (x.2 + p).tmod p = v := by rw [hv, Int.tmod_eq_emod_of_nonneg (by omega)]
              have hpn : ¬ (p = 0) := by omega
              have hj0 : (0 : Int) ≤ (j : Int) := by omega
              have hj1 : (j : Int) < (rv.length : Int) := by omega
              have hq0 : (0 : Int) ≤ (q : Int) := by omega
              have hq1 : (q : Int) < ((ofDim fs (d - 1)).length : Int) := by omega
              have Hst := hid hst
              have HQ := hid hq
              have Hil := hid hil
              have HPp := hid hp
              clear hxm hmS htk hnew hst hq hqq hHk hoth hc4 hc5 hv hx hp hil
              go_wp2_with fail
              refine wp_tail 16 (by kernel_rfl) (by kernel_rfl) ?_
              simp only [List.take_succ_cons, List.take_zero, List.drop_succ_cons, List.drop_zero]
              iterate 6 still_step
              still_call HQ.out
              iterate 9 still_step
              refine wpStill_nil ?_
              go_wp2
              go_roundw
              case rel =>
                refine ⟨j + 1, m + 1, by go_num, by omega, ?_⟩
                have e := putRow_at w5 (m + 1) wo.heap.size 0 (bndRow (ofDim fs (d - 1)) p (rv.take j)) q v (by rw [bndRow_len]; exact Hil.out)
                rw [Nat.zero_add] at e
                rw [Hst.out, ← e, ← Sort.ahead_drew, ← Sort.putRow_drew, ← A.out]
                rfl
              case measure => simp [intOf]; omega
            · obtain rfl : j = rv.length := by omega
              rw [List.take_of_length_le (Nat.le_refl _), Hrev.out] at A
              have HX6 := hid (HX.out.later HBx.out)
              have HR6 : Hid (wr.ownsRow w.heap.size 2 1 (slT (ofDim fs (d - 1)).length wo.heap.size) (ofDim fs (d - 1)).length ((bndRow (ofDim fs (d - 1)) p (signedF f)).map (Value.int .i64))) := hid (by rw [A.out]; exact row_put m HO5.out (bndRow_len _ _ _))
              have hTs : wo.heap.size ∉ Ts := fun hm => by have := HX.out.main.lt _ hm; omega
              have hlT : (Ts.map (slT (ofDim fs (d - 1)).length)).length ≤ 1048576 := by have := HX.out.main.len; simp at this ⊢; omega
              have Hs6 := hid HX6.out.size
              have Hl7 : Hid ((Ts.map (slT (ofDim fs (d - 1)).length) ++ [slT (ofDim fs (d - 1)).length wo.heap.size]).length = k + 1) := hid (by have := HX.out.main.len; simp at this ⊢; omega)
              have HTs := hid hTs
              clear hTs
              go_wp2_with (at_builtin; refine append_row rfl rfl HX6.out.main.out Hs6.out hlT rfl rfl ?_; intro v' w7 hown7 hgrow7 hB7; have HO7 := hid hown7; have hown8 : w7.ownsRow w.heap.size 22 1 v' (k + 1) (Ts.map (slT (ofDim fs (d - 1)).length) ++ [slT (ofDim fs (d - 1)).length wo.heap.size]) := (by rw [← Hl7.out]; exact hown7); clear hown7; obtain ⟨R7, cp7, rfl⟩ := ownsRow_succ hown8)
              go_roundw
              case rel => exact ⟨k + 1, R7, cp7, Ts ++ [wo.heap.size], rfl, by go_num, by omega, by rw [Htk.out]; exact hid (HX6.out.snoc (bndRow_len _ _ _) HTs.out HR6.out HO7.out hgrow7 hB7)⟩
              case measure => simp [intOf]; omega
      · obtain rfl : k = (ofDim fs d).length := by omega
        rw [List.take_of_length_le (Nat.le_refl _)] at HX
        have HM : Hid (MatW wr w.heap.size R (ofDim fs d).length (ofDim fs (d - 1)).length (Ts.map fun T => (T, 0)) (bndM fs d p)) := hid (by
          have := HX.out.main.mat
          rw [List.length_map] at this
          exact this)
        have HB := hid HX.out.main.below
        go_wp2
        go_ret
        exact ⟨R, _, cp, rfl, HM.out, HB.out⟩

end Go.Proofs.Ythmhdfhjjpfbfaa
