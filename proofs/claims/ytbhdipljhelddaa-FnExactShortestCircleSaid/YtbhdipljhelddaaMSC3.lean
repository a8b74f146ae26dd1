import Derived.Deep.RegionHeld3
import Derived.Deep.CutRange
import Derived.StillTailTactics
import Derived.OrdersIn
import Derived.Test.YtbhdipljhelddaaMSC1
import Derived.Test.YtbhdipljhelddaaMSC2
/-! The dimension of a complex, the model's and the program's. -/
namespace Go.Proofs.Ytbhdipljhelddaa
open Go.RowKit

/-- The greater number, as the model has it. -/
def more (m y : Int) : Int := if m < y then y else m

/-- The dimension of a list of faces. -/
def top (fs : List Int) : Int := fs.foldl (fun m x => more m ((ones x.toNat : Int) - 1)) (-1)

theorem top_snoc (pre : List Int) (x : Int) : top (pre ++ [x]) = more (top pre) ((ones x.toNat : Int) - 1) := by simp [top]

theorem top_from (fs : List Int) : ∀ m : Int, -1 ≤ m → m ≤ 5 → -1 ≤ fs.foldl (fun m x => more m ((ones x.toNat : Int) - 1)) m ∧ fs.foldl (fun m x => more m ((ones x.toNat : Int) - 1)) m ≤ 5 ∧ m ≤ fs.foldl (fun m x => more m ((ones x.toNat : Int) - 1)) m ∧ ∀ x ∈ fs, (ones x.toNat : Int) - 1 ≤ fs.foldl (fun m x => more m ((ones x.toNat : Int) - 1)) m := by
  induction fs with
  | nil => intro m h0 h1; exact ⟨h0, h1, Int.le_refl _, by simp⟩
  | cons x fs ih =>
    intro m h0 h1
    have ho := ones_le x.toNat
    have hm : -1 ≤ more m ((ones x.toNat : Int) - 1) ∧ more m ((ones x.toNat : Int) - 1) ≤ 5 ∧ m ≤ more m ((ones x.toNat : Int) - 1) ∧ (ones x.toNat : Int) - 1 ≤ more m ((ones x.toNat : Int) - 1) := by
      unfold more
      split <;> omega
    obtain ⟨a1, a2, a3, a4⟩ := ih _ hm.1 hm.2.1
    simp only [List.foldl_cons]
    refine ⟨a1, a2, by omega, ?_⟩
    intro y hy
    rcases List.mem_cons.1 hy with rfl | hy
    · omega
    · exact a4 y hy

theorem top_lo (fs : List Int) : -1 ≤ top fs := (top_from fs (-1) (by omega) (by omega)).1
theorem top_hi (fs : List Int) : top fs ≤ 5 := (top_from fs (-1) (by omega) (by omega)).2.1
theorem top_ge (fs : List Int) {x : Int} (hx : x ∈ fs) : (ones x.toNat : Int) - 1 ≤ top fs := (top_from fs (-1) (by omega) (by omega)).2.2.2 x hx

theorem cell_alloc0 {W : World} {p : Addr} {v : Value} (h : W.cell? p = some v) (o : Obj) : (W.alloc o).cell? p = some v :=
  (World.cell?_alloc_some W p o (show (W.cell? p).isSome = true by rw [h]; rfl)).trans h

set_option maxHeartbeats 1000000 in
theorem dimS_any (V : Int) (a0 : Option Addr) (cap : Nat) (fs : List Int) (w : World) (hx : SlI w w.heap.size a0 fs) (hl : fs.length ≤ 1048576) (hf : ∀ x ∈ fs, 1 ≤ x ∧ x ≤ 63) :
    Calls Try.prog 98 #[.agg #[.int .i64 V, .slice a0 fs.length cap]] w fun e w' => e = .returned (.int .i64 (top fs)) ∧ Below w.heap.size w w' := by
  have hB0 : Below w.heap.size w (w.alloc (.cells #[.int .i64 V, .slice a0 fs.length cap] 28)) := (Below.refl _ w).alloc (Nat.le_refl _) _
  have Hx0 := hid hx
  have Hf := hid hf
  clear hx hf
  go_enter Try.func98, Try.ntmps98
  go_wp2
  go_loopw [3, 4] (fun m i wr => ∃ k : Nat, k ≤ fs.length ∧ i = .int .i64 k ∧ m = .int .i64 (top (fs.take k)) ∧ wr = w.alloc (.cells #[.int .i64 V, .slice a0 fs.length cap] 28)) (fun _ i _ => fs.length - (intOf i).toNat)
  case atStart => exact ⟨0, Nat.zero_le _, rfl, by simp [top], rfl⟩
  case round =>
    obtain ⟨k, hk, rfl, rfl, rfl⟩ := hrel
    by_cases hlt : k < fs.length
    · obtain ⟨b, off, hb, rfl, hc⟩ : ∃ b off, b < w.heap.size ∧ a0 = some ⟨b, off, none⟩ ∧ ∀ i, i < fs.length → w.cell? ⟨b, off + i, none⟩ = some (.int .i64 (fs[i]?.getD 0)) := by
        rcases Hx0.out with rfl | h
        · simp at hlt
        · exact h
      obtain ⟨x, hx⟩ : ∃ x : Nat, (x : Int) = fs[k]?.getD 0 := ⟨(fs[k]?.getD 0).toNat, by have := Hf.out _ (getD_mem hlt); omega⟩
      have hx64 : x < 64 := by have := Hf.out _ (getD_mem hlt); omega
      have hck : ∀ o, (w.alloc o).cell? ⟨b, off + k, none⟩ = some (.int .i64 (x : Int)) := cell_alloc0 (by rw [hx]; exact hc k hlt)
      have hi0 : (0 : Int) ≤ (k : Int) := by omega
      have hi1 : (k : Int) < (fs.length : Int) := by omega
      have Ht : Hid (top (fs.take (k + 1)) = more (top (fs.take k)) ((ones x : Int) - 1)) := hid (by rw [take_snoc hlt, ← hx, top_snoc]; simp)
      have ht0 := top_lo (fs.take k)
      have ht1 := top_hi (fs.take k)
      obtain ⟨t, htt⟩ : ∃ t, t = top (fs.take k) := ⟨_, rfl⟩
      rw [← htt] at Ht ht0 ht1 ⊢
      have ho := ones_le x
      clear hx hc htt
      by_cases hm : t < (ones x : Int) - 1
      · have hmm : more t ((ones x : Int) - 1) = (ones x : Int) - 1 := by unfold more; rw [if_pos hm]
        rw [hmm] at Ht
        clear hmm
        go_wp2_with (go_at_call 95; refine (ones_any x _ hx64).mono ?_; rintro e w' ⟨rfl, rfl⟩)
        go_roundw
        case rel => exact ⟨k + 1, by omega, by go_num, by first | (rw [Ht.out]; done) | (rw [Ht.out]; congr 1; omega), trivial⟩
        case measure => simp [intOf]; omega
      · have hmm : more t ((ones x : Int) - 1) = t := by unfold more; rw [if_neg hm]
        rw [hmm] at Ht
        have hm' : (ones x : Int) - 1 ≤ t := by omega
        clear hmm
        go_wp2_with (go_at_call 95; refine (ones_any x _ hx64).mono ?_; rintro e w' ⟨rfl, rfl⟩)
        go_roundw
        case rel => exact ⟨k + 1, by omega, by go_num, by first | (rw [Ht.out]; done) | (rw [Ht.out]; congr 1; omega), trivial⟩
        case measure => simp [intOf]; omega
    · go_wp2
      go_ret
      obtain rfl : k = fs.length := by omega
      exact ⟨ret_int (by rw [List.take_of_length_le (Nat.le_refl _)]), hB0⟩

set_option maxHeartbeats 1000000 in
theorem dimI_any (V : Int) (a0 : Option Addr) (cap : Nat) (fs : List Int) (w : World) (hx : SlI w w.heap.size a0 fs) (hl : fs.length ≤ 1048576) (hf : ∀ x ∈ fs, 1 ≤ x ∧ x ≤ 63) :
    Calls Try.prog 148 #[.agg #[.int .i64 V, .slice a0 fs.length cap]] w fun e w' => e = .returned (.int .i64 (top fs)) ∧ Below w.heap.size w w' := by
  have hB0 : Below w.heap.size w (w.alloc (.cells #[.int .i64 V, .slice a0 fs.length cap] 28)) := (Below.refl _ w).alloc (Nat.le_refl _) _
  have Hx0 := hid hx
  have Hf := hid hf
  clear hx hf
  go_enter Try.func148, Try.ntmps148
  go_wp2
  go_loopw [3, 9] (fun m i wr => ∃ k : Nat, k ≤ fs.length ∧ i = .int .i64 k ∧ m = .int .i64 (top (fs.take k)) ∧ wr = w.alloc (.cells #[.int .i64 V, .slice a0 fs.length cap] 28)) (fun _ i _ => fs.length - (intOf i).toNat)
  case atStart => exact ⟨0, Nat.zero_le _, rfl, by simp [top], rfl⟩
  case round =>
    obtain ⟨k, hk, rfl, rfl, rfl⟩ := hrel
    by_cases hlt : k < fs.length
    · obtain ⟨b, off, hb, rfl, hc⟩ : ∃ b off, b < w.heap.size ∧ a0 = some ⟨b, off, none⟩ ∧ ∀ i, i < fs.length → w.cell? ⟨b, off + i, none⟩ = some (.int .i64 (fs[i]?.getD 0)) := by
        rcases Hx0.out with rfl | h
        · simp at hlt
        · exact h
      obtain ⟨x, hx⟩ : ∃ x : Nat, (x : Int) = fs[k]?.getD 0 := ⟨(fs[k]?.getD 0).toNat, by have := Hf.out _ (getD_mem hlt); omega⟩
      have hx64 : x < 64 := by have := Hf.out _ (getD_mem hlt); omega
      have hck : ∀ o, (w.alloc o).cell? ⟨b, off + k, none⟩ = some (.int .i64 (x : Int)) := cell_alloc0 (by rw [hx]; exact hc k hlt)
      have hi0 : (0 : Int) ≤ (k : Int) := by omega
      have hi1 : (k : Int) < (fs.length : Int) := by omega
      have Ht : Hid (top (fs.take (k + 1)) = more (top (fs.take k)) ((ones x : Int) - 1)) := hid (by rw [take_snoc hlt, ← hx, top_snoc]; simp)
      have ht0 := top_lo (fs.take k)
      have ht1 := top_hi (fs.take k)
      obtain ⟨t, htt⟩ : ∃ t, t = top (fs.take k) := ⟨_, rfl⟩
      rw [← htt] at Ht ht0 ht1 ⊢
      have ho := ones_le x
      clear hx hc htt
      by_cases hm : t < (ones x : Int) - 1
      · have hmm : more t ((ones x : Int) - 1) = (ones x : Int) - 1 := by unfold more; rw [if_pos hm]
        rw [hmm] at Ht
        clear hmm
        go_wp2_with (go_at_call 107; refine (dim_any x _ hx64).mono ?_; rintro e w' ⟨rfl, rfl⟩)
        go_roundw
        case rel => exact ⟨k + 1, by omega, by go_num, by first | (rw [Ht.out]; done) | (rw [Ht.out]; congr 1; omega), trivial⟩
        case measure => simp [intOf]; omega
      · have hmm : more t ((ones x : Int) - 1) = t := by unfold more; rw [if_neg hm]
        rw [hmm] at Ht
        have hm' : (ones x : Int) - 1 ≤ t := by omega
        clear hmm
        go_wp2_with (go_at_call 107; refine (dim_any x _ hx64).mono ?_; rintro e w' ⟨rfl, rfl⟩)
        go_roundw
        case rel => exact ⟨k + 1, by omega, by go_num, by first | (rw [Ht.out]; done) | (rw [Ht.out]; congr 1; omega), trivial⟩
        case measure => simp [intOf]; omega
    · go_wp2
      go_ret
      obtain rfl : k = fs.length := by omega
      exact ⟨ret_int (by rw [List.take_of_length_le (Nat.le_refl _)]), hB0⟩

end Go.Proofs.Ytbhdipljhelddaa

/-! The model's l03Rows. -/
namespace Go.Proofs.Ytbhdipljhelddaa
open Go.RowKit
open Go.Sort hiding Below

/-- 'out = append(out, row)'. -/
theorem append_row {w : World} {ops : Array Oper} {rest : List Oper} {o : Oper} {a : Act} {Q : Exit → Act → World → Prop} (hgd : o.guard = none) {s y : Operand}
    (ho : o.op = .call { callee := .builtin .append, args := #[s, y], argTypes := #[56, 56] })
    {base : Nat} {v : Value} {xs : List Value} {T n : Nat} (hown : w.ownsRow base 22 1 v xs.length xs) (hbase : base ≤ w.heap.size) (hl : xs.length ≤ 1048576)
    (hs : a.eval s = v) (hy : a.eval y = .slice (some ⟨w.heap.size, 0, none⟩) 1 1)
    (hK : ∀ v' w', w'.ownsRow base 22 1 v' (xs ++ [Value.slice (some ⟨T, 0, none⟩) n n]).length (xs ++ [Value.slice (some ⟨T, 0, none⟩) n n]) → w.grownBy w' v.ownBlock → Below base w w' → wpList Try.prog ops Q rest (a.put o.dst v') w') :
    wpList Try.prog ops Q (o :: rest) a (w.alloc (.cells #[.slice (some ⟨T, 0, none⟩) n n] 22)) := by
  obtain ⟨i0, hi, hz0, hz1, hz2⟩ := info_parts info_rows
  refine wpList_append_own _ hgd s y 56 ho base 22 i0 (.slice none 0 0) 1 24 Try.underlying56 hi hz0 hz1 hz2 rfl (by decide) v _ _ hs (hown.alloc _) ⟨w.heap.size, 0, none⟩ 1 1 [.slice (some ⟨T, 0, none⟩) n n] hy rfl (cell_one_new _ _ _) (by simp [Value.oneCell']) (by unfold maxLen; omega) (by omega) (by simp; omega) ?_
  intro v' w1 hown1 hgrow1 _
  have hg : w.grownBy w1 v.ownBlock := (World.grownBy_alloc w _ _).trans hgrow1
  refine hK v' w1 (by simpa using hown1) hg ((Below.refl base w).grown hg hbase (fun k hk => (hown.lt k hk).1))

/-- The model's rows, the first k of them laid; row i in block Ts i. -/
def slT (wd : Nat) (T : Nat) : Value := .slice (some ⟨T, 0, none⟩) wd wd
structure RowsW (W0 W : World) (base wd : Nat) (Ts : List Nat) (rows : List (List Int)) (v : Value) : Prop where
  below : Below base W0 W
  len : Ts.length = rows.length
  out : W.ownsRow base 22 1 v (Ts.map (slT wd)).length (Ts.map (slT wd))
  row : ∀ i, i < Ts.length → (rows[i]?.getD []).length = wd ∧ W.ownsRow base 2 1 (slT wd (Ts[i]?.getD 0)) wd ((rows[i]?.getD []).map (Value.int .i64))
  nodup : Ts.Nodup
  lt : ∀ T ∈ Ts, T < W.heap.size

/-- Whatever keeps all that lay. -/
theorem RowsW.later {W0 W W' : World} {base wd : Nat} {Ts : List Nat} {rows : List (List Int)} {v : Value} (h : RowsW W0 W base wd Ts rows v) (hb : Below W.heap.size W W') (hs : base ≤ W.heap.size) : RowsW W0 W' base wd Ts rows v where
  below := h.below.trans (hb.mono hs)
  len := h.len
  out := ownsRow_below h.out hb (fun g hg => (h.out.lt g hg).2)
  row := fun i hi => ⟨(h.row i hi).1, ownsRow_below (h.row i hi).2 hb (fun g hg => ((h.row i hi).2.lt g hg).2)⟩
  nodup := h.nodup
  lt := fun T hT => Nat.lt_of_lt_of_le (h.lt T hT) hb.size

/-- A further row: laid in block T beyond all that lay. -/
theorem RowsW.snoc {W0 W W' : World} {base wd T : Nat} {Ts : List Nat} {rows : List (List Int)} {v v' : Value} {row : List Int} (h : RowsW W0 W base wd Ts rows v) (hl : row.length = wd) (hT : T ∉ Ts)
    (hrow : W.ownsRow base 2 1 (slT wd T) wd (row.map (Value.int .i64)))
    (hown : W'.ownsRow base 22 1 v' (Ts.map (slT wd) ++ [slT wd T]).length (Ts.map (slT wd) ++ [slT wd T])) (hg : W.grownBy W' v.ownBlock) (hb : Below base W W') : RowsW W0 W' base wd (Ts ++ [T]) (rows ++ [row]) v' := by
  have hkeep : ∀ {T' : Nat} {r : List Int}, W.ownsRow base 2 1 (slT wd T') wd (r.map (Value.int .i64)) → W'.ownsRow base 2 1 (slT wd T') wd (r.map (Value.int .i64)) := by
    intro T' r hr
    refine hr.kept hg (.inr (fun e => ?_))
    obtain ⟨cur, hh, _, _⟩ := owned_block hr
    exact row_ne h.out hh (by decide) e
  refine ⟨h.below.trans hb, by simp [h.len], by simpa using hown, ?_, ?_, ?_⟩
  · intro i hi
    by_cases hlt : i < Ts.length
    · rw [List.getElem?_append_left (by rw [← h.len]; exact hlt), List.getElem?_append_left hlt]
      exact ⟨(h.row i hlt).1, hkeep (h.row i hlt).2⟩
    · obtain rfl : i = Ts.length := by simp at hi; omega
      rw [List.getElem?_append_right (Nat.le_refl _), List.getElem?_append_right (by rw [h.len]; exact Nat.le_refl _), h.len]
      simp only [Nat.sub_self, List.getElem?_cons_zero, Option.getD_some]
      exact ⟨hl, hkeep hrow⟩
  · rw [List.nodup_append]
    exact ⟨h.nodup, by simp, fun a ha b hb e => by simp at hb; subst hb; subst e; exact hT ha⟩
  · intro U hU
    rcases List.mem_append.1 hU with h1 | h1
    · exact Nat.lt_of_lt_of_le (h.lt U h1) hb.size
    · simp at h1
      subst h1
      have := (hrow.lt U rfl).2
      exact Nat.lt_of_lt_of_le this hb.size

/-- The rows as a matrix. -/
theorem RowsW.mat {W0 W : World} {base wd : Nat} {Ts : List Nat} {rows : List (List Int)} {R m cap : Nat} (h : RowsW W0 W base wd Ts rows (.slice (some ⟨R, 0, none⟩) m cap)) : MatW W base R rows.length wd (Ts.map fun T => (T, 0)) rows := by
  obtain ⟨cur, hR, ht, hb⟩ := owned_block h.out
  have hH := holdsV_of_block hR (ss := Ts.map (slT wd)) ht
  have ha : ∀ i, i < Ts.length → adr (Ts.map fun T => (T, 0)) i = (Ts[i]?.getD 0, 0) := fun i hi => by simp [adr, hi]
  have hTm : ∀ i, i < Ts.length → Ts[i]?.getD 0 ∈ Ts := fun i hi => by rw [List.getElem?_eq_getElem hi]; simp
  have hle := h.len
  refine ⟨rfl, by simp [h.len], fun i hi => (h.row i (by omega)).1, ?_, ?_, ?_, ?_, ?_, ⟨hb, lt_of_get hR⟩⟩
  · intro i hi
    rw [ha i (by omega)]
    have h2 := holdsV_at hH (i := i) (by simp; omega)
    have : (Ts.map (slT wd))[i]?.getD undef = slT wd (Ts[i]?.getD 0) := by simp [show i < Ts.length by omega]
    rw [this] at h2
    exact ⟨⟨_, h2.1⟩, h2.2⟩
  · intro i hi
    rw [ha i (by omega)]
    obtain ⟨c2, hT, ht2, _⟩ := owned_block (h.row i (by omega)).2
    have hl := (h.row i (by omega)).1
    exact holds_of_blockI hT (by rw [hl]; exact ht2)
  · intro i k hi hk hik
    rw [ha i (by omega), ha k (by omega)]
    refine .inl (fun e => hik ?_)
    simp only at e
    rw [List.getElem?_eq_getElem (by omega : i < Ts.length), List.getElem?_eq_getElem (by omega : k < Ts.length)] at e
    simp only [Option.getD_some] at e
    exact (List.getElem_inj h.nodup).1 e
  · intro i hi
    rw [ha i (by omega)]
    intro e
    simp only at e
    obtain ⟨c2, hT, _, _⟩ := owned_block (h.row i (by omega)).2
    rw [e, hR] at hT
    injection hT with hT
    injection hT with _ ht _
    exact absurd ht (by decide)
  · intro i hi
    rw [ha i (by omega)]
    have := (h.row i (by omega)).2.lt (Ts[i]?.getD 0) rfl
    exact this

/-- .. with the lists of faces and sides. -/
structure RowsX (W0 W : World) (base wd : Nat) (Ts : List Nat) (rows : List (List Int)) (v q1 q2 : Value) (F S : List Int) : Prop where
  main : RowsW W0 W base wd Ts rows v
  oF : W.ownsRow base 2 1 q1 F.length (F.map (Value.int .i64))
  oS : W.ownsRow base 2 1 q2 S.length (S.map (Value.int .i64))
  size : base ≤ W.heap.size

theorem RowsX.later {W0 W W' : World} {base wd : Nat} {Ts : List Nat} {rows : List (List Int)} {v q1 q2 : Value} {F S : List Int} (h : RowsX W0 W base wd Ts rows v q1 q2 F S) (hb : Below W.heap.size W W') : RowsX W0 W' base wd Ts rows v q1 q2 F S :=
  ⟨h.main.later hb h.size, ownsRow_below h.oF hb (fun g hg => (h.oF.lt g hg).2), ownsRow_below h.oS hb (fun g hg => (h.oS.lt g hg).2), Nat.le_trans h.size hb.size⟩

theorem RowsX.snoc {W0 W W' : World} {base wd T : Nat} {Ts : List Nat} {rows : List (List Int)} {v v' q1 q2 : Value} {F S row : List Int} (h : RowsX W0 W base wd Ts rows v q1 q2 F S) (hl : row.length = wd) (hT : T ∉ Ts)
    (hrow : W.ownsRow base 2 1 (slT wd T) wd (row.map (Value.int .i64)))
    (hown : W'.ownsRow base 22 1 v' (Ts.map (slT wd) ++ [slT wd T]).length (Ts.map (slT wd) ++ [slT wd T])) (hg : W.grownBy W' v.ownBlock) (hb : Below base W W') : RowsX W0 W' base wd (Ts ++ [T]) (rows ++ [row]) v' q1 q2 F S := by
  have hkeep : ∀ {q : Value} {r : List Int}, W.ownsRow base 2 1 q r.length (r.map (Value.int .i64)) → W'.ownsRow base 2 1 q r.length (r.map (Value.int .i64)) := by
    intro q r hr
    refine hr.kept hg ?_
    cases hq : q.ownBlock with
    | none => exact .inl rfl
    | some b =>
      refine .inr (fun e => ?_)
      rcases hr.2 with ⟨h0, _⟩ | ⟨g, cap, cur, hv, _, hh, _⟩
      · rw [h0] at hq; simp [Value.ownBlock] at hq
      · rw [hv] at hq
        simp [Value.ownBlock] at hq
        subst hq
        exact row_ne h.main.out hh (by decide) e
  exact ⟨h.main.snoc hl hT hrow hown hg hb, hkeep h.oF, hkeep h.oS, Nat.le_trans h.size hb.size⟩

/-- At address a, in a block beyond T, lie the integers xs. -/
def SlA (w : World) (T : Nat) (a : Option Addr) (xs : List Int) : Prop :=
  xs = [] ∨ ∃ b off, T < b ∧ b < w.heap.size ∧ a = some ⟨b, off, none⟩ ∧ ∀ i, i < xs.length → w.cell? ⟨b, off + i, none⟩ = some (.int .i64 (xs[i]?.getD 0))
theorem slA_of {w : World} {base e T : Nat} {a : Option Addr} {n m cap : Nat} {xs : List Int} (h : w.ownsRow base e 1 (.slice a m cap) n (xs.map (Value.int .i64))) (hT : T < base) : SlA w T a xs := by
  have hs := owned_slI h
  rcases hs with rfl | ⟨b, off, hb, rfl, hc⟩
  · exact .inl rfl
  · rcases h.2 with ⟨h0, _⟩ | ⟨g, cap', cur, hv, hg, _⟩
    · cases h0
    · injection hv with e1 _ _
      injection e1 with e1
      injection e1 with e1 e2 _
      exact .inr ⟨b, off, by omega, hb, rfl, hc⟩
theorem SlA.later {w w' : World} {T : Nat} {a : Option Addr} {xs : List Int} (h : SlA w T a xs) (hb : Below w.heap.size w w') : SlA w' T a xs := by
  rcases h with rfl | ⟨b, off, h1, h2, rfl, hc⟩
  · exact .inl rfl
  · exact .inr ⟨b, off, h1, Nat.lt_of_lt_of_le h2 hb.size, rfl, fun i hi => (hb.cell (p := ⟨b, off + i, none⟩) h2).trans (hc i hi)⟩

theorem grow_none (w : World) : Sort.grow w #[] = w := by cases w; simp [Sort.grow]
theorem row_put {w5 : World} {base T wd : Nat} (m : Nat) {row : List Int} (h : w5.ownsRow base 2 1 (slT wd T) wd ((List.replicate wd (0 : Int)).map (Value.int .i64))) (hl : row.length = wd) :
    (putRow encI (Sort.ahead w5 m) T 0 row.toArray).ownsRow base 2 1 (slT wd T) wd (row.map (Value.int .i64)) := by
  rcases h.2 with ⟨h0, _⟩ | ⟨g, cap, cur, hv, hg, hh, h1, h2, h3, _⟩
  · cases h0
  · cases hv
    have := ownsRow_sortedI (n := m) (os := #[]) (ss := List.replicate wd (0 : Int)) (ts := row) (by simp [hl]) hg hh (by simp) h2 h3
    rw [grow_none, List.length_replicate] at this
    exact this
theorem below_row {w5 w0 : World} {T : Nat} (m : Nat) (row : List Int) (h : Below T w0 w5) : Below T w0 (putRow encI (Sort.ahead w5 m) T 0 row.toArray) := by
  refine ⟨h.os, h.tape, h.output, by simpa using h.size, fun k hk => ?_⟩
  have : T ≠ k := by omega
  rw [← h.block k hk]
  simp [putRow, mapBlock, Sort.ahead, Array.getElem?_modify, this]
theorem wp_tail {P : Program} {id : Nat} {Q : Exit → Act → World → Prop} {a : Act} {w : World} {l : List Oper} (n : Nat) (hm : P.follows .mixedOrders = true) (hB : Region.lexTailB .any l.toArray n = true)
    (h : wpStill P l.toArray w.drew (fun a' => wpList P l.toArray Q (l.drop n) a' w.drew) (l.take n) a) : (Code.region id l.toArray true).wp P Q a w := wp_region_still_tail n hm hB h
theorem PI_of (a : Option Addr) (cap : Nat) (xs : List Int) (x : Int) (w : World) (B : Nat) (hx : SlI w B a xs) (hB : B ≤ w.heap.size) (hl : xs.length ≤ 1048576) (hm : x ∈ xs) :
    Calls Try.prog 97 #[.slice a xs.length cap, .int .i64 x] w fun e w' => e = .returned (.int .i64 (xs.idxOf x : Int)) ∧ w' = w :=
  (place_at a cap xs x w (hx.mono hB) hl hm).mono fun _ _ ⟨he, hw⟩ => ⟨he, hw.symm⟩
theorem take_snocL {α : Type} {l : List α} {j : Nat} (hj : j < l.length) : l.take (j + 1) = l.take j ++ [l[j]] := by rw [List.take_succ_eq_append_getElem hj]

theorem rowsX_start {w W : World} {wd bo : Nat} {q1 q2 : Value} {F S : List Int} (hb : Below w.heap.size w W) (hh : W.heap[bo]? = some (.cells #[] 22 (0, 0))) (hbo : w.heap.size ≤ bo)
    (oF : W.ownsRow w.heap.size 2 1 q1 F.length (F.map (Value.int .i64))) (oS : W.ownsRow w.heap.size 2 1 q2 S.length (S.map (Value.int .i64))) : RowsX w W w.heap.size wd [] [] (.slice (some ⟨bo, 0, none⟩) 0 0) q1 q2 F S :=
  ⟨⟨hb, rfl, ⟨rfl, .inr ⟨bo, 0, #[], rfl, hbo, hh, Nat.le_refl _, by simp [maxLen], rfl, rfl⟩⟩, fun i hi => by simp at hi, List.nodup_nil, fun T hT => by simp at hT⟩, oF, oS, hb.size⟩

set_option maxRecDepth 1000000 in
set_option maxHeartbeats 4000000 in
theorem rowsS_own (V : Int) (a0 : Option Addr) (cap : Nat) (fs : List Int) (d p : Int) (w : World) (hx : SlI w w.heap.size a0 fs) (hl : fs.length ≤ 1048576) (hC : IsC V fs) (hp : p = 2 ∨ p = 3) (hd0 : 1 ≤ d) (hd1 : d ≤ 5) :
    Calls Try.prog 100 #[.agg #[.int .i64 V, .slice a0 fs.length cap], .int .i64 d, .int .i64 p] w fun e w' => ∃ R Ts cp, e = .returned (.slice (some ⟨R, 0, none⟩) (ofDim fs d).length cp) ∧ RowsW w w' w.heap.size (ofDim fs (d - 1)).length Ts (bndM fs d p) (.slice (some ⟨R, 0, none⟩) (ofDim fs d).length cp) := by
  have hB0 : Below w.heap.size w (w.alloc (.cells #[.int .i64 V, .slice a0 fs.length cap] 28)) := (Below.refl _ w).alloc (Nat.le_refl _) _
  have hBd := below_drewN hB0 1
  have h63 := hC.len63
  have HF := hid (fun dd w' (h0 : 0 ≤ dd) (h5 : dd ≤ 5) (hw : Below w.heap.size w w') => of_any V a0 cap fs dd w' (hx.later hw hw.size) hl hC.range63 h0 h5)
  have hsub : IntKind.i64.wrap (d - 1) = d - 1 := IntWalk.i64_in _ (by omega)
  have HBd : Hid (Below w.heap.size w (w.alloc (.cells #[.int .i64 V, .slice a0 fs.length cap] 28)).drew) := hid hBd
  have HBs : Hid (Below w.heap.size w ((w.alloc (.cells #[.int .i64 V, .slice a0 fs.length cap] 28)).alloc (.cells #[] 22)).drew) := hid (below_drewN (hB0.alloc (by simp) (.cells #[] 22)) 1)
  have HC := hid hC
  have HP := hid hp
  have hF63 := ofDim_len fs d
  have hS63 := ofDim_len fs (d - 1)
  clear hx hB0 hBd hC hp
  go_enter Try.func100, Try.ntmps100
  go_wp2_with fail
  go_cut [7, 8, 9] from 15 to 22 (fun q1 q2 q3 wx => ∃ (a1 a2 : Option Addr) (c1 c2 bo : Nat), q1 = .slice a1 (ofDim fs d).length c1 ∧ q2 = .slice a2 (ofDim fs (d - 1)).length c2 ∧ q3 = .slice (some ⟨bo, 0, none⟩) 0 0 ∧ Hid (RowsX w wx w.heap.size (ofDim fs (d - 1)).length [] [] (.slice (some ⟨bo, 0, none⟩) 0 0) (.slice a1 (ofDim fs d).length c1) (.slice a2 (ofDim fs (d - 1)).length c2) (ofDim fs d) (ofDim fs (d - 1))))
  case first =>
    go_region_held3 (fun w' => w'.cell? ⟨w.heap.size, 0, none⟩ = some (.int .i64 V) ∧ w'.cell? ⟨w.heap.size, 1, none⟩ = some (.slice a0 fs.length cap)) (go_keep) (first
      | (go_at_call 43; refine (HF.out _ _ (by omega) (by omega) (by first | with_reducible exact HBd.out | with_reducible exact HBs.out)).mono ?_; rintro e w1 ⟨v1, rfl, hr1⟩; obtain ⟨_, a1, c1, rfl, _⟩ := ownsRow_slI hr1.1; have n0 : w1.cell? ⟨w.heap.size, 0, none⟩ = some (.int .i64 V) := (hr1.2.cell (p := ⟨w.heap.size, 0, none⟩) (by simp <;> omega)).trans (by simp [go_sem]); have n1 : w1.cell? ⟨w.heap.size, 1, none⟩ = some (.slice a0 fs.length cap) := (hr1.2.cell (p := ⟨w.heap.size, 1, none⟩) (by simp <;> omega)).trans (by simp [go_sem]); have hb1 : Below w.heap.size w w1 := (by first | exact HBd.out.trans (hr1.2.mono HBd.out.size) | exact HBs.out.trans (hr1.2.mono HBs.out.size)); have Hlt1 : Hid (w.heap.size < w1.heap.size) := hid (by have := hr1.2.size; simp at this; omega); have HB1s := hid (hb1.alloc hb1.size (.cells #[] 22)); have HB1 := hid hb1; have HR1 := hid hr1; clear hr1 hb1)
      | (go_at_call 43; have hz := HB1.out; clear HB1; refine (HF.out _ _ (by omega) (by omega) (by first | with_reducible exact hz | with_reducible exact HB1s.out)).mono ?_; rintro e w2 ⟨v2, rfl, hr2⟩; obtain ⟨_, a2, c2, rfl, _⟩ := ownsRow_slI hr2.1; have hzz := hr2.2.size; have o0 : w2.cell? ⟨w.heap.size, 0, none⟩ = some (.int .i64 V) := (hr2.2.cell (p := ⟨w.heap.size, 0, none⟩) (by first | exact Hlt1.out | (simp; have := Hlt1.out; omega))).trans (by first | assumption | exact n0 | exact cell_alloc0 n0 _); have o1 : w2.cell? ⟨w.heap.size, 1, none⟩ = some (.slice a0 fs.length cap) := (hr2.2.cell (p := ⟨w.heap.size, 1, none⟩) (by first | exact Hlt1.out | (simp; have := Hlt1.out; omega))).trans (by first | assumption | exact n1 | exact cell_alloc0 n1 _); have HR2 := hid hr2; have HB1 := hid hz; clear hr2 hz hzz))
    all_goals
      have hb12 : Below w1.heap.size w1 w2 := by first | exact HR2.out.2 | exact ((Below.refl _ w1).alloc (Nat.le_refl _) _).trans (HR2.out.2.mono (by simp))
      have hb2 : Below w.heap.size w w2 := HB1.out.trans (hb12.mono HB1.out.size)
      have o1 := ownsRow_base (base' := w.heap.size) (ownsRow_below HR1.out.1 hb12 (fun g hg => (HR1.out.1.lt g hg).2)) (by simp <;> omega)
      have o2 := ownsRow_base (base' := w.heap.size) HR2.out.1 (by have := HB1.out.size; simp <;> omega)
      have hs12 := hb2.size
      have Hb12 := hid hb12
      have Hb2 := hid hb2
      have O1 := hid o1
      have O2 := hid o2
      have hs1 : w.heap.size < w1.heap.size := Hlt1.out
      clear hb12 hb2 o1 o2
      go_wp2_with fail
      go_meet
      case rel => first
        | exact ⟨a1, a2, c1, c2, _, rfl, rfl, rfl, hid (rowsX_start (Hb2.out.alloc Hb2.out.size _) (heap_alloc_new w2 _) (by omega) (O1.out.alloc _) (O2.out.alloc _))⟩
        | exact ⟨a2, a1, c2, c1, _, rfl, rfl, rfl, hid (rowsX_start (Hb2.out.alloc Hb2.out.size _) (heap_alloc_new w2 _) (by omega) (O2.out.alloc _) (O1.out.alloc _))⟩
        | exact ⟨a1, a2, c1, c2, _, rfl, rfl, rfl, hid (rowsX_start Hb2.out ((HR2.out.2.block _ (by simp)).trans (heap_alloc_new w1 _)) (by omega) O1.out O2.out)⟩
        | exact ⟨a2, a1, c2, c1, _, rfl, rfl, rfl, hid (rowsX_start Hb2.out ((HR2.out.2.block _ (by simp)).trans (heap_alloc_new w1 _)) (by omega) O2.out O1.out)⟩
        | exact ⟨a1, a2, c1, c2, w.heap.size + 1, rfl, rfl, rfl, hid (rowsX_start Hb2.out ((Hb12.out.block _ (by have := HR1.out.2.size; simp at this; omega)).trans ((HR1.out.2.block _ (by simp)).trans (new2 w _ _))) (by omega) O1.out O2.out)⟩
        | exact ⟨a2, a1, c2, c1, w.heap.size + 1, rfl, rfl, rfl, hid (rowsX_start Hb2.out ((Hb12.out.block _ (by have := HR1.out.2.size; simp at this; omega)).trans ((HR1.out.2.block _ (by simp)).trans (new2 w _ _))) (by omega) O2.out O1.out)⟩
  case rest =>
    obtain ⟨a1, a2, c1, c2, bo, rfl, rfl, rfl, HX⟩ := hcut
    have hn63 : (ofDim fs d).length ≤ 63 := by omega
    have hw63 : (ofDim fs (d - 1)).length ≤ 63 := by omega
    clear HF HBd HBs hsub hF63 hS63
    go_wp2_with fail
    go_loopw [9, 10] (fun v i wr => ∃ (k R cp : Nat) (Ts : List Nat), v = .slice (some ⟨R, 0, none⟩) k cp ∧ i = .int .i64 k ∧ k ≤ (ofDim fs d).length ∧ Hid (RowsX w wr w.heap.size (ofDim fs (d - 1)).length Ts (((ofDim fs d).take k).map fun f => bndRow (ofDim fs (d - 1)) p (signedF f.toNat)) v (.slice a1 (ofDim fs d).length c1) (.slice a2 (ofDim fs (d - 1)).length c2) (ofDim fs d) (ofDim fs (d - 1)))) (fun _ i _ => (ofDim fs d).length - (intOf i).toNat)
    case atStart => exact ⟨0, bo, 0, [], rfl, rfl, Nat.zero_le _, HX⟩
    case round =>
      clear HX
      obtain ⟨k, R, cp, Ts, rfl, rfl, hk, HX⟩ := hrel
      by_cases hlt : k < (ofDim fs d).length
      · obtain ⟨b1, o1, hb1, rfl, hc1⟩ : ∃ b off, b < wr.heap.size ∧ a1 = some ⟨b, off, none⟩ ∧ ∀ i, i < (ofDim fs d).length → wr.cell? ⟨b, off + i, none⟩ = some (.int .i64 ((ofDim fs d)[i]?.getD 0)) := by
          rcases owned_slI HX.out.oF with h | h
          · rw [h] at hlt; simp at hlt
          · exact h
        obtain ⟨x, hxx⟩ : ∃ x, x = (ofDim fs d)[k]?.getD 0 := ⟨_, rfl⟩
        have hxm : x ∈ ofDim fs d := by rw [hxx]; exact getD_mem hlt
        have hxr := HC.out.range63 x (ofDim_mem.1 hxm).1
        have hck := hc1 k hlt
        rw [← hxx] at hck
        obtain ⟨f, rfl⟩ : ∃ f : Nat, x = f := ⟨x.toNat, by omega⟩
        have hf : f < 64 := by omega
        have hf0 : f ≠ 0 := by omega
        have Hsd := hid (fun x hx => side_in HC.out hxm (x := x) hx)
        rw [Int.toNat_natCast] at Hsd
        have Hrev := hid (bndRow_rev HC.out (ofDim_mem.1 hxm).1 (d - 1) p)
        rw [Int.toNat_natCast] at Hrev
        have Htk : Hid (((ofDim fs d).take (k + 1)).map (fun f => bndRow (ofDim fs (d - 1)) p (signedF f.toNat)) = ((ofDim fs d).take k).map (fun f => bndRow (ofDim fs (d - 1)) p (signedF f.toNat)) ++ [bndRow (ofDim fs (d - 1)) p (signedF f)]) := hid (by rw [take_snoc hlt, ← hxx, List.map_append]; simp)
        have hi0 : (0 : Int) ≤ (k : Int) := by omega
        have hi1 : (k : Int) < ((ofDim fs d).length : Int) := by omega
        have HS := hid (owned_slI HX.out.oS)
        clear hxx hxm hc1 hxr
        go_wp2_with (first
          | (refine make_int rfl rfl (n := (ofDim fs (d - 1)).length) rfl rfl (by omega) ?_; intro w3 hown3 hg3 hB3))
        have hck3 : w3.cell? ⟨b1, o1 + k, none⟩ = some (.int .i64 (f : Int)) := (hB3.cell (p := ⟨b1, o1 + k, none⟩) hb1).trans hck
        have hT3 := (hown3.lt wr.heap.size rfl).2
        have HB3 := hid hB3
        have Hown3 := hid (ownsRow_base hown3 HX.out.size)
        have HBl := hid (fun w' => below_int (f : Int) w' (by omega) (by omega))
        have HSg := hid (fun w' => signs_any f w' hf hf0)
        rw [Int.toNat_natCast] at HBl
        have hsb := signed_below ⟨f, hf⟩ hf0
        simp only at hsb
        rw [← hsb.1] at HBl
        rw [← hsb.2] at HSg
        clear hck hB3 hown3 hg3 hsb
        obtain ⟨rv, hrv⟩ : ∃ rv, rv = (signedF f).reverse := ⟨_, rfl⟩
        rw [← hrv] at HBl HSg Hrev
        have Hrv := hid hrv
        have hrl : rv.length ≤ 63 := by
          rw [hrv, List.length_reverse]
          unfold signedF
          rw [signedL_len]
          have := sides_len f 6
          unfold sidesF
          omega
        have hLm : ∀ g : Fin 64 × Int → Int, (rv.map g).length = rv.length := fun g => by simp
        clear hrv
        go_wp2_with fail
        go_cut [12, 13] from 32 to 41 (fun q1 q2 wx => ∃ (a4 a5 : Option Addr) (c4 c5 : Nat), q1 = .slice a4 rv.length c4 ∧ q2 = .slice a5 rv.length c5 ∧ Hid (SlA wx wr.heap.size a4 (rv.map fun x => ((x.1.val : Nat) : Int))) ∧ Hid (SlA wx wr.heap.size a5 (rv.map Prod.snd)) ∧ Hid (Below w3.heap.size w3 wx))
        case first =>
          clear hLm
          have hck3d : w3.drew.cell? ⟨b1, o1 + k, none⟩ = some (.int .i64 (f : Int)) := hck3
          have Hw3 : Hid (b1 < w3.drew.heap.size) := hid (by have := HB3.out.size; show b1 < w3.heap.size; omega)
          have HBl2 : Hid (∀ w', b1 < w'.heap.size → w'.cell? ⟨b1, o1 + k, none⟩ = some (.int .i64 (f : Int)) → Calls Try.prog 52 #[.int .i64 (f : Int)] w' fun e w'' => ∃ a c, e = .returned (.slice a rv.length c) ∧ w''.ownsRow w'.heap.size 2 1 (.slice a rv.length c) rv.length ((rv.map fun x => ((x.1.val : Nat) : Int)).map (Value.int .i64)) ∧ Below w'.heap.size w' w'' ∧ b1 < w''.heap.size ∧ w''.cell? ⟨b1, o1 + k, none⟩ = some (.int .i64 (f : Int))) := hid (fun w' h1 h2 => (HBl.out w').mono fun e w'' ⟨v, he, ho, hb⟩ => by
            obtain ⟨_, a, c, rfl, _⟩ := ownsRow_slI ho
            simp only [List.length_map] at he ho
            exact ⟨a, c, he, ho, hb, Nat.lt_of_lt_of_le h1 hb.size, (hb.cell (p := ⟨b1, o1 + k, none⟩) h1).trans h2⟩)
          have HSg2 : Hid (∀ w', b1 < w'.heap.size → w'.cell? ⟨b1, o1 + k, none⟩ = some (.int .i64 (f : Int)) → Calls Try.prog 161 #[.int .i64 (f : Int)] w' fun e w'' => ∃ a c, e = .returned (.slice a rv.length c) ∧ w''.ownsRow w'.heap.size 2 1 (.slice a rv.length c) rv.length ((rv.map Prod.snd).map (Value.int .i64)) ∧ Below w'.heap.size w' w'' ∧ b1 < w''.heap.size ∧ w''.cell? ⟨b1, o1 + k, none⟩ = some (.int .i64 (f : Int))) := hid (fun w' h1 h2 => (HSg.out w').mono fun e w'' ⟨v, he, ho, hb⟩ => by
            obtain ⟨_, a, c, rfl, _⟩ := ownsRow_slI ho
            simp only [List.length_map] at he ho
            exact ⟨a, c, he, ho, hb, Nat.lt_of_lt_of_le h1 hb.size, (hb.cell (p := ⟨b1, o1 + k, none⟩) h1).trans h2⟩)
          go_region_with (first
            | (go_at_call 52; refine (HBl2.out _ (by first | exact Hw3.out | exact Hw5.out) (by first | exact hck3d | exact hck5)).mono ?_; rintro e w4 ⟨a4, c4, rfl, ho4, hb4, hw4, hck4⟩; have HO4 := hid ho4; have HB4 := hid hb4; have Hw4 := hid hw4; clear ho4 hb4 hw4)
            | (go_at_call 161; refine (HSg2.out _ (by first | exact Hw3.out | exact Hw4.out) (by first | exact hck3d | exact hck4)).mono ?_; rintro e w5 ⟨a5, c5, rfl, ho5, hb5, hw5, hck5⟩; have HO5 := hid ho5; have HB5 := hid hb5; have Hw5 := hid hw5; clear ho5 hb5 hw5))
          all_goals
            have hTd : wr.heap.size < w3.drew.heap.size := hT3
            have hd3 : Below w3.heap.size w3 w3.drew := below_drewN (Below.refl _ w3) 1
            go_wp2_with fail
            go_meet
            case rel => first
              | exact ⟨a4, a5, c4, c5, rfl, rfl, hid ((slA_of HO4.out hTd).later HB5.out), hid (slA_of HO5.out (Nat.lt_of_lt_of_le hTd HB4.out.size)), hid (hd3.trans (HB4.out.trans (HB5.out.mono HB4.out.size)))⟩
              | exact ⟨a4, a5, c4, c5, rfl, rfl, hid (slA_of HO4.out (Nat.lt_of_lt_of_le hTd HB5.out.size)), hid ((slA_of HO5.out hTd).later HB4.out), hid (hd3.trans (HB5.out.trans (HB4.out.mono HB5.out.size)))⟩
        case rest =>
          obtain ⟨a4, a5, c4, c5, rfl, rfl, HP4, HP5, HB5⟩ := hcut
          obtain ⟨w5, rfl⟩ : ∃ w5 : World, w5 = wc := ⟨_, rfl⟩
          have HT5 : Hid (wr.heap.size < w5.heap.size) := hid (Nat.lt_of_lt_of_le hT3 HB5.out.size)
          have HO5 := hid (ownsRow_below Hown3.out HB5.out (fun g hg => (Hown3.out.lt g hg).2))
          have HBT : Hid (Below wr.heap.size wr w5) := hid (HB3.out.trans (HB5.out.mono HB3.out.size))
          have HH : Hid (Holds encI w5 wr.heap.size 0 (bndRow (ofDim fs (d - 1)) p (rv.take 0)).toArray) := hid (by
            obtain ⟨cur, hh, ht, _⟩ := owned_block HO5.out
            rw [List.take_zero, bndRow_nil _ HP.out]
            exact holds_of_blockI hh (by simpa using ht))
          clear HBl HSg Hown3 hck3 hT3
          go_wp2_with fail
          obtain ⟨wo, rfl⟩ : ∃ wo : World, wo = wr := ⟨_, rfl⟩
          go_loopw [14] (fun s14 wx => ∃ (j m : Nat), s14 = .int .i64 j ∧ j ≤ rv.length ∧ Aside (wx = putRow encI (Sort.ahead w5 m) wo.heap.size 0 (bndRow (ofDim fs (d - 1)) p (rv.take j)).toArray)) (fun s14 _ => rv.length - (intOf s14).toNat)
          case atStart => exact ⟨0, 0, rfl, Nat.zero_le _, (Sort.putRow_self encI w5 _ _ _ HH.out).symm⟩
          case round =>
            obtain ⟨j, m, rfl, hj, A⟩ := hrel
            have HBx : Hid (Below wo.heap.size wo wr) := hid (by rw [A.out]; exact below_row m _ HBT.out)
            by_cases hltj : j < rv.length
            · obtain ⟨x, hx⟩ : ∃ x, x = rv[j] := ⟨_, rfl⟩
              have hxm : x ∈ signedF f := by have := List.getElem_mem hltj; rw [← hx, Hrv.out] at this; simpa using this
              have hss := (signed_sub ⟨f, hf⟩ x hxm).2.2.2
              have hmS := Hsd.out x hxm
              have htk := take_snocL hltj
              rw [← hx] at htk
              have hnew : ∀ y ∈ rv.take j, y.1 ≠ x.1 := nodup_snoc (l := rv) (by rw [Hrv.out, List.map_reverse]; exact List.pairwise_reverse.2 ((signed_nodup ⟨f, hf⟩).imp (fun h e => h e.symm))) (by rw [← htk]; exact List.take_prefix _ _)
              have hst := bndRow_snoc (p := p) (S := ofDim fs (d - 1)) (L := rv.take j) (x := x) (ofDim_asc HC.out.asc _) (fun s hs => by have := HC.out.range63 s (ofDim_mem.1 hs).1; omega) hnew hmS
              rw [← htk] at hst
              have hil := List.idxOf_lt_length_of_mem hmS
              have hq := PI_of a2 c2 (ofDim fs (d - 1)) ((x.1.val : Nat) : Int) wr.drew wo.heap.size (HS.out.below (below_drewN HBx.out 1)) (by have := HBx.out.size; simp; omega) (by omega) hmS
              obtain ⟨q, hqq⟩ : ∃ q, q = (ofDim fs (d - 1)).idxOf ((x.1.val : Nat) : Int) := ⟨_, rfl⟩
              rw [← hqq] at hst hil hq
              have hHk : Holds encI wr wo.heap.size 0 (bndRow (ofDim fs (d - 1)) p (rv.take j)).toArray := by rw [A.out]; exact Sort.holds_putRow encI _ _ _ _ _ (Sort.holds_ahead encI _ m _ _ _ HH.out) (by simp [bndRow_len])
              obtain ⟨cst, fst_⟩ := holds_at hHk (i := q) (by rw [bndRow_len]; exact hil)
              rw [Nat.zero_add] at cst fst_
              have hoth : ∀ b o, wo.heap.size < b → wr.cell? ⟨b, o, none⟩ = w5.cell? ⟨b, o, none⟩ := fun b o hb => by
                rw [A.out, Sort.cell?_putRow_other _ _ _ _ _ _ (.inl (by simp only; omega))]
                rfl
              obtain ⟨b4, o4, hb4, _, rfl, hc4⟩ : ∃ b off, wo.heap.size < b ∧ b < w5.heap.size ∧ a4 = some ⟨b, off, none⟩ ∧ ∀ i, i < (rv.map fun x => ((x.1.val : Nat) : Int)).length → w5.cell? ⟨b, off + i, none⟩ = some (.int .i64 ((rv.map fun x => ((x.1.val : Nat) : Int))[i]?.getD 0)) := by
                rcases HP4.out with h | h
                · have := congrArg List.length h; simp at this; rw [this] at hltj; simp at hltj
                · exact h
              obtain ⟨b5, o5, hb5, _, rfl, hc5⟩ : ∃ b off, wo.heap.size < b ∧ b < w5.heap.size ∧ a5 = some ⟨b, off, none⟩ ∧ ∀ i, i < (rv.map Prod.snd).length → w5.cell? ⟨b, off + i, none⟩ = some (.int .i64 ((rv.map Prod.snd)[i]?.getD 0)) := by
                rcases HP5.out with h | h
                · have := congrArg List.length h; simp at this; rw [this] at hltj; simp at hltj
                · exact h
              have cpt := (hoth b4 (o4 + j) hb4).trans (hc4 j (by simpa using hltj))
              have csg := (hoth b5 (o5 + j) hb5).trans (hc5 j (by simpa using hltj))
              rw [List.getElem?_map, List.getElem?_eq_getElem hltj, ← hx] at cpt csg
              simp only [Option.map_some, Option.getD_some] at cpt csg
              have hp := HP.out
              obtain ⟨v, hv⟩ : ∃ v, v = (x.2 + p) % p := ⟨_, rfl⟩
              rw [← hv] at hst
              have hsum : IntKind.i64.wrap (x.2 + p) = x.2 + p := IntWalk.i64_in _ (by omega)
              have hrem : (x.2 + p).tmod p = v := by rw [hv, Int.tmod_eq_emod_of_nonneg (by omega)]
              have hpn : ¬ (p = 0) := by omega
              have hj0 : (0 : Int) ≤ (j : Int) := by omega
              have hj1 : (j : Int) < (rv.length : Int) := by omega
              have hq0 : (0 : Int) ≤ (q : Int) := by omega
              have hq1 : (q : Int) < ((ofDim fs (d - 1)).length : Int) := by omega
              have Hst := hid hst
              have HQ := hid hq
              have Hil := hid hil
              have HPp := hid hp
              clear hxm hmS htk hnew hst hq hqq hHk hoth hc4 hc5 hv hx hp hil
              go_wp2_with fail
              refine wp_tail 16 (by kernel_rfl) (by kernel_rfl) ?_
              simp only [List.take_succ_cons, List.take_zero, List.drop_succ_cons, List.drop_zero]
              iterate 6 still_step
              still_call HQ.out
              iterate 9 still_step
              refine wpStill_nil ?_
              go_wp2
              go_roundw
              case rel =>
                refine ⟨j + 1, m + 1, by go_num, by omega, ?_⟩
                have e := putRow_at w5 (m + 1) wo.heap.size 0 (bndRow (ofDim fs (d - 1)) p (rv.take j)) q v (by rw [bndRow_len]; exact Hil.out)
                rw [Nat.zero_add] at e
                rw [Hst.out, ← e, ← Sort.ahead_drew, ← Sort.putRow_drew, ← A.out]
                rfl
              case measure => simp [intOf]; omega
            · obtain rfl : j = rv.length := by omega
              rw [List.take_of_length_le (Nat.le_refl _), Hrev.out] at A
              have HX6 := hid (HX.out.later HBx.out)
              have HR6 : Hid (wr.ownsRow w.heap.size 2 1 (slT (ofDim fs (d - 1)).length wo.heap.size) (ofDim fs (d - 1)).length ((bndRow (ofDim fs (d - 1)) p (signedF f)).map (Value.int .i64))) := hid (by rw [A.out]; exact row_put m HO5.out (bndRow_len _ _ _))
              have hTs : wo.heap.size ∉ Ts := fun hm => by have := HX.out.main.lt _ hm; omega
              have hlT : (Ts.map (slT (ofDim fs (d - 1)).length)).length ≤ 1048576 := by have := HX.out.main.len; simp at this ⊢; omega
              have Hs6 := hid HX6.out.size
              have Hl7 : Hid ((Ts.map (slT (ofDim fs (d - 1)).length) ++ [slT (ofDim fs (d - 1)).length wo.heap.size]).length = k + 1) := hid (by have := HX.out.main.len; simp at this ⊢; omega)
              have HTs := hid hTs
              clear hTs
              go_wp2_with (at_builtin; refine append_row rfl rfl HX6.out.main.out Hs6.out hlT rfl rfl ?_; intro v' w7 hown7 hgrow7 hB7; have HO7 := hid hown7; have hown8 : w7.ownsRow w.heap.size 22 1 v' (k + 1) (Ts.map (slT (ofDim fs (d - 1)).length) ++ [slT (ofDim fs (d - 1)).length wo.heap.size]) := (by rw [← Hl7.out]; exact hown7); clear hown7; obtain ⟨R7, cp7, rfl⟩ := ownsRow_succ hown8)
              go_roundw
              case rel => exact ⟨k + 1, R7, cp7, Ts ++ [wo.heap.size], rfl, by go_num, by omega, by rw [Htk.out]; exact hid (HX6.out.snoc (bndRow_len _ _ _) HTs.out HR6.out HO7.out hgrow7 hB7)⟩
              case measure => simp [intOf]; omega
      · obtain rfl : k = (ofDim fs d).length := by omega
        rw [List.take_of_length_le (Nat.le_refl _)] at HX
        have HB := hid HX.out.main
        go_wp2
        go_ret
        exact ⟨R, _, cp, rfl, HB.out⟩

theorem rowsS_any (V : Int) (a0 : Option Addr) (cap : Nat) (fs : List Int) (d p : Int) (w : World) (hx : SlI w w.heap.size a0 fs) (hl : fs.length ≤ 1048576) (hC : IsC V fs) (hp : p = 2 ∨ p = 3) (hd0 : 1 ≤ d) (hd1 : d ≤ 5) :
    Calls Try.prog 100 #[.agg #[.int .i64 V, .slice a0 fs.length cap], .int .i64 d, .int .i64 p] w fun e w' => ∃ R ad cp, e = .returned (.slice (some ⟨R, 0, none⟩) (ofDim fs d).length cp) ∧ MatW w' w.heap.size R (ofDim fs d).length (ofDim fs (d - 1)).length ad (bndM fs d p) ∧ Below w.heap.size w w' :=
  (rowsS_own V a0 cap fs d p w hx hl hC hp hd0 hd1).mono fun _ _ ⟨R, Ts, cp, he, h⟩ => ⟨R, Ts.map fun T => (T, 0), cp, he, by
    have := h.mat
    rwa [show (bndM fs d p).length = (ofDim fs d).length by simp [bndM]] at this, h.below⟩

end Go.Proofs.Ytbhdipljhelddaa

/-! A region that draws its order, in a round of a loop over a function: reads and quiet calls, then a tail in one order. -/
namespace Go.Proofs.Ytbhdipljhelddaa
open Go.RowKit Go.Shelf

theorem upon_round {P : Program} {l n : Nat} {o : Oper} {a : Act} {K K' : Act → World → Prop} {Q : Exit → Act → World → Prop} (hK : ∀ a w, K a w → K' a w) (r : Result Next) (h : o.upon P a K Q r) : o.uponIn (Fence.wide.inRound l) n P a K' Q r := by
  have hd : ∀ m : Nat, (Fence.wide.inRound l).depth.isSome = true → 1 ≤ m := fun _ h => by simp [Fence.wide] at h
  cases r with
  | ok x w' =>
    cases x
    case value v => exact hK _ _ h
    case skip => exact hK _ _ h
    case defer d => exact hK _ _ h
    case enter f args =>
      refine ⟨hd _, CallsIn.inRound l (callsIn_wide.2 (Calls.mono h ?_))⟩
      intro e w'' hh
      cases e with
      | returned v => exact hK _ _ hh
      | panicked ch => exact hh
      | outgrown => exact hh
    case row row args => exact ⟨hd _, fun c cs _ => let ⟨v, w'', r, s⟩ := h c cs; ⟨v, w'', hK _ _ r, stepsIn_wide.2 s⟩⟩
    all_goals exact h.elim
  | halt x w' =>
    cases x <;> first | exact h | exact h.elim

theorem op_round {P : Program} {l n : Nat} {ops : Array Oper} {Q : Exit → Act → World → Prop} (hQ : ¬ LetsOut Q) (hnd : ∀ (i : Nat) (o : Oper), ops[i]? = some o → ∀ c, o.op ≠ .defer c) {i : Nat} {K K' : Act → World → Prop} (hK : ∀ a w, K a w → K' a w) {a : Act} {w : World}
    (h : wpOp P ops Q i K a w) : wpOpIn (Fence.wide.inRound l) n P ops Q i K' a w := by
  unfold wpOp at h
  unfold wpOpIn
  split
  · rename_i ho; simp only [ho] at h; exact hK _ _ h
  · rename_i o ho
    simp only [ho] at h
    split
    · rename_i hw
      simp only [hw, if_true] at h
      rcases h with h | h
      · refine ⟨fun _ _ => trivial, ?_⟩
        rw [Fence.inRound_round, Oper.semAt_some _ _ _ (hnd i o ho)]
        exact upon_round hK _ h
      · exact absurd h.2 hQ
    · rename_i hw
      simp only [hw] at h
      exact ⟨fun _ _ => trivial, hK _ _ h⟩

theorem any_round {P : Program} {l n : Nat} {md : Region.Mode} {ops : Array Oper} {Q : Exit → Act → World → Prop} (hQ : ¬ LetsOut Q) (hnd : ∀ (i : Nat) (o : Oper), ops[i]? = some o → ∀ c, o.op ≠ .defer c) : ∀ (fuel : Nat) (listed : Array Bool) (a : Act) (w : World),
    wpAny P md ops Q fuel listed a w → wpAnyIn (Fence.wide.inRound l) n P md ops Q fuel listed a w
  | 0, _, _, _, h => h
  | fuel + 1, _, _, _, h => ⟨h.1, fun i hi => op_round hQ hnd (fun a w => any_round hQ hnd fuel _ a w) (h.2 i hi)⟩

theorem any_still_tail {P : Program} {Q : Exit → Act → World → Prop} {a : Act} {w : World} {l : List Oper} (n : Nat) (hB : Region.lexTailB .any l.toArray n = true)
    (h : wpStill P l.toArray w (fun a' => wpList P l.toArray Q (l.drop n) a' w) (l.take n) a) : wpAny P .any l.toArray Q l.toArray.size (Array.replicate l.toArray.size false) a w := by
  simp only [Region.lexTailB, Bool.and_eq_true, decide_eq_true_eq] at hB
  obtain ⟨⟨⟨⟨hsel, hn⟩, hs⟩, hc⟩, hlex⟩ := hB
  have hn' : n < l.length := by simpa using hn
  have htl : (l.take n).length = n := by simp; omega
  have hdl : (l.drop n).length = l.toArray.size - n := by simp
  have inv0 : HeadInv .any l.toArray n (Array.replicate l.toArray.size false) :=
    ⟨by simp, fun j oj _ hl => (by rw [getD_replicate_false] at hl; cases hl), fun t _ ht => getD_in (by simpa using ht) (getD_replicate_false _ _)⟩
  have H := wpAnyL_lex (md := .any) (g := l.toArray.size - n) hsel hs hc hn (l.take n) 0 _ a (fun j hj => by
    have hj' : j < n := by rw [htl] at hj; exact hj
    simp [hj']) (by simpa using htl) inv0 (by rw [htl]; exact hlex) h
  have := wpAny_of_head (Q' := Q) (g := l.toArray.size - n) (fun listed a' hL => by
    have := wpAny_of_seq (md := .any) (Q' := Q) (l.drop n) n listed a' w (fun j => by simp [List.getElem?_drop]) (by rw [hdl]; exact hL.1) hL.2
    rwa [hdl] at this) _ _ _ H
  rw [htl, show n + (l.toArray.size - n) = l.toArray.size by omega] at this
  exact this

/-- The post of such a region: it is left by its end alone. -/
def endQ (Q : Exit → Act → World → Prop) : Exit → Act → World → Prop := fun e a w => e = .normal ∧ Q .normal a w

theorem wpIn_round_tail {id l0 nF : Nat} {P : Program} {l : List Oper} {Q : Exit → Act → World → Prop} {a : Act} {w : World} (n : Nat) (hm : P.follows .mixedOrders = true) (hB : Region.lexTailB .any l.toArray n = true)
    (hnd : (l.all fun o => match o.op with | .defer _ => false | _ => true) = true)
    (h : wpStill P l.toArray w.drew (fun a' => wpList P l.toArray (endQ Q) (l.drop n) a' w.drew) (l.take n) a) : (Code.region id l.toArray true).wpIn (Fence.wide.inRound l0) nF P Q a w := by
  have hnd' : ∀ (i : Nat) (o : Oper), l.toArray[i]? = some o → ∀ c, o.op ≠ .defer c := by
    intro i o ho c e
    have hm : o ∈ l := by
      have : l[i]? = some o := by simpa using ho
      exact List.mem_of_getElem? this
    have := List.all_eq_true.1 hnd o hm
    rw [e] at this
    cases this
  have := wpIn_region_any (F := Fence.wide.inRound l0) (n := nF) (id := id) hm (any_round (l := l0) (n := nF) (Q := endQ Q) (fun ⟨_, _, e, _⟩ => by cases e) hnd' _ _ _ _ (any_still_tail n hB h))
  exact wpIn_mono this (fun e a' w' ⟨he, hq⟩ => by subst he; exact hq)

end Go.Proofs.Ytbhdipljhelddaa

/-! fillBoundaries: the boundaries of faces, put into rows of zeros. -/
namespace Go.Proofs.Ytbhdipljhelddaa
open Go.RowKit Go.Shelf

attribute [local go_sem] Oper.semAt_some

/-- The rows while row k is being filled: it has got the sides pre. -/
def fillM (F S : List Int) (p : Int) (w k : Nat) (pre : List (Fin 64 × Int)) : List (List Int) :=
  F.mapIdx fun i f => if i < k then bndRow S p (signedF f.toNat) else if i = k then bndRow S p pre else List.replicate w 0
theorem fillM_len (F S : List Int) (p : Int) (w k : Nat) (pre : List (Fin 64 × Int)) : (fillM F S p w k pre).length = F.length := by simp [fillM]
theorem fillM_get {F S : List Int} {p : Int} {w k : Nat} {pre : List (Fin 64 × Int)} {i : Nat} (hi : i < F.length) :
    (fillM F S p w k pre)[i]? = some (if i < k then bndRow S p (signedF (F[i]?.getD 0).toNat) else if i = k then bndRow S p pre else List.replicate w 0) := by
  simp [fillM, List.getElem?_eq_getElem hi]
theorem fillM_zero {F S : List Int} {p : Int} {w : Nat} (hp : p = 2 ∨ p = 3) (hw : S.length = w) : fillM F S p w 0 [] = List.replicate F.length (List.replicate w 0) := by
  apply List.ext_getElem?
  intro i
  by_cases hi : i < F.length
  · rw [fillM_get hi, List.getElem?_replicate, if_pos hi, if_neg (by omega)]
    split
    · rw [bndRow_nil S hp, hw]
    · rfl
  · rw [List.getElem?_eq_none (by rw [fillM_len]; omega), List.getElem?_eq_none (by simp; omega)]
theorem fillM_next {F S : List Int} {p : Int} {w k : Nat} (hp : p = 2 ∨ p = 3) (hw : S.length = w) : fillM F S p w k (signedF (F[k]?.getD 0).toNat) = fillM F S p w (k + 1) [] := by
  apply List.ext_getElem?
  intro i
  by_cases hi : i < F.length
  · rw [fillM_get hi, fillM_get hi]
    congr 1
    by_cases h1 : i < k
    · rw [if_pos h1, if_pos (by omega)]
    · by_cases h2 : i = k
      · subst h2; rw [if_neg h1, if_pos rfl, if_pos (by omega)]
      · rw [if_neg h1, if_neg h2, if_neg (by omega)]
        split
        · rw [bndRow_nil S hp, hw]
        · rfl
  · rw [List.getElem?_eq_none (by rw [fillM_len]; omega), List.getElem?_eq_none (by rw [fillM_len]; omega)]
theorem fillM_done {F S : List Int} {p : Int} {w : Nat} : fillM F S p w F.length [] = F.map fun f => bndRow S p (signedF f.toNat) := by
  apply List.ext_getElem?
  intro i
  by_cases hi : i < F.length
  · rw [fillM_get hi, if_pos hi]
    simp [List.getElem?_eq_getElem hi]
  · rw [List.getElem?_eq_none (by rw [fillM_len]; omega), List.getElem?_eq_none (by simp; omega)]
/-- One side more. -/
theorem fillM_snoc {F S : List Int} {p : Int} {w k : Nat} {pre : List (Fin 64 × Int)} {x : Fin 64 × Int} (hk : k < F.length) (hS : S.Pairwise (· < ·)) (h0 : ∀ s ∈ S, 0 ≤ s) (hn : ∀ y ∈ pre, y.1 ≠ x.1) (hm : ((x.1.val : Nat) : Int) ∈ S) :
    fillM F S p w k (pre ++ [x]) = (fillM F S p w k pre).set k (((fillM F S p w k pre)[k]?.getD []).set (S.idxOf ((x.1.val : Nat) : Int)) ((x.2 + p) % p)) := by
  have ek : (fillM F S p w k pre)[k]?.getD [] = bndRow S p pre := by rw [fillM_get hk, if_neg (by omega), if_pos rfl]; rfl
  rw [ek, ← bndRow_snoc hS h0 hn hm]
  apply List.ext_getElem?
  intro i
  by_cases hi : i < F.length
  · by_cases e : k = i
    · subst e
      rw [List.getElem?_set_self (by rw [fillM_len]; exact hi), fillM_get hi, if_neg (by omega), if_pos rfl]
    · rw [List.getElem?_set_ne e, fillM_get hi, fillM_get hi]
      congr 1
      by_cases h1 : i < k
      · rw [if_pos h1, if_pos h1]
      · rw [if_neg h1, if_neg h1, if_neg (fun h => e h.symm), if_neg (fun h => e h.symm)]
  · rw [List.getElem?_eq_none (by rw [fillM_len]; omega), List.getElem?_eq_none (by rw [List.length_set, fillM_len]; omega)]

/-- One number of a row is written. -/
theorem MatX.set1 {W : World} {B R n w : Nat} {ad : Ads} {M X : List (List Int)} (h : MatX W B R n w ad M X) {k j : Nat} (hk : k < n) (hj : j < w) (v : Int) :
    MatX (W.setCell ⟨(adr ad k).1, (adr ad k).2 + j, none⟩ (.int .i64 v)) B R n w ad (M.set k ((M[k]?.getD []).set j v)) X := by
  have hl := h.wid k hk
  have e : W.setCell ⟨(adr ad k).1, (adr ad k).2 + j, none⟩ (.int .i64 v) = Sort.putRow encI (Sort.ahead W 0) (adr ad k).1 (adr ad k).2 ((M[k]?.getD []).set j v).toArray := by
    rw [← putRow_at W 0 _ _ (M[k]?.getD []) j v (by omega), Sort.ahead_zero, Sort.putRow_self encI W _ _ _ (h.row k hk)]
  rw [e]
  exact h.put hk 0 (by simp [hl])

/-- What the walk keeps of the world. -/
structure FillW (W W' : World) (B R n w : Nat) (ad : Ads) (p : Int) (sl sd : Value) (M X : List (List Int)) (Ds : List Nat) : Prop where
  below : Below B W W'
  b4 : W'.heap[W.heap.size]? = some (.cells #[sl] 56 (0, 0))
  b6 : W'.heap[W.heap.size + 1]? = some (.cells #[sd] 22 (0, 0))
  b7 : W'.heap[W.heap.size + 2]? = some (.cells #[.int .i64 p] 2 (0, 0))
  mat : MatX W' B R n w ad M X
  nodup : Ds.Nodup
  marks : ∀ D ∈ Ds, W.heap.size + 3 ≤ D ∧ W'.heap[D]? = some (.deferred (some []))

theorem FillW.size {W W' : World} {B R n w : Nat} {ad : Ads} {p : Int} {sl sd : Value} {M X : List (List Int)} {Ds : List Nat} (h : FillW W W' B R n w ad p sl sd M X Ds) : W.heap.size + 3 ≤ W'.heap.size := by
  have := lt_of_get h.b7; omega

/-- A turn of what lies beyond. -/
theorem FillW.turn {W W' W'' : World} {B R n w : Nat} {ad : Ads} {p : Int} {sl sd : Value} {M X : List (List Int)} {Ds : List Nat} (h : FillW W W' B R n w ad p sl sd M X Ds) (hB : B ≤ W.heap.size) (hR : R < W.heap.size) (ha : ∀ i, i < n + X.length → (adr ad i).1 < W.heap.size)
    {row : Option Nat} (hg : W'.grownBy W'' row) (hr : ∀ r, row = some r → W.heap.size + 3 ≤ r ∧ r ∉ Ds) : FillW W W'' B R n w ad p sl sd M X Ds where
  below := h.below.grown hg (by have := h.size; omega) (fun k e => by have := (hr k e).1; omega)
  b4 := (hg.block _ (lt_of_get h.b4) (fun e => by have := (hr _ e.symm).1; omega)).trans h.b4
  b6 := (hg.block _ (lt_of_get h.b6) (fun e => by have := (hr _ e.symm).1; omega)).trans h.b6
  b7 := (hg.block _ (lt_of_get h.b7) (fun e => by have := (hr _ e.symm).1; omega)).trans h.b7
  mat := h.mat.keep hg.size (hg.block _ h.mat.head.2 (fun e => by have := (hr _ e.symm).1; omega)) (fun i hi => hg.block _ (h.mat.it.base i hi).2 (fun e => by have := (hr _ e.symm).1; have := ha i hi; omega))
  nodup := h.nodup
  marks := fun D hD => ⟨(h.marks D hD).1, (hg.block _ (lt_of_get (h.marks D hD).2) (fun e => (hr _ e.symm).2 hD)).trans (h.marks D hD).2⟩

theorem FillW.mark {W W' : World} {B R n w : Nat} {ad : Ads} {p : Int} {sl sd : Value} {M X : List (List Int)} {Ds : List Nat} (h : FillW W W' B R n w ad p sl sd M X Ds) {D : Nat} (hD : W'.heap[D]? = some (.deferred (some []))) (hb : W.heap.size + 3 ≤ D) (hn : D ∉ Ds) : FillW W W' B R n w ad p sl sd M X (D :: Ds) where
  below := h.below
  b4 := h.b4
  b6 := h.b6
  b7 := h.b7
  mat := h.mat
  nodup := List.nodup_cons.2 ⟨hn, h.nodup⟩
  marks := fun E hE => by
    rcases List.mem_cons.1 hE with rfl | hE
    · exact ⟨hb, hD⟩
    · exact h.marks E hE

/-- A number more. -/
theorem FillW.set1 {W W' : World} {B R n w : Nat} {ad : Ads} {p : Int} {sl sd : Value} {M X : List (List Int)} {Ds : List Nat} (h : FillW W W' B R n w ad p sl sd M X Ds) (ha : ∀ i, i < n + X.length → (adr ad i).1 < W.heap.size) {k j : Nat} (hk : k < n) (hj : j < w) (v : Int) :
    FillW W (W'.setCell ⟨(adr ad k).1, (adr ad k).2 + j, none⟩ (.int .i64 v)) B R n w ad p sl sd (M.set k ((M[k]?.getD []).set j v)) X Ds where
  below := h.below.setCell (p := ⟨(adr ad k).1, (adr ad k).2 + j, none⟩) (h.mat.base k hk).1 _
  b4 := (Below.heap_setCell _ _ _ _ (by have := ha k (by omega); simp only; omega)).trans h.b4
  b6 := (Below.heap_setCell _ _ _ _ (by have := ha k (by omega); simp only; omega)).trans h.b6
  b7 := (Below.heap_setCell _ _ _ _ (by have := ha k (by omega); simp only; omega)).trans h.b7
  mat := h.mat.set1 hk hj v
  nodup := h.nodup
  marks := fun D hD => ⟨(h.marks D hD).1, (Below.heap_setCell _ _ _ _ (by have := ha k (by omega); have := (h.marks D hD).1; simp only; omega)).trans (h.marks D hD).2⟩

theorem fill_ownIn {W : World} {B R n w : Nat} {ad : Ads} {p : Int} {sl sd : Value} {g : List (Fin 64 × Int) → List (List Int)} {X : List (List Int)} {Ds : List Nat} {lo k : Nat} (hB : B ≤ W.heap.size) (hR : R < W.heap.size) (ha : ∀ i, i < n + X.length → (adr ad i).1 < W.heap.size) (hlo : W.heap.size + 3 ≤ lo) (hD : ∀ D ∈ Ds, D < lo) :
    OwnIn lo k (fun pre W' => FillW W W' B R n w ad p sl sd (g pre) X Ds) :=
  fun _ _ _ _ hs hg hr => hs.turn hB hR ha hg (fun r e => ⟨by have := (hr r e).1; omega, fun hm => by have := hD r hm; have := (hr r e).1; omega⟩)

theorem HI_of (a : Option Addr) (cap : Nat) (xs : List Int) (x : Int) (w : World) (B : Nat) (hx : SlI w B a xs) (hB : B ≤ w.heap.size) (hl : xs.length ≤ 1048576) (hm : x ∈ xs) :
    Calls Try.prog 166 #[.slice a xs.length cap, .int .i64 x] w fun e w' => e = .returned (.int .i64 (xs.idxOf x : Int)) ∧ w' = w :=
  (index_at a cap xs x w (hx.mono hB) hl hm).mono fun _ _ ⟨he, hw⟩ => ⟨he, hw.symm⟩

/-- The loop's state ahead of a round: k faces are done. -/
def FillInv (W : World) (B R n w cr cf cs b1 o1 : Nat) (ad : Ads) (p : Int) (F S : List Int) (X : List (List Int)) (as_ : Option Addr) (a' : Act) (W' : World) : Prop :=
  ∃ (k : Nat) (Ds : List Nat) (us : Nat → Value), a' = { tmps := #[.slice (some ⟨R, 0, none⟩) n cr, .slice (some ⟨b1, o1, none⟩) n cf, .slice as_ w cs, .int .i64 p, .pointer (some ⟨W.heap.size, 0, none⟩), undef, .pointer (some ⟨W.heap.size + 1, 0, none⟩), .pointer (some ⟨W.heap.size + 1 + 1, 0, none⟩), us 8, us 9, us 10, us 11, .slice (some ⟨b1, o1, none⟩) n cf, .int .i64 (n : Int), .int .i64 (k : Int), us 15, us 16, us 17, us 18, us 19, us 20, us 21, us 22, us 23, us 24, us 25, us 26, us 27, us 28, us 29, us 30, us 31, us 32, us 33, us 34, us 35, us 36], defers := marks Ds } ∧ k ≤ n ∧ Hid (FillW W W' B R n w ad p (.slice (some ⟨R, 0, none⟩) n cr) (.slice as_ w cs) (fillM F S p w k []) X Ds)
theorem fillInv_of {W W' : World} {B R n w cr cf cs b1 o1 : Nat} {ad : Ads} {p : Int} {F S : List Int} {X : List (List Int)} {as_ : Option Addr} {k : Nat} {Ds : List Nat} (tm : Array Value) (ds : List Deferred) (hds : ds = marks Ds) (h : tm = #[.slice (some ⟨R, 0, none⟩) n cr, .slice (some ⟨b1, o1, none⟩) n cf, .slice as_ w cs, .int .i64 p, .pointer (some ⟨W.heap.size, 0, none⟩), undef, .pointer (some ⟨W.heap.size + 1, 0, none⟩), .pointer (some ⟨W.heap.size + 1 + 1, 0, none⟩), tm.getD 8 undef, tm.getD 9 undef, tm.getD 10 undef, tm.getD 11 undef, .slice (some ⟨b1, o1, none⟩) n cf, .int .i64 (n : Int), .int .i64 (k : Int), tm.getD 15 undef, tm.getD 16 undef, tm.getD 17 undef, tm.getD 18 undef, tm.getD 19 undef, tm.getD 20 undef, tm.getD 21 undef, tm.getD 22 undef, tm.getD 23 undef, tm.getD 24 undef, tm.getD 25 undef, tm.getD 26 undef, tm.getD 27 undef, tm.getD 28 undef, tm.getD 29 undef, tm.getD 30 undef, tm.getD 31 undef, tm.getD 32 undef, tm.getD 33 undef, tm.getD 34 undef, tm.getD 35 undef, tm.getD 36 undef]) (hk : k ≤ n)
    (H : Hid (FillW W W' B R n w ad p (.slice (some ⟨R, 0, none⟩) n cr) (.slice as_ w cs) (fillM F S p w k []) X Ds)) : FillInv W B R n w cr cf cs b1 o1 ad p F S X as_ { tmps := tm, defers := ds } W' :=
  ⟨k, Ds, fun i => tm.getD i undef, by rw [hds]; exact congrArg (fun t => ({ tmps := t, defers := marks Ds } : Act)) h, hk, H⟩

set_option maxRecDepth 1000000 in
set_option maxHeartbeats 4000000 in
theorem fill_in (B R n w cr cf cs : Nat) (ad : Ads) (p : Int) (F S : List Int) (X : List (List Int)) (b1 o1 : Nat) (as_ : Option Addr) (W : World) (hM : MatX W B R n w ad (List.replicate n (List.replicate w 0)) X) (hF : F.length = n) (hS : S.length = w)
    (hb1 : b1 < B) (cF : ∀ i, i < F.length → W.cell? ⟨b1, o1 + i, none⟩ = some (.int .i64 (F[i]?.getD 0))) (xS : SlI W B as_ S) (hB : B ≤ W.heap.size) (hp : p = 2 ∨ p = 3) (hFr : ∀ x ∈ F, 1 ≤ x ∧ x ≤ 63) (hSa : S.Pairwise (· < ·)) (hS0 : ∀ s ∈ S, 0 ≤ s)
    (hsd : ∀ f ∈ F, ∀ x ∈ signedF f.toNat, ((x.1.val : Nat) : Int) ∈ S) (hn : n ≤ 1000) (hw : w ≤ 1000) :
    CallsIn Fence.wide 10 Try.prog 165 #[.slice (some ⟨R, 0, none⟩) n cr, .slice (some ⟨b1, o1, none⟩) n cf, .slice as_ w cs, .int .i64 p] W fun e W' => (∃ v, e = .returned v) ∧ MatX W' B R n w ad (F.map fun f => bndRow S p (signedF f.toNat)) X ∧ Below B W W' := by
  have hRW := hM.head.2
  have haW : ∀ i, i < n + X.length → (adr ad i).1 < W.heap.size := fun i hi => (hM.it.base i hi).2
  have hF0 : FillW W (((W.alloc (.cells #[.slice (some ⟨R, 0, none⟩) n cr] 56)).alloc (.cells #[.slice as_ w cs] 22)).alloc (.cells #[.int .i64 p] 2)) B R n w ad p (.slice (some ⟨R, 0, none⟩) n cr) (.slice as_ w cs) (fillM F S p w 0 []) X [] := by
    have e3 := heap_alloc_new ((W.alloc (.cells #[.slice (some ⟨R, 0, none⟩) n cr] 56)).alloc (.cells #[.slice as_ w cs] 22)) (.cells #[.int .i64 p] 2)
    rw [World.size_alloc, World.size_alloc] at e3
    have e2 := heap_alloc_new (W.alloc (.cells #[.slice (some ⟨R, 0, none⟩) n cr] 56)) (.cells #[.slice as_ w cs] 22)
    rw [World.size_alloc] at e2
    exact {
      below := ((((Below.refl _ W).alloc (Nat.le_refl _) _).alloc (by simp) _).alloc (by simp <;> omega) _).mono hB
      b4 := (Below.heap_alloc _ _ _ (by simp <;> omega)).trans ((Below.heap_alloc _ _ _ (by simp)).trans (heap_alloc_new _ _))
      b6 := (Below.heap_alloc _ _ _ (by simp <;> omega)).trans e2
      b7 := e3
      mat := by
        rw [fillM_zero hp hS, hF]
        have hk : ∀ b, b < W.heap.size → (((W.alloc (.cells #[.slice (some ⟨R, 0, none⟩) n cr] 56)).alloc (.cells #[.slice as_ w cs] 22)).alloc (.cells #[.int .i64 p] 2)).heap[b]? = W.heap[b]? := fun b hb =>
          (Below.heap_alloc _ _ _ (by simp <;> omega)).trans ((Below.heap_alloc _ _ _ (by simp <;> omega)).trans (Below.heap_alloc _ _ _ hb))
        exact hM.keep (by simp <;> omega) (hk R hRW) (fun i hi => hk _ (haW i hi))
      nodup := by simp
      marks := by simp }
  have HF0 := hid hF0
  have HFr := hid hFr
  have CF := hid cF
  have XS := hid xS
  have Hsd := hid hsd
  have HaW := hid haW
  clear hF0 hM hFr cF xS hsd haW
  refine callsIn_of_wp_marks Try.func165 rfl trivial ?_ rfl
  simp only [Try.ntmps165, List.size_toArray, List.length_cons, List.length_nil, Nat.reduceAdd, Nat.reduceSub, Array.replicate_succ, Array.replicate_zero, List.push_toArray, List.append_toArray, List.nil_append, List.cons_append]
  gi_wp2
  refine wpIn_loop (FillInv W B R n w cr cf cs b1 o1 ad p F S X as_) (fun a' _ => n - (intOf (a'.tmps.getD 14 undef)).toNat) ?start ?round
  case start => exact fillInv_of (k := 0) (Ds := []) _ _ rfl rfl (Nat.zero_le _) HF0
  case round =>
    rintro a Wk ⟨k, Ds, us, rfl, hk, HW⟩
    clear HF0
    have hsz := HW.out.size
    by_cases hlt : k < n
    · obtain ⟨x, hx⟩ : ∃ x, x = F[k]?.getD 0 := ⟨_, rfl⟩
      have hxm : x ∈ F := by rw [hx]; exact getD_mem (by omega)
      have hxr := HFr.out _ hxm
      have hck : Wk.cell? ⟨b1, o1 + k, none⟩ = some (.int .i64 x) := by rw [hx]; exact (HW.out.below.cell (p := ⟨b1, o1 + k, none⟩) hb1).trans (CF.out k (by omega))
      have Hsx := hid (Hsd.out x hxm)
      have Hx1 := hid hx
      have hi0 : (0 : Int) ≤ (k : Int) := by omega
      have hi1 : (k : Int) < (n : Int) := by omega
      obtain ⟨f, rfl⟩ : ∃ f : Nat, x = f := ⟨x.toNat, by omega⟩
      rw [Int.toNat_natCast] at Hsx
      have hf : f < 64 := by omega
      clear hx hxm
      gi_wp2_with (first
        | (refine ⟨trivial, ?_⟩; gi_at_call 203; refine (signedSides_in _ _ _).mono ?_; rintro e w' ⟨rfl, rfl⟩))
      obtain ⟨W2, hW2⟩ : ∃ W2, W2 = ((Wk.alloc (.cells #[.int .i64 (k : Int)] 3)).alloc (.cells #[.int .i64 (f : Int)] 2)) := ⟨_, rfl⟩
      have hbi : W2.heap[Wk.heap.size]? = some (.cells #[.int .i64 (k : Int)] 3 (0, 0)) := by rw [hW2]; exact (Below.heap_alloc _ _ _ (by simp)).trans (heap_alloc_new _ _)
      have hbf : W2.heap[Wk.heap.size + 1]? = some (.cells #[.int .i64 (f : Int)] 2 (0, 0)) := by rw [hW2]; have := heap_alloc_new (Wk.alloc (.cells #[.int .i64 (k : Int)] 3)) (.cells #[.int .i64 (f : Int)] 2); rwa [World.size_alloc] at this
      have hs2 : W2.heap.size = Wk.heap.size + 2 := by rw [hW2]; simp
      have hFW2 : FillW W W2 B R n w ad p (.slice (some ⟨R, 0, none⟩) n cr) (.slice as_ w cs) (fillM F S p w k []) X Ds := by
        rw [hW2]
        exact (HW.out.turn hB hRW HaW.out (World.grownBy_alloc Wk _ none) (fun r e => by cases e)).turn hB hRW HaW.out (World.grownBy_alloc _ _ none) (fun r e => by cases e)
      have hDs : ∀ D ∈ Ds, D < Wk.heap.size := fun D hD => lt_of_get (HW.out.marks D hD).2
      have HDs := hid hDs
      rw [← hW2]
      clear hW2 HW hck hDs
      refine wpIn_rangeFunc_P rfl (by decide) (gf := 220) (lb := #[.pointer (some ⟨Wk.heap.size + 1, 0, none⟩)]) rfl trivial (enters_of Try.func220 (by kernel_rfl) rfl)
        (signed_P 9 (by decide) (Wk.heap.size + 1) f hf W2 (by omega) hbf) (by simp; omega) (Below.refl _ _) (fun _ => rfl)
        (fun pre W' => FillW W W' B R n w ad p (.slice (some ⟨R, 0, none⟩) n cr) (.slice as_ w cs) (fillM F S p w k pre) X Ds ∧ W'.heap[Wk.heap.size]? = some (.cells #[.int .i64 (k : Int)] 3 (0, 0)))
        (fun _ _ _ => False)
        (OwnIn.and (fill_ownIn hB hRW HaW.out (by omega) (fun D hD => by have := HDs.out D hD; omega)) (ownIn_block (β := List (Fin 64 × Int)) (fun _ => _) (by omega)))
        (fun _ => ownIn_pure _ _ _)
        ⟨hFW2, hbi⟩
        (fun x => { tmps := #[.slice (some ⟨R, 0, none⟩) n cr, .slice (some ⟨b1, o1, none⟩) n cf, .slice as_ w cs, .int .i64 p, .pointer (some ⟨W.heap.size, 0, none⟩), undef, .pointer (some ⟨W.heap.size + 1, 0, none⟩), .pointer (some ⟨W.heap.size + 1 + 1, 0, none⟩), .pointer (some ⟨Wk.heap.size, 0, none⟩), .int .i64 (f : Int), .int .i64 (x.1.val : Int), .int .i64 x.2, .slice (some ⟨b1, o1, none⟩) n cf, .int .i64 (n : Int), .int .i64 (k : Int), .bool true, .int .i64 (k : Int), .pointer (some ⟨b1, o1 + k, none⟩), .int .i64 (f : Int), .int .i64 (f : Int), .func (.func 220) #[] #[.pointer (some ⟨Wk.heap.size + 1, 0, none⟩)], .int .i64 (x.1.val : Int), .int .i64 x.2, us 23, us 24, us 25, us 26, us 27, us 28, us 29, us 30, us 31, us 32, us 33, us 34, us 35, us 36], defers := [] }) ?assign ?body ?done ?stop
      case assign =>
        intro l x W3 K hK
        gi_wp2
        exact hK
      case body =>
        rintro l pre x W3 hpre hsz3 ⟨hW3, hb8⟩
        have hxm : x ∈ signedF f := by
          obtain ⟨t, ht⟩ := hpre
          rw [← ht]; simp
        have hss := (signed_sub ⟨f, hf⟩ x hxm).2.2.2
        have hmS := Hsx.out x hxm
        have hnew := nodup_snoc (signed_nodup ⟨f, hf⟩) hpre
        have hst := fillM_snoc (F := F) (w := w) (p := p) (k := k) (by omega) hSa hS0 hnew hmS
        have hil := List.idxOf_lt_length_of_mem hmS
        have hq := HI_of as_ cs S ((x.1.val : Nat) : Int) W3.drew B (XS.out.below (below_drewN hW3.below 1)) (by have := hW3.size; simp; omega) (by omega) hmS
        rw [hS] at hq hil
        obtain ⟨q, hqq⟩ : ∃ q, q = S.idxOf ((x.1.val : Nat) : Int) := ⟨_, rfl⟩
        rw [← hqq] at hst hil hq
        obtain ⟨c4, _⟩ := box_cell hW3.b4
        obtain ⟨c6, _⟩ := box_cell hW3.b6
        obtain ⟨c7, _⟩ := box_cell hW3.b7
        obtain ⟨c8, _⟩ := box_cell hb8
        obtain ⟨ek, crow⟩ := (hW3.mat.hd k hlt).1
        obtain ⟨cst, fst_⟩ := hW3.mat.at hlt hil
        obtain ⟨v, hv⟩ : ∃ v, v = (x.2 + p) % p := ⟨_, rfl⟩
        rw [← hv] at hst
        have hsum : IntKind.i64.wrap (x.2 + p) = x.2 + p := IntWalk.i64_in _ (by omega)
        have hrem : (x.2 + p).tmod p = v := by rw [hv, Int.tmod_eq_emod_of_nonneg (by omega)]
        have hpn : ¬ (p = 0) := by omega
        have hq0 : (0 : Int) ≤ (q : Int) := by omega
        have hq1 : (q : Int) < (w : Int) := by omega
        have hset := hW3.set1 HaW.out hlt hil v
        rw [← hst] at hset
        have Hset := hid hset
        have HQ := hid hq
        have Hb8 := hid hb8
        have Hsz3 := hid hsz3
        have HbR := hid (HaW.out k (by omega))
        clear hpre hxm hmS hnew hst hv hqq hset hq hb8 hW3 hsz3
        gi_wp2
        refine wpIn_round_tail 13 (by kernel_rfl) (by kernel_rfl) (by kernel_rfl) ?_
        simp only [List.take_succ_cons, List.take_zero, List.drop_succ_cons, List.drop_zero]
        iterate 6 still_step
        still_call HQ.out
        iterate 6 still_step
        refine wpStill_nil ?_
        go_wp2
        refine ⟨rfl, ?_, ?_, ?_⟩
        · exact (KeepP.setCell _ _ _ _ (by have := HbR.out; simp <;> omega)).trans ⟨Nat.le_refl _, fun _ _ => rfl⟩
        · exact Hset.out.turn hB hRW HaW.out (grown_drewN _ 1) (fun r e => by cases e)
        · exact (Below.heap_setCell _ _ _ _ (by have := HbR.out; simp only; omega)).trans Hb8.out
      case done =>
        rintro W3 ⟨hW3, hb8⟩ hD
        have hWm := hW3.mark hD (by omega) (fun hm => by have := HDs.out _ hm; omega)
        have hnx := fillM_next (F := F) (S := S) (p := p) (w := w) (k := k) hp hS
        rw [← Hx1.out, Int.toNat_natCast] at hnx
        have hWm' : FillW W W3 B R n w ad p (.slice (some ⟨R, 0, none⟩) n cr) (.slice as_ w cs) (fillM F S p w (k + 1) []) X (W2.heap.size :: Ds) := by
          rw [← hnx]; exact hWm
        have HWm := hid hWm'
        clear hWm hWm' hnx hW3 hb8 hD
        gi_wp2
        refine ⟨fillInv_of (k := k + 1) (Ds := W2.heap.size :: Ds) _ _ rfl rfl (by omega) HWm, ?_⟩
        simp [intOf]
        omega
      case stop =>
        rintro c pre W3 hpre hF hD
        exact hF.elim
    · obtain rfl : k = n := by omega
      have hMd := HW.out.mat
      rw [show fillM F S p w k [] = F.map (fun f => bndRow S p (signedF f.toNat)) by rw [← hF]; exact fillM_done] at hMd
      have HMd := hid hMd
      clear hMd
      gi_wp2
      refine leaves_marks (by simp) Ds _ HW.out.nodup (fun D hD => (HW.out.marks D hD).2) (fun w' hw' => ?_)
      refine ⟨_, results_none rfl _ _ _, ⟨_, rfl⟩, ?_, HW.out.below.trans (hw'.below (fun D hD => by have := (HW.out.marks D hD).1; omega))⟩
      exact HMd.out.keep (by rw [hw'.size]; exact Nat.le_refl _) (hw'.block _ (fun hm => by have := (HW.out.marks _ hm).1; omega)) (fun i hi => hw'.block _ (fun hm => by have := (HW.out.marks _ hm).1; have := HaW.out i hi; omega))

end Go.Proofs.Ytbhdipljhelddaa

/-! The model's l03Rank. -/
namespace Go.Proofs.Ytbhdipljhelddaa
open Go.RowKit
open Go.Sort hiding Below

/-- What the search for a row has found ahead of row i. -/
def Best (M : List (List Int)) (r c i : Nat) (v : Value) : Prop :=
  (v = .int .i64 (-1) ∧ ∀ i', r ≤ i' → i' < i → ent M i' c = 0) ∨ (∃ b : Nat, v = .int .i64 (b : Int) ∧ r ≤ b ∧ b < i ∧ ent M b c ≠ 0 ∧ ∀ i', r ≤ i' → i' < b → ent M i' c = 0)

def swapA (ad : Ads) (r i : Nat) : Ads := (ad.set r (adr ad i)).set i (adr ad r)
theorem adr_swap_r {ad : Ads} {r i : Nat} (hr : r < ad.length) (hi : i < ad.length) : adr (swapA ad r i) r = adr ad i := by
  unfold swapA adr
  by_cases e : i = r
  · subst e; rw [List.getElem?_set_self (by simpa using hi)]; simp
  · rw [List.getElem?_set_ne e, List.getElem?_set_self hr]; simp

theorem cells_set2 {W : World} {R a b k : Nat} {u v : Value} (ha : (W.cell? ⟨R, a, none⟩).isSome) (hb : (W.cell? ⟨R, b, none⟩).isSome) :
    ((W.setCell ⟨R, a, none⟩ u).setCell ⟨R, b, none⟩ v).cell? ⟨R, k, none⟩ = if k = b then some v else if k = a then some u else W.cell? ⟨R, k, none⟩ := by
  have h1 : ((W.setCell ⟨R, a, none⟩ u).cell? ⟨R, b, none⟩).isSome := by
    by_cases e : b = a
    · subst e; rw [World.cell?_setCell_same' _ _ _ ha]; rfl
    · rw [World.cell?_setCell_other _ _ _ _ (by simp <;> omega)]; exact hb
  by_cases e : k = b
  · subst e; rw [if_pos rfl, World.cell?_setCell_same' _ _ _ h1]
  · rw [if_neg e, World.cell?_setCell_other _ _ _ _ (by simp <;> omega)]
    by_cases e2 : k = a
    · subst e2; rw [if_pos rfl, World.cell?_setCell_same' _ _ _ ha]
    · rw [if_neg e2, World.cell?_setCell_other _ _ _ _ (by simp <;> omega)]

/-- Row i's slice is put at place i', and row i' s at place i: in this order. -/
theorem MatW.swap2 {W : World} {B R n w : Nat} {ad : Ads} {M : List (List Int)} (h : MatW W B R n w ad M) {r i ei er : Nat} (hr : r < n) (hi : i < n) (hci : W.cell? ⟨R, i, none⟩ = some (.slice (some ⟨(adr ad i).1, (adr ad i).2, none⟩) w ei)) (hcr : W.cell? ⟨R, r, none⟩ = some (.slice (some ⟨(adr ad r).1, (adr ad r).2, none⟩) w er)) :
    MatW ((W.setCell ⟨R, i, none⟩ (.slice (some ⟨(adr ad r).1, (adr ad r).2, none⟩) w er)).setCell ⟨R, r, none⟩ (.slice (some ⟨(adr ad i).1, (adr ad i).2, none⟩) w ei)) B R n w (swapA ad r i) (swapR M r i) := by
  refine h.swap hr hi (by simp [World.setCell]) (fun b hb => ?_) (fun k hk => ⟨?_, ?_⟩)
  · rw [Below.heap_setCell _ _ _ _ (by simpa using hb), Below.heap_setCell _ _ _ _ (by simpa using hb)]
  · rw [cells_set2 (by rw [hci]; rfl) (by rw [hcr]; rfl)]
    by_cases e2 : k = r
    · by_cases e1 : k = i
      · exact ⟨ei, by subst e1; subst e2; simp⟩
      · exact ⟨ei, by rw [if_pos e2, if_neg e1, if_pos e2]⟩
    · by_cases e1 : k = i
      · exact ⟨er, by rw [if_neg e2, if_pos e1, if_pos e1]⟩
      · obtain ⟨ek, hk2⟩ := (h.hd k hk).1
        exact ⟨ek, by rw [if_neg e2, if_neg e1, if_neg e1, if_neg e2]; exact hk2⟩
  · rw [World.frozen?_setCell, World.frozen?_setCell]; exact (h.hd k hk).2

theorem below_ahead {B : Nat} {a W : World} (h : Below B a W) (m : Nat) : Below B a (Sort.ahead W m) := h.trans ⟨rfl, rfl, rfl, Nat.le_refl _, fun _ _ => rfl⟩
theorem below_put {B : Nat} {a W : World} (h : Below B a W) (m blk off : Nat) (l : List Int) (hb : B ≤ blk) : Below B a (putRow encI (Sort.ahead W m) blk off l.toArray) := by
  exact ⟨h.os, h.tape, h.output, by simpa using h.size, fun k hk => by
    have : blk ≠ k := by omega
    rw [← h.block k hk]
    simp [putRow, mapBlock, Sort.ahead, Array.getElem?_modify, this]⟩

theorem ent_swap {p : Int} {n w : Nat} {M : List (List Int)} (hG : MatG p n w M) {r b : Nat} (hr : r < n) (hb : b < n) (k j : Nat) :
    ent (swapR M r b) k j = if k = b then ent M r j else if k = r then ent M b j else ent M k j := by
  unfold ent swapR
  by_cases e1 : k = b
  · subst e1; rw [List.getElem?_set_self (by simp [hG.len]; omega), if_pos rfl]; simp
  · rw [if_neg e1, List.getElem?_set_ne (fun e => e1 e.symm)]
    by_cases e2 : k = r
    · subst e2; rw [List.getElem?_set_self (by simp [hG.len]; omega), if_pos rfl]; simp
    · rw [if_neg e2, List.getElem?_set_ne (fun e => e2 e.symm)]
theorem zeros_swap {p : Int} {n w r b c : Nat} {M : List (List Int)} (hG : MatG p n w M) (hr : r < n) (hb : b < n) (hrb : r ≤ b) (hZ : ZerosTo M r c) (hne : ent M b c ≠ 0) :
    ZerosTo (swapR M r b) r c ∧ ent (swapR M r b) r c ≠ 0 := by
  constructor
  · intro i j h1 h2 h3
    rw [swapR_len] at h2
    rw [ent_swap hG hr hb]
    split
    · exact hZ r j (Nat.le_refl _) (by rw [hG.len]; exact hr) h3
    · split
      · exact hZ b j hrb (by rw [hG.len]; exact hb) h3
      · exact hZ i j h1 h2 h3
  · rw [ent_swap hG hr hb]
    split
    · rename_i e; rw [e]; exact hne
    · rw [if_pos rfl]; exact hne

theorem zeros_sweep {p : Int} {n w r c : Nat} {M : List (List Int)} (hp : p = 2 ∨ p = 3) (hG : MatG p n w M) (hr : r < n) (hZ : ZerosTo M r c) (hc : c < w) (hne : ent M r c ≠ 0) : ZerosTo (sweepTo p c r n M) (r + 1) (c + 1) := by
  intro i j h1 h2 h3
  rw [sweepTo_len, hG.len] at h2
  unfold ent
  rw [sweepTo_get (by rw [hG.len]; exact h2), if_pos ⟨by omega, h2⟩, clr_get (hG.rowLen h2) (hG.rowLen hr) (by omega)]
  have ea := hG.ent h2 hc
  have eb := hG.ent hr hc
  by_cases e : j = c
  · subst e
    exact clear_one hp ea.1 ea.2 eb.1 eb.2 hne
  · have z1 := hZ i j (by omega) (by rw [hG.len]; exact h2) (by omega)
    have z2 := hZ r j (Nat.le_refl _) (by rw [hG.len]; exact hr) (by omega)
    unfold ent at z1 z2
    rw [z1, z2]
    simp

theorem part_start {p : Int} {c w : Nat} {row own : List Int} (h1 : row.length = w) (h2 : own.length = w) (hz : ∀ j, j < c → own[j]?.getD 0 = 0) (hr : ∀ x ∈ row, 0 ≤ x ∧ x < p) (hc : c ≤ w) : part p c row own c = row := by
  have hl := clr_len (p := p) (c := c) h1 h2
  apply List.ext_getElem?
  intro i
  unfold part
  by_cases hi : i < c
  · rw [List.getElem?_append_left (by simp; omega), List.getElem?_take_of_lt hi]
    have e := clr_get (p := p) (c := c) h1 h2 (show i < w by omega)
    rw [hz i hi] at e
    have hm := hr _ (getD_memL (d := 0) (show i < row.length by omega))
    rw [List.getElem?_eq_getElem (by omega), List.getElem?_eq_getElem (by omega : i < row.length)] at *
    simp only [Option.getD_some] at e hm
    rw [e]
    simp only [Int.mul_zero, Int.add_zero]
    rw [Int.emod_eq_of_lt hm.1 hm.2]
  · rw [List.getElem?_append_right (by simp; omega)]
    have : (List.take c (clr p c row own)).length = c := by simp; omega
    rw [this, List.getElem?_drop, Nat.add_sub_cancel' (by omega)]

set_option maxRecDepth 1000000 in
set_option maxHeartbeats 4000000 in
theorem rankS_any (B R n w cap : Nat) (ad : Ads) (p : Int) (M : List (List Int)) (W : World) (hM : MatW W B R n w ad M) (hG : MatG p n w M) (hp : p = 2 ∨ p = 3) (hn0 : 0 < n) (hn : n ≤ 1048576) (hw : w ≤ 1048576) :
    Calls Try.prog 99 #[.slice (some ⟨R, 0, none⟩) n cap, .int .i64 p] W fun e W' => e = .returned (.int .i64 (elimR p w 0 0 M : Int)) ∧ Below B W W' := by
  have hg0 : decide (0 < n) = true := decide_eq_true hn0
  obtain ⟨E, hE⟩ : ∃ E, E = elimR p w 0 0 M := ⟨_, rfl⟩
  rw [← hE]
  have HM := hid hM
  have HG := hid hG
  have HE := hid hE
  have HP := hid hp
  clear hM hG hE hp
  go_enter Try.func99, Try.ntmps99
  go_wp2
  go_loopw [5, 6] (fun s5 s6 wr => ∃ (r c : Nat) (M : List (List Int)) (ad : Ads), s5 = .int .i64 r ∧ s6 = .int .i64 c ∧ r ≤ n ∧ c ≤ w ∧ Hid (MatW wr B R n w ad M) ∧ Hid (MatG p n w M) ∧ Hid (ZerosTo M r c) ∧ Hid (E = elimR p (w - c) r c M) ∧ Hid (Below B W wr)) (fun _ s6 _ => w - (intOf s6).toNat)
  case atStart => exact ⟨0, 0, M, ad, rfl, rfl, by omega, by omega, HM, HG, hid (fun i j _ _ hj => by omega), HE, hid (Below.refl _ _)⟩
  case round =>
    clear HM HG HE
    obtain ⟨r, c, M, ad, rfl, rfl, hr, hc, HM, HG, HZ, HE, HB⟩ := hrel
    obtain ⟨wo, rfl⟩ : ∃ wo : World, wo = wr := ⟨_, rfl⟩
    obtain ⟨e0, c0⟩ := (HM.out.hd 0 hn0).1
    by_cases hlt : c < w
    · have hlt' : (c : Int) < (w : Int) := by omega
      go_wp2
      go_loopw [7, 8] (fun s7 s8 wx => ∃ (i : Nat), s8 = .int .i64 i ∧ r ≤ i ∧ i ≤ n ∧ Hid (Best M r c i s7) ∧ wx = wo) (fun _ s8 _ => n - (intOf s8).toNat)
      case atStart => exact ⟨r, rfl, Nat.le_refl _, hr, hid (.inl ⟨rfl, fun i' h1 h2 => by omega⟩), rfl⟩
      case round =>
        obtain ⟨i, rfl, hri, hin, Hb, rfl⟩ := hrel
        clear c0
        rcases Hb.out with ⟨rfl, hz⟩ | ⟨b, rfl, hrb, hbi, hne, hz⟩
        · by_cases hin' : i < n
          · have hii : (i : Int) < (n : Int) := by omega
            have hi0 : (0 : Int) ≤ (i : Int) := by omega
            have hc0 : (0 : Int) ≤ (c : Int) := by omega
            obtain ⟨ei, ci⟩ := (HM.out.hd i hin').1
            have cx := (HM.out.at hin' hlt).1
            have Hz := hid hz
            clear hz Hb
            by_cases hx : ent M i c = 0
            · have Hb' : Hid (Best M r c (i + 1) (.int .i64 (-1))) := hid (.inl ⟨rfl, fun i' h1 h2 => by
                by_cases e : i' = i
                · rw [e]; exact hx
                · exact Hz.out i' h1 (by omega)⟩)
              rw [hx] at cx
              clear hx
              go_wp2
              go_roundw
              case rel => exact ⟨i + 1, by go_num, by omega, by omega, Hb', trivial⟩
              case measure => simp [intOf]; omega
            · have Hb' : Hid (Best M r c (i + 1) (.int .i64 (i : Int))) := hid (.inr ⟨i, rfl, hri, by omega, hx, Hz.out⟩)
              have hd : (ent M i c != 0) = true := by simpa using hx
              obtain ⟨x, hxx⟩ : ∃ x, x = ent M i c := ⟨_, rfl⟩
              rw [← hxx] at cx hd
              clear hx hxx
              go_wp2
              go_roundw
              case rel => exact ⟨i + 1, by go_num, by omega, by omega, Hb', trivial⟩
              case measure => simp [intOf]; omega
          · obtain rfl : i = n := by omega
            have He : Hid (E = elimR p (w - (c + 1)) r (c + 1) M) := hid (by
              have h1 := HE.out
              rw [show w - c = (w - (c + 1)) + 1 by omega, elim_none (fun i' h1 h2 => hz i' h1 (by rw [← HG.out.len]; exact h2))] at h1
              exact h1)
            have HZ' : Hid (ZerosTo M r (c + 1)) := hid (fun i' j h1 h2 h3 => by
              by_cases e : j = c
              · rw [e]; exact hz i' h1 (by rw [← HG.out.len]; exact h2)
              · exact HZ.out i' j h1 h2 (by omega))
            clear hz Hb
            go_wp2
            go_roundw
            case rel => exact ⟨r, c + 1, M, ad, rfl, by go_num, hr, by omega, HM, HG, HZ', He, HB⟩
            case measure => simp [intOf]; omega
        · have hbn : b < n := by omega
          have hrn : r < n := by omega
          have hbi0 : (0 : Int) ≤ (b : Int) := by omega
          have hbi1 : (b : Int) < (n : Int) := by omega
          have hri0 : (0 : Int) ≤ (r : Int) := by omega
          have hri1 : (r : Int) < (n : Int) := by omega
          obtain ⟨⟨eb, cb⟩, fb⟩ := HM.out.hd b hbn
          obtain ⟨⟨er, cr⟩, fr⟩ := HM.out.hd r hrn
          have HM2 := hid (HM.out.swap2 hrn hbn cb cr)
          have HG2 := hid (swapR_good HG.out hrn hbn)
          have Har := hid (adr_swap_r (ad := ad) (r := r) (i := b) (by rw [HM.out.adl]; exact hrn) (by rw [HM.out.adl]; exact hbn))
          obtain ⟨v', cr2⟩ := cell?_setCell_some (w := wr) (p := ⟨R, b, none⟩) (x := .slice (some ⟨(adr ad r).1, (adr ad r).2, none⟩) w er) (q := ⟨R, r, none⟩) (v := _) cr
          have HE2 : Hid (E = elimR p (w - (c + 1)) (r + 1) (c + 1) (sweepTo p c r n (swapR M r b))) := hid (by
            have h1 := HE.out
            rw [show w - c = (w - (c + 1)) + 1 by omega, elim_some hrb (by rw [HG.out.len]; exact hbn) hne hz, HG.out.len] at h1
            exact h1)
          have hRb := HM.out.head
          have HB2 : Hid (Below B W ((wr.setCell ⟨R, b, none⟩ (.slice (some ⟨(adr ad r).1, (adr ad r).2, none⟩) w er)).setCell ⟨R, r, none⟩ (.slice (some ⟨(adr ad b).1, (adr ad b).2, none⟩) w eb))) := hid ((HB.out.setCell (p := ⟨R, b, none⟩) hRb.1 _).setCell (p := ⟨R, r, none⟩) hRb.1 _)
          have HZ2 : Hid (ZerosTo (swapR M r b) r c ∧ ent (swapR M r b) r c ≠ 0) := hid (zeros_swap HG.out hrn hbn hrb HZ.out hne)
          clear Hb hz hne HM HG HE HZ HB hRb
          by_cases hin' : i < n
          all_goals
            have hdin : decide (i < n) = decide (i < n) := rfl
            clear hdin
            go_wp2
            go_loopw [10] (fun s10 wx => ∃ (i : Nat), s10 = .int .i64 i ∧ r + 1 ≤ i ∧ i ≤ n ∧ Hid (MatW wx B R n w (swapA ad r b) (sweepTo p c r i (swapR M r b))) ∧ Hid (Below B W wx)) (fun s10 _ => n - (intOf s10).toNat)
            case atStart => exact ⟨r + 1, by go_num, Nat.le_refl _, by omega, hid (by rw [sweepTo_none (Nat.le_refl _)]; exact HM2.out), HB2⟩
            case round =>
              clear HM2 HB2 cb fb cr fr cr2
              obtain ⟨i3, rfl, hri3, hin3, HM3, HB3⟩ := hrel
              by_cases hlt3 : i3 < n
              · have hi30 : (0 : Int) ≤ (i3 : Int) := by omega
                have hi31 : (i3 : Int) < (n : Int) := by omega
                have hc0 : (0 : Int) ≤ (c : Int) := by omega
                obtain ⟨e3, c3⟩ := (HM3.out.hd i3 hlt3).1
                have l2 : (swapR M r b).length = n := HG2.out.len
                have hrow : (sweepTo p c r i3 (swapR M r b))[i3]?.getD [] = (swapR M r b)[i3]?.getD [] := sweepTo_later (by rw [l2]; exact hlt3)
                have hown : (sweepTo p c r i3 (swapR M r b))[r]?.getD [] = (swapR M r b)[r]?.getD [] := sweepTo_pivot (by rw [l2]; exact hrn)
                have h1 := HM3.out.row i3 hlt3
                have h2 := HM3.out.row r hrn
                have hap := HM3.out.apart i3 r hlt3 hrn (by omega)
                have hbs := (HM3.out.base i3 hlt3).1
                rw [hrow] at h1
                rw [hown, Har] at h2
                rw [Har] at hap
                have l1 := HG2.out.rowLen hlt3
                have lo := HG2.out.rowLen hrn
                have hz4 := HZ2.out.1
                have r1 := HG2.out.rng _ (HG2.out.row hlt3)
                have r2 := HG2.out.rng _ (HG2.out.row hrn)
                have hsn := sweepTo_succ (p := p) (c := c) (r := r) (k := i3) (M := swapR M r b) (by omega)
                obtain ⟨row, hrw⟩ : ∃ row, row = (swapR M r b)[i3]?.getD [] := ⟨_, rfl⟩
                obtain ⟨own, how⟩ : ∃ own, own = (swapR M r b)[r]?.getD [] := ⟨_, rfl⟩
                rw [← hrw] at h1 l1 r1 hsn
                rw [← how] at h2 lo r2 hsn
                have hzo : ∀ j, j < c → own[j]?.getD 0 = 0 := fun j hj => by rw [how]; exact hz4 r j (Nat.le_refl _) (by rw [l2]; exact hrn) hj
                have hp := HP.out
                obtain ⟨cx, _⟩ := holds_at h1 (i := c) (by omega)
                obtain ⟨cy, _⟩ := holds_at h2 (i := c) (by omega)
                have rx := r1 _ (getD_memL (d := 0) (show c < row.length by omega))
                have ry := r2 _ (getD_memL (d := 0) (show c < own.length by omega))
                obtain ⟨x0, hx0⟩ : ∃ x, x = row[c]?.getD 0 := ⟨_, rfl⟩
                obtain ⟨y0, hy0⟩ : ∃ y, y = own[c]?.getD 0 := ⟨_, rfl⟩
                rw [← hx0] at cx rx
                rw [← hy0] at cy ry
                have hm := small_mul hp rx.1 rx.2 ry.1 ry.2
                obtain ⟨t, ht⟩ : ∃ t, t = (x0 * y0) % p := ⟨_, rfl⟩
                have hmul : IntKind.i64.wrap (x0 * y0) = x0 * y0 := IntWalk.i64_in _ (by omega)
                have hrem : (x0 * y0).tmod p = t := by rw [ht, Int.tmod_eq_emod_of_nonneg hm.1]
                have htr : 0 ≤ t ∧ t < p := by rw [ht]; exact mod_rng hp
                have hp0 : (p == 0) = false := by rcases hp with rfl | rfl <;> rfl
                have Hst := hid (part_start (p := p) l1 lo hzo r1 (by omega))
                have HX := hid hx0
                have HY := hid hy0
                have HT := hid ht
                have H1 := hid h1
                have H2 := hid h2
                have R1 := hid r1
                have R2 := hid r2
                have Hsn := hid hsn
                have Hap := hid hap
                have Hrow := hid hrow
                have HPp := hid hp
                clear hx0 hy0 ht h1 h2 r1 r2 hsn hap hrow hown hrw how hzo hz4 hp l2
                obtain ⟨w3, rfl⟩ : ∃ w3 : World, w3 = wr := ⟨_, rfl⟩
                go_wp2
                go_quiet (fail)
                go_wp2
                clear hmul hrem cx cy hm rx ry
                go_loopw [13] (fun s13 wx => ∃ (j m : Nat), s13 = .int .i64 j ∧ c ≤ j ∧ j ≤ w ∧ Aside (wx = putRow encI (Sort.ahead w3 m) (adr (swapA ad r b) i3).1 (adr (swapA ad r b) i3).2 (part p c row own j).toArray)) (fun s13 _ => w - (intOf s13).toNat)
                case atStart => exact ⟨c, nq, rfl, Nat.le_refl _, by omega, by rw [Hst.out]; exact (Sort.putRow_self encI _ _ _ _ (Sort.holds_ahead encI _ nq _ _ _ H1.out)).symm⟩
                case round =>
                  obtain ⟨j, m, rfl, hcj, hjw, A⟩ := hrel
                  by_cases hltj : j < w
                  · have hHk : Sort.Holds encI wr (adr (swapA ad r b) i3).1 (adr (swapA ad r b) i3).2 (part p c row own j).toArray := by rw [A.out]; exact Sort.holds_putRow encI _ _ _ _ _ (Sort.holds_ahead encI _ m _ _ _ H1.out) (by simp [part_len l1 lo hjw, l1])
                    obtain ⟨cq, fq⟩ := holds_at hHk (i := j) (by rw [part_len l1 lo hjw]; exact hltj)
                    rw [part_at l1 lo hltj] at cq
                    obtain ⟨cb0, _⟩ := holds_at H2.out (i := j) (by omega)
                    have cs : wr.cell? ⟨(adr ad b).1, (adr ad b).2 + j, none⟩ = some (.int .i64 (own[j]?.getD 0)) := by
                      rw [A.out, Sort.cell?_putRow_other _ _ _ _ _ _ (by have := Hap.out; simp [part_len l1 lo hjw]; omega)]
                      exact cb0
                    have hp := HPp.out
                    have ra := R1.out _ (getD_memL (d := 0) (show j < row.length by omega))
                    have rb := R2.out _ (getD_memL (d := 0) (show j < own.length by omega))
                    have hps := part_succ (p := p) (c := c) l1 lo hltj
                    have hpl := part_len (p := p) (c := c) l1 lo hjw
                    obtain ⟨aa, ha⟩ : ∃ a, a = row[j]?.getD 0 := ⟨_, rfl⟩
                    obtain ⟨bb, hb⟩ : ∃ b, b = own[j]?.getD 0 := ⟨_, rfl⟩
                    rw [← ha] at cq ra hps
                    rw [← hb] at cs rb hps
                    rw [← HX.out, ← HY.out, ← HT.out] at hps
                    have hm := small_mul' hp htr rb
                    obtain ⟨vv, hv⟩ : ∃ v, v = (aa + (p - t) * bb) % p := ⟨_, rfl⟩
                    rw [← hv] at hps
                    have hrem : (aa + (p - t) * bb).tmod p = vv := by rw [hv, Int.tmod_eq_emod_of_nonneg (by omega)]
                    have hadd : IntKind.i64.wrap (aa + (p - t) * bb) = aa + (p - t) * bb := IntWalk.i64_in _ (by omega)
                    have hmul : IntKind.i64.wrap ((p - t) * bb) = (p - t) * bb := IntWalk.i64_in _ (by omega)
                    have hsub : IntKind.i64.wrap (p - t) = p - t := IntWalk.i64_in _ (by omega)
                    have hj0 : (0 : Int) ≤ (j : Int) := by omega
                    have hj1 : (j : Int) < (w : Int) := by omega
                    have Hps := hid hps
                    have Hpl := hid hpl
                    clear hHk ha hb hv cb0 hm hps hpl hp
                    go_wp2_with fail
                    go_region
                    go_wp2
                    go_roundw
                    case measure => simp [intOf]; omega
                    case rel => exact ⟨j + 1, m + 1, by go_num, by omega, by omega, by rw [Hps.out, ← putRow_at _ _ _ _ _ _ _ (by rw [Hpl.out]; exact hltj), ← Sort.ahead_drew, ← Sort.putRow_drew, ← A.out]; rfl⟩
                  · obtain rfl : j = w := by omega
                    have hM4 : Hid (MatW wr B R n j (swapA ad r b) (sweepTo p c r (i3 + 1) (swapR M r b))) := hid (by
                      have := HM3.out.put hlt3 m (row := clr p c row own) (clr_len l1 lo)
                      rw [← Hsn.out] at this
                      rw [A.out, part_all l1 lo]
                      exact this)
                    have hB4 : Hid (Go.RowKit.Below B W wr) := hid (by rw [A.out]; exact below_put HB3.out m _ _ _ hbs)
                    clear hp0 htr
                    go_wp2
                    go_roundw
                    case rel => exact ⟨i3 + 1, by go_num, by omega, by omega, hM4, hB4⟩
                    case measure => simp [intOf]; omega
              · obtain rfl : i3 = n := by omega
                have HG4 := hid (sweepTo_good (c := c) (r := r) (k := i3) HG2.out (by rcases HP.out with h | h <;> omega) hrn)
                have HZ4 := hid (zeros_sweep HP.out HG2.out hrn HZ2.out.1 hlt HZ2.out.2)
                go_wp2
                go_roundw
                case rel => exact ⟨r + 1, c + 1, _, _, by go_num, by go_num, by omega, by omega, HM3, HG4, HZ4, HE2, HB3⟩
                case measure => simp [intOf]; omega
    · obtain rfl : c = w := by omega
      have He : Hid (E = r) := hid (by have := HE.out; rwa [Nat.sub_self] at this)
      go_wp2
      go_ret
      exact ⟨ret_int (by rw [He.out]), HB.out⟩

end Go.Proofs.Ytbhdipljhelddaa
