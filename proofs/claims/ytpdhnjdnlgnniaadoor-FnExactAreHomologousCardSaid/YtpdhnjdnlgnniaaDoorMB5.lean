import Derived.Defers
import Derived.Recover
import Derived.Laws.Pointers
import Derived.Test.YtpdhnjdnlgnniaaDoorMB1
import Derived.Test.YtpdhnjdnlgnniaaDoorMB2
import Derived.Test.YtpdhnjdnlgnniaaDoorMB3
import Derived.Test.YtpdhnjdnlgnniaaDoorMB4
/-! l03Bounds: the model's test whether a chain bounds. -/
namespace Go.Proofs.YtpdhnjdnlgnniaaDoor
open Go.RowKit Go.Shelf
open Go.Sort hiding Below

theorem cntL_pos {p : Int} {S : (Nat → Int) → Prop} : ∀ (k c c' : Nat), c ≤ c' → c' < c + k → Lead p S c' → 1 ≤ cntL p S k c
  | 0, _, _, h1, h2, _ => by omega
  | k + 1, c, c', h1, h2, h => by
    rw [cntL]
    by_cases e : c' = c
    · rw [if_pos (e ▸ h)]; omega
    · have := cntL_pos k (c + 1) c' (by omega) (by omega) h
      omega
/-- A row with a number other than 0 has the rank 1. -/
theorem elim_row {w : Nat} {row : List Int} (hl : row.length = w) (hr : ∀ x ∈ row, 0 ≤ x ∧ x < 2) {j : Nat} (hj : j < w) (hne : row[j]?.getD 0 ≠ 0) : elimR 2 w 0 0 [row] ≠ 0 := by
  have hG : MatG 2 1 w [row] := ⟨rfl, fun r hm => by simp at hm; rw [hm]; exact hl, fun r hm => by simp at hm; rw [hm]; exact hr⟩
  have he : ∀ i, ent [row] 0 i = row[i]?.getD 0 := fun i => rfl
  rw [elim_lead (.inl rfl) w 0 0 [row] hG (fun i j _ _ hj => by omega) (by omega)]
  have hlead : ∃ c, c < w ∧ Lead 2 (RowsOf [row] 0) c := by
    suffices h : ∀ n, n ≤ w → (∃ c, c < w ∧ Lead 2 (RowsOf [row] 0) c) ∨ ∀ i, i < n → row[i]?.getD 0 = 0 by
      rcases h w (Nat.le_refl _) with h | h
      · exact h
      · exact absurd (h j hj) hne
    intro n
    induction n with
    | zero => exact fun _ => .inr (fun i hi => by omega)
    | succ n ih =>
      intro hn
      rcases ih (by omega) with h | h
      · exact .inl h
      · by_cases e : row[n]?.getD 0 = 0
        · exact .inr (fun i hi => by
            by_cases e2 : i = n
            · rw [e2]; exact e
            · exact h i (by omega))
        · refine .inl ⟨n, by omega, fun i => ent [row] 0 i, .mem ⟨0, Nat.le_refl _, by simp, rfl⟩, fun i hi => ?_, ?_⟩
          · simp only [he]; rw [h i hi]; exact Int.dvd_zero _
          · have := hr _ (getD_memL (d := 0) (show n < row.length by omega))
            exact not_dvd this.1 this.2 e
  obtain ⟨c, hc, hL⟩ := hlead
  have := cntL_pos w 0 c (Nat.zero_le _) (by omega) hL
  omega

set_option maxRecDepth 100000 in
set_option maxHeartbeats 1000000 in
theorem place_no (a : Option Addr) (cap : Nat) (xs : List Int) (x : Int) (w : World) (hx : SlI w w.heap.size a xs) (hl : xs.length ≤ 1048576) (hm : x ∉ xs) :
    Calls Tryd.prog 28 #[.slice a xs.length cap, .int .i64 x] w fun e w' => e = .returned (.int .i64 (-1)) ∧ w = w' := by
  have Hx : Hid (∀ {k : Nat}, k < xs.length → ∃ b off, a = some ⟨b, off, none⟩ ∧ ∀ i, i < xs.length → w.cell? ⟨b, off + i, none⟩ = some (.int .i64 (xs[i]?.getD 0))) := hid (fun hk => by
    rcases hx with rfl | ⟨b, off, _, h, hc⟩
    · simp at hk
    · exact ⟨b, off, h, hc⟩)
  have Hm := hid hm
  clear hx hm
  go_enter Tryd.func28, Tryd.ntmps28
  go_wp2
  go_loop [5] (fun i => ∃ k : Nat, k ≤ xs.length ∧ i = .int .i64 k) (fun i => xs.length - (intOf i).toNat)
  case atStart => exact ⟨0, Nat.zero_le _, rfl⟩
  case round =>
    obtain ⟨k, hk, rfl⟩ := hrel
    have hi0 : (0 : Int) ≤ (k : Int) := by omega
    by_cases hlt : k < xs.length
    · obtain ⟨b, off, rfl, hc⟩ := Hx.out hlt
      obtain ⟨y, hy⟩ : ∃ y, y = xs[k]?.getD 0 := ⟨_, rfl⟩
      have hck : w.cell? ⟨b, off + k, none⟩ = some (.int .i64 y) := by rw [hy]; exact hc k hlt
      have hi1 : (k : Int) < (xs.length : Int) := by omega
      have hd : (y == x) = false := by
        have : y ≠ x := fun e => Hm.out (by rw [← e, hy]; exact getD_mem hlt)
        simpa using this
      clear hy hc
      go_wp2
      go_round
      case rel => exact ⟨k + 1, by omega, by go_num⟩
      case measure => simp [intOf]; omega
    · obtain rfl : k = xs.length := by omega
      go_wp2
      go_ret
      exact ⟨rfl, rfl⟩

theorem append_runR {w : World} {base B1 T n e : Nat} {v : Value} {xs : List Value} (hown : w.ownsRow base 22 1 v xs.length xs) (hbase : base ≤ w.heap.size) (hm : xs.length ≤ 1048576)
    (hc : w.cell? ⟨B1, 0, none⟩ = some (.slice (some ⟨T, 0, none⟩) n e)) :
    ∃ v' w', (Builtin.append_ #[51, 51] 51 #[v, .slice (some ⟨B1, 0, none⟩) 1 1]).run Tryd.prog w = .ok v' w' ∧ w'.ownsRow base 22 1 v' (xs.length + 1) (xs ++ [.slice (some ⟨T, 0, none⟩) n e]) ∧ w.grownBy w' v.ownBlock ∧ Below base w w' := by
  obtain ⟨i0, hi, hz0, hz1, hz2⟩ := info_parts info_rows
  obtain ⟨v', w', h1, h2, h3, h4, _⟩ := run_append_own_at (P := Tryd.prog) (w := w) base 51 51 22 i0 (.slice none 0 0) 1 24 Tryd.underlying51 hi hz0 hz1 hz2 rfl (by decide) v xs.length xs hown ⟨B1, 0, none⟩ 1 1 [.slice (some ⟨T, 0, none⟩) n e] (by simp) (fun j u hj => by
    have hjl : j = 0 := by
      have := (List.getElem?_eq_some_iff.1 hj).1
      simpa using this
    subst hjl
    simp at hj
    rw [← hj]
    exact hc) (fun u hu => by
    simp at hu
    rw [hu]
    rfl) (by unfold maxLen; omega) (by omega) hbase
  exact ⟨v', w', h1, h2, h3, (Below.refl base w).grown h3 hbase (fun k hk => (hown.lt k hk).1)⟩

theorem step_append_runR {P : Program} {ops : Array Oper} {o : Oper} {a : Act} {w w' : World} {K : Act → World → Prop} {Q : Exit → Act → World → Prop} {E : Prop} (hg : o.guard = none) {s y : Operand} {T : TypeId} (ho : o.op = .call { callee := .builtin .append, args := #[s, y], argTypes := #[T, T] })
    {v u v' : Value} (hs : a.eval s = v) (hy : a.eval y = u) (hr : (Builtin.append_ #[T, T] o.type #[v, u]).run P w = .ok v' w') (hK : K (a.put o.dst v') w') :
    if Region.wanted o (yielded ops a.tmps) = true then Oper.wp P o a w K Q else E := by
  have hw : Region.wanted o (yielded ops a.tmps) = true := by simp [Region.wanted, hg]
  rw [if_pos hw]
  unfold Oper.wp execOp
  simp only [ho, resolve, invoke, builtin, Sem.run_bind, Sem.run_pure, Result.andThen_ok, List.map_toArray, List.map_cons, List.map_nil, hs, hy, hr]
  exact hK

/-- The model's rows with one row more, of any capacity, laid ahead of them. -/
theorem RowsW.matSnoc {W0 W W' : World} {base base' wd : Nat} {Ts : List Nat} {rows : List (List Int)} {v : Value} {R m cap T e : Nat} {row : List Int} (h : RowsW W0 W base' wd Ts rows v) (_hbb : base ≤ base') (hT : T < base') (hl : row.length = wd)
    (hrow : W.ownsRow base 2 1 (.slice (some ⟨T, 0, none⟩) wd e) wd (row.map (Value.int .i64)))
    (hown : W'.ownsRow base 22 1 (.slice (some ⟨R, 0, none⟩) m cap) (Ts.length + 1) (Ts.map (slT wd) ++ [.slice (some ⟨T, 0, none⟩) wd e])) (hg : W.grownBy W' v.ownBlock) :
    MatW W' base R (rows.length + 1) wd (Ts.map (fun T => (T, 0)) ++ [(T, 0)]) (rows ++ [row]) := by
  have hkeep : ∀ {T' b c : Nat} {r : List Int}, W.ownsRow b 2 1 (.slice (some ⟨T', 0, none⟩) wd c) wd (r.map (Value.int .i64)) → W'.ownsRow b 2 1 (.slice (some ⟨T', 0, none⟩) wd c) wd (r.map (Value.int .i64)) := by
    intro T' b c r hr
    refine hr.kept hg (.inr (fun e => ?_))
    obtain ⟨cur, hh, _, _⟩ := owned_block hr
    exact row_ne h.out hh (by decide) e
  obtain ⟨cur, hR, ht, hb⟩ := owned_block hown
  have hle := h.len
  have hH := holdsV_of_block hR (ss := Ts.map (slT wd) ++ [.slice (some ⟨T, 0, none⟩) wd e]) (by simpa using ht)
  have hRow := hkeep hrow
  have hTs : ∀ i, i < Ts.length → base' ≤ Ts[i]?.getD 0 ∧ Ts[i]?.getD 0 < W'.heap.size := fun i hi => by
    have h1 := (h.row i hi).2.lt (Ts[i]?.getD 0) rfl
    exact ⟨h1.1, Nat.lt_of_lt_of_le h1.2 hg.size⟩
  have hTT := hRow.lt T rfl
  have ha : ∀ i, i < Ts.length → adr (Ts.map (fun T => (T, 0)) ++ [(T, 0)]) i = (Ts[i]?.getD 0, 0) := fun i hi => by
    unfold adr
    rw [List.getElem?_append_left (by simpa using hi)]
    simp [hi]
  have hb2 : adr (Ts.map (fun T => (T, 0)) ++ [(T, 0)]) Ts.length = (T, 0) := by
    unfold adr
    rw [List.getElem?_append_right (by simp)]
    simp
  have hr1 : ∀ i, i < Ts.length → (rows ++ [row])[i]?.getD [] = rows[i]?.getD [] := fun i hi => by rw [List.getElem?_append_left (by omega)]
  have hr2 : (rows ++ [row])[Ts.length]?.getD [] = row := by rw [hle, List.getElem?_append_right (Nat.le_refl _)]; simp
  have hoff : ∀ b o, (∃ c2, W'.heap[b]? = some (.cells c2 2 o)) → b ≠ R := by
    rintro b o ⟨c2, hc2⟩ rfl
    rw [hR] at hc2
    injection hc2 with hc2
    injection hc2 with _ ht _
    exact absurd ht (by decide)
  refine ⟨by simp, by simp [hle], ?_, ?_, ?_, ?_, ?_, ?_, ⟨hb, lt_of_get hR⟩⟩
  · intro i hi
    by_cases hlt : i < Ts.length
    · rw [hr1 i hlt]; exact (h.row i hlt).1
    · obtain rfl : i = Ts.length := by omega
      rw [hr2]; exact hl
  · intro i hi
    have h2 := holdsV_at hH (i := i) (by simp; omega)
    by_cases hlt : i < Ts.length
    · rw [ha i hlt]
      have e1 : (Ts.map (slT wd) ++ [.slice (some ⟨T, 0, none⟩) wd e])[i]?.getD undef = slT wd (Ts[i]?.getD 0) := by
        rw [List.getElem?_append_left (by simpa using hlt)]
        simp [hlt]
      rw [e1] at h2
      exact ⟨⟨_, h2.1⟩, h2.2⟩
    · obtain rfl : i = Ts.length := by omega
      rw [hb2]
      have e1 : (Ts.map (slT wd) ++ [.slice (some ⟨T, 0, none⟩) wd e])[Ts.length]?.getD undef = .slice (some ⟨T, 0, none⟩) wd e := by
        rw [List.getElem?_append_right (by simp)]
        simp
      rw [e1] at h2
      exact ⟨⟨_, h2.1⟩, h2.2⟩
  · intro i hi
    by_cases hlt : i < Ts.length
    · rw [ha i hlt, hr1 i hlt]
      obtain ⟨c2, hT2, ht2, _⟩ := owned_block (hkeep (h.row i hlt).2)
      exact holds_of_blockI hT2 (by rw [(h.row i hlt).1]; exact ht2)
    · obtain rfl : i = Ts.length := by omega
      rw [hb2, hr2]
      obtain ⟨c2, hT2, ht2, _⟩ := owned_block hRow
      exact holds_of_blockI hT2 (by rw [hl]; exact ht2)
  · intro i k hi hk hik
    refine .inl ?_
    by_cases hlt : i < Ts.length
    · rw [ha i hlt]
      by_cases hlk : k < Ts.length
      · rw [ha k hlk]
        intro e
        simp only at e
        rw [List.getElem?_eq_getElem hlt, List.getElem?_eq_getElem hlk] at e
        simp only [Option.getD_some] at e
        exact hik ((List.getElem_inj h.nodup).1 e)
      · obtain rfl : k = Ts.length := by omega
        rw [hb2]
        have := hTs i hlt
        simp only
        omega
    · obtain rfl : i = Ts.length := by omega
      rw [hb2]
      have hlk : k < Ts.length := by omega
      rw [ha k hlk]
      have := hTs k hlk
      simp only
      omega
  · intro i hi
    by_cases hlt : i < Ts.length
    · rw [ha i hlt]
      obtain ⟨c2, hT2, _, _⟩ := owned_block (hkeep (h.row i hlt).2)
      exact hoff _ _ ⟨c2, hT2⟩
    · obtain rfl : i = Ts.length := by omega
      rw [hb2]
      obtain ⟨c2, hT2, _, _⟩ := owned_block hRow
      exact hoff _ _ ⟨c2, hT2⟩
  · intro i hi
    by_cases hlt : i < Ts.length
    · rw [ha i hlt]
      have := hTs i hlt
      exact ⟨by simp only; omega, this.2⟩
    · obtain rfl : i = Ts.length := by omega
      rw [hb2]
      exact hTT

set_option maxRecDepth 1000000 in
set_option maxHeartbeats 4000000 in
theorem bdsS_bds (V : Int) (a0 : Option Addr) (cap : Nat) (fs : List Int) (a1 : Option Addr) (cap1 : Nat) (ch : List Int) (w : World) (hx : SlI w w.heap.size a0 fs) (hx1 : SlI w w.heap.size a1 ch) (hl : fs.length ≤ 1048576) (hg : ch.length ≤ 1048576) (hC : IsC V fs) (hch : ∀ x ∈ ch, x ∈ ofDim fs (dimC ch)) :
    Calls Tryd.prog 16 #[.agg #[.int .i64 V, .slice a0 fs.length cap], .slice a1 ch.length cap1] w fun e w' => e = .returned (.bool (boundsB fs ch)) ∧ Below w.heap.size w w' := by
  have hB0 : Below w.heap.size w (w.alloc (.cells #[.int .i64 V, .slice a0 fs.length cap] 28)) := (Below.refl _ w).alloc (Nat.le_refl _) _
  by_cases h0 : ch = []
  · have He : Hid (boundsB fs ch = true) := hid (by unfold boundsB; rw [decide_eq_true h0]; rfl)
    have hlen : ch.length = 0 := by rw [h0]; rfl
    rw [hlen]
    have HB0 := hid hB0
    clear h0 hlen hx hx1 hC hch hB0
    go_enter Tryd.func16, Tryd.ntmps16
    go_wp2_with fail
    go_ret
    exact ⟨ret_bool He.out.symm, HB0.out⟩
  · have hlen : 0 < ch.length := List.length_pos_iff.2 h0
    have Hy := hid hx1
    obtain ⟨b1, o1, hb1, rfl, hc1⟩ : ∃ b off, b < w.heap.size ∧ a1 = some ⟨b, off, none⟩ ∧ ∀ i, i < ch.length → w.cell? ⟨b, off + i, none⟩ = some (.int .i64 (ch[i]?.getD 0)) := by
      rcases hx1 with h | h
      · exact absurd h h0
      · exact h
    obtain ⟨d, hd⟩ : ∃ d, d = dimC ch := ⟨_, rfl⟩
    obtain ⟨x0, hx0⟩ : ∃ x0, x0 = ch[0]?.getD 0 := ⟨_, rfl⟩
    have hx0m : x0 ∈ ofDim fs (dimC ch) := hch x0 (by rw [hx0]; exact getD_mem hlen)
    have hx0c : x0 ∈ ch := by rw [hx0]; exact getD_mem hlen
    have hx0r := hC.range63 x0 (ofDim_mem.1 hx0m).1
    have hck : w.cell? ⟨b1, o1, none⟩ = some (.int .i64 x0) := by rw [hx0]; exact hc1 0 hlen
    obtain ⟨f0, rfl⟩ : ∃ f : Nat, x0 = f := ⟨x0.toNat, by omega⟩
    have hf0 : f0 < 64 := by omega
    have hol := ones_le f0
    have hop := ones_pos ⟨f0, hf0⟩ (by simp only; omega)
    simp only at hop
    have hdd : (ones f0 : Int) - 1 = d := by rw [hd]; unfold dimC; rw [← hx0, Int.toNat_natCast]
    have hd0 : 0 ≤ d := by omega
    have hd1 : d ≤ 5 := by omega
    rw [← hd] at hch hx0m
    have He : Hid (boundsB fs ch = decide (elimR 2 (ofDim fs d).length 0 0 (bndM fs (d + 1) 2 ++ [rowOf (ofDim fs d) ch]) = rankN fs (d + 1) 2)) := hid (by unfold boundsB; rw [decide_eq_false h0, ← hd]; rfl)
    have h63 := hC.len63
    have hF63 := ofDim_len fs (d + 1)
    have hS63 := ofDim_len fs d
    have HOn := hid (fun W => ones_any f0 W hf0)
    have hwr : IntKind.i64.wrap ((ones f0 : Int) - 1) = d := by rw [hdd]; exact IntWalk.i64_in _ (by omega)
    have hadd : IntKind.i64.wrap (d + 1) = d + 1 := IntWalk.i64_in _ (by omega)
    have HOf := hid (of_any V a0 cap fs d _ (hx.later hB0 hB0.size) hl hC.range63 hd0 hd1)
    have HDi := hid (fun W (h : Below w.heap.size w W) => dimS_any V a0 cap fs W (hx.later h h.size) hl hC.range63)
    have HRo := hid (fun (h1 : d + 1 ≤ 5) W (h : Below w.heap.size w W) => rowsS_own V a0 cap fs (d + 1) 2 W (hx.later h h.size) hl hC (.inl rfl) (by omega) h1)
    simp only [Int.add_sub_cancel] at HRo
    have HRk := hid (fun (h1 : d + 1 ≤ 5) W (h : Below w.heap.size w W) => rkS_any V a0 cap fs (d + 1) 2 W (hx.later h h.size) hl hC (.inl rfl) (by omega) (by omega))
    have htop := top_hi fs
    have hdt : d ≤ top fs := by have := top_ge fs (ofDim_mem.1 hx0m).1; rw [Int.toNat_natCast] at this; omega
    have HHi : Hid (d = top fs → boundsB fs ch = false) := hid (fun e => by
      rw [He.out]
      have e1 : ofDim fs (d + 1) = [] := ofDim_high hC (by omega)
      have e2 : bndM fs (d + 1) 2 = [] := by unfold bndM; rw [e1]; rfl
      rw [rankN_none e1, e2, List.nil_append]
      refine decide_eq_false (elim_row (rowOf_len _ _) (rowOf_rng _ _) (j := (ofDim fs d).idxOf (f0 : Int)) (List.idxOf_lt_length_of_mem hx0m) ?_)
      unfold rowOf
      rw [List.getElem?_map, List.getElem?_eq_getElem (List.idxOf_lt_length_of_mem hx0m), List.getElem_idxOf]
      simp [hx0c])
    have HC := hid hC
    have HX := hid hx
    have Hch := hid hch
    have Hc1 := hid hc1
    have HB0 := hid hB0
    have hi0 : (0 : Int) < (ch.length : Int) := by omega
    clear hx hB0 hC hch hc1 h0 hd hx0 hdd hol hx0r hx0m hx0c hop
    go_enter Tryd.func16, Tryd.ntmps16
    go_wp2_with (first
      | (go_at_call 19; refine (HOn.out _).mono ?_; rintro e w' ⟨rfl, rfl⟩)
      | (go_at_call 27; refine HOf.out.mono ?_; rintro e w1 ⟨vS, rfl, hrS⟩; obtain ⟨_, aS, cS, rfl, sS⟩ := ownsRow_slI hrS.1; have HrS := hid hrS; have SS := hid sS; clear hrS sS))
    obtain ⟨n, hn⟩ : ∃ n, n = (ofDim fs d).length := ⟨_, rfl⟩
    have hS63 : n ≤ 63 := by omega
    have HSas := hid (fun x (hx : x ∈ ofDim fs d) => HC.out.range63 x (ofDim_mem.1 hx).1)
    have HB1 := hid (HB0.out.trans (HrS.out.2.mono HB0.out.size))
    have HBr0 := hid (ownsRow_base (World.ownsRow_made (base := w1.heap.size) (e := 2) (size := 1) w1 #[] 0 (by simp) (by simp [maxLen]) rfl) (Nat.le_refl _))
    have HK0 : Hid (w1.cell? ⟨w.heap.size, 0, none⟩ = some (.int .i64 V) ∧ w1.cell? ⟨w.heap.size, 1, none⟩ = some (.slice a0 fs.length cap)) := hid ⟨(HrS.out.2.cell (p := ⟨w.heap.size, 0, none⟩) (by simp)).trans (by simp [go_sem]), (HrS.out.2.cell (p := ⟨w.heap.size, 1, none⟩) (by simp)).trans (by simp [go_sem])⟩
    have HwL : Hid (w.heap.size < w1.heap.size) := hid (by have := HrS.out.2.size; simp at this; omega)
    obtain ⟨S, hS⟩ : ∃ S, S = ofDim fs d := ⟨_, rfl⟩
    rw [← hS] at hn SS HSas Hch
    rw [← hS, ← hn] at He ⊢
    have Hn := hid hn
    have HSe := hid hS
    clear hF63 hn hS HrS HOf HOn
    go_loopw [7, 8] (fun v i wr => ∃ (k : Nat) (xs : List Int), Hid (k ≤ n ∧ xs = rowOf (S.take k) ch ∧ xs.length = k) ∧ i = .int .i64 k ∧ Hid (wr.ownsRow w1.heap.size 2 1 v xs.length (xs.map (Value.int .i64))) ∧ Hid (Below w1.heap.size w1 wr)) (fun _ i _ => n - (intOf i).toNat)
    case atStart => exact ⟨0, [], hid ⟨Nat.zero_le _, by simp [rowOf], rfl⟩, rfl, by simpa using HBr0, hid ((Below.refl _ w1).alloc (Nat.le_refl _) _)⟩
    case round =>
      clear HBr0
      obtain ⟨k, xs, HKx, rfl, HO, HB⟩ := hrel
      obtain ⟨hk, hxs, hxl⟩ := HKx.out
      have hk0 : (0 : Int) ≤ (k : Int) := by omega
      by_cases hlt : k < n
      · have hkS : k < S.length := by rw [← Hn.out]; exact hlt
        obtain ⟨x, hx⟩ : ∃ x, x = S[k]?.getD 0 := ⟨_, rfl⟩
        obtain ⟨bS, oS, rfl, hcS⟩ : ∃ b off, aS = some ⟨b, off, none⟩ ∧ b < w1.heap.size ∧ w1.cell? ⟨b, off + k, none⟩ = some (.int .i64 x) := by
          rcases SS.out with h | ⟨b, off, hb, h, hc⟩
          · rw [h] at hkS; simp at hkS
          · exact ⟨b, off, h, hb, by rw [hx]; exact hc k hkS⟩
        have hckS : wr.cell? ⟨bS, oS + k, none⟩ = some (.int .i64 x) := (HB.out.cell (p := ⟨bS, oS + k, none⟩) hcS.1).trans hcS.2
        have hbs := HB.out.size
        have Hxs' : Hid (rowOf (S.take (k + 1)) ch = xs ++ [if x ∈ ch then 1 else 0]) := hid (by rw [take_snoc hkS, hxs]; unfold rowOf; rw [List.map_append, hx]; rfl)
        have hki : (k : Int) < (n : Int) := by omega
        have hxl2 : xs.length ≤ 1099511627776 := by omega
        have Hxl := hid hxl
        by_cases hm : x ∈ ch
        · have HP := hid (place_at (some ⟨b1, o1, none⟩) cap1 ch x wr ((Hy.out.below (HB1.out.trans (HB.out.mono HB1.out.size))).mono (HB1.out.trans (HB.out.mono HB1.out.size)).size) hg hm)
          have hge : decide ((0 : Int) ≤ (ch.idxOf x : Int)) = true := by simp
          obtain ⟨q, hq⟩ : ∃ q, q = ch.idxOf x := ⟨_, rfl⟩
          have hq0 : (0 : Int) ≤ (q : Int) := by omega
          rw [← hq] at HP hge
          rw [if_pos hm] at Hxs'
          have hown := HO.out
          clear hm hq hx hcS hxs hxl HKx
          go_wp2_with (first
            | (go_at_call 28; refine HP.out.mono ?_; rintro e w' ⟨rfl, rfl⟩)
            | (at_builtin; refine append_int rfl rfl hown hbs hxl2 rfl rfl ?_; intro v' w4 hown4 hgrow4 hB4; have Hown4 := hid hown4; have HB4 := hid (HB.out.trans hB4); clear hown4 hgrow4 hB4))
          go_roundw
          case rel => exact ⟨k + 1, xs ++ [1], hid ⟨hlt, Hxs'.out.symm, by simp [Hxl.out]⟩, by go_num, Hown4, HB4⟩
          case measure => simp [intOf]; omega
        · have HP := hid (place_no (some ⟨b1, o1, none⟩) cap1 ch x wr ((Hy.out.below (HB1.out.trans (HB.out.mono HB1.out.size))).mono (HB1.out.trans (HB.out.mono HB1.out.size)).size) hg hm)
          rw [if_neg hm] at Hxs'
          have hown := HO.out
          clear hm hx hcS hxs hxl HKx
          go_wp2_with (first
            | (go_at_call 28; refine HP.out.mono ?_; rintro e w' ⟨rfl, rfl⟩)
            | (at_builtin; refine append_int rfl rfl hown hbs hxl2 rfl rfl ?_; intro v' w4 hown4 hgrow4 hB4; have Hown4 := hid hown4; have HB4 := hid (HB.out.trans hB4); clear hown4 hgrow4 hB4))
          go_roundw
          case rel => exact ⟨k + 1, xs ++ [0], hid ⟨hlt, Hxs'.out.symm, by simp [Hxl.out]⟩, by go_num, Hown4, HB4⟩
          case measure => simp [intOf]; omega
      · obtain rfl : k = n := by omega
        rw [List.take_of_length_le (by rw [← Hn.out]; exact Nat.le_refl _)] at hxs
        have hn1 : 1 ≤ k := by
          have := Hch.out _ (getD_mem hlen)
          rw [Hn.out]
          exact List.length_pos_of_mem this
        obtain ⟨k', rfl⟩ : ∃ k', k = k' + 1 := ⟨k - 1, by omega⟩
        have hO := HO.out
        rw [hxl] at hO
        obtain ⟨T, cT, rfl⟩ := ownsRow_succ hO
        have HO2 := hid hO
        have Hxs := hid hxs
        have HBw := hid (HB1.out.trans (HB.out.mono HB1.out.size))
        have HKw : Hid (wr.cell? ⟨w.heap.size, 0, none⟩ = some (.int .i64 V) ∧ wr.cell? ⟨w.heap.size, 1, none⟩ = some (.slice a0 fs.length cap)) := hid ⟨(HB.out.cell (p := ⟨w.heap.size, 0, none⟩) HwL.out).trans HK0.out.1, (HB.out.cell (p := ⟨w.heap.size, 1, none⟩) HwL.out).trans HK0.out.2⟩
        obtain ⟨n0, n1⟩ := HKw.out
        have HDw := hid (HDi.out wr HBw.out)
        clear hO HO hxs hxl HKx HK0
        by_cases hdm : d = top fs
        · have Hb := hid (HHi.out hdm)
          have hdq : (d == top fs) = true := by simpa using hdm
          clear hdm
          go_wp2_with (first
            | (go_at_call 29; refine HDw.out.mono ?_; rintro e w2 ⟨rfl, hB2⟩; have HB2 := hid (HBw.out.trans (hB2.mono HBw.out.size)); clear hB2))
          go_ret
          exact ⟨ret_bool Hb.out.symm, HB2.out⟩
        · have hdq : (d == top fs) = false := by simpa using hdm
          have hd5 : d + 1 ≤ 5 := by omega
          clear hdm
          go_wp2_with (first
            | (go_at_call 29; refine HDw.out.mono ?_; rintro e w2 ⟨rfl, hB2⟩; have HB2 := hid hB2; clear hB2))
          obtain ⟨x0, hx0⟩ : ∃ x, x = w2.drew := ⟨_, rfl⟩
          have hb0 : Below wr.heap.size wr x0 := by rw [hx0]; exact HB2.out.trans ((show Below w2.heap.size w2 w2.drew from ⟨rfl, rfl, rfl, Nat.le_refl _, fun _ _ => rfl⟩).mono HB2.out.size)
          refine region_M 13 (fun W : World => W.cell? ⟨w.heap.size, 0, none⟩ = some (.int .i64 V) ∧ W.cell? ⟨w.heap.size, 1, none⟩ = some (.slice a0 fs.length cap)) (by kernel_rfl) ?_
          rw [← hx0]
          have hwr : w.heap.size < wr.heap.size := Nat.lt_of_lt_of_le HwL.out HB.out.size
          have HX0 : Hid (x0.cell? ⟨w.heap.size, 0, none⟩ = some (.int .i64 V) ∧ x0.cell? ⟨w.heap.size, 1, none⟩ = some (.slice a0 fs.length cap)) := hid ⟨(hb0.cell (p := ⟨w.heap.size, 0, none⟩) hwr).trans HKw.out.1, (hb0.cell (p := ⟨w.heap.size, 1, none⟩) hwr).trans HKw.out.2⟩
          have HBx := hid (HBw.out.trans (hb0.mono HBw.out.size))
          have HRow := hid (ownsRow_below HO2.out hb0 (fun g hg => (HO2.out.lt g hg).2))
          have HTx := hid (HRow.out.lt T rfl)
          have Hwx : Hid (w.heap.size < x0.heap.size) := hid (Nat.lt_of_lt_of_le hwr hb0.size)
          have HwB : Hid (w1.heap.size ≤ x0.heap.size) := hid (Nat.le_trans HB.out.size hb0.size)
          clear hx0 hb0 hwr n0 n1 HB2 HDw HKw hdq
          refine anyM_take (i := 0) (v := .agg #[.int .i64 V, .slice a0 fs.length cap]) [3, 6, 7, 12, 13] rfl (by kernel_rfl) (fun _ _ _ h => h) (Or.inl ⟨by rfl, fun W hW => by (obtain ⟨z0, z1⟩ := hW; go_simp)⟩) HX0.out ?_
          refine anyM_take (i := 1) (v := .int .i64 d) [2, 3, 6, 7, 12, 13] rfl (by kernel_rfl) (fun _ _ _ h => h) (Or.inl ⟨by rfl, fun W hW => by go_simp⟩) HX0.out ?_
          refine anyM_take (i := 2) (v := .int .i64 (d + 1)) [3, 6, 7, 12, 13] rfl (by kernel_rfl) (fun _ _ _ h => h) (Or.inl ⟨by rfl, fun W hW => by go_simp⟩) HX0.out ?_
          refine anyM_take (i := 4) (v := .slice (some ⟨T, 0, none⟩) (k' + 1) cT) [5, 6, 7, 12, 13] rfl (by kernel_rfl) (fun _ _ _ h => h) (Or.inl ⟨by rfl, fun W hW => by go_simp⟩) HX0.out ?_
          refine anyM_take (i := 8) (v := .agg #[.int .i64 V, .slice a0 fs.length cap]) [11, 12, 13] rfl (by kernel_rfl) (fun _ _ _ h => h) (Or.inl ⟨by rfl, fun W hW => by (obtain ⟨z0, z1⟩ := hW; go_simp)⟩) HX0.out ?_
          refine anyM_take (i := 9) (v := .int .i64 d) [10, 11, 12, 13] rfl (by kernel_rfl) (fun _ _ _ h => h) (Or.inl ⟨by rfl, fun W hW => by go_simp⟩) HX0.out ?_
          refine anyM_take (i := 10) (v := .int .i64 (d + 1)) [11, 12, 13] rfl (by kernel_rfl) (fun _ _ _ h => h) (Or.inl ⟨by rfl, fun W hW => by go_simp⟩) HX0.out ?_
          refine anyM_ready (rs := [3, 5]) (by kernel_rfl) (by simp) ?_
          refine AllM.cons rfl (fun K hK => ?_) (AllM.cons rfl (fun K hK => ?_) AllM.nil)
          focus
            go_simp
            go_at_call 31
            refine (HRo.out hd5 _ HBx.out).mono ?_
            rintro e x1 ⟨R, Ts, cp, rfl, hR⟩
            have hb1 := hR.below
            obtain ⟨bR, hbR⟩ : ∃ b, b = x0.heap.size := ⟨_, rfl⟩
            have HX1 : Hid (x1.cell? ⟨w.heap.size, 0, none⟩ = some (.int .i64 V) ∧ x1.cell? ⟨w.heap.size, 1, none⟩ = some (.slice a0 fs.length cap)) := hid ⟨(hb1.cell (p := ⟨w.heap.size, 0, none⟩) Hwx.out).trans HX0.out.1, (hb1.cell (p := ⟨w.heap.size, 1, none⟩) Hwx.out).trans HX0.out.2⟩
            have hB1x := HBx.out.trans (hb1.mono HBx.out.size)
            have hRow1 := ownsRow_below HRow.out hb1 (fun g hg => (HRow.out.lt g hg).2)
            have hTR : T < bR := by rw [hbR]; exact HTx.out.2
            have hbase : w1.heap.size ≤ bR := by rw [hbR]; exact HwB.out
            have hsz := hb1.size
            rw [← hbR] at hR hsz
            have HR1 := hid hR
            clear hb1 hR
            refine hK.out _ _ (fun _ => HX1.out) ?_
            clear hK K
            refine anyM_ready (rs := [5]) (by kernel_rfl) (by simp) ?_
            refine AllM.cons rfl (fun K hK => ?_) AllM.nil
            go_simp
            obtain ⟨B1, hB1⟩ : ∃ b, b = x1.heap.size := ⟨_, rfl⟩
            obtain ⟨x2, hx2⟩ : ∃ x, x = x1.alloc (.cells #[.slice (some ⟨T, 0, none⟩) (k' + 1) cT] 22) := ⟨_, rfl⟩
            have hb2 : Below x1.heap.size x1 x2 := by rw [hx2]; exact (Below.refl _ x1).alloc (Nat.le_refl _) _
            have hc2 : x2.cell? ⟨B1, 0, none⟩ = some (.slice (some ⟨T, 0, none⟩) (k' + 1) cT) := by rw [hx2, hB1]; simp [go_sem]
            have hw1 : w.heap.size < x1.heap.size := Nat.lt_of_lt_of_le Hwx.out (by rw [← hbR]; exact hsz)
            have HX2 : Hid (x2.cell? ⟨w.heap.size, 0, none⟩ = some (.int .i64 V) ∧ x2.cell? ⟨w.heap.size, 1, none⟩ = some (.slice a0 fs.length cap)) := hid ⟨(hb2.cell (p := ⟨w.heap.size, 0, none⟩) hw1).trans HX1.out.1, (hb2.cell (p := ⟨w.heap.size, 1, none⟩) hw1).trans HX1.out.2⟩
            have HC2 := hid hc2
            have HR2 := hid (HR1.out.later hb2 hsz)
            have HRow2 := hid (ownsRow_below hRow1 hb2 (fun g hg => (hRow1.lt g hg).2))
            have HBx2 := hid (hB1x.trans (hb2.mono hB1x.size))
            have HbR2 : Hid (bR ≤ x2.heap.size ∧ T < bR ∧ w1.heap.size ≤ bR) := hid ⟨Nat.le_trans hsz hb2.size, hTR, hbase⟩
            rw [← hB1, ← hx2]
            clear hB1 hx2 hb2 hc2 hw1 HX1 hB1x hRow1 hTR hbase hsz HR1 hbR
            refine hK.out _ _ (fun _ => HX2.out) ?_
            clear hK K
          rotate_left
          focus
            go_simp
            obtain ⟨B1, hB1⟩ : ∃ b, b = x0.heap.size := ⟨_, rfl⟩
            obtain ⟨x1, hx1⟩ : ∃ x, x = x0.alloc (.cells #[.slice (some ⟨T, 0, none⟩) (k' + 1) cT] 22) := ⟨_, rfl⟩
            have hb1 : Below x0.heap.size x0 x1 := by rw [hx1]; exact (Below.refl _ x0).alloc (Nat.le_refl _) _
            have hc1 : x1.cell? ⟨B1, 0, none⟩ = some (.slice (some ⟨T, 0, none⟩) (k' + 1) cT) := by rw [hx1, hB1]; simp [go_sem]
            have hB1l : B1 < x1.heap.size := by rw [hx1, hB1]; simp
            have HX1 : Hid (x1.cell? ⟨w.heap.size, 0, none⟩ = some (.int .i64 V) ∧ x1.cell? ⟨w.heap.size, 1, none⟩ = some (.slice a0 fs.length cap)) := hid ⟨(hb1.cell (p := ⟨w.heap.size, 0, none⟩) Hwx.out).trans HX0.out.1, (hb1.cell (p := ⟨w.heap.size, 1, none⟩) Hwx.out).trans HX0.out.2⟩
            have hB1x := HBx.out.trans (hb1.mono HBx.out.size)
            have hRow1 := ownsRow_below HRow.out hb1 (fun g hg => (HRow.out.lt g hg).2)
            have hw1 : w.heap.size < x1.heap.size := Nat.lt_of_lt_of_le Hwx.out hb1.size
            have hTx1 : T < x1.heap.size := Nat.lt_of_lt_of_le HTx.out.2 hb1.size
            have hbase : w1.heap.size ≤ x1.heap.size := Nat.le_trans HwB.out hb1.size
            rw [← hB1, ← hx1]
            clear hB1 hx1 hb1
            refine hK.out _ _ (fun _ => HX1.out) ?_
            clear hK K
            refine anyM_ready (rs := [3]) (by kernel_rfl) (by simp) ?_
            refine AllM.cons rfl (fun K hK => ?_) AllM.nil
            go_simp
            go_at_call 31
            refine (HRo.out hd5 _ hB1x).mono ?_
            rintro e x2 ⟨R, Ts, cp, rfl, hR⟩
            have hb2 := hR.below
            obtain ⟨bR, hbR⟩ : ∃ b, b = x1.heap.size := ⟨_, rfl⟩
            have HX2 : Hid (x2.cell? ⟨w.heap.size, 0, none⟩ = some (.int .i64 V) ∧ x2.cell? ⟨w.heap.size, 1, none⟩ = some (.slice a0 fs.length cap)) := hid ⟨(hb2.cell (p := ⟨w.heap.size, 0, none⟩) hw1).trans HX1.out.1, (hb2.cell (p := ⟨w.heap.size, 1, none⟩) hw1).trans HX1.out.2⟩
            have HC2 := hid ((hb2.cell (p := ⟨B1, 0, none⟩) hB1l).trans hc1)
            have HRow2 := hid (ownsRow_below hRow1 hb2 (fun g hg => (hRow1.lt g hg).2))
            have HBx2 := hid (hB1x.trans (hb2.mono hB1x.size))
            have hsz := hb2.size
            rw [← hbR] at hR hsz hTx1 hbase
            have HR2 := hid hR
            have HbR2 : Hid (bR ≤ x2.heap.size ∧ T < bR ∧ w1.heap.size ≤ bR) := hid ⟨hsz, hTx1, hbase⟩
            clear hb2 hR HX1 hB1x hRow1 hw1 hTx1 hbase hbR hsz hc1 hB1l
            refine hK.out _ _ (fun _ => HX2.out) ?_
            clear hK K
          all_goals
            have hwd : k' + 1 = (ofDim fs d).length := by rw [Hn.out, HSe.out]
            have hrl : (rowOf S ch).length = k' + 1 := by rw [rowOf_len, Hn.out]
            rw [← hwd] at HR2
            have hTl : Ts.length = (bndM fs (d + 1) 2).length := HR2.out.len
            have hbl : (bndM fs (d + 1) 2).length ≤ 63 := by have := ofDim_len fs (d + 1); simp [bndM]; omega
            have hG3 := matG_app (bndM_up_good (fs := fs) d (p := 2) (.inl rfl)) (row := rowOf S ch) (by rw [hrl, hwd]) (rowOf_rng S ch)
            rw [← hwd, show (ofDim fs (d + 1)).length = Ts.length by rw [hTl]; simp [bndM]] at hG3
            obtain ⟨v3, x3, hr3, hown3, hg3, hb3⟩ := append_runR (base := w1.heap.size) (ownsRow_base HR2.out.out HbR2.out.2.2) (Nat.le_trans HbR2.out.2.2 HbR2.out.1) (by simp; omega) HC2.out
            rw [List.length_map] at hown3
            obtain ⟨R3, cp3, rfl⟩ := ownsRow_succ hown3
            have hRw := HRow2.out
            rw [Hxs.out] at hRw
            have hM3 := HR2.out.matSnoc (base := w1.heap.size) HbR2.out.2.2 HbR2.out.2.1 hrl hRw hown3 hg3
            rw [← hTl] at hM3
            have HM3 := hid hM3
            have HG3 := hid hG3
            have HX3 : Hid (x3.cell? ⟨w.heap.size, 0, none⟩ = some (.int .i64 V) ∧ x3.cell? ⟨w.heap.size, 1, none⟩ = some (.slice a0 fs.length cap)) := hid ⟨(hb3.cell (p := ⟨w.heap.size, 0, none⟩) HwL.out).trans HX2.out.1, (hb3.cell (p := ⟨w.heap.size, 1, none⟩) HwL.out).trans HX2.out.2⟩
            have HBx3 := hid (HBx2.out.trans (hb3.mono (by have := HwL.out; omega)))
            have HTl := hid (show Ts.length ≤ 63 by omega)
            have HWd := hid (show k' + 1 ≤ 63 by omega)
            have HHe : Hid (boundsB fs ch = decide (elimR 2 (k' + 1) 0 0 (bndM fs (d + 1) 2 ++ [rowOf S ch]) = rankN fs (d + 1) 2)) := He
            clear hM3 hG3 hown3 hg3 hb3 hRw hrl hwd hTl hbl
            refine anyM_ready (rs := [6]) (by kernel_rfl) (by simp) ?_
            refine AllM.cons rfl (fun K hK => ?_) AllM.nil
            refine step_append_runR (s := .tmp 47) (y := .tmp 49) rfl rfl rfl rfl hr3 ?_
            refine hK.out _ _ (fun _ => HX3.out) ?_
            clear hK K hr3
            refine anyM_ready (rs := [7]) (by kernel_rfl) (by simp) ?_
            refine AllM.cons rfl (fun K hK => ?_) AllM.nil
            go_simp
            go_at_call 30
            refine (rankS_any w1.heap.size R3 (Ts.length + 1) (k' + 1) cp3 _ 2 _ x3 HM3.out HG3.out (.inl rfl) (by omega) (by have := HTl.out; omega) (by have := HWd.out; omega)).mono ?_
            rintro e x4 ⟨rfl, hb4⟩
            have HX4 : Hid (x4.cell? ⟨w.heap.size, 0, none⟩ = some (.int .i64 V) ∧ x4.cell? ⟨w.heap.size, 1, none⟩ = some (.slice a0 fs.length cap)) := hid ⟨(hb4.cell (p := ⟨w.heap.size, 0, none⟩) HwL.out).trans HX3.out.1, (hb4.cell (p := ⟨w.heap.size, 1, none⟩) HwL.out).trans HX3.out.2⟩
            have HBx4 := hid (HBx3.out.trans (hb4.mono (by have := HwL.out; omega)))
            obtain ⟨ra, hra⟩ : ∃ r, r = elimR 2 (k' + 1) 0 0 (bndM fs (d + 1) 2 ++ [rowOf S ch]) := ⟨_, rfl⟩
            obtain ⟨rb, hrb⟩ : ∃ r, r = rankN fs (d + 1) 2 := ⟨_, rfl⟩
            have HRkk := hid (HRk.out hd5 x4 HBx4.out)
            rw [← hra, ← hrb] at HHe
            rw [← hra]
            rw [← hrb] at HRkk
            clear hb4 hra hrb
            refine hK.out _ _ (fun _ => HX4.out) ?_
            clear hK K
            refine anyM_ready (rs := [11]) (by kernel_rfl) (by simp) ?_
            refine AllM.cons rfl (fun K hK => ?_) AllM.nil
            go_simp
            go_at_call 32
            refine HRkk.out.mono ?_
            rintro e x5 ⟨rfl, hb5⟩
            have hw4 : w.heap.size < x4.heap.size := by have h1 := HBx4.out.size; exact World.block_lt_of_cell? _ _ HX4.out.1
            have HX5 : Hid (x5.cell? ⟨w.heap.size, 0, none⟩ = some (.int .i64 V) ∧ x5.cell? ⟨w.heap.size, 1, none⟩ = some (.slice a0 fs.length cap)) := hid ⟨(hb5.cell (p := ⟨w.heap.size, 0, none⟩) hw4).trans HX4.out.1, (hb5.cell (p := ⟨w.heap.size, 1, none⟩) hw4).trans HX4.out.2⟩
            have HBx5 := hid (HBx4.out.trans (hb5.mono HBx4.out.size))
            clear hb5 hw4
            refine hK.out _ _ (fun _ => HX5.out) ?_
            clear hK K
            refine anyM_ready (rs := [12]) (by kernel_rfl) (by simp) ?_
            refine AllM.cons rfl (fun K hK => ?_) AllM.nil
            go_simp
            refine hK.out _ _ (fun _ => HX5.out) ?_
            clear hK K
            refine anyM_ready (rs := [13]) (by kernel_rfl) (by simp) ?_
            refine AllM.cons rfl (fun K hK => ?_) AllM.nil
            go_simp
            refine hK.out _ _ (fun h => absurd rfl h) ?_
            clear hK K
            refine anyM_done (by kernel_rfl) ?_ _
            go_wp2_with fail
            go_ret
            exact ⟨ret_bool (by rw [HHe.out, Bool.eq_iff_iff]; simp; omega), HBx5.out⟩

end Go.Proofs.YtpdhnjdnlgnniaaDoor

/-! slices.Contains on a list of int64. -/
namespace Go.Proofs.YtpdhnjdnlgnniaaDoor
open Go.RowKit

set_option maxRecDepth 100000 in
set_option maxHeartbeats 1000000 in
theorem index_any (a : Option Addr) (cap : Nat) (xs : List Int) (x : Int) (w : World) (hx : SlI w w.heap.size a xs) (hl : xs.length ≤ 1048576) :
    Calls Tryd.prog 39 #[.slice a xs.length cap, .int .i64 x] w fun e w' => ∃ i : Int, e = .returned (.int .i64 i) ∧ -1 ≤ i ∧ (0 ≤ i ↔ x ∈ xs) ∧ w = w' := by
  rcases hx with rfl | ⟨b, off, hb, rfl, hc⟩
  · go_enter Tryd.func39, Tryd.ntmps39
    go_wp2
    refine wp_loop_rounds 1 ?_; rw [rounds_succ]
    go_wp2
    go_ret
    exact ⟨-1, rfl, by decide, by simp, rfl⟩
  · have Hc := hid hc
    clear hc
    go_enter Tryd.func39, Tryd.ntmps39
    go_wp2
    go_loop [8] (fun i => ∃ k : Nat, k ≤ xs.length ∧ i = .int .i64 k ∧ Hid (x ∉ xs.take k)) (fun i => xs.length - (intOf i).toNat)
    case atStart => exact ⟨0, Nat.zero_le _, rfl, hid (by simp)⟩
    case round =>
      obtain ⟨k, hk, rfl, Hk⟩ := hrel
      by_cases hlt : k < xs.length
      · obtain ⟨y, hy⟩ : ∃ y, y = xs[k]?.getD 0 := ⟨_, rfl⟩
        have hck : w.cell? ⟨b, off + k, none⟩ = some (.int .i64 y) := by rw [hy]; exact Hc.out k hlt
        have Hy := hid hy
        have hi0 : (0 : Int) ≤ (k : Int) := by omega
        have hi1 : (k : Int) < (xs.length : Int) := by omega
        clear hy
        by_cases hxy : x = y
        · have hd : (x == y) = true := by simp [hxy]
          have He : Hid (x ∈ xs) := hid (by rw [hxy, Hy.out]; exact getD_mem hlt)
          clear hxy
          go_wp2
          go_ret
          exact ⟨k, rfl, by omega, ⟨fun _ => He.out, fun _ => by omega⟩, rfl⟩
        · have hd : (x == y) = false := by simp [hxy]
          have He : Hid (x ∉ xs.take (k + 1)) := hid (by
            rw [take_snoc hlt, ← Hy.out]
            intro h
            rcases List.mem_append.1 h with h | h
            · exact Hk.out h
            · simp at h; exact hxy h)
          clear hxy
          go_wp2
          go_round
          case rel => exact ⟨k + 1, by omega, by go_num, He.out⟩
          case measure => simp [intOf]; omega
      · have He : Hid (x ∉ xs) := hid (by have := Hk.out; rwa [List.take_of_length_le (by omega)] at this)
        go_wp2
        go_ret
        exact ⟨-1, rfl, by decide, ⟨fun h => absurd h (by decide), fun h => absurd h He.out⟩, rfl⟩

set_option maxRecDepth 100000 in
set_option maxHeartbeats 1000000 in
theorem contains_any (a : Option Addr) (cap : Nat) (xs : List Int) (x : Int) (w : World) (hx : SlI w w.heap.size a xs) (hl : xs.length ≤ 1048576) :
    Calls Tryd.prog 24 #[.slice a xs.length cap, .int .i64 x] w fun e w' => e = .returned (.bool (decide (x ∈ xs))) ∧ w = w' := by
  have HI := hid (index_any a cap xs x w hx hl)
  obtain ⟨c, hc⟩ : ∃ c, c = decide (x ∈ xs) := ⟨_, rfl⟩
  have Hc := hid hc
  rw [← hc]
  clear hc hx
  go_enter Tryd.func24, Tryd.ntmps24
  go_wp2_with fail
  refine HI.out.mono ?_
  rintro e w' ⟨i, rfl, h1, h2, rfl⟩
  have Hi := hid h2
  have H1 := hid h1
  clear h1 h2
  by_cases h0 : 0 ≤ i
  · have He : Hid (c = true) := hid (by rw [Hc.out]; exact decide_eq_true (Hi.out.1 h0))
    go_wp2_with fail
    go_ret
    exact ⟨ret_bool (by rw [He.out]), rfl⟩
  · have He : Hid (c = false) := hid (by rw [Hc.out]; exact decide_eq_false (fun h => h0 (Hi.out.2 h)))
    have hlt : i < 0 := by omega
    go_wp2_with fail
    go_ret
    exact ⟨ret_bool (by rw [He.out]; simp [hlt]), rfl⟩

end Go.Proofs.YtpdhnjdnlgnniaaDoor

/-! Is a list a chain? The program's test, which panics, and the deferred recover. -/
namespace Go.Proofs.YtpdhnjdnlgnniaaDoor
open Go.RowKit

theorem below_dn (w : World) (n : Nat) : Below w.heap.size w (w.drewN n) := ⟨rfl, rfl, rfl, Nat.le_refl _, fun _ _ => rfl⟩
theorem link_no_ones {fs ch : List Int} {k : Nat} (h : ¬ ones (ch[k]?.getD 0).toNat = ones (ch[0]?.getD 0).toNat) : linkB fs ch k = false := by unfold linkB; simp [h]

/-- What a call ends with that returns nothing, or panics with a value. -/
def endOf (c : Bool) (u : TypeId) (pv : Value) : Ending := if c then .returned (.tuple #[]) else .panicked [{ v := .iface u pv, recovered := false }]

set_option maxRecDepth 100000 in
set_option maxHeartbeats 8000000 in
theorem must_any (V : Int) (a0 : Option Addr) (cap : Nat) (fs : List Int) (a1 : Option Addr) (cap1 : Nat) (ch : List Int) (w : World) (u : TypeId) (pv : Value) (hx : SlI w w.heap.size a0 fs) (hx1 : SlI w w.heap.size a1 ch) (hl : fs.length ≤ 1048576) (hg : ch.length ≤ 1048576)
    (hC : IsC V fs) (hG : w.cell? ⟨0, 0, none⟩ = some (.iface u pv)) :
    Calls Tryd.prog 35 #[.agg #[.int .i64 V, .slice a0 fs.length cap], .slice a1 ch.length cap1] w fun e w' => e = endOf (chainB fs ch) u pv ∧ Below w.heap.size w w' := by
  obtain ⟨W0, hW0⟩ : ∃ W0, W0 = w.alloc (.cells #[.int .i64 V, .slice a0 fs.length cap] 28) := ⟨_, rfl⟩
  have hB0 : Below w.heap.size w W0 := by rw [hW0]; exact (Below.refl _ w).alloc (Nat.le_refl _) _
  have Hk : Hid (W0.heap[w.heap.size]? = some (.cells #[.int .i64 V, .slice a0 fs.length cap] 28 (0, 0))) := hid (by rw [hW0]; exact heap_alloc_new _ _)
  have Hx := hid hx
  have Hy := hid hx1
  have HB0 := hid hB0
  have HC := hid hC
  have HG := hid hG
  have HGl := hid (World.block_lt_of_cell? w _ hG)
  obtain ⟨c, hcc⟩ : ∃ c, c = chainB fs ch := ⟨_, rfl⟩
  rw [← hcc]
  have Hc := hid hcc
  clear hx hx1 hB0 hC hG hcc
  go_enter Tryd.func35, Tryd.ntmps35
  go_wp2_with fail
  rw [← hW0]
  clear hW0
  go_loopw [8] (fun iv wx => ∃ k : Nat, k ≤ ch.length ∧ iv = .int .i64 k ∧ Hid (linksTo fs ch k) ∧ Hid (Below w.heap.size w wx) ∧ Hid (wx.heap[w.heap.size]? = some (.cells #[.int .i64 V, .slice a0 fs.length cap] 28 (0, 0)))) (fun iv _ => ch.length - (RowKit.intOf iv).toNat)
  case atStart => exact ⟨0, Nat.zero_le _, rfl, hid (by intro i h; omega), HB0, Hk⟩
  case round =>
    obtain ⟨k, hk, rfl, HK, HB, Hkr⟩ := hrel
    have hBw := HB.out
    have Hq : Hid (∀ n, Below w.heap.size w (wr.drewN n)) := hid (fun n => HB.out.trans ((below_dn wr n).mono HB.out.size))
    by_cases hlt : k < ch.length
    · obtain ⟨b, off, hb, rfl, hcl⟩ : ∃ b off, b < w.heap.size ∧ a1 = some ⟨b, off, none⟩ ∧ ∀ i, i < ch.length → w.cell? ⟨b, off + i, none⟩ = some (.int .i64 (ch[i]?.getD 0)) := by
        rcases Hy.out with h | h
        · rw [h] at hlt; simp at hlt
        · exact h
      obtain ⟨x, hxe⟩ : ∃ x, x = ch[k]?.getD 0 := ⟨_, rfl⟩
      have c0 := (hBw.cell (p := ⟨b, off + k, none⟩) hb).trans (hcl k hlt)
      rw [← hxe] at c0
      obtain ⟨k0, k1, _, _⟩ := two_of Hkr.out
      have hGr := (hBw.cell (p := ⟨0, 0, none⟩) HGl.out).trans HG.out
      have CH := hid (fun n => contains_any a0 cap fs x (wr.drewN n) (Hx.out.later (Hq.out n) (Hq.out n).size) hl)
      have hi0 : (0 : Int) ≤ (k : Int) := by omega
      have hi1 : (k : Int) < (ch.length : Int) := by omega
      clear hBw
      by_cases hm : x ∈ fs
      · rw [decide_eq_true hm] at CH
        have hxr := HC.out.range63 _ hm
        obtain ⟨z, hze⟩ : ∃ z, z = ch[0]?.getD 0 := ⟨_, rfl⟩
        have c2 := (HB.out.cell (p := ⟨b, off, none⟩) hb).trans (hcl 0 (by omega))
        rw [← hze] at c2
        have hzr := HC.out.range63 _ (show z ∈ fs by
          by_cases hk0 : k = 0
          · subst hk0; rw [hze, ← hxe]; exact hm
          · rw [hze]; exact link_head (by omega) HK.out)
        have hl0 : (0 : Int) < (ch.length : Int) := by omega
        have HZ : Hid (k = 0 → z = x) := hid (fun h => by rw [hze, hxe, h])
        have HLn : Hid (¬ ones x.toNat = ones z.toNat → c = false) := hid (fun h => Hc.out.trans (chain_no hlt (link_no_ones (by rw [← hxe, ← hze]; exact h))))
        have HLo : Hid (0 < k → x ≤ ch[k - 1]?.getD 0 → c = false) := hid (fun h0 h => Hc.out.trans (chain_no hlt (link_no_ord h0 (by rw [← hxe]; exact h))))
        have HLy : Hid (ones x.toNat = ones z.toNat → (0 < k → ch[k - 1]?.getD 0 < x) → linksTo fs ch (k + 1)) := hid (fun ho h => links_succ HK.out ((link_eq (by rw [← hxe]; exact hm) (fun h0 => by rw [← hxe]; exact h h0)).trans (by rw [← hxe, ← hze]; exact decide_eq_true ho)))
        obtain ⟨x, rfl⟩ : ∃ n : Nat, x = n := ⟨x.toNat, by omega⟩
        obtain ⟨z, rfl⟩ : ∃ n : Nat, z = n := ⟨z.toNat, by omega⟩
        have hx64 : x < 64 := by omega
        have hz64 : z < 64 := by omega
        have CX := hid (fun n => dim_any x (wr.drewN n) hx64)
        have CZ := hid (fun n => dim_any z (wr.drewN n) hz64)
        simp only [Int.toNat_natCast] at HLn HLy
        clear hxe hze hxr hzr hm hx64 hz64
        by_cases ho : ones x = ones z
        · have hd2 : (((ones x : Nat) : Int) - 1 != ((ones z : Nat) : Int) - 1) = false := by simp [ho]
          rw [ho] at CX hd2
          by_cases hk0 : 0 < k
          · have hd0 : decide (0 < k) = true := decide_eq_true hk0
            have hsub : IntKind.i64.wrap ((k : Int) - 1) = ((k - 1 : Nat) : Int) := by rw [IntKind.wrap_i64]; omega
            have hsub2 : wrap64 ((k : Int) - 1) = ((k - 1 : Nat) : Int) := by rw [wrap64]; omega
            have hj0 : (0 : Int) ≤ ((k - 1 : Nat) : Int) := by omega
            have hj1 : ((k - 1 : Nat) : Int) < (ch.length : Int) := by omega
            have c1 := (HB.out.cell (p := ⟨b, off + (k - 1), none⟩) hb).trans (hcl (k - 1) (by omega))
            obtain ⟨y, hye⟩ : ∃ y, y = ch[k - 1]?.getD 0 := ⟨_, rfl⟩
            rw [← hye] at c1 HLo HLy
            clear hcl hye
            by_cases hle : (x : Int) ≤ y
            · have hd1 : decide ((x : Int) ≤ y) = true := decide_eq_true hle
              have He := hid (HLo.out hk0 hle)
              clear hle ho hk0
              go_wp2_with fail
              go_quiet (first
          | (go_at_call 24; exact quiet_of_eq (CH.out _))
          | (go_at_call 21; first | exact quiet_of_eq (CX.out _) | exact quiet_of_eq (CZ.out _)))
              go_wp2_with fail
              refine ⟨rfl, ?_, Hq.out _⟩
              rw [He.out]
              rfl
            · have hd1 : decide ((x : Int) ≤ y) = false := decide_eq_false hle
              have HS := hid (HLy.out ho (fun _ => by omega))
              clear hle ho hk0
              go_wp2_with fail
              go_quiet (first
          | (go_at_call 24; exact quiet_of_eq (CH.out _))
          | (go_at_call 21; first | exact quiet_of_eq (CX.out _) | exact quiet_of_eq (CZ.out _)))
              go_wp2_with fail
              go_roundw
              case rel => exact ⟨k + 1, by omega, by go_num, HS, hid (Hq.out _), hid (by exact Hkr.out)⟩
              case measure => simp [RowKit.intOf]; omega
          · obtain rfl : k = 0 := by omega
            have hd0 : decide (0 < 0) = false := rfl
            have HS := hid (HLy.out ho (fun h => absurd h (by omega)))
            obtain rfl : z = x := by have := HZ.out rfl; omega
            clear ho hk0 hcl c0
            go_wp2_with fail
            go_quiet (first
          | (go_at_call 24; exact quiet_of_eq (CH.out _))
          | (go_at_call 21; first | exact quiet_of_eq (CX.out _) | exact quiet_of_eq (CZ.out _)))
            go_wp2_with fail
            go_roundw
            case rel => exact ⟨1, by omega, by go_num, HS, hid (Hq.out _), hid (by exact Hkr.out)⟩
            case measure => simp [RowKit.intOf]; omega
        · have hd2 : (((ones x : Nat) : Int) - 1 != ((ones z : Nat) : Int) - 1) = true := by simp; omega
          have He := hid (HLn.out ho)
          clear ho hcl
          go_wp2_with fail
          go_quiet (first
          | (go_at_call 24; exact quiet_of_eq (CH.out _))
          | (go_at_call 21; first | exact quiet_of_eq (CX.out _) | exact quiet_of_eq (CZ.out _)))
          go_wp2_with fail
          refine ⟨rfl, ?_, Hq.out _⟩
          rw [He.out]
          rfl
      · rw [decide_eq_false hm] at CH
        have He := hid (Hc.out.trans (chain_no hlt (link_no_mem (by rw [← hxe]; exact hm))))
        clear hm hcl hxe
        go_wp2_with fail
        go_quiet (first
          | (go_at_call 24; exact quiet_of_eq (CH.out _)))
        go_wp2_with fail
        refine ⟨rfl, ?_, Hq.out _⟩
        rw [He.out]
        rfl
    · obtain rfl : k = ch.length := by omega
      have He : Hid (c = true) := hid (Hc.out.trans (chain_yes HK.out))
      go_wp2_with fail
      go_end0
      exact ⟨by rw [He.out]; rfl, HB.out⟩

end Go.Proofs.YtpdhnjdnlgnniaaDoor

/-! chainCode: a deferred recover turns the panic into a code. -/
namespace Go.Proofs.YtpdhnjdnlgnniaaDoor
open Go.RowKit

theorem assert_err (pv : Value) (w : World) : (Instr.typeAssert (.iface 74 pv) 20 55 true).run Tryd.prog w = .ok (.tuple #[.iface 74 pv, .bool true]) w := by kernel_rfl
theorem assert_nil (w : World) : (Instr.typeAssert .nilIface 20 55 true).run Tryd.prog w = .ok (.tuple #[.nilIface, .bool false]) w := by kernel_rfl

set_option maxHeartbeats 1000000 in
theorem catch_panic (p : Addr) (x : Int) (pv : Value) (older : List PanicEntry) (w : World) (hc : w.cell? p = some (.int .i64 x)) (hz : w.frozen? p = false) :
    CallsD Tryd.prog 34 #[.pointer (some p)] (.panicking ({ v := .iface 74 pv, recovered := false } :: older)) w fun e u' w' =>
      e = .returned (.tuple #[]) ∧ u' = .panicking ({ v := .iface 74 pv, recovered := true } :: older) ∧ w' = w.setCell p (.int .i64 2) := by
  have ha := assert_err
  refine callsD_of_wpS Tryd.func34 rfl fun c₀ cs hu => ?_
  apply wpS_seq
  apply wpS_region
  simp [wpOpsS, go_sem, recoverD, hu, ha, Tryd.ntmps34, Exit.thenS]
  apply wpS_seq
  apply wpS_region
  simp [wpOpsS, go_sem, Exit.thenS]
  refine wpS_cond (t := true) (by simp [Act.eval, Array.replicate]) ?_
  simp only [if_true]
  apply wpS_region
  simp [wpOpsS, go_sem, hc, hz, bodyPostS, results, Tryd.results34]

theorem catch_idle (p : Addr) (w : World) :
    CallsD Tryd.prog 34 #[.pointer (some p)] .returning w fun e u' w' => e = .returned (.tuple #[]) ∧ u' = .returning ∧ w' = w := by
  have ha := assert_nil
  refine callsD_of_wpS Tryd.func34 rfl fun c₀ cs hu => ?_
  apply wpS_seq
  apply wpS_region
  simp [wpOpsS, go_sem, recoverD, hu, ha, Tryd.ntmps34, Exit.thenS]
  apply wpS_seq
  apply wpS_region
  simp [wpOpsS, go_sem, Exit.thenS]
  refine wpS_cond (t := false) (by simp [Act.eval, Array.replicate]) ?_
  simp only [Bool.false_eq_true, if_false]
  refine wpS_of_wp (wp_skip ?_)
  cases c₀
  simp_all [bodyPostS, results, Tryd.results34]

/-- The code of a complex and some lists. -/
noncomputable def chnsR (V : Int) (fs : List Int) (chs : List (List Int)) : Int := if isCB V fs then (if chs.all (chainB fs) then 0 else 2) else 1
/-- Some lists that lie one behind the other, as slices, in block bl. -/
def Lists (w : World) (B bl : Nat) (ls : List (Option Addr × Nat × List Int)) : Prop :=
  ∀ i a cap ch, ls[i]? = some (a, cap, ch) → w.cell? ⟨bl, i, none⟩ = some (.slice a ch.length cap) ∧ SlI w B a ch ∧ ch.length ≤ 1048576

theorem all_take {α : Type} {p : α → Bool} {ls : List α} {k : Nat} (h : ∀ i x, i < k → ls[i]? = some x → p x = true) (hk : ls.length ≤ k) : ls.all p = true := by
  rw [List.all_eq_true]
  intro x hx
  obtain ⟨i, hi, rfl⟩ := List.getElem_of_mem hx
  exact h i _ (by omega) (List.getElem?_eq_getElem hi)
theorem all_not {α : Type} {p : α → Bool} {ls : List α} {k : Nat} {x : α} (hk : ls[k]? = some x) (h : p x = false) : ls.all p = false := by
  rw [List.all_eq_false]
  exact ⟨x, List.mem_of_getElem? hk, by simp [h]⟩

theorem set_one {W : World} {b : Nat} {v u : Value} (h : W.cell? ⟨b, 0, none⟩ = some v) : (W.setCell ⟨b, 0, none⟩ u).cell? ⟨b, 0, none⟩ = some u := by simp [go_sem, h]
theorem leave_code {tmps : Array Value} {R : Ending → World → Prop} {W : World} {b : Nat} {x : Int} (hp : tmps.getD 4 undef = .pointer (some ⟨b, 0, none⟩)) (hc : W.cell? ⟨b, 0, none⟩ = some (.int .i64 x)) (hR : R (.returned (.int .i64 x)) W) :
    Leaves Tryd.prog Tryd.f17 tmps R [] .returning W := by
  have hp' : tmps[4]?.getD undef = .pointer (some ⟨b, 0, none⟩) := by simpa using hp
  refine ⟨.int .i64 x, ?_, hR⟩
  simp [results, Tryd.results17, hp', asAddr, go_sem, hc]

set_option maxRecDepth 100000 in
set_option maxHeartbeats 4000000 in
theorem code_any (V : Int) (a0 : Option Addr) (cap : Nat) (fs : List Int) (bl cl : Nat) (ls : List (Option Addr × Nat × List Int)) (w : World) (pv : Value) (hx : SlI w w.heap.size a0 fs) (hl : fs.length ≤ 1048576)
    (hb : bl < w.heap.size) (hL : Lists w w.heap.size bl ls) (hn : ls.length ≤ 1048576) (hG : w.cell? ⟨0, 0, none⟩ = some (.iface 74 pv)) :
    Calls Tryd.prog 17 #[.agg #[.int .i64 V, .slice a0 fs.length cap], .slice (some ⟨bl, 0, none⟩) ls.length cl] w fun e w' => e = .returned (.int .i64 (chnsR V fs (ls.map (·.2.2)))) ∧ Below w.heap.size w w' := by
  have hmf : ∀ (fn : Fn) (first cap : Array Value) (w : World), (Instr.makeFunc fn first cap).run Tryd.prog w = .ok (.func fn first cap) w := fun _ _ _ _ => rfl
  obtain ⟨W0, hW0⟩ : ∃ W0, W0 = (w.alloc (.cells #[.int .i64 V, .slice a0 fs.length cap] 28)).alloc (.cells #[.int .i64 0] 2) := ⟨_, rfl⟩
  have hB0 : Below w.heap.size w W0 := by rw [hW0]; exact ((Below.refl _ w).alloc (Nat.le_refl _) _).alloc (by simp) _
  have Hk : Hid (W0.heap[w.heap.size]? = some (.cells #[.int .i64 V, .slice a0 fs.length cap] 28 (0, 0))) := hid (by rw [hW0]; exact (Below.heap_alloc _ _ _ (by simp)).trans (heap_alloc_new _ _))
  have Hr : Hid (W0.heap[w.heap.size + 1]? = some (.cells #[.int .i64 0] 2 (0, 0))) := hid (by rw [hW0]; exact new2 _ _ _)
  have Hx := hid hx
  have HB0 := hid hB0
  have HL := hid hL
  have HG := hid hG
  have HGl := hid (World.block_lt_of_cell? w _ hG)
  have HI := hid (implIsComplex V a0 cap fs W0 (hx.later hB0 hB0.size) hl)
  rw [hW0] at HI
  clear hx hB0 hL hG
  cases hc : isCB V fs
  · have HR : Hid (chnsR V fs (ls.map (·.2.2)) = 1) := hid (by unfold chnsR; rw [hc]; rfl)
    rw [hc] at HI
    clear hc
    go_enter_defers Tryd.func17, Tryd.ntmps17
    go_wp2_with fail
    refine HI.out.mono ?_
    rintro e w1 ⟨rfl, hB1⟩
    rw [← hW0] at hB1
    have hr1 := (hB1.block _ (lt_get Hr.out)).trans Hr.out
    obtain ⟨r0, g0⟩ := box_cell hr1
    have Hr1 := hid hr1
    have HB1 := hid (HB0.out.trans (hB1.mono HB0.out.size))
    clear hB1 hr1
    go_wp2_with fail
    simp only [bodyPostD]
    refine leave_code (b := w.heap.size + 1) rfl (set_one r0) ⟨by rw [HR.out], ?_⟩
    exact HB1.out.setCell (Nat.le_succ _) _
  · have hC := isCB_iff.1 hc
    have HC := hid hC
    have HY : Hid (ls.all (fun x => chainB fs x.2.2) = true → chnsR V fs (ls.map (·.2.2)) = 0) := hid (fun h => by unfold chnsR; rw [hc, if_pos rfl, List.all_map]; exact if_pos h)
    have HN : Hid (ls.all (fun x => chainB fs x.2.2) = false → chnsR V fs (ls.map (·.2.2)) = 2) := hid (fun h => by unfold chnsR; rw [hc, if_pos rfl, List.all_map]; exact if_neg (by simpa using h))
    rw [hc] at HI
    clear hc hC
    obtain ⟨R, hR⟩ : ∃ R, R = chnsR V fs (ls.map (·.2.2)) := ⟨_, rfl⟩
    rw [← hR] at HY HN ⊢
    clear hR
    go_enter_defers Tryd.func17, Tryd.ntmps17
    go_wp2_with fail
    refine HI.out.mono ?_
    rintro e w1 ⟨rfl, hB1⟩
    rw [← hW0] at hB1
    have Hk1 := hid ((hB1.block _ (lt_get Hk.out)).trans Hk.out)
    have Hr1 := hid ((hB1.block _ (lt_get Hr.out)).trans Hr.out)
    have HB1 := hid (HB0.out.trans (hB1.mono HB0.out.size))
    clear hB1
    go_wp2_with fail
    clear hmf
    go_loopw [13] (fun iv wx => ∃ k : Nat, k ≤ ls.length ∧ iv = .int .i64 k ∧ Hid (∀ i x, i < k → ls[i]? = some x → chainB fs x.2.2 = true) ∧ Hid (Below w1.heap.size w1 wx)) (fun iv _ => ls.length - (RowKit.intOf iv).toNat)
    case atStart => exact ⟨0, Nat.zero_le _, rfl, hid (by intro i x h; omega), hid (Below.refl _ _)⟩
    case round =>
      obtain ⟨k, hk, rfl, HK, HB⟩ := hrel
      have HBw := hid (HB1.out.trans (HB.out.mono HB1.out.size))
      have Hkr := hid ((HB.out.block _ (lt_get Hk1.out)).trans Hk1.out)
      have Hrr := hid ((HB.out.block _ (lt_get Hr1.out)).trans Hr1.out)
      by_cases hlt : k < ls.length
      · obtain ⟨⟨a, c2, ch⟩, hx⟩ : ∃ x, ls[k]? = some x := ⟨_, List.getElem?_eq_getElem hlt⟩
        obtain ⟨hcl, hsl, hcn⟩ := HL.out k a c2 ch hx
        have hck := (HBw.out.cell (p := ⟨bl, k, none⟩) hb).trans hcl
        obtain ⟨k0, k1, _, _⟩ := two_of Hkr.out
        have HM := hid (must_any V a0 cap fs a c2 ch wr 74 pv (Hx.out.later HBw.out HBw.out.size) (hsl.later HBw.out HBw.out.size) hl hcn HC.out ((HBw.out.cell (p := ⟨0, 0, none⟩) HGl.out).trans HG.out))
        have hi0 : (0 : Int) ≤ (k : Int) := by omega
        have hi1 : (k : Int) < (ls.length : Int) := by omega
        have Hxk := hid hx
        clear hcl hsl hcn hx
        obtain ⟨c, hcc⟩ : ∃ c, c = chainB fs ch := ⟨_, rfl⟩
        rw [← hcc] at HM
        have Hcc := hid hcc
        clear hcc
        go_wp2_with fail
        refine HM.out.mono ?_
        rintro e w2 ⟨rfl, hB2⟩
        have HB2 := hid hB2
        clear hB2 k0 k1
        cases c
        · have He := hid (HN.out (all_not Hxk.out Hcc.out.symm))
          have hr2 := (HB2.out.block _ (lt_get Hrr.out)).trans Hrr.out
          obtain ⟨r0, g0⟩ := box_cell hr2
          simp only [endOf]
          refine leaves_cons (f := 34) (args := #[.pointer (some ⟨w.heap.size + 1, 0, none⟩)]) (by simp) (by simp [go_sem]) ?_
          refine (catch_panic ⟨w.heap.size + 1, 0, none⟩ 0 pv [] _ r0 g0).mono ?_
          rintro e u' w3 ⟨rfl, rfl, rfl⟩
          refine leave_code (b := w.heap.size + 1) rfl (set_one r0) ⟨by rw [He.out], ?_⟩
          exact (HBw.out.trans (HB2.out.mono HBw.out.size)).setCell (Nat.le_succ _) _
        · have HS : Hid (∀ i x, i < k + 1 → ls[i]? = some x → chainB fs x.2.2 = true) := hid (fun i x hi h => by
            by_cases e : i = k
            · subst e
              rw [Hxk.out] at h
              cases h
              exact Hcc.out.symm
            · exact HK.out i x (by omega) h)
          simp only [endOf]
          go_wp2_with fail
          go_roundw
          case rel => exact ⟨k + 1, by omega, by go_num, HS, hid (HB.out.trans (HB2.out.mono HB.out.size))⟩
          case measure => simp [RowKit.intOf]; omega
      · obtain rfl : k = ls.length := by omega
        have He := hid (HY.out (all_take HK.out (Nat.le_refl _)))
        obtain ⟨r0, g0⟩ := box_cell Hrr.out
        go_wp2_with fail
        refine leaves_cons (f := 34) (args := #[.pointer (some ⟨w.heap.size + 1, 0, none⟩)]) (by simp) (by simp [go_sem]) ?_
        refine (catch_idle ⟨w.heap.size + 1, 0, none⟩ _).mono ?_
        rintro e u' w3 ⟨rfl, rfl, rfl⟩
        refine leave_code (b := w.heap.size + 1) rfl (set_one r0) ⟨by rw [He.out], ?_⟩
        exact HBw.out.setCell (Nat.le_succ _) _

end Go.Proofs.YtpdhnjdnlgnniaaDoor

/-! Boundaries modulo 2: parities. -/
namespace Go.Proofs.YtpdhnjdnlgnniaaDoor
open Go.RowKit Go.Shelf

/-- The number of places at which p stands is odd. -/
def par (p : Int) (L : List Int) : Bool := decide (L.count p % 2 = 1)
/-- All sides of some faces, one after the other. -/
def sidesI (_f : Nat) (pre : List (Fin 64)) : List Int := pre.map fun p => ((p.val : Nat) : Int)
def sidesAll (ch : List Int) : List Int := ch.flatMap fun x => sidesI x.toNat (sidesF x.toNat)
theorem sidesAll_snoc (ch : List Int) (x : Int) : sidesAll (ch ++ [x]) = sidesAll ch ++ sidesI x.toNat (sidesF x.toNat) := by simp [sidesAll]
theorem sidesI_len (f : Nat) (pre : List (Fin 64)) : (sidesI f pre).length = pre.length := by simp [sidesI]
theorem sidesI_snoc (f : Nat) (pre : List (Fin 64)) (p : Fin 64) : sidesI f (pre ++ [p]) = sidesI f pre ++ [((p.val : Nat) : Int)] := by simp [sidesI]
theorem sidesAll_len : ∀ ch : List Int, (sidesAll ch).length ≤ 6 * ch.length
  | [] => by simp [sidesAll]
  | x :: ch => by
    have h1 := sidesAll_len ch
    have h2 : (sidesF x.toNat).length ≤ 6 := sides_len x.toNat 6
    unfold sidesAll at h1 ⊢
    rw [List.flatMap_cons, List.length_append, sidesI_len, List.length_cons]
    omega

/-- The map of parities; the last number met comes first. -/
def togR : List Int → DataW Unit
  | [] => .map []
  | x :: L => (togR L).put (.int .i64 x) (.lit (.bool (!par x L)))
def togD (L : List Int) : DataW Unit := togR L.reverse

theorem par_rev (p : Int) (L : List Int) : par p L.reverse = par p L := by unfold par; rw [List.count_reverse]
theorem togD_snoc (L : List Int) (x : Int) : togD (L ++ [x]) = (togD L).put (.int .i64 x) (.lit (.bool (!par x L))) := by
  unfold togD
  rw [List.reverse_append]
  show togR (x :: L.reverse) = _
  unfold togR
  rw [par_rev]
  cases L.reverse <;> rfl
theorem togR_map : ∀ L : List Int, Maps.IsMap (togR L)
  | [] => Maps.isMap_empty
  | _ :: L => (togR_map L).put _ _
theorem par_cons_self (x : Int) (L : List Int) : par x (x :: L) = !par x L := by
  unfold par
  rw [List.count_cons_self]
  rcases Nat.mod_two_eq_zero_or_one (L.count x) with h | h
  · have : (L.count x + 1) % 2 = 1 := by omega
    simp [h, this]
  · have : ¬ (L.count x + 1) % 2 = 1 := by omega
    simp [h, this]
theorem par_cons_ne {p x : Int} (h : ¬ p = x) (L : List Int) : par p (x :: L) = par p L := by
  unfold par
  rw [List.count_cons_of_ne (fun e => h e.symm)]
theorem togR_at (p : Int) : ∀ L : List Int, (togR L).atKey (.int .i64 p) (.lit (.bool false)) = .lit (.bool (par p L))
  | [] => by simp [togR, par]; rfl
  | x :: L => by
    have ih := togR_at p L
    show ((togR L).put (.int .i64 x) (.lit (.bool (!par x L)))).atKey _ _ = _
    by_cases h : p = x
    · subst h
      rw [Maps.atKey_put_same (togR_map L) (show WideAt.IsKeyLit (.int .i64 p) from trivial), par_cons_self]
    · rw [Maps.atKey_put_other (by simpa using h), ih, par_cons_ne h]
theorem togD_at (p : Int) (L : List Int) : (togD L).atKey (.int .i64 p) (.lit (.bool false)) = .lit (.bool (par p L)) := by
  unfold togD; rw [togR_at, par_rev]

theorem lookup_tog {w : World} {b n : Nat} {L : List Int} (hown : w.ownsMap Tryd.prog 2 (plainElem (H := Unit) Tryd.prog 4) b n (togD L)) {p : Int} (hp : (Lit.int .i64 p).wf = true) :
    (Instr.lookup 64 (.map (some b)) (.int .i64 p) false).run Tryd.prog w = .ok (.bool (par p L)) w := by
  obtain ⟨v, ps, hrun, hv⟩ := hown.lookup (Maps.int_keyed Tryd.underlying2) Tryd.underlying64 (zero_bool w) (plainElem_bool Tryd.underlying4 false) (Maps.keyOf_int_mk Tryd.underlying2 hp)
  rw [togD_at] at hv
  rw [bool_inv hv] at hrun
  exact hrun

/-- 'odd[p]', at the operation. -/
theorem at_tog {F : Fence} {nF : Nat} {w : World} {ops : Array Oper} {rest : List Oper} {o : Oper} {a : Act} {Q : Exit → Act → World → Prop} (hg : o.guard = none) {m x : Operand} (hop : o.op = Op.lookup 64 m x false)
    {b n : Nat} {L : List Int} (hown : w.ownsMap Tryd.prog 2 (plainElem (H := Unit) Tryd.prog 4) b n (togD L)) {p : Int} (hp : (Lit.int .i64 p).wf = true)
    (hm : a.eval m = .map (some b)) (hx : a.eval x = .int .i64 p) (hK : wpListIn F nF Tryd.prog ops Q rest (a.put o.dst (.bool (par p L))) w) :
    wpListIn F nF Tryd.prog ops Q (o :: rest) a w := by
  refine wpListIn_plain hg fun K' hK' => ?_
  have hrun := lookup_tog hown hp
  unfold Oper.wpIn
  refine ⟨by simp [Oper.about, hop], ?_⟩
  rw [Oper.semAt_plain F _ _ (by rw [hop]; intro c hc'; cases hc')]
  simp [execOp, hop, hm, hx, hrun, Result.andThen]
  exact hK' _ _ hK

/-- The boundary of a chain: the faces with an odd number of places among the sides. -/
def bdL (fs ch : List Int) : List Int := fs.filter fun p => par p (sidesAll ch)

end Go.Proofs.YtpdhnjdnlgnniaaDoor

/-! Boundaries modulo 2: sums of ascending lists. -/
namespace Go.Proofs.YtpdhnjdnlgnniaaDoor
open Go.RowKit

/-- What stands in just one of two ascending lists. -/
def sumL : List Int → List Int → List Int
  | [], ys => ys
  | a :: xs, [] => a :: xs
  | a :: xs, b :: ys => if a < b then a :: sumL xs (b :: ys) else if b < a then b :: sumL (a :: xs) ys else sumL xs ys
termination_by x y => x.length + y.length

theorem sumL_nil (ys : List Int) : sumL [] ys = ys := by unfold sumL; rfl
theorem sumL_nil' (xs : List Int) : sumL xs [] = xs := by cases xs <;> (unfold sumL; rfl)
theorem sumL_lt {a b : Int} (xs ys : List Int) (h : a < b) : sumL (a :: xs) (b :: ys) = a :: sumL xs (b :: ys) := by rw [sumL, if_pos h]
theorem sumL_gt {a b : Int} (xs ys : List Int) (h : b < a) : sumL (a :: xs) (b :: ys) = b :: sumL (a :: xs) ys := by rw [sumL, if_neg (by omega), if_pos h]
theorem sumL_eq (a : Int) (xs ys : List Int) : sumL (a :: xs) (a :: ys) = sumL xs ys := by rw [sumL, if_neg (by omega), if_neg (by omega)]

theorem sumL_len (n : Nat) : ∀ xs ys : List Int, xs.length + ys.length ≤ n → (sumL xs ys).length ≤ xs.length + ys.length := by
  induction n with
  | zero => intro xs ys h; obtain rfl : xs = [] := List.length_eq_zero_iff.1 (by omega); rw [sumL_nil]; simp
  | succ n ih =>
    intro xs ys h
    cases xs with
    | nil => rw [sumL_nil]; simp
    | cons a xs =>
      cases ys with
      | nil => rw [sumL_nil']; simp
      | cons b ys =>
        simp only [List.length_cons] at h
        rcases Int.lt_trichotomy a b with h1 | h1 | h1
        · rw [sumL_lt _ _ h1]; have := ih xs (b :: ys) (by simp; omega); simp only [List.length_cons] at *; omega
        · subst h1; rw [sumL_eq]; have := ih xs ys (by omega); simp only [List.length_cons]; omega
        · rw [sumL_gt _ _ h1]; have := ih (a :: xs) ys (by simp; omega); simp only [List.length_cons] at *; omega

theorem sumL_spec (n : Nat) : ∀ xs ys : List Int, xs.length + ys.length ≤ n → xs.Pairwise (· < ·) → ys.Pairwise (· < ·) →
    (∀ x, x ∈ sumL xs ys ↔ ((x ∈ xs ∧ x ∉ ys) ∨ (x ∉ xs ∧ x ∈ ys))) ∧ (sumL xs ys).Pairwise (· < ·) := by
  induction n with
  | zero =>
    intro xs ys h ha hb
    obtain rfl : xs = [] := List.length_eq_zero_iff.1 (by omega)
    rw [sumL_nil]; exact ⟨fun x => by simp, hb⟩
  | succ n ih =>
    intro xs ys h ha hb
    cases xs with
    | nil => rw [sumL_nil]; exact ⟨fun x => by simp, hb⟩
    | cons a xs =>
      cases ys with
      | nil => rw [sumL_nil']; exact ⟨fun x => by simp, ha⟩
      | cons b ys =>
        simp only [List.length_cons] at h
        obtain ⟨ha1, ha2⟩ := List.pairwise_cons.1 ha
        obtain ⟨hb1, hb2⟩ := List.pairwise_cons.1 hb
        rcases Int.lt_trichotomy a b with h1 | h1 | h1
        · rw [sumL_lt _ _ h1]
          obtain ⟨i1, i2⟩ := ih xs (b :: ys) (by simp; omega) ha2 hb
          have hab : a ∉ b :: ys := fun hm => by
            rcases List.mem_cons.1 hm with rfl | hm
            · omega
            · have := hb1 _ hm; omega
          have haa : a ∉ xs := fun hm => by have := ha1 _ hm; omega
          refine ⟨fun x => ?_, List.pairwise_cons.2 ⟨fun y hy => ?_, i2⟩⟩
          · rw [List.mem_cons, i1]
            by_cases hx : x = a
            · subst hx; simp only [true_or, true_iff]; exact .inl ⟨by simp, hab⟩
            · simp only [hx, false_or, List.mem_cons (a := x) (b := a)]
          · rcases (i1 y).1 hy with ⟨hy, _⟩ | ⟨_, hy⟩
            · exact ha1 _ hy
            · rcases List.mem_cons.1 hy with rfl | hy
              · exact h1
              · have := hb1 _ hy; omega
        · subst h1
          rw [sumL_eq]
          obtain ⟨i1, i2⟩ := ih xs ys (by omega) ha2 hb2
          refine ⟨fun x => ?_, i2⟩
          rw [i1]
          by_cases hx : x = a
          · subst hx
            have haa : x ∉ xs := fun hm => by have := ha1 _ hm; omega
            have hbb : x ∉ ys := fun hm => by have := hb1 _ hm; omega
            simp [haa, hbb]
          · simp only [List.mem_cons, hx, false_or]
        · rw [sumL_gt _ _ h1]
          obtain ⟨i1, i2⟩ := ih (a :: xs) ys (by simp; omega) ha hb2
          have hba : b ∉ a :: xs := fun hm => by
            rcases List.mem_cons.1 hm with rfl | hm
            · omega
            · have := ha1 _ hm; omega
          have hbb : b ∉ ys := fun hm => by have := hb1 _ hm; omega
          refine ⟨fun x => ?_, List.pairwise_cons.2 ⟨fun y hy => ?_, i2⟩⟩
          · rw [List.mem_cons, i1]
            by_cases hx : x = b
            · subst hx; simp only [true_or, true_iff]; exact .inr ⟨hba, by simp⟩
            · simp only [hx, false_or, List.mem_cons (a := x) (b := b)]
          · rcases (i1 y).1 hy with ⟨hy, _⟩ | ⟨_, hy⟩
            · rcases List.mem_cons.1 hy with rfl | hy
              · exact h1
              · have := ha1 _ hy; omega
            · exact hb1 _ hy

theorem asc_ext : ∀ {a b : List Int}, a.Pairwise (· < ·) → b.Pairwise (· < ·) → (∀ x, x ∈ a ↔ x ∈ b) → a = b
  | [], [], _, _, _ => rfl
  | [], y :: b, _, _, h => by have := (h y).2 (by simp); simp at this
  | x :: a, [], _, _, h => by have := (h x).1 (by simp); simp at this
  | x :: a, y :: b, ha, hb, h => by
    obtain ⟨ha1, ha2⟩ := List.pairwise_cons.1 ha
    obtain ⟨hb1, hb2⟩ := List.pairwise_cons.1 hb
    have hxy : x = y := by
      rcases List.mem_cons.1 ((h x).1 (by simp)) with e | hx
      · exact e
      · rcases List.mem_cons.1 ((h y).2 (by simp)) with e | hy
        · exact e.symm
        · have h1 := hb1 _ hx; have h2 := ha1 _ hy; omega
    subst hxy
    have : a = b := asc_ext ha2 hb2 (fun z => by
      have hz := h z
      simp only [List.mem_cons] at hz
      constructor
      · intro hm
        rcases hz.1 (.inr hm) with e | hm'
        · subst e; have := ha1 _ hm; omega
        · exact hm'
      · intro hm
        rcases hz.2 (.inr hm) with e | hm'
        · subst e; have := hb1 _ hm; omega
        · exact hm')
    rw [this]

theorem below_sides : ∀ f : Fin 64, belowR f.val 63 = ((sidesF f.val).map fun p => ((p.val : Nat) : Int)).reverse := by decide +kernel
theorem below_asc : ∀ f : Fin 64, (belowR f.val 63).Pairwise (· < ·) := by decide +kernel
theorem sides_nodup : ∀ f : Fin 64, ((sidesF f.val).map fun p => ((p.val : Nat) : Int)).Nodup := by decide +kernel
theorem sides_sub : ∀ f : Fin 64, ∀ p ∈ sidesF f.val, p.val ≠ 0 ∧ p.val &&& f.val = p.val := by decide +kernel

/-- The boundary of a chain, xs the model sums it up. -/
def bdS (ch : List Int) : List Int := ch.foldl (fun o x => sumL o (belowR x.toNat 63)) []
theorem bdS_snoc (ch : List Int) (x : Int) : bdS (ch ++ [x]) = sumL (bdS ch) (belowR x.toNat 63) := by simp [bdS]

theorem par_add {p : Int} (L : List Int) (f : Nat) (hf : f < 64) : par p (L ++ sidesI f (sidesF f)) = (par p L != decide (p ∈ belowR f 63)) := by
  have hb := below_sides ⟨f, hf⟩
  simp only at hb
  have hn := sides_nodup ⟨f, hf⟩
  simp only at hn
  have e : sidesI f (sidesF f) = (sidesF f).map fun p => ((p.val : Nat) : Int) := rfl
  rw [hb, e]
  generalize (sidesF f).map (fun p => ((p.val : Nat) : Int)) = M at *
  unfold par
  rw [List.count_append]
  by_cases hm : p ∈ M
  · have h1 : M.count p = 1 := by rw [List.Nodup.count hn, if_pos hm]
    rw [h1]
    rcases Nat.mod_two_eq_zero_or_one (L.count p) with h | h
    · have : (L.count p + 1) % 2 = 1 := by omega
      simp [h, this, hm]
    · have : ¬ (L.count p + 1) % 2 = 1 := by omega
      simp [h, this, hm]
  · have h0 : M.count p = 0 := List.count_eq_zero.2 hm
    rw [h0]
    simp [hm]

theorem fold_spec : ∀ (ch o L : List Int), (∀ x ∈ ch, 1 ≤ x ∧ x ≤ 63) → (∀ p, p ∈ o ↔ par p L = true) → o.Pairwise (· < ·) →
    (∀ p, p ∈ ch.foldl (fun o x => sumL o (belowR x.toNat 63)) o ↔ par p (L ++ sidesAll ch) = true) ∧ (ch.foldl (fun o x => sumL o (belowR x.toNat 63)) o).Pairwise (· < ·)
  | [], o, L, _, h1, h2 => ⟨fun p => by simpa [sidesAll] using h1 p, h2⟩
  | x :: ch, o, L, h, i1, i2 => by
    have hx := h x (by simp)
    have hf : x.toNat < 64 := by omega
    have ha := below_asc ⟨x.toNat, hf⟩
    simp only at ha
    obtain ⟨s1, s2⟩ := sumL_spec _ o (belowR x.toNat 63) (Nat.le_refl _) i2 ha
    have e : L ++ sidesAll (x :: ch) = (L ++ sidesI x.toNat (sidesF x.toNat)) ++ sidesAll ch := by simp [sidesAll]
    rw [List.foldl_cons, e]
    refine fold_spec ch _ _ (fun y hy => h y (by simp [hy])) (fun p => ?_) s2
    rw [s1, i1, par_add _ _ hf]
    cases par p L <;> by_cases hm : p ∈ belowR x.toNat 63 <;> simp [hm]

theorem bdS_spec (ch : List Int) (h : ∀ x ∈ ch, 1 ≤ x ∧ x ≤ 63) : (∀ p, p ∈ bdS ch ↔ par p (sidesAll ch) = true) ∧ (bdS ch).Pairwise (· < ·) := by
  have := fold_spec ch [] [] h (fun p => by simp [par]) (by simp)
  simpa [bdS] using this

theorem bdS_bdL {V : Int} {fs : List Int} (hC : IsC V fs) {ch : List Int} (hs : ∀ x ∈ ch, x ∈ fs) : bdS ch = bdL fs ch := by
  obtain ⟨h1, h2⟩ := bdS_spec ch (fun x hx => hC.range63 x (hs x hx))
  refine asc_ext h2 (List.Pairwise.sublist List.filter_sublist hC.asc) (fun p => ?_)
  unfold bdL
  rw [h1, List.mem_filter]
  refine ⟨fun hp => ⟨?_, hp⟩, fun hp => hp.2⟩
  have hm : p ∈ sidesAll ch := by
    unfold par at hp
    have := of_decide_eq_true hp
    exact List.count_pos_iff.1 (by omega)
  unfold sidesAll at hm
  obtain ⟨x, hx, hm⟩ := List.mem_flatMap.1 hm
  have hxr := hC.range63 x (hs x hx)
  obtain ⟨q, hq, rfl⟩ := List.mem_map.1 hm
  have := sides_sub ⟨x.toNat, by omega⟩ q hq
  exact hC.closed x (hs x hx) q.val this.1 this.2

end Go.Proofs.YtpdhnjdnlgnniaaDoor

/-! The boundary of a chain, the program's. -/
namespace Go.Proofs.YtpdhnjdnlgnniaaDoor
open Go.RowKit Go.Shelf

attribute [local go_sem] Oper.semAt_some

/-- What the walk keeps of the world. -/
structure FbW (w W : World) (V : Int) (sl : Value) (L : List Int) (Ds : List Nat) : Prop where
  below : Below w.heap.size w W
  kbox : W.heap[w.heap.size]? = some (.cells #[.int .i64 V, sl] 28 (0, 0))
  own : W.ownsMap Tryd.prog 2 (plainElem (H := Unit) Tryd.prog 4) (w.heap.size + 1) L.length (togD L)
  mbox : W.heap[w.heap.size + 2]? = some (.cells #[.map (some (w.heap.size + 1))] 64 (0, 0))
  nodup : Ds.Nodup
  marks : ∀ D ∈ Ds, w.heap.size + 3 ≤ D ∧ W.heap[D]? = some (.deferred (some []))

theorem FbW.size {w W : World} {V : Int} {sl : Value} {L : List Int} {Ds : List Nat} (h : FbW w W V sl L Ds) : w.heap.size + 3 ≤ W.heap.size := by
  have := lt_of_get h.mbox; omega

theorem FbW.turn {w W W' : World} {V : Int} {sl : Value} {L : List Int} {Ds : List Nat} (h : FbW w W V sl L Ds) {row : Option Nat} (hg : W.grownBy W' row)
    (hr : ∀ r, row = some r → w.heap.size + 3 ≤ r ∧ r ∉ Ds) : FbW w W' V sl L Ds where
  below := h.below.grown hg h.below.size (fun k e => by have := (hr k e).1; omega)
  kbox := (hg.block _ (lt_of_get h.kbox) (fun e => by have := (hr _ e.symm).1; omega)).trans h.kbox
  own := h.own.kept hg (fun e => by have := (hr _ e.symm).1; omega)
  mbox := (hg.block _ (lt_of_get h.mbox) (fun e => by have := (hr _ e.symm).1; omega)).trans h.mbox
  nodup := h.nodup
  marks := fun D hD => ⟨(h.marks D hD).1, (hg.block _ (lt_of_get (h.marks D hD).2) (fun e => (hr _ e.symm).2 hD)).trans (h.marks D hD).2⟩

theorem fbw_own {w : World} {V : Int} {sl : Value} {g : List (Fin 64) → List Int} {Ds : List Nat} {B : Nat} (hB : w.heap.size + 3 ≤ B) (hD : ∀ D ∈ Ds, D < B) : OwnFrom B (fun (pre : List (Fin 64)) W => FbW w W V sl (g pre) Ds) :=
  fun _ _ _ _ hs hg hr => hs.turn hg (fun r e => ⟨by have := (hr r e).1; omega, fun hm => by have := hD r hm; have := (hr r e).1; omega⟩)

theorem box_ownB {β : Type} {B fb : Nat} {o : Obj} (hB : fb < B) : OwnFrom B (fun (_ : β) (W : World) => W.heap[fb]? = some o) :=
  fun _ _ _ _ hs hg hr => (hg.block _ (lt_of_get hs) (fun e => by have := (hr _ e.symm).1; omega)).trans hs

/-- A further mark. -/
theorem FbW.mark {w W : World} {V : Int} {sl : Value} {L : List Int} {Ds : List Nat} (h : FbW w W V sl L Ds) {D : Nat} (hD : W.heap[D]? = some (.deferred (some []))) (hb : w.heap.size + 3 ≤ D) (hn : D ∉ Ds) : FbW w W V sl L (D :: Ds) where
  below := h.below
  kbox := h.kbox
  own := h.own
  mbox := h.mbox
  nodup := List.nodup_cons.2 ⟨hn, h.nodup⟩
  marks := fun E hE => by
    rcases List.mem_cons.1 hE with rfl | hE
    · exact ⟨hb, hD⟩
    · exact h.marks E hE

/-- A side more in the map. -/
theorem FbW.put {w W w1 : World} {V : Int} {sl : Value} {L : List Int} {Ds : List Nat} (h : FbW w W V sl L Ds) {x : Int}
    (hown : w1.ownsMap Tryd.prog 2 (plainElem (H := Unit) Tryd.prog 4) (w.heap.size + 1) (L.length + 1) ((togD L).put (.int .i64 x) (.lit (.bool (!par x L))))) (hg : W.grownBy w1 (some (w.heap.size + 1))) : FbW w w1 V sl (L ++ [x]) Ds where
  below := h.below.grown hg h.below.size (fun k e => by cases e; omega)
  kbox := (hg.block _ (lt_of_get h.kbox) (fun e => by simp at e)).trans h.kbox
  own := by rw [togD_snoc]; simpa using hown
  mbox := (hg.block _ (lt_of_get h.mbox) (fun e => by simp at e)).trans h.mbox
  nodup := h.nodup
  marks := fun D hD => ⟨(h.marks D hD).1, (hg.block _ (lt_of_get (h.marks D hD).2) (fun e => by have := (h.marks D hD).1; simp at e; omega)).trans (h.marks D hD).2⟩



end Go.Proofs.YtpdhnjdnlgnniaaDoor

/-! CountFaces, the model's and the program's. -/
namespace Go.Proofs.YtpdhnjdnlgnniaaDoor
open Go.RowKit

/-- The numbers of faces of the first n dimensions. -/
def countL (fs : List Int) (n : Nat) : List Int := (List.range n).map fun d : Nat => ((ofDim fs (d : Int)).length : Int)

theorem countL_len (fs : List Int) (n : Nat) : (countL fs n).length = n := by simp [countL]

theorem countL_snoc (fs : List Int) (n : Nat) : countL fs (n + 1) = countL fs n ++ [((ofDim fs (n : Int)).length : Int)] := by
  simp [countL, List.range_succ]

theorem countL_face (pre : List Int) (x : Nat) (n e : Nat) (he : ones x = e + 1) : countL (pre ++ [(x : Int)]) n = (countL pre n).set e (((ofDim pre (e : Int)).length : Int) + 1) := by
  apply List.ext_getElem?
  intro i
  by_cases hi : i < n
  · by_cases hie : e = i
    · subst hie
      rw [List.getElem?_set_self (by rw [countL_len]; exact hi)]
      simp [countL, hi, ofDim, List.filter_append, he]
    · rw [List.getElem?_set_ne hie]
      have : ¬ ((ones x : Int) = (i : Int) + 1) := by omega
      simp [countL, hi, ofDim, List.filter_append, this]
  · rw [List.getElem?_eq_none (by rw [countL_len]; omega), List.getElem?_eq_none (by rw [List.length_set, countL_len]; omega)]

theorem countL_at (pre : List Int) (n e : Nat) (hn : e < n) : (countL pre n)[e]?.getD 0 = ((ofDim pre (e : Int)).length : Int) := by
  simp [countL, hn]

/-- What CountFaces hands back. -/
noncomputable def countFacesR (V : Int) (fs : List Int) : List Int × Int := if isCB V fs then (countL fs (top fs + 1).toNat, 0) else ([], 1)

theorem countFacesR_len (V : Int) (fs : List Int) (_h : fs.length ≤ 1048576) : (countFacesR V fs).1.length ≤ 1048576 := by
  unfold countFacesR
  have := top_hi fs
  split
  · rw [countL_len]; omega
  · simp


end Go.Proofs.YtpdhnjdnlgnniaaDoor

/-! CountFaces, the program's. -/
namespace Go.Proofs.YtpdhnjdnlgnniaaDoor
open Go.RowKit

theorem dimE (f e : Nat) (w : World) (hf : f < 64) (he : ones f = e + 1) :
    Calls Tryd.prog 21 #[.int .i64 (f : Int)] w fun r w' => r = .returned (.int .i64 (e : Int)) ∧ w = w' :=
  (dim_any f w hf).mono fun _ _ ⟨h, hw⟩ => ⟨by rw [h, he]; congr 2; omega, hw⟩


theorem countL_nil (n : Nat) : countL [] n = List.replicate n 0 := by
  apply List.ext_getElem?
  intro i
  by_cases hi : i < n
  · simp [countL, hi, ofDim]
  · rw [List.getElem?_eq_none (by rw [countL_len]; omega), List.getElem?_eq_none (by simp; omega)]


end Go.Proofs.YtpdhnjdnlgnniaaDoor

/-! FundamentalChain, the program's. -/
namespace Go.Proofs.YtpdhnjdnlgnniaaDoor
open Go.RowKit Go.Shelf

theorem bdL_nil (fs : List Int) : bdL fs [] = [] := by unfold bdL; simp [par, sidesAll]




/-- What FundamentalChain hands back. -/
noncomputable def fundR (V : Int) (fs : List Int) : List Int × Int := if isCB V fs then (if (ofDim fs (top fs)).length = 0 ∨ (bdL fs (ofDim fs (top fs))).length ≠ 0 then ([], 5) else (ofDim fs (top fs), 0)) else ([], 1)

theorem fundR_len (V : Int) (fs : List Int) (h : fs.length ≤ 1048576) : (fundR V fs).1.length ≤ 1048576 := by
  unfold fundR
  split
  · split
    · simp
    · exact Nat.le_trans (List.length_filter_le _ _) h
  · simp

theorem res_monoF {P : Program} {f : FuncId} {args : Array Value} {w : World} {r : List Int × Int} {xs : List Int} {c : Int} (hr : r = (xs, c))
    (h : Calls P f args w fun e w' => ∃ v, e = .returned (.tuple #[v, .int .i64 c]) ∧ Res w w' v xs) : Calls P f args w fun e w' => ∃ v, e = .returned (.tuple #[v, .int .i64 r.2]) ∧ Res w w' v r.1 := by
  subst hr; exact h

theorem ofDim_sub {fs : List Int} {d x : Int} (h : x ∈ ofDim fs d) : x ∈ fs := (List.mem_filter.1 h).1


end Go.Proofs.YtpdhnjdnlgnniaaDoor

/-! Sums of ascending lists, and the boundary of a chain: the model's. -/
namespace Go.Proofs.YtpdhnjdnlgnniaaDoor
open Go.RowKit

theorem drop_at {xs : List Int} {i : Nat} (h : i < xs.length) : xs.drop i = xs[i]?.getD 0 :: xs.drop (i + 1) := by
  rw [List.drop_eq_getElem_cons h, List.getElem?_eq_getElem h]; rfl

set_option maxRecDepth 100000 in
set_option maxHeartbeats 8000000 in
theorem sum_any (a : Option Addr) (ca : Nat) (A : List Int) (b0 : Option Addr) (cb : Nat) (B : List Int) (w : World) (ha : SlI w w.heap.size a A) (hb : SlI w w.heap.size b0 B) (hla : A.length ≤ 1048576) (hlb : B.length ≤ 1048576) :
    Calls Tryd.prog 20 #[.slice a A.length ca, .slice b0 B.length cb] w fun e w' => ∃ v, e = .returned v ∧ Res w w' v (sumL A B) := by
  have hown0 := World.ownsRow_made (base := w.heap.size) (e := 2) (size := 1) w #[] 0 (by simp) (by simp [maxLen]) rfl
  have Hown0 := hid hown0
  have HA := hid ha
  have HB' := hid hb
  have Hlen := hid (sumL_len _ A B (Nat.le_refl _))
  clear hown0 ha hb
  go_enter Tryd.func20, Tryd.ntmps20
  go_wp2
  go_loopw [5, 6, 7] (fun v p q wr => ∃ (i k : Nat) (O : List Int), i ≤ A.length ∧ k ≤ B.length ∧ p = .int .i64 i ∧ q = .int .i64 k ∧ wr.ownsRow w.heap.size 2 1 v O.length (O.map (Value.int .i64)) ∧ Hid (O ++ sumL (A.drop i) (B.drop k) = sumL A B) ∧ Below w.heap.size w wr) (fun _ p q _ => A.length + B.length - (intOf p).toNat - (intOf q).toNat)
  case atStart => exact ⟨0, 0, [], Nat.zero_le _, Nat.zero_le _, rfl, rfl, Hown0.out, hid (by simp), (Below.refl _ w).alloc (Nat.le_refl _) _⟩
  case round =>
    obtain ⟨i, k, O, hi, hk, rfl, rfl, hown, Hs, hB⟩ := hrel
    have HO := hid hown
    have HB := hid hB
    have HS := hid hB.size
    have hOl : O.length ≤ 2097152 := by have := congrArg List.length Hs.out; rw [List.length_append] at this; have := Hlen.out; omega
    clear hown hB Hown0
    by_cases hia : i < A.length
    · obtain ⟨ba, oa, hba, rfl, hca⟩ : ∃ b off, b < w.heap.size ∧ a = some ⟨b, off, none⟩ ∧ ∀ i, i < A.length → w.cell? ⟨b, off + i, none⟩ = some (.int .i64 (A[i]?.getD 0)) := by
        rcases HA.out with h | h
        · rw [h] at hia; simp at hia
        · exact h
      have hcx : wr.cell? ⟨ba, oa + i, none⟩ = some (.int .i64 (A[i]?.getD 0)) := (HB.out.cell (p := ⟨ba, oa + i, none⟩) hba).trans (hca i hia)
      have hda := drop_at hia
      obtain ⟨x, hx⟩ : ∃ x, x = A[i]?.getD 0 := ⟨_, rfl⟩
      rw [← hx] at hcx hda
      have hi0 : (0 : Int) ≤ (i : Int) := by omega
      have hi1 : (i : Int) < (A.length : Int) := by omega
      have hi2 : ((i : Int) == (A.length : Int)) = false := beq_eq_false_iff_ne.2 (by omega)
      by_cases hkb : k < B.length
      · obtain ⟨bb, ob, hbb, rfl, hcb⟩ : ∃ b off, b < w.heap.size ∧ b0 = some ⟨b, off, none⟩ ∧ ∀ i, i < B.length → w.cell? ⟨b, off + i, none⟩ = some (.int .i64 (B[i]?.getD 0)) := by
          rcases HB'.out with h | h
          · rw [h] at hkb; simp at hkb
          · exact h
        have hcy : wr.cell? ⟨bb, ob + k, none⟩ = some (.int .i64 (B[k]?.getD 0)) := (HB.out.cell (p := ⟨bb, ob + k, none⟩) hbb).trans (hcb k hkb)
        have hdb := drop_at hkb
        obtain ⟨y, hy⟩ : ∃ y, y = B[k]?.getD 0 := ⟨_, rfl⟩
        rw [← hy] at hcy hdb
        have hk0 : (0 : Int) ≤ (k : Int) := by omega
        have hk1 : (k : Int) < (B.length : Int) := by omega
        have hk2 : ((k : Int) == (B.length : Int)) = false := beq_eq_false_iff_ne.2 (by omega)
        have Hda := hid hda
        have Hdb := hid hdb
        clear hx hy hca hcb hda hdb
        by_cases hxy : x < y
        · have He := hid (sumL_lt (A.drop (i + 1)) (B.drop (k + 1)) hxy)
          have hd : decide (x < y) = true := decide_eq_true hxy
          go_wp2_with fail
          refine wp_region_quiet_lit (by kernel_rfl) (by kernel_rfl) ?_
          iterate 22 (with_reducible refine wpQuiet_step (fun K hK => ?_); have HK := hid hK; clear hK; go_simp; (first | with_reducible refine HK.out _ ?_ | (rw [if_neg (by decide)]; with_reducible refine HK.out _ ?_)); clear HK K)
          with_reducible refine wpQuiet_nil ?_
          intro _ hw'
          obtain ⟨nq, hw''⟩ := hw'
          subst hw''
          go_wp2_with (at_builtin; refine append_int rfl rfl HO.out HS.out (by omega) rfl rfl ?_; intro v' w2 hown2 hgrow2 hB2)
          go_roundw
          case rel => exact ⟨i + 1, k, O ++ [x], by omega, by omega, by go_num, by go_num, hown2, hid (by rw [List.append_assoc, ← Hs.out, Hda.out, Hdb.out, He.out]; rfl), HB.out.trans (Below.mono (w := wr) ⟨hB2.os, hB2.tape, hB2.output, hB2.size, hB2.block⟩ (Nat.le_refl _))⟩
          case measure => simp [intOf]; omega
        · have hd : decide (x < y) = false := decide_eq_false hxy
          by_cases hyx : y < x
          · have He := hid (sumL_gt (A.drop (i + 1)) (B.drop (k + 1)) hyx)
            have hd2 : decide (y < x) = true := decide_eq_true hyx
            go_wp2_with fail
            refine wp_region_quiet_lit (by kernel_rfl) (by kernel_rfl) ?_
            iterate 22 (with_reducible refine wpQuiet_step (fun K hK => ?_); have HK := hid hK; clear hK; go_simp; (first | with_reducible refine HK.out _ ?_ | (rw [if_neg (by decide)]; with_reducible refine HK.out _ ?_)); clear HK K)
            with_reducible refine wpQuiet_nil ?_
            intro _ hw'
            obtain ⟨nq, hw''⟩ := hw'
            subst hw''
            go_wp2_with fail
            refine wp_region_quiet_lit (by kernel_rfl) (by kernel_rfl) ?_
            iterate 16 (with_reducible refine wpQuiet_step (fun K hK => ?_); have HK := hid hK; clear hK; go_simp; (first | with_reducible refine HK.out _ ?_ | (rw [if_neg (by decide)]; with_reducible refine HK.out _ ?_)); clear HK K)
            with_reducible refine wpQuiet_nil ?_
            intro _ hw'
            obtain ⟨nq, hw''⟩ := hw'
            subst hw''
            go_wp2_with (at_builtin; refine append_int rfl rfl HO.out HS.out (by omega) rfl rfl ?_; intro v' w2 hown2 hgrow2 hB2)
            go_roundw
            case rel => exact ⟨i, k + 1, O ++ [y], by omega, by omega, by go_num, by go_num, hown2, hid (by rw [List.append_assoc, ← Hs.out, Hda.out, Hdb.out, He.out]; rfl), HB.out.trans (Below.mono (w := wr) ⟨hB2.os, hB2.tape, hB2.output, hB2.size, hB2.block⟩ (Nat.le_refl _))⟩
            case measure => simp [intOf]; omega
          · have hd2 : decide (y < x) = false := decide_eq_false hyx
            obtain rfl : x = y := by omega
            have He := hid (sumL_eq x (A.drop (i + 1)) (B.drop (k + 1)))
            go_wp2_with fail
            refine wp_region_quiet_lit (by kernel_rfl) (by kernel_rfl) ?_
            iterate 22 (with_reducible refine wpQuiet_step (fun K hK => ?_); have HK := hid hK; clear hK; go_simp; (first | with_reducible refine HK.out _ ?_ | (rw [if_neg (by decide)]; with_reducible refine HK.out _ ?_)); clear HK K)
            with_reducible refine wpQuiet_nil ?_
            intro _ hw'
            obtain ⟨nq, hw''⟩ := hw'
            subst hw''
            go_wp2_with fail
            refine wp_region_quiet_lit (by kernel_rfl) (by kernel_rfl) ?_
            iterate 16 (with_reducible refine wpQuiet_step (fun K hK => ?_); have HK := hid hK; clear hK; go_simp; (first | with_reducible refine HK.out _ ?_ | (rw [if_neg (by decide)]; with_reducible refine HK.out _ ?_)); clear HK K)
            with_reducible refine wpQuiet_nil ?_
            intro _ hw'
            obtain ⟨nq, hw''⟩ := hw'
            subst hw''
            go_wp2_with fail
            go_roundw
            case rel => exact ⟨i + 1, k + 1, O, by omega, by omega, by go_num, by go_num, HO.out, hid (by rw [← Hs.out, Hda.out, Hdb.out, He.out]), HB.out.trans ⟨rfl, rfl, rfl, Nat.le_refl _, fun _ _ => rfl⟩⟩
            case measure => simp [intOf]; omega
      · obtain rfl : k = B.length := by omega
        have hk2 : ((B.length : Int) == (B.length : Int)) = true := by simp
        have He := hid (sumL_nil' (A.drop (i + 1)))
        have Hda := hid hda
        clear hx hca hda
        go_wp2_with fail
        refine wp_region_quiet_lit (by kernel_rfl) (by kernel_rfl) ?_
        iterate 22 (with_reducible refine wpQuiet_step (fun K hK => ?_); have HK := hid hK; clear hK; go_simp; (first | with_reducible refine HK.out _ ?_ | (rw [if_neg (by decide)]; with_reducible refine HK.out _ ?_)); clear HK K)
        with_reducible refine wpQuiet_nil ?_
        intro _ hw'
        obtain ⟨nq, hw''⟩ := hw'
        subst hw''
        go_wp2_with (at_builtin; refine append_int rfl rfl HO.out HS.out (by omega) rfl rfl ?_; intro v' w2 hown2 hgrow2 hB2)
        go_roundw
        case rel => exact ⟨i + 1, B.length, O ++ [x], by omega, by omega, by go_num, by go_num, hown2, hid (by rw [List.append_assoc, ← Hs.out, Hda.out, List.drop_length, sumL_nil', sumL_nil']; rfl), HB.out.trans (Below.mono (w := wr) ⟨hB2.os, hB2.tape, hB2.output, hB2.size, hB2.block⟩ (Nat.le_refl _))⟩
        case measure => simp [intOf]; omega
    · obtain rfl : i = A.length := by omega
      have hi2 : ((A.length : Int) == (A.length : Int)) = true := by simp
      by_cases hkb : k < B.length
      · obtain ⟨bb, ob, hbb, rfl, hcb⟩ : ∃ b off, b < w.heap.size ∧ b0 = some ⟨b, off, none⟩ ∧ ∀ i, i < B.length → w.cell? ⟨b, off + i, none⟩ = some (.int .i64 (B[i]?.getD 0)) := by
          rcases HB'.out with h | h
          · rw [h] at hkb; simp at hkb
          · exact h
        have hcy : wr.cell? ⟨bb, ob + k, none⟩ = some (.int .i64 (B[k]?.getD 0)) := (HB.out.cell (p := ⟨bb, ob + k, none⟩) hbb).trans (hcb k hkb)
        have hdb := drop_at hkb
        obtain ⟨y, hy⟩ : ∃ y, y = B[k]?.getD 0 := ⟨_, rfl⟩
        rw [← hy] at hcy hdb
        have hk0 : (0 : Int) ≤ (k : Int) := by omega
        have hk1 : (k : Int) < (B.length : Int) := by omega
        have hk2 : ((k : Int) == (B.length : Int)) = false := beq_eq_false_iff_ne.2 (by omega)
        have Hdb := hid hdb
        clear hy hcb hdb
        go_wp2_with fail
        refine wp_region_quiet_lit (by kernel_rfl) (by kernel_rfl) ?_
        iterate 22 (with_reducible refine wpQuiet_step (fun K hK => ?_); have HK := hid hK; clear hK; go_simp; (first | with_reducible refine HK.out _ ?_ | (rw [if_neg (by decide)]; with_reducible refine HK.out _ ?_)); clear HK K)
        with_reducible refine wpQuiet_nil ?_
        intro _ hw'
        obtain ⟨nq, hw''⟩ := hw'
        subst hw''
        go_wp2_with fail
        refine wp_region_quiet_lit (by kernel_rfl) (by kernel_rfl) ?_
        iterate 16 (with_reducible refine wpQuiet_step (fun K hK => ?_); have HK := hid hK; clear hK; go_simp; (first | with_reducible refine HK.out _ ?_ | (rw [if_neg (by decide)]; with_reducible refine HK.out _ ?_)); clear HK K)
        with_reducible refine wpQuiet_nil ?_
        intro _ hw'
        obtain ⟨nq, hw''⟩ := hw'
        subst hw''
        go_wp2_with (at_builtin; refine append_int rfl rfl HO.out HS.out (by omega) rfl rfl ?_; intro v' w2 hown2 hgrow2 hB2)
        go_roundw
        case rel => exact ⟨A.length, k + 1, O ++ [y], by omega, by omega, by go_num, by go_num, hown2, hid (by rw [List.append_assoc, ← Hs.out, Hdb.out, List.drop_length, sumL_nil, sumL_nil]; rfl), HB.out.trans (Below.mono (w := wr) ⟨hB2.os, hB2.tape, hB2.output, hB2.size, hB2.block⟩ (Nat.le_refl _))⟩
        case measure => simp [intOf]; omega
      · obtain rfl : k = B.length := by omega
        have He : Hid (O = sumL A B) := hid (by have := Hs.out; rw [List.drop_length, List.drop_length, sumL_nil] at this; simpa using this)
        go_wp2
        go_ret
        exact ⟨_, rfl, by rw [← He.out]; exact HO.out, HB.out⟩

end Go.Proofs.YtpdhnjdnlgnniaaDoor

/-! FundamentalChain, the model's. -/
namespace Go.Proofs.YtpdhnjdnlgnniaaDoor
open Go.RowKit

theorem par_mem {p : Int} {L : List Int} (h : par p L = true) : p ∈ L := by
  unfold par at h
  have := of_decide_eq_true h
  exact List.count_pos_iff.1 (by omega)

theorem sidesAll_range {ch : List Int} (h : ∀ x ∈ ch, 1 ≤ x ∧ x ≤ 63) {p : Int} (hp : p ∈ sidesAll ch) : 1 ≤ p ∧ p ≤ 63 := by
  unfold sidesAll at hp
  obtain ⟨x, hx, hm⟩ := List.mem_flatMap.1 hp
  have hxr := h x hx
  obtain ⟨q, hq, rfl⟩ := List.mem_map.1 hm
  have := (sides_sub ⟨x.toNat, by omega⟩ q hq).1
  have := q.isLt
  omega

theorem bdS_len {ch : List Int} (h : ∀ x ∈ ch, 1 ≤ x ∧ x ≤ 63) : (bdS ch).length ≤ 63 := by
  obtain ⟨h1, h2⟩ := bdS_spec ch h
  have := asc_len (bdS ch) 1 h2 (fun x hx => sidesAll_range h (par_mem ((h1 x).1 hx)))
  omega


set_option maxRecDepth 100000 in
set_option maxHeartbeats 1000000 in
theorem of_empty (V : Int) (a : Option Addr) (cap : Nat) (d : Int) (w : World) :
    Calls Tryd.prog 27 #[.agg #[.int .i64 V, .slice a 0 cap], .int .i64 d] w fun e w' => ∃ v, e = .returned v ∧ Res w w' v (ofDim [] d) := by
  have hB0 : Below w.heap.size w (w.alloc (.cells #[.int .i64 V, .slice a 0 cap] 28)) := (Below.refl _ w).alloc (Nat.le_refl _) _
  have hB00 := (hB0.alloc (by simp) (.cells #[] 2))
  have hown0 := World.ownsRow_made (base := w.heap.size + 1) (e := 2) (size := 1) (w.alloc (.cells #[.int .i64 V, .slice a 0 cap] 28)) #[] 0 (by simp) (by simp [maxLen]) rfl
  rw [World.size_alloc] at hown0
  have Hown0 := hid hown0
  clear hown0
  go_enter Tryd.func27, Tryd.ntmps27
  go_wp2
  refine wp_loop_rounds 1 ?_; rw [rounds_succ]
  go_wp2
  go_ret
  exact ⟨_, rfl, ownsRow_base (by simpa [ofDim] using Hown0.out) (Nat.le_succ _), hB00⟩

theorem of_top (V : Int) (a : Option Addr) (cap : Nat) (fs : List Int) (w : World) (hx : SlI w w.heap.size a fs) (hl : fs.length ≤ 1048576) (hf : ∀ x ∈ fs, 1 ≤ x ∧ x ≤ 63) :
    Calls Tryd.prog 27 #[.agg #[.int .i64 V, .slice a fs.length cap], .int .i64 (top fs)] w fun e w' => ∃ v, e = .returned v ∧ Res w w' v (ofDim fs (top fs)) := by
  cases fs with
  | nil => exact of_empty V a cap (top []) w
  | cons x fs =>
    have hxr := hf x (by simp)
    have h1 := top_ge (x :: fs) (x := x) (by simp)
    have h2 : 0 < ones x.toNat := ones_pos ⟨x.toNat, by omega⟩ (by show x.toNat ≠ 0; omega)
    exact of_any V a cap (x :: fs) (top (x :: fs)) w hx hl hf (by omega) (top_hi _)


end Go.Proofs.YtpdhnjdnlgnniaaDoor

/-! Contracts of the laws' small helpers: sizes, copies, comparisons. -/
namespace Go.Proofs.YtpdhnjdnlgnniaaDoor
open Go.RowKit

theorem fill_step {xs : List Int} {k : Nat} (h : k < xs.length) :
    ((xs.take k ++ List.replicate (xs.length - k) (0 : Int)).map (Value.int .i64)).set k (.int .i64 (xs[k]?.getD 0)) = (xs.take (k + 1) ++ List.replicate (xs.length - (k + 1)) (0 : Int)).map (Value.int .i64) := by
  rw [take_snoc h, ← List.map_set]
  congr 1
  have e : xs.length - k = (xs.length - (k + 1)) + 1 := by omega
  rw [e, List.replicate_succ, List.set_append_right _ _ (by simp <;> omega)]
  simp [Nat.min_eq_left (Nat.le_of_lt h)]

set_option maxHeartbeats 400000 in
theorem toInts (a : Option Addr) (cap : Nat) (xs : List Int) (w : World) (hx : SlI w w.heap.size a xs) (hl : xs.length ≤ 1048576) :
    Calls Tryd.prog 8 #[.slice a xs.length cap] w fun e w' =>
      e = .returned (.slice (some ⟨w.heap.size, 0, none⟩) xs.length xs.length) ∧ w'.ownsRow w.heap.size 2 1 (.slice (some ⟨w.heap.size, 0, none⟩) xs.length xs.length) xs.length (xs.map (Value.int .i64)) ∧ Below w.heap.size w w' := by
  go_enter Tryd.func8, Tryd.ntmps8
  go_wp2_with (at_make; refine make_int rfl rfl rfl rfl (by omega) ?_; intro w1 hown hg hB)
  rcases hx with rfl | ⟨b, off, hb, rfl, hc⟩
  · refine wp_loop_rounds 1 ?_; rw [rounds_succ]
    go_wp2
    go_ret
    exact ⟨rfl, hown, hB⟩
  · go_loopw [4] (fun i wr => ∃ k : Nat, k ≤ xs.length ∧ i = .int .i64 k ∧ wr.ownsRow w.heap.size 2 1 (.slice (some ⟨w.heap.size, 0, none⟩) xs.length xs.length) xs.length ((xs.take k ++ List.replicate (xs.length - k) (0 : Int)).map (Value.int .i64)) ∧ Below w.heap.size w wr) (fun i _ => xs.length - (intOf i).toNat)
    case atStart => exact ⟨0, Nat.zero_le _, rfl, by simpa using hown, hB⟩
    case round =>
      obtain ⟨k, hk, rfl, hown, hB⟩ := hrel
      by_cases hlt : k < xs.length
      · obtain ⟨x, hx⟩ : ∃ x, x = xs[k]?.getD 0 := ⟨_, rfl⟩
        have hck : wr.cell? ⟨b, off + k, none⟩ = some (.int .i64 x) := by rw [hx]; exact (hB.cell (p := ⟨b, off + k, none⟩) hb).trans (hc k hlt)
        have hcg : wr.cell? ⟨w.heap.size, k, none⟩ = some (.int .i64 0) := by
          rw [hown.cellAt k (by omega)]
          rw [List.getElem?_map, List.getElem?_append_right (by simp <;> omega)]
          simp [List.getElem?_replicate, Nat.min_eq_left hk]
          omega
        have hfg := hown.frozenAt k
        have Hx := hid hx
        have Hc := hid hc
        clear hx hc
        have hst := hown.stored k (.int .i64 x)
        have Hst := hid hst.1
        clear hst
        go_wp2
        go_roundw
        case rel =>
          refine ⟨k + 1, by omega, by go_num, ?_, hB.setCell (p := ⟨w.heap.size, k, none⟩) (Nat.le_refl _) _⟩
          have h := Hst.out
          rw [Hx.out, fill_step hlt, ← Hx.out] at h
          exact h
        case measure => simp [intOf]; omega
      · go_wp2
        go_ret
        obtain rfl : k = xs.length := by omega
        exact ⟨rfl, by simpa using hown, hB⟩

/-- What is left of a size. -/
def szR (left : Int) (n : Nat) : Int := if left < n then -1 else left - n
theorem szR_big {left : Int} {n : Nat} (h : left < n) : szR left n = -1 := by unfold szR; rw [if_pos h]
theorem szR_fit {left : Int} {n : Nat} (h : ¬ left < n) : szR left n = left - n := by unfold szR; rw [if_neg h]

set_option maxHeartbeats 400000 in
theorem szInts (a : Option Addr) (n cap : Nat) (left : Int) (w : World) (h1 : 0 ≤ left) (h2 : left ≤ 1048576) (hn : n ≤ 9223372036854775807) :
    Calls Tryd.prog 14 #[.slice a n cap, .int .i64 left] w fun e w' => e = .returned (.int .i64 (szR left n)) ∧ w = w' := by
  by_cases h : left < n
  · have H := hid (szR_big h)
    go_enter Tryd.func14, Tryd.ntmps14
    go_wp2
    go_ret
    exact ⟨ret_int (by rw [H.out]), rfl⟩
  · have H := hid (szR_fit h)
    go_enter Tryd.func14, Tryd.ntmps14
    go_wp2
    go_ret
    exact ⟨ret_int (by rw [H.out]), rfl⟩

set_option maxHeartbeats 400000 in
theorem szCx (V : Int) (a : Option Addr) (n cap : Nat) (left : Int) (w : World) (h1 : 0 ≤ left) (h2 : left ≤ 1048576) (hn : n ≤ 9223372036854775807) :
    Calls Tryd.prog 5 #[.agg #[.int .i64 V, .slice a n cap], .int .i64 left] w fun e w' => e = .returned (.int .i64 (szR left n)) ∧ Below w.heap.size w w' := by
  have hr : szR left n = -1 ∨ 0 ≤ szR left n := by
    by_cases h : left < n
    · exact .inl (szR_big h)
    · rw [szR_fit h]; right; omega
  have hr' : szR left n < 0 ∨ 0 ≤ szR left n := by omega
  have hm : szR left n < 0 → szR left n = -1 := by omega
  have Hm := hid hm
  clear hr hm
  obtain ⟨r, hr0⟩ : ∃ r, r = szR left n := ⟨_, rfl⟩
  rw [← hr0] at hr'
  have hr := hr'
  have H := hid hr0
  clear hr0 hr'
  go_enter Tryd.func5, Tryd.ntmps5
  go_wp2_with fail
  refine (szInts a n cap left _ h1 h2 hn).mono ?_
  rintro e w' ⟨rfl, rfl⟩
  rw [← H.out]
  rcases hr with hr | hr
  · go_wp2
    go_ret
    exact ⟨ret_int (Hm.out (by rw [← H.out]; exact hr)).symm, (Below.refl _ w).alloc (Nat.le_refl _) _⟩
  · go_wp2
    go_ret
    exact ⟨ret_int H.out, (Below.refl _ w).alloc (Nat.le_refl _) _⟩

set_option maxHeartbeats 400000 in
theorem toCx (V : Int) (a : Option Addr) (cap : Nat) (xs : List Int) (w : World) (hx : SlI w w.heap.size a xs) (hl : xs.length ≤ 1048576) :
    Calls Tryd.prog 7 #[.agg #[.int .i64 V, .slice a xs.length cap]] w fun e w' =>
      ∃ g, e = .returned (.agg #[.int .i64 V, .slice (some ⟨g, 0, none⟩) xs.length xs.length]) ∧ w'.ownsRow w.heap.size 2 1 (.slice (some ⟨g, 0, none⟩) xs.length xs.length) xs.length (xs.map (Value.int .i64)) ∧ Below w.heap.size w w' := by
  go_enter Tryd.func7, Tryd.ntmps7
  go_wp2_with fail
  refine (toInts a cap xs _ (SlI.later hx (?hb : Below w.heap.size w _) ?hs) hl).mono ?_
  case hb => repeat (first | exact Below.refl _ _ | refine Below.alloc ?_ (by simp <;> omega) _ | refine Below.setCell ?_ (by simp <;> omega) _)
  case hs => simp <;> omega
  rintro e w1 ⟨rfl, hown, hB⟩
  have hB1 : Below w.heap.size w w1 := Below.trans (by repeat (first | exact Below.refl _ _ | refine Below.alloc ?_ (by simp <;> omega) _ | refine Below.setCell ?_ (by simp <;> omega) _)) (hB.mono (by simp <;> omega))
  have e0 : w1.cell? ⟨w.heap.size + 1 + 1, 0, none⟩ = some (.int .i64 V) := (hB.cell (p := ⟨w.heap.size + 1 + 1, 0, none⟩) (by simp)).trans (by simp [go_sem])
  have e1 : w1.cell? ⟨w.heap.size + 1 + 1, 1, none⟩ = some (.slice none 0 0) := (hB.cell (p := ⟨w.heap.size + 1 + 1, 1, none⟩) (by simp)).trans (by simp [go_sem])
  have e2 : w1.cell? ⟨w.heap.size + 1, 0, none⟩ = some (.int .i64 0) := (hB.cell (p := ⟨w.heap.size + 1, 0, none⟩) (by simp)).trans (by simp [go_sem])
  have e3 : w1.cell? ⟨w.heap.size + 1, 1, none⟩ = some (.slice none 0 0) := (hB.cell (p := ⟨w.heap.size + 1, 1, none⟩) (by simp)).trans (by simp [go_sem])
  have g1 : w1.frozen? ⟨w.heap.size + 1 + 1, 1, none⟩ = false := (hB.frozen (p := ⟨w.heap.size + 1 + 1, 1, none⟩) (by simp)).trans (by simp [go_sem])
  have g2 : w1.frozen? ⟨w.heap.size + 1, 0, none⟩ = false := (hB.frozen (p := ⟨w.heap.size + 1, 0, none⟩) (by simp)).trans (by simp [go_sem])
  have g3 : w1.frozen? ⟨w.heap.size + 1, 1, none⟩ = false := (hB.frozen (p := ⟨w.heap.size + 1, 1, none⟩) (by simp)).trans (by simp [go_sem])
  have hs1 := hB.size
  simp at hs1
  have Hown := hid (hown)
  clear hown
  go_wp2_with fail
  refine bodyPost_ret (v := .agg #[.int .i64 V, .slice (some ⟨w.heap.size + 1 + 1 + 1, 0, none⟩) xs.length xs.length]) (by simp [results, Tryd.results7, go_sem, e2, e3]) rfl ⟨w.heap.size + 1 + 1 + 1, rfl, ?_, ?_⟩
  · have h := Hown.out
    simp only [World.size_alloc] at h
    refine ownsRow_set (ownsRow_set (ownsRow_set (ownsRow_base h (by omega)) ?_ _) ?_ _) ?_ _ <;> (simp [Value.ownBlock] <;> omega)
  · exact ((hB1.setCell (by simp; omega) _).setCell (by simp) _).setCell (by simp) _

set_option maxHeartbeats 400000 in
theorem eqInts_any (a1 a2 : Option Addr) (c1 c2 : Nat) (xs ys : List Int) (w : World) (hx : SlI w w.heap.size a1 xs) (hy : SlI w w.heap.size a2 ys) (hl : xs.length ≤ 1048576) (hl2 : ys.length ≤ 1048576) :
    Calls Tryd.prog 11 #[.slice a1 xs.length c1, .slice a2 ys.length c2] w fun e w' => e = .returned (.bool (decide (xs = ys))) ∧ Below w.heap.size w w' := by
  by_cases hlen : xs.length = ys.length
  · rcases hx with rfl | ⟨b, off, hb, rfl, hc⟩
    · obtain rfl : ys = [] := List.eq_nil_of_length_eq_zero hlen.symm
      go_enter Tryd.func11, Tryd.ntmps11
      go_wp2
      refine wp_loop_rounds 1 ?_; rw [rounds_succ]
      go_wp2
      go_ret
      exact ⟨ret_bool (by simp), Below.refl _ _⟩
    · rcases hy with rfl | ⟨b2, off2, hb2, rfl, hc2⟩
      · obtain rfl : xs = [] := List.eq_nil_of_length_eq_zero hlen
        go_enter Tryd.func11, Tryd.ntmps11
        go_wp2
        refine wp_loop_rounds 1 ?_; rw [rounds_succ]
        go_wp2
        go_ret
        exact ⟨ret_bool (by simp), Below.refl _ _⟩
      · have Hc := hid hc
        have Hc2 := hid hc2
        have hne : ((xs.length : Int) != (ys.length : Int)) = false := by simp [hlen]
        have Hlen := hid hlen
        have hle : xs.length ≤ ys.length := by omega
        clear hc hc2 hlen
        go_enter Tryd.func11, Tryd.ntmps11
        go_wp2
        go_loopw [5] (fun i wr => ∃ k : Nat, k ≤ xs.length ∧ i = .int .i64 k ∧ Hid (∀ j, j < k → xs[j]?.getD 0 = ys[j]?.getD 0) ∧ Below w.heap.size w wr) (fun i _ => xs.length - (intOf i).toNat)
        case atStart => exact ⟨0, Nat.zero_le _, rfl, hid (by omega), Below.refl _ _⟩
        case round =>
          obtain ⟨k, hk, rfl, Hk, hB⟩ := hrel
          by_cases hlt : k < xs.length
          · obtain ⟨x, hx⟩ : ∃ x, x = xs[k]?.getD 0 := ⟨_, rfl⟩
            obtain ⟨y, hy⟩ : ∃ y, y = ys[k]?.getD 0 := ⟨_, rfl⟩
            have hck : wr.cell? ⟨b, off + k, none⟩ = some (.int .i64 x) := by rw [hx]; exact (hB.cell (p := ⟨b, off + k, none⟩) hb).trans (Hc.out k hlt)
            have hck2 : wr.cell? ⟨b2, off2 + k, none⟩ = some (.int .i64 y) := by rw [hy]; exact (hB.cell (p := ⟨b2, off2 + k, none⟩) hb2).trans (Hc2.out k (by omega))
            have Hx := hid hx
            have Hy := hid hy
            clear hx hy
            have hi0 : (0 : Int) ≤ (k : Int) := by omega
            have hi1 : (k : Int) < (xs.length : Int) := by omega
            have hi2 : (k : Int) < (ys.length : Int) := by omega
            by_cases hxy : x = y
            · have hd : (x != y) = false := by simp [hxy]
              have Hxy := hid hxy
              clear hxy
              go_wp2_with fail
              go_quiet (fail)
              go_wp2_with fail
              go_roundw
              case rel =>
                refine ⟨k + 1, by omega, by go_num, hid (fun j hj => ?_), hB.trans ⟨rfl, rfl, rfl, Nat.le_refl _, fun _ _ => rfl⟩⟩
                by_cases hjk : j < k
                · exact Hk.out j hjk
                · obtain rfl : j = k := by omega
                  rw [← Hx.out, ← Hy.out, Hxy.out]
              case measure => simp [intOf]; omega
            · have hd : (x != y) = true := by simp [hxy]
              go_wp2_with fail
              go_quiet (fail)
              go_wp2_with fail
              go_ret
              refine ⟨ret_bool ?_, hB.trans ⟨rfl, rfl, rfl, Nat.le_refl _, fun _ _ => rfl⟩⟩
              symm
              refine decide_eq_false (fun h => hxy ?_)
              rw [Hx.out, Hy.out, h]
          · obtain rfl : k = xs.length := by omega
            go_wp2
            go_ret
            refine ⟨ret_bool ?_, hB⟩
            symm
            refine decide_eq_true (List.ext_getElem Hlen.out (fun j h1 h2 => ?_))
            have := Hk.out j h1
            rw [List.getElem?_eq_getElem h1, List.getElem?_eq_getElem h2] at this
            simpa using this
  · have hne : ((xs.length : Int) != (ys.length : Int)) = true := by simp; omega
    have Hlen := hid hlen
    clear hlen
    go_enter Tryd.func11, Tryd.ntmps11
    go_wp2
    go_ret
    refine ⟨ret_bool ?_, Below.refl _ _⟩
    symm
    exact decide_eq_false (fun h => Hlen.out (by rw [h]))

theorem eqInts_yes (a1 a2 : Option Addr) (c1 c2 : Nat) (xs ys : List Int) (w : World) (hx : SlI w w.heap.size a1 xs) (hy : SlI w w.heap.size a2 ys) (hl : xs.length ≤ 1048576) (hl2 : ys.length ≤ 1048576) (h : xs = ys) :
    Calls Tryd.prog 11 #[.slice a1 xs.length c1, .slice a2 ys.length c2] w fun e w' => e = .returned (.bool true) ∧ Below w.heap.size w w' :=
  (eqInts_any a1 a2 c1 c2 xs ys w hx hy hl hl2).mono fun _ _ ⟨he, hw⟩ => ⟨by rw [he, decide_eq_true h], hw⟩

theorem eqInts_no (a1 a2 : Option Addr) (c1 c2 : Nat) (xs ys : List Int) (w : World) (hx : SlI w w.heap.size a1 xs) (hy : SlI w w.heap.size a2 ys) (hl : xs.length ≤ 1048576) (hl2 : ys.length ≤ 1048576) (h : ¬ xs = ys) :
    Calls Tryd.prog 11 #[.slice a1 xs.length c1, .slice a2 ys.length c2] w fun e w' => e = .returned (.bool false) ∧ Below w.heap.size w w' :=
  (eqInts_any a1 a2 c1 c2 xs ys w hx hy hl hl2).mono fun _ _ ⟨he, hw⟩ => ⟨by rw [he, decide_eq_false h], hw⟩

set_option maxHeartbeats 400000 in
theorem eqCx_yes (V : Int) (a1 a2 : Option Addr) (c1 c2 : Nat) (xs ys : List Int) (w : World) (hx : SlI w w.heap.size a1 xs) (hy : SlI w w.heap.size a2 ys) (hl : xs.length ≤ 1048576) (hl2 : ys.length ≤ 1048576) (h : xs = ys) :
    Calls Tryd.prog 10 #[.agg #[.int .i64 V, .slice a1 xs.length c1], .agg #[.int .i64 V, .slice a2 ys.length c2]] w fun e w' => e = .returned (.bool true) ∧ Below w.heap.size w w' := by
  have H := hid h
  clear h
  have hne : (V != V) = false := by simp
  go_enter Tryd.func10, Tryd.ntmps10
  go_wp2_with fail
  have hB : Below w.heap.size w ((w.alloc (.cells #[.int .i64 V, .slice a1 xs.length c1] 28)).alloc (.cells #[.int .i64 V, .slice a2 ys.length c2] 28)) := ((Below.refl _ w).alloc (Nat.le_refl _) _).alloc (by simp) _
  refine (eqInts_yes a1 a2 c1 c2 xs ys _ (SlI.later hx hB (by simp <;> omega)) (SlI.later hy hB (by simp <;> omega)) hl hl2 H.out).mono ?_
  rintro e w' ⟨rfl, hb⟩
  go_wp2_with fail
  go_ret
  exact ⟨rfl, hB.trans (hb.mono (by simp <;> omega))⟩

end Go.Proofs.YtpdhnjdnlgnniaaDoor
