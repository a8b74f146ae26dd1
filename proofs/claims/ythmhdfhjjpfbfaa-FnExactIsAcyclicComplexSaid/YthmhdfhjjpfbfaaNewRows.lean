import Derived.Test.YthmhdfhjjpfbfaaMat
import Derived.Test.YthmhdfhjjpfbfaaFw
import Derived.Deep.LoopGhost
/-! newRows: rows of zeros in one table. -/
namespace Go.Proofs.Ythmhdfhjjpfbfaa
open Go.RowKit
open Go.Sort hiding Below

theorem info_rows : (Try.prog.info? 22).map (fun i => (i.zero, i.size, i.bytes)) = some (some (.slice none 0 0), 1, 24) := by kernel_rfl

/-- 'make([][]int64, n)'. -/
theorem make_rows {w : World} {ops : Array Oper} {rest : List Oper} {o : Oper} {a : Act} {Q : Exit → Act → World → Prop} (hgd : o.guard = none) {l c : Operand} (hop : o.op = Op.makeSlice 107 l c)
    {n : Nat} (hl : a.eval l = .int .i64 (n : Int)) (hc : a.eval c = .int .i64 (n : Int)) (hn : n ≤ 1048576)
    (hK : ∀ w', w'.ownsRow w.heap.size 22 1 (.slice (some ⟨w.heap.size, 0, none⟩) n n) n (List.replicate n (Value.slice none 0 0)) → w.grownBy w' none → Below w.heap.size w w' →
      wpList Try.prog ops Q rest (a.put o.dst (.slice (some ⟨w.heap.size, 0, none⟩) n n)) w') :
    wpList Try.prog ops Q (o :: rest) a w := by
  obtain ⟨i0, hi, hz0, hz1, hz2⟩ := info_parts info_rows
  refine wpList_make_full w hgd l c 107 hop w.heap.size 22 i0 (.slice none 0 0) 1 Try.underlying107 hi hz0 hz1 .i64 .i64 _ _ n hl hc rfl rfl (by rw [hz2]; omega) (by unfold maxLen; omega) (Nat.le_refl _) ?_
  intro w' hown hg
  have e : (madeCells (Value.slice none 0 0).cells (n * 1)).toList = List.replicate n (Value.slice none 0 0) := by
    rw [Nat.mul_one]
    exact toList_madeCells_one _ _
  rw [e] at hown
  exact hK w' hown hg ((Below.refl _ w).grown hg (Nat.le_refl _) (fun k hk => by cases hk))

theorem owned_block {w : World} {base e b n m cap : Nat} {xs : List Value} (h : w.ownsRow base e 1 (.slice (some ⟨b, 0, none⟩) m cap) n xs) : ∃ cur, w.heap[b]? = some (.cells cur e (0, 0)) ∧ cur.toList.take n = xs ∧ base ≤ b := by
  rcases h.2 with ⟨h0, _⟩ | ⟨g, cap', cur, hv, hg, hh, _, _, _, h4⟩
  · cases h0
  · cases hv
    exact ⟨cur, hh, by simpa using h4, hg⟩

/-- The rows' slices, the first i of them laid. -/
def prefV (T w n i : Nat) : List Value := (List.range n).map fun k => if k < i then .slice (some ⟨T, k * w, none⟩) w w else .slice none 0 0
theorem prefV_len (T w n i : Nat) : (prefV T w n i).length = n := by simp [prefV]
theorem prefV_zero (T w n : Nat) : prefV T w n 0 = List.replicate n (Value.slice none 0 0) := by unfold prefV; simp; exact (List.map_const' ..).trans (by simp)
theorem prefV_succ {T w n i : Nat} (hi : i < n) : prefV T w n (i + 1) = (prefV T w n i).set i (.slice (some ⟨T, i * w, none⟩) w w) := by
  apply List.ext_getElem?
  intro k
  by_cases hk : k < n
  · by_cases e : i = k
    · subst e
      rw [List.getElem?_set_self (by rw [prefV_len]; exact hi)]
      simp [prefV, hi]
    · rw [List.getElem?_set_ne e]
      simp only [prefV, List.getElem?_map, List.getElem?_range hk, Option.map_some]
      congr 1
      by_cases h : k < i
      · rw [if_pos h, if_pos (by omega)]
      · rw [if_neg h, if_neg (by omega)]
  · rw [List.getElem?_eq_none (by rw [prefV_len]; omega), List.getElem?_eq_none (by rw [List.length_set, prefV_len]; omega)]
theorem prefV_get {T w n i k : Nat} (hk : k < n) : (prefV T w n i)[k]?.getD undef = if k < i then .slice (some ⟨T, k * w, none⟩) w w else .slice none 0 0 := by
  simp [prefV, hk]

abbrev encV (v : Value) : Value := v

theorem holdsV_of_block {w : World} {g : Nat} {cur : Array Value} {e : TypeId} {ss : List Value} (hb : w.heap[g]? = some (.cells cur e (0, 0))) (ht : cur.toList.take ss.length = ss) : Holds encV w g 0 ss.toArray := by
  intro j hj
  have hj' : j < ss.length := by simpa using hj
  refine ⟨?_, by simp [World.frozen?, hb]⟩
  have h1 : (cur.toList.take ss.length)[j]? = ss[j]? := by rw [ht]
  rw [List.getElem?_take_of_lt hj'] at h1
  simp only [World.cell?, hb, Nat.zero_add]
  simp only [Option.isSome_none, Bool.false_eq_true, if_false]
  rw [← Array.getElem?_toList, h1]
  simp [hj', encV]

theorem holdsV_at {w : World} {blk : Nat} {l : List Value} (h : Holds encV w blk 0 l.toArray) {i : Nat} (hi : i < l.length) : w.cell? ⟨blk, i, none⟩ = some (l[i]?.getD undef) ∧ w.frozen? ⟨blk, i, none⟩ = false := by
  have := h i (by simpa using hi)
  rw [Nat.zero_add] at this
  refine ⟨this.1.trans ?_, this.2⟩
  simp only [encV]
  rw [getElem!_pos l.toArray i (by simpa using hi), List.getElem?_eq_getElem hi]
  simp

def tableA (T w n : Nat) : Ads := (List.range n).map fun k => (T, k * w)
theorem tableA_at {T w n k : Nat} (hk : k < n) : adr (tableA T w n) k = (T, k * w) := by simp [adr, tableA, hk]

theorem mul_fit1 {i w lo : Nat} (h : lo = i * w) (hb : lo ≤ 1000000) : wrap64 ((i : Int) * (w : Int)) = (lo : Int) := by
  rw [show ((i : Int) * (w : Int)) = (lo : Int) by rw [h]; simp]
  exact IntWalk.wrap64_in _ ⟨by omega, by omega⟩
theorem mul_fit2 {i w lo : Nat} (h : lo = i * w) (hb : lo + w ≤ 1000000) : wrap64 (((i : Int) + 1) * (w : Int)) = (lo : Int) + (w : Int) := by
  rw [show (((i : Int) + 1) * (w : Int)) = (lo : Int) + (w : Int) by rw [h, Int.add_mul]; simp]
  exact IntWalk.wrap64_in _ ⟨by omega, by omega⟩

set_option maxRecDepth 100000 in
set_option maxHeartbeats 2000000 in
theorem newRows_any (n w : Nat) (W : World) (hn : n ≤ 1000) (hw : w ≤ 1000) :
    Calls Try.prog 126 #[.int .i64 (n : Int), .int .i64 (w : Int)] W fun e W' => ∃ R ad, e = .returned (.slice (some ⟨R, 0, none⟩) n n) ∧ MatW W' W.heap.size R n w ad (List.replicate n (List.replicate w 0)) ∧ Below W.heap.size W W' := by
  have hnw : n * w ≤ 1000000 := Nat.le_trans (Nat.mul_le_mul hn hw) (by omega)
  have hmul : wrap64 ((n : Int) * (w : Int)) = ((n * w : Nat) : Int) := by
    rw [show ((n : Int) * (w : Int)) = ((n * w : Nat) : Int) by simp]
    exact IntWalk.wrap64_in _ ⟨by omega, by omega⟩
  obtain ⟨N, hN⟩ : ∃ N, N = n * w := ⟨_, rfl⟩
  rw [← hN] at hmul hnw
  have HN := hid hN
  clear hN
  go_enter Try.func126, Try.ntmps126
  go_wp2_with (first
    | (refine make_int rfl rfl (n := N) (by first | rfl | (simp only [hmul]; rfl)) (by first | rfl | (simp only [hmul]; rfl)) (by omega) ?_; intro w1 hown1 hg1 hB1)
    | (refine make_rows rfl rfl (n := n) rfl rfl (by omega) ?_; intro w2 hown2 hg2 hB2))
  obtain ⟨cT, hT, hT4, hTb⟩ := owned_block hown1
  obtain ⟨cR, hR, hR4, hRb⟩ := owned_block hown2
  have hTlt := lt_of_get hT
  have hT2 := (hB2.block _ hTlt).trans hT
  have HT := hid (holds_of_blockI hT2 (ss := List.replicate N 0) (by simpa using hT4))
  have HR := hid (holdsV_of_block hR (ss := List.replicate n (Value.slice none 0 0)) (by simpa using hR4))
  have HB := hid (hB1.trans (hB2.mono hB1.size))
  have hRlt := lt_of_get hR
  have hTR : W.heap.size < w1.heap.size := hTlt
  clear hown1 hown2 hg1 hg2 hB1 hB2 hT hR hT2 hT4 hR4 hmul
  go_loopw [16] (fun s16 wx => ∃ (i : Nat), s16 = .int .i64 i ∧ i ≤ n ∧ Aside (wx = putRow encV w2 w1.heap.size 0 (prefV W.heap.size w n i).toArray)) (fun s16 _ => n - (intOf s16).toNat)
  case atStart => exact ⟨0, rfl, Nat.zero_le _, by rw [prefV_zero]; exact (Sort.putRow_self encV w2 _ _ _ HR.out).symm⟩
  case round =>
    obtain ⟨i, rfl, hi, A⟩ := hrel
    by_cases hlt : i < n
    · have hi0 : (0 : Int) ≤ (i : Int) := by omega
      have hi1 : (i : Int) < (n : Int) := by omega
      have hH : Holds encV wr w1.heap.size 0 (prefV W.heap.size w n i).toArray := by rw [A.out]; exact Sort.holds_putRow encV _ _ _ _ _ HR.out (by simp [prefV_len])
      obtain ⟨ci, fi⟩ := holdsV_at hH (i := i) (by rw [prefV_len]; exact hlt)
      obtain ⟨lo, hlo⟩ : ∃ lo, lo = i * w := ⟨_, rfl⟩
      have hhi : lo + w ≤ N := by
        rw [HN.out, hlo, ← Nat.succ_mul]
        exact Nat.mul_le_mul_right _ hlt
      have Hlo := hid hlo
      have hlo0 : (0 : Int) ≤ (lo : Int) := by omega
      have hw0 : (0 : Int) ≤ (w : Int) := by omega
      have hlw : (lo : Int) ≤ (lo : Int) + (w : Int) := by omega
      have hhiI : (lo : Int) + (w : Int) ≤ (N : Int) := by omega
      have hlb : lo ≤ 1000000 := by omega
      have hlw2 : lo + w ≤ 1000000 := by omega
      have hm1 : wrap64 ((i : Int) * (w : Int)) = (lo : Int) := mul_fit1 hlo hlb
      have hm2 : wrap64 (((i : Int) + 1) * (w : Int)) = (lo : Int) + (w : Int) := mul_fit2 hlo hlw2
      have Hsucc := hid (prefV_succ (T := W.heap.size) (w := w) hlt)
      rw [← hlo] at Hsucc
      have Haddr : Hid ((if w = 0 then some (⟨W.heap.size, 0, none⟩ : Addr) else some ⟨W.heap.size, lo, none⟩) = some ⟨W.heap.size, lo, none⟩) := hid (by
        split
        · rename_i h; rw [hlo, h]; rfl
        · rfl)
      have Hni : Hid ((i : Int) < (n : Int)) := hid hi1
      clear hlo hH hlb hlw2
      go_wp2
      clear hm1 hm2
      go_roundw
      case rel =>
        refine ⟨i + 1, by go_num, by omega, ?_⟩
        rw [Haddr.out, Hsucc.out, A.out]
        have := putRow_set encV w2 w1.heap.size 0 (prefV W.heap.size w n i).toArray i (.slice (some ⟨W.heap.size, lo, none⟩) w w) (by simp [prefV_len]; exact hlt)
        rw [Nat.zero_add] at this
        simp only [encV] at this
        unfold Aside
        rw [this]
        simp
      case measure => simp [intOf]; omega
    · obtain rfl : i = n := by omega
      have hH : Holds encV wr w1.heap.size 0 (prefV W.heap.size w i i).toArray := by rw [A.out]; exact Sort.holds_putRow encV _ _ _ _ _ HR.out (by simp [prefV_len])
      have Hk : Hid (∀ b, b ≠ w1.heap.size → wr.heap[b]? = w2.heap[b]?) := hid (fun b hb => by
        have hb' : w1.heap.size ≠ b := fun e => hb e.symm
        rw [A.out]; simp [putRow, mapBlock, Array.getElem?_modify, hb'])
      have Hsz : Hid (wr.heap.size = w2.heap.size) := hid (by rw [A.out]; simp)
      have HM : Hid (MatW wr W.heap.size w1.heap.size i w (tableA W.heap.size w i) (List.replicate i (List.replicate w 0))) := hid {
        len := by simp
        adl := by simp [tableA]
        wid := fun k hk => by simp [hk]
        hd := fun k hk => by
          obtain ⟨h1, h2⟩ := holdsV_at hH (i := k) (by rw [prefV_len]; exact hk)
          rw [prefV_get hk, if_pos hk] at h1
          rw [tableA_at hk]
          exact ⟨h1, h2⟩
        row := fun k hk => by
          rw [tableA_at hk]
          have hkw : k * w + w ≤ N := by
            rw [HN.out, ← Nat.succ_mul]
            exact Nat.mul_le_mul_right _ hk
          intro j hj
          simp [hk] at hj
          have := HT.out (k * w + j) (by simp; omega)
          rw [Nat.zero_add] at this
          simp only [World.cell?, World.frozen?] at this ⊢
          rw [Hk.out _ (by omega)]
          refine ⟨this.1.trans ?_, this.2⟩
          simp [encI, hk, getElem!_pos, hj, show k * w + j < N by omega]
        apart := fun a b ha hb hab => by
          rw [tableA_at ha, tableA_at hb]
          refine .inr ?_
          simp only
          rcases Nat.lt_or_gt_of_ne hab with h | h
          · left; rw [← Nat.succ_mul]; exact Nat.mul_le_mul_right _ h
          · right; rw [← Nat.succ_mul]; exact Nat.mul_le_mul_right _ h
        off := fun k hk => by rw [tableA_at hk]; simp only; omega
        base := fun k hk => by rw [tableA_at hk, Hsz.out]; simp only; exact ⟨Nat.le_refl _, by omega⟩
        head := by rw [Hsz.out]; exact ⟨by omega, hRlt⟩ }
      have HB2 : Hid (Go.RowKit.Below W.heap.size W wr) := hid (HB.out.trans ⟨by rw [A.out]; rfl, by rw [A.out]; rfl, by rw [A.out]; rfl, by rw [Hsz.out]; exact Nat.le_refl _, fun k hk => Hk.out k (by omega)⟩)
      clear hH
      go_wp2
      go_ret
      exact ⟨_, _, rfl, HM.out, HB2.out⟩

end Go.Proofs.Ythmhdfhjjpfbfaa
