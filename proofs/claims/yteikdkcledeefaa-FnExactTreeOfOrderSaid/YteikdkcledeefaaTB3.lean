import Derived.Lib.SliceRun
import Derived.Lib.Overlaps
import Derived.Lib.AppendZerosOnto
import Derived.Laws.IdiomCopy
import Derived.Laws.NewBlocks
import Derived.Laws.Externs
import Derived.Laws.OwnMore
import Derived.Shelf.RegionOpen
import Derived.Laws.CopyRow
import Derived.Test.YteikdkcledeefaaTB1
import Derived.Test.YteikdkcledeefaaTB2
/-! The laws' helpers for lists of pairs: a list of n pairs is read as 2 * n integers. -/
namespace Go.Proofs.Yteikdkcledeefaa
open Go.RowKit

set_option maxRecDepth 100000 in
set_option maxHeartbeats 400000 in
theorem szPairs (a : Option Addr) (n cap : Nat) (left : Int) (w : World) (h1 : 0 ≤ left) (h2 : left ≤ 1048576) (hn : n ≤ 9223372036854775807) :
    Calls Try.prog 20 #[.slice a n cap, .int .i64 left] w fun e w' => e = .returned (.int .i64 (szR left n)) ∧ w = w' := by
  by_cases h : left < n
  · have H := hid (szR_big h)
    go_enter Try.func20, Try.ntmps20
    go_wp2
    go_ret
    exact ⟨ret_int (by rw [H.out]), rfl⟩
  · have H := hid (szR_fit h)
    go_enter Try.func20, Try.ntmps20
    go_wp2
    go_ret
    exact ⟨ret_int (by rw [H.out]), rfl⟩

set_option maxRecDepth 100000 in
set_option maxHeartbeats 400000 in
theorem toPair_any (x y : Int) (w : World) :
    Calls Try.prog 59 #[.agg #[.int .i64 x, .int .i64 y]] w fun e w' => e = .returned (.agg #[.int .i64 x, .int .i64 y]) ∧ Below w.heap.size w w' := by
  go_enter Try.func59, Try.ntmps59
  go_wp2
  refine wp_loop_rounds 3 ?_; rw [rounds_succ]
  go_wp2
  rw [rounds_succ]
  go_wp2
  rw [rounds_succ]
  go_wp2
  exact bodyPost_ret (v := .agg #[.int .i64 x, .int .i64 y]) (by simp [results, Try.results59, go_sem]) rfl ⟨rfl, ((((Below.refl _ w).alloc (Nat.le_refl _) _).alloc (by simp) _).alloc (by simp <;> omega) _)⟩

set_option maxRecDepth 100000 in
set_option maxHeartbeats 400000 in
theorem eqPair_any (x y x' y' : Int) (w : World) :
    Calls Try.prog 62 #[.agg #[.int .i64 x, .int .i64 y], .agg #[.int .i64 x', .int .i64 y']] w fun e w' => e = .returned (.bool (decide (x = x' ∧ y = y'))) ∧ Below w.heap.size w w' := by
  go_enter Try.func62, Try.ntmps62
  go_wp2
  refine wp_loop_rounds 3 ?_; rw [rounds_succ]
  go_wp2
  go_quiet (fail)
  have hB : ∀ n, Below w.heap.size w (((w.alloc (.cells #[.int .i64 x, .int .i64 y] 73)).alloc (.cells #[.int .i64 x', .int .i64 y'] 73)).drewN n) := fun n => Below.trans (((Below.refl _ w).alloc (Nat.le_refl _) _).alloc (by simp) _) ⟨rfl, rfl, rfl, Nat.le_refl _, fun _ _ => rfl⟩
  have HB := hid hB
  clear hB
  by_cases hx : x = x'
  · have hd : (x != x') = false := by simp [hx]
    have Hx := hid hx
    clear hx
    go_wp2_with fail
    rw [rounds_succ]
    go_wp2_with fail
    go_quiet (fail)
    by_cases hy : y = y'
    · have hd2 : (y != y') = false := by simp [hy]
      have Hy := hid hy
      clear hy
      go_wp2_with fail
      rw [rounds_succ]
      go_wp2_with fail
      go_ret
      exact ⟨ret_bool (decide_eq_true ⟨Hx.out, Hy.out⟩).symm, HB.out _⟩
    · have hd2 : (y != y') = true := by simp [hy]
      have Hy := hid hy
      clear hy
      go_wp2_with fail
      go_ret
      refine ⟨ret_bool (decide_eq_false (fun h => Hy.out h.2)).symm, ?_⟩
      first | exact HB.out _ | exact (HB.out 0).trans ⟨rfl, rfl, rfl, Nat.le_refl _, fun _ _ => rfl⟩
  · have hd : (x != x') = true := by simp [hx]
    have Hx := hid hx
    clear hx
    go_wp2_with fail
    go_ret
    exact ⟨ret_bool (decide_eq_false (fun h => Hx.out h.1)).symm, HB.out _⟩

theorem info_pair : (Try.prog.info? 73).map (fun i => (i.zero, i.size, i.bytes)) = some (some (.agg #[.int .i64 0, .int .i64 0]), 2, 16) := by kernel_rfl

theorem made_two (m : Nat) : (madeCells #[Value.int .i64 0, Value.int .i64 0] m).toList = (List.replicate m (0 : Int)).map (Value.int .i64) := by
  refine List.ext_getElem (by simp [madeCells]) (fun i h1 h2 => ?_)
  have : i % 2 = 0 ∨ i % 2 = 1 := Nat.mod_two_eq_zero_or_one i
  rcases this with h | h <;> simp [madeCells, h]

/-- 'make([]Pair, n)'. -/
theorem make_pair {w : World} {ops : Array Oper} {rest : List Oper} {o : Oper} {a : Act} {Q : Exit → Act → World → Prop} (hgd : o.guard = none) {l c : Operand} (hop : o.op = Op.makeSlice 39 l c)
    {n : Nat} (hl : a.eval l = .int .i64 (n : Int)) (hc : a.eval c = .int .i64 (n : Int)) (hn : n ≤ 1048576)
    (hK : ∀ w', w'.ownsRow w.heap.size 73 2 (.slice (some ⟨w.heap.size, 0, none⟩) n n) n ((List.replicate (2 * n) (0 : Int)).map (Value.int .i64)) → Below w.heap.size w w' →
      wpList Try.prog ops Q rest (a.put o.dst (.slice (some ⟨w.heap.size, 0, none⟩) n n)) w') :
    wpList Try.prog ops Q (o :: rest) a w := by
  obtain ⟨i0, hi, hz0, hz1, hz2⟩ := info_parts info_pair
  refine wpList_make_full w hgd l c 39 hop w.heap.size 73 i0 (.agg #[.int .i64 0, .int .i64 0]) 2 Try.underlying39 hi hz0 hz1 .i64 .i64 _ _ n hl hc rfl rfl (by rw [hz2]; omega) (by unfold maxLen; omega) (Nat.le_refl _) ?_
  intro w' hown hg
  rw [show (Value.agg #[Value.int .i64 0, Value.int .i64 0]).cells = #[Value.int .i64 0, Value.int .i64 0] by kernel_rfl, made_two, Nat.mul_comm] at hown
  exact hK w' hown ((Below.refl _ w).grown hg (Nat.le_refl _) (fun k hk => by cases hk))

set_option maxRecDepth 100000 in
set_option maxHeartbeats 400000 in
theorem toPairs (a : Option Addr) (n cap : Nat) (ps : List Int) (w : World) (hx : SlI w w.heap.size a ps) (hp : ps.length = 2 * n) (hl : n ≤ 1048576) :
    Calls Try.prog 23 #[.slice a n cap] w fun e w' =>
      e = .returned (.slice (some ⟨w.heap.size, 0, none⟩) n n) ∧ w'.ownsRow w.heap.size 73 2 (.slice (some ⟨w.heap.size, 0, none⟩) n n) n (ps.map (Value.int .i64)) ∧ Below w.heap.size w w' := by
  go_enter Try.func23, Try.ntmps23
  go_wp2_with (at_make; refine make_pair rfl rfl rfl rfl (by omega) ?_; intro w1 hown hB)
  rcases hx with rfl | ⟨b, off, hb, rfl, hc⟩
  · obtain rfl : n = 0 := by simp at hp; omega
    refine wp_loop_rounds 1 ?_; rw [rounds_succ]
    go_wp2
    go_ret
    exact ⟨rfl, hown, hB⟩
  · go_loopw [4] (fun i wr => ∃ k : Nat, k ≤ n ∧ i = .int .i64 k ∧ wr.ownsRow w.heap.size 73 2 (.slice (some ⟨w.heap.size, 0, none⟩) n n) n ((ps.take (k * 2) ++ List.replicate (ps.length - k * 2) (0 : Int)).map (Value.int .i64)) ∧ Below w.heap.size w wr) (fun i _ => n - (intOf i).toNat)
    case atStart => exact ⟨0, Nat.zero_le _, rfl, by simpa [hp] using hown, hB⟩
    case round =>
      obtain ⟨k, hk, rfl, hown, hB⟩ := hrel
      by_cases hlt : k < n
      · obtain ⟨x, hx⟩ : ∃ x, x = ps[k * 2]?.getD 0 := ⟨_, rfl⟩
        obtain ⟨y, hy⟩ : ∃ y, y = ps[k * 2 + 1]?.getD 0 := ⟨_, rfl⟩
        have hck : wr.cell? ⟨b, off + k * 2, none⟩ = some (.int .i64 x) := by rw [hx]; exact (hB.cell (p := ⟨b, off + k * 2, none⟩) hb).trans (hc (k * 2) (by omega))
        have hck2 : wr.cell? ⟨b, off + k * 2 + 1, none⟩ = some (.int .i64 y) := by rw [hy]; exact (hB.cell (p := ⟨b, off + (k * 2 + 1), none⟩) hb).trans (hc (k * 2 + 1) (by omega))
        have hg0 : wr.cell? ⟨w.heap.size, k * 2, none⟩ = some (.int .i64 0) := by
          rw [hown.cellAt (k * 2) (by omega)]
          rw [List.getElem?_map, List.getElem?_append_right (by simp <;> omega)]
          simp [List.getElem?_replicate, Nat.min_eq_left (show k * 2 ≤ ps.length by omega)]
          omega
        have hg1 : wr.cell? ⟨w.heap.size, k * 2 + 1, none⟩ = some (.int .i64 0) := by
          rw [hown.cellAt (k * 2 + 1) (by omega)]
          rw [List.getElem?_map, List.getElem?_append_right (by simp <;> omega)]
          simp [List.getElem?_replicate, Nat.min_eq_left (show k * 2 ≤ ps.length by omega)]
          omega
        have hf0 := hown.frozenAt (k * 2)
        have hf1 := hown.frozenAt (k * 2 + 1)
        have Hx := hid hx
        have Hy := hid hy
        have Hc := hid hc
        have Hown := hid hown
        have HB := hid hB
        clear hx hy hc hown hB
        go_wp2_with fail
        refine (toPair_any x y wr).mono ?_
        rintro e w2 ⟨rfl, hB2⟩
        have hwb : w.heap.size < wr.heap.size := World.block_lt_of_cell? wr _ hg0
        have hg02 := (hB2.cell (p := ⟨w.heap.size, k * 2, none⟩) hwb).trans hg0
        have hg12 := (hB2.cell (p := ⟨w.heap.size, k * 2 + 1, none⟩) hwb).trans hg1
        have hf02 := (hB2.frozen (p := ⟨w.heap.size, k * 2, none⟩) hwb).trans hf0
        have hf12 := (hB2.frozen (p := ⟨w.heap.size, k * 2 + 1, none⟩) hwb).trans hf1
        have Hown2 := hid (ownsRow_below Hown.out hB2 (fun g hg => by simp [Value.ownBlock] at hg; omega))
        have HB2 := hid (HB.out.trans (hB2.mono HB.out.size))
        clear hg0 hg1 hf0 hf1 Hown HB hB2
        go_wp2_with fail
        go_roundw
        case rel =>
          refine ⟨k + 1, by omega, by go_num, ?_, (HB2.out.setCell (p := ⟨w.heap.size, k * 2, none⟩) (Nat.le_refl _) _).setCell (p := ⟨w.heap.size, k * 2 + 1, none⟩) (Nat.le_refl _) _⟩
          have h := ((Hown2.out.stored (k * 2) (.int .i64 x)).1.stored (k * 2 + 1) (.int .i64 y)).1
          rw [Hx.out, fill_step (by omega), Hy.out, fill_step (by omega), ← Hx.out, ← Hy.out] at h
          rw [show (k + 1) * 2 = k * 2 + 1 + 1 by omega]
          exact h
        case measure => simp [intOf]; omega
      · go_wp2
        go_ret
        obtain rfl : k = n := by omega
        rw [Nat.mul_comm, ← hp] at hown
        exact ⟨rfl, by simpa using hown, hB⟩

set_option maxRecDepth 100000 in
set_option maxHeartbeats 400000 in
theorem eqPairs_yes (a1 a2 : Option Addr) (n c1 c2 : Nat) (ps : List Int) (w : World) (hx : SlI w w.heap.size a1 ps) (hy : SlI w w.heap.size a2 ps) (hp : ps.length = 2 * n) (hl : n ≤ 1048576) :
    Calls Try.prog 27 #[.slice a1 n c1, .slice a2 n c2] w fun e w' => e = .returned (.bool true) ∧ Below w.heap.size w w' := by
  by_cases h0 : n = 0
  · subst h0
    clear hx hy
    go_enter Try.func27, Try.ntmps27
    go_wp2
    refine wp_loop_rounds 1 ?_; rw [rounds_succ]
    go_wp2
    go_ret
    exact ⟨rfl, Below.refl _ _⟩
  · obtain ⟨b, off, hb, rfl, hc⟩ : ∃ b off, b < w.heap.size ∧ a1 = some ⟨b, off, none⟩ ∧ ∀ i, i < ps.length → w.cell? ⟨b, off + i, none⟩ = some (.int .i64 (ps[i]?.getD 0)) := by
      rcases hx with rfl | h
      · simp at hp; omega
      · exact h
    obtain ⟨b2, off2, hb2, rfl, hc2⟩ : ∃ b off, b < w.heap.size ∧ a2 = some ⟨b, off, none⟩ ∧ ∀ i, i < ps.length → w.cell? ⟨b, off + i, none⟩ = some (.int .i64 (ps[i]?.getD 0)) := by
      rcases hy with rfl | h
      · simp at hp; omega
      · exact h
    have Hc := hid hc
    have Hc2 := hid hc2
    have hne : ((n : Int) != (n : Int)) = false := by simp
    clear hc hc2 hx hy h0
    go_enter Try.func27, Try.ntmps27
    go_wp2
    go_loopw [5] (fun i wr => ∃ k : Nat, k ≤ n ∧ i = .int .i64 k ∧ Below w.heap.size w wr) (fun i _ => n - (intOf i).toNat)
    case atStart => exact ⟨0, Nat.zero_le _, rfl, Below.refl _ _⟩
    case round =>
      obtain ⟨k, hk, rfl, hB⟩ := hrel
      by_cases hlt : k < n
      · obtain ⟨x, hx⟩ : ∃ x, x = ps[k * 2]?.getD 0 := ⟨_, rfl⟩
        obtain ⟨y, hy⟩ : ∃ y, y = ps[k * 2 + 1]?.getD 0 := ⟨_, rfl⟩
        have hck : wr.cell? ⟨b, off + k * 2, none⟩ = some (.int .i64 x) := by rw [hx]; exact (hB.cell (p := ⟨b, off + k * 2, none⟩) hb).trans (Hc.out (k * 2) (by omega))
        have hck2 : wr.cell? ⟨b, off + k * 2 + 1, none⟩ = some (.int .i64 y) := by rw [hy]; exact (hB.cell (p := ⟨b, off + (k * 2 + 1), none⟩) hb).trans (Hc.out (k * 2 + 1) (by omega))
        have hdk : wr.cell? ⟨b2, off2 + k * 2, none⟩ = some (.int .i64 x) := by rw [hx]; exact (hB.cell (p := ⟨b2, off2 + k * 2, none⟩) hb2).trans (Hc2.out (k * 2) (by omega))
        have hdk2 : wr.cell? ⟨b2, off2 + k * 2 + 1, none⟩ = some (.int .i64 y) := by rw [hy]; exact (hB.cell (p := ⟨b2, off2 + (k * 2 + 1), none⟩) hb2).trans (Hc2.out (k * 2 + 1) (by omega))
        have hi0 : (0 : Int) ≤ (k : Int) := by omega
        have hi1 : (k : Int) < (n : Int) := by omega
        have HB := hid hB
        clear hx hy hB
        go_wp2_with fail
        go_region_with (go_at_call 62; refine (eqPair_any x y x y _).mono ?_; rintro e w2 ⟨rfl, hB2⟩; rw [decide_eq_true (And.intro rfl rfl)])
        all_goals
          have HB2 := hid (HB.out.trans (Below.mono (w := wr) ⟨hB2.os, hB2.tape, hB2.output, hB2.size, hB2.block⟩ HB.out.size))
          clear hB2
          go_wp2_with fail
          go_roundw
          case rel => exact ⟨k + 1, by omega, by go_num, HB2.out⟩
          case measure => simp [intOf]; omega
      · go_wp2
        go_ret
        exact ⟨rfl, hB⟩

set_option maxRecDepth 100000 in
set_option maxHeartbeats 1000000 in
theorem markPairs (base : Nat) (a : Option Addr) (n cap : Nat) (ps : List Int) (k : Int) (w : World) (hown : w.ownsRow base 73 2 (.slice a n cap) n (ps.map (Value.int .i64))) (hl : n ≤ 1048576) (h0 : 0 ≤ k) (h1 : k ≤ 1099511627776) :
    Calls Try.prog 29 #[.slice a n cap, .int .i64 k] w fun e w' => e = .returned (.int .i64 (k + 2 * n)) ∧
      w'.ownsRow base 73 2 (.slice a n cap) n ((count k (n * 2)).map (Value.int .i64)) ∧ w.grownBy w' (Value.ownBlock (.slice a n cap)) := by
  have hp : ps.length = n * 2 := by simpa using hown.1
  rcases hown.2 with ⟨hv, hn⟩ | ⟨g, cap', cur, hv, hb, hg, rest⟩
  · subst hn
    obtain rfl : ps = [] := List.eq_nil_of_length_eq_zero (by omega)
    have Hown := hid hown
    clear hown hv
    go_enter Try.func29, Try.ntmps29
    go_wp2
    refine wp_loop_rounds 1 ?_; rw [rounds_succ]
    go_wp2
    go_ret
    exact ⟨ret_int (by simp), Hown.out, ⟨rfl, rfl, rfl, Nat.le_refl _, fun _ _ _ => rfl⟩⟩
  · cases hv
    clear hb hg rest
    go_enter Try.func29, Try.ntmps29
    go_wp2
    go_loopw [1, 5] (fun m i wr => ∃ j : Nat, j ≤ n ∧ i = .int .i64 j ∧ m = .int .i64 (k + 2 * j) ∧ wr.ownsRow base 73 2 (.slice (some ⟨g, 0, none⟩) n cap) n ((count k (j * 2) ++ ps.drop (j * 2)).map (Value.int .i64)) ∧ w.grownBy wr (some g)) (fun _ i _ => n - (intOf i).toNat)
    case atStart => exact ⟨0, Nat.zero_le _, rfl, by simp, by simpa [count] using hown, ⟨rfl, rfl, rfl, Nat.le_refl _, fun _ _ _ => rfl⟩⟩
    case round =>
      obtain ⟨j, hj, rfl, rfl, hown, hgr⟩ := hrel
      by_cases hlt : j < n
      · have hcg : ∃ u, wr.cell? ⟨g, j * 2, none⟩ = some (.int .i64 u) := by
          rw [hown.cellAt (j * 2) (by omega)]
          refine ⟨ps[j * 2]?.getD 0, ?_⟩
          rw [List.getElem?_map, List.getElem?_append_right (by rw [count_len]; exact Nat.le_refl _), count_len, Nat.sub_self]
          simp [show j * 2 < ps.length by omega]
        have hcg2 : ∃ u, wr.cell? ⟨g, j * 2 + 1, none⟩ = some (.int .i64 u) := by
          rw [hown.cellAt (j * 2 + 1) (by omega)]
          refine ⟨ps[j * 2 + 1]?.getD 0, ?_⟩
          rw [List.getElem?_map, List.getElem?_append_right (by rw [count_len]; omega), count_len]
          simp [show j * 2 + 1 < ps.length by omega]
        obtain ⟨u, hcu⟩ := hcg
        obtain ⟨u2, hcu2⟩ := hcg2
        have hfg := hown.frozenAt (j * 2)
        have hfg2 := hown.frozenAt (j * 2 + 1)
        have hst := hown.stored (j * 2) (.int .i64 (k + 2 * j))
        have hst2 := hst.1.stored (j * 2 + 1) (.int .i64 (k + 2 * j + 1))
        have hm1 := mark_step (k := k) (xs := ps) (j := j * 2) (by omega)
        have hm2 := mark_step (k := k) (xs := ps) (j := j * 2 + 1) (by omega)
        rw [show k + ((j * 2 : Nat) : Int) = k + 2 * j by omega] at hm1
        rw [show k + ((j * 2 + 1 : Nat) : Int) = k + 2 * j + 1 by omega] at hm2
        rw [hm1, hm2] at hst2
        have Hst := hid hst2
        have Hst1 := hid hst.2
        have Hgr := hid hgr
        have hi0 : (0 : Int) ≤ (j : Int) := by omega
        have hi1 : (j : Int) < (n : Int) := by omega
        clear hst hst2 hown hgr hm1 hm2
        go_wp2
        refine wp_loop_rounds 3 ?_; rw [rounds_succ]
        go_wp2
        rw [rounds_succ]
        go_wp2
        rw [rounds_succ]
        go_wp2
        go_roundw
        case rel =>
          exact ⟨j + 1, by omega, by go_num, by go_num, by rw [show (j + 1) * 2 = j * 2 + 1 + 1 by omega]; exact Hst.out.1, (Hgr.out.trans Hst1.out).trans Hst.out.2⟩
        case measure => simp [intOf]; omega
      · go_wp2
        go_ret
        obtain rfl : j = n := by omega
        exact ⟨rfl, by simpa [hp, List.drop_of_length_le] using hown, hgr⟩

set_option maxRecDepth 100000 in
set_option maxHeartbeats 1000000 in
theorem heldPairs (a : Option Addr) (cap : Nat) (n : Nat) (ps : List Int) (k : Int) (w : World) (hps : ps = count k (n * 2)) (hx : SlI w w.heap.size a ps) (hl : n ≤ 1048576) (h0 : 0 ≤ k) (h1 : k ≤ 1099511627776) :
    Calls Try.prog 36 #[.slice a n cap, .int .i64 k] w fun e w' => e = .returned (.int .i64 (k + 2 * n)) ∧ Below w.heap.size w w' := by
  have hlen : ps.length = n * 2 := by rw [hps, count_len]
  rcases hx with rfl | ⟨b, off, hb, rfl, hc⟩
  · obtain rfl : n = 0 := by simp at hlen; omega
    clear hps hlen
    go_enter Try.func36, Try.ntmps36
    go_wp2
    refine wp_loop_rounds 1 ?_; rw [rounds_succ]
    go_wp2
    go_ret
    exact ⟨ret_int (by simp), Below.refl _ _⟩
  · have Hc := hid hc
    have Hps := hid hps
    have Hlen := hid hlen
    clear hc hps hlen
    go_enter Try.func36, Try.ntmps36
    go_wp2
    go_loop [1, 5] (fun m i => ∃ j : Nat, j ≤ n ∧ i = .int .i64 j ∧ m = .int .i64 (k + 2 * j)) (fun _ i => n - (intOf i).toNat)
    case atStart => exact ⟨0, Nat.zero_le _, rfl, by simp⟩
    case round =>
      obtain ⟨j, hj, rfl, rfl⟩ := hrel
      by_cases hlt : j < n
      · have hck : w.cell? ⟨b, off + j * 2, none⟩ = some (.int .i64 (k + 2 * j)) := by
          have := Hc.out (j * 2) (by rw [Hlen.out]; omega)
          rw [Hps.out, count_get _ _ _ (by omega), show k + ((j * 2 : Nat) : Int) = k + 2 * j by omega] at this
          exact this
        have hck2 : w.cell? ⟨b, off + j * 2 + 1, none⟩ = some (.int .i64 (k + 2 * j + 1)) := by
          have := Hc.out (j * 2 + 1) (by rw [Hlen.out]; omega)
          rw [Hps.out, count_get _ _ _ (by omega), show k + ((j * 2 + 1 : Nat) : Int) = k + 2 * j + 1 by omega] at this
          exact this
        have hi0 : (0 : Int) ≤ (j : Int) := by omega
        have hi1 : (j : Int) < (n : Int) := by omega
        go_wp2
        refine wp_loop_rounds 3 ?_; rw [rounds_succ]
        go_wp2
        rw [rounds_succ]
        go_wp2
        rw [rounds_succ]
        go_wp2
        go_round
        case rel => exact ⟨j + 1, by omega, by go_num, by go_num⟩
        case measure => simp [intOf]; omega
      · go_wp2
        go_ret
        obtain rfl : j = n := by omega
        exact ⟨rfl, Below.refl _ _⟩

end Go.Proofs.Yteikdkcledeefaa

/-! 'append(row, list...)' of pairs, as a run. -/
namespace Go.Proofs.Yteikdkcledeefaa
open Go.RowKit

theorem wp_append_run {P : Program} {o : Oper} {a : Act} {w w' : World} {K : Act → World → Prop} {Q : Exit → Act → World → Prop} {s y : Operand} {T : TypeId} (ho : o.op = .call { callee := .builtin .append, args := #[s, y], argTypes := #[T, T] })
    {v u v' : Value} (hs : a.eval s = v) (hy : a.eval y = u) (hr : (Builtin.append_ #[T, T] o.type #[v, u]).run P w = .ok v' w') (hK : K (a.put o.dst v') w') : o.wp P a w K Q := by
  unfold Oper.wp execOp
  simp only [ho, resolve, invoke, builtin, Sem.run_bind, Sem.run_pure, Result.andThen_ok, List.map_toArray, List.map_cons, List.map_nil, hs, hy, hr]
  exact hK
/-- 'append(row, list...)' of pairs, as a run. -/
theorem append_run {w : World} {base : Nat} {v : Value} {m : Nat} {xs ys : List Int} {ad : Addr} {l c : Nat} (hown : w.ownsRow base 73 2 v m (xs.map (Value.int .i64))) (hbase : base ≤ w.heap.size) (hm : m ≤ 1048576) (hl : l ≤ 1048576) (hys : ys.length = l * 2)
    (hc : ∀ j, j < l * 2 → w.cell? (ad.add j) = some (.int .i64 (ys[j]?.getD 0))) :
    ∃ v' w', (Builtin.append_ #[39, 39] 39 #[v, .slice (some ad) l c]).run Try.prog w = .ok v' w' ∧ w'.ownsRow base 73 2 v' (m + l) ((xs ++ ys).map (Value.int .i64)) ∧ w.grownBy w' v.ownBlock ∧ Below base w w' := by
  obtain ⟨i0, hi, hz0, hz1, hz2⟩ := info_parts info_pair
  obtain ⟨v', w', h1, h2, h3, _, _⟩ := run_append_own_at (P := Try.prog) (w := w) base 39 39 73 i0 (.agg #[.int .i64 0, .int .i64 0]) 2 16 Try.underlying39 hi hz0 hz1 hz2 rfl (by decide) v m (xs.map (Value.int .i64)) hown ad l c (ys.map (Value.int .i64)) (by simp [hys]) (fun j u hj => by
    have hjl : j < ys.length := by
      have := (List.getElem?_eq_some_iff.1 hj).1
      simpa using this
    have h := hc j (by omega)
    rw [List.getElem?_map, List.getElem?_eq_getElem hjl] at hj
    rw [List.getElem?_eq_getElem hjl] at h
    simp at hj h
    rw [h, hj]) (fun u hu => by
    obtain ⟨x, _, rfl⟩ := List.mem_map.1 hu
    rfl) (by unfold maxLen; omega) (by omega) hbase
  exact ⟨v', w', h1, by rw [List.map_append]; exact h2, h3, (Below.refl base w).grown h3 hbase (fun k hk => (hown.lt k hk).1)⟩
/-- A list of one pair. -/
theorem one_pair {w : World} {base : Nat} (hb : base ≤ w.heap.size) (x y : Int) : (w.alloc (.cells #[.int .i64 x, .int .i64 y] 73)).ownsRow base 73 2 (.slice (some ⟨w.heap.size, 0, none⟩) 1 1) 1 ([x, y].map (Value.int .i64)) :=
  ⟨by simp, .inr ⟨w.heap.size, 1, _, rfl, hb, heap_alloc_new w _, Nat.le_refl _, by decide, by simp, by simp⟩⟩

theorem wpList_append_run {P : Program} {ops : Array Oper} {rest : List Oper} {o : Oper} {a : Act} {w w' : World} {Q : Exit → Act → World → Prop} (hgd : o.guard = none) {s y : Operand} {T : TypeId} (ho : o.op = .call { callee := .builtin .append, args := #[s, y], argTypes := #[T, T] })
    {v u v' : Value} (hs : a.eval s = v) (hy : a.eval y = u) (hr : (Builtin.append_ #[T, T] o.type #[v, u]).run P w = .ok v' w') (hK : wpList P ops Q rest (a.put o.dst v') w') : wpList P ops Q (o :: rest) a w :=
  wpList_plain hgd fun _ hK' => wp_append_run ho hs hy hr (hK' _ _ hK)

theorem map_get {ys : List Int} {j : Nat} (h : j < ys.length) : (ys.map (Value.int .i64))[j]? = some (.int .i64 (ys[j]?.getD 0)) := by simp [h]

theorem own_pairs {w : World} {base b n c : Nat} {qs : List Int} (h : w.ownsRow base 73 2 (.slice (some ⟨b, 0, none⟩) n c) n (qs.map (Value.int .i64))) : b < w.heap.size ∧ n ≤ c ∧ ∀ i, i < qs.length → w.cell? ⟨b, 0 + i, none⟩ = some (.int .i64 (qs[i]?.getD 0)) := by
  refine ⟨(h.lt b rfl).2, ?_, fun i hi => ?_⟩
  · rcases h.2 with ⟨h1, _⟩ | ⟨g, cp, cur, h1, _, _, h2, _⟩
    · cases h1
    · injection h1 with _ h3
      omega
  · have := h.cells rfl i _ (map_get hi)
    have hadd : (⟨b, 0, none⟩ : Addr).add i = ⟨b, 0 + i, none⟩ := by unfold Addr.add; split <;> simp_all
    rwa [hadd] at this
theorem row_later {w w' : World} {B base e s n : Nat} {v : Value} {xs : List Value} (h : w.ownsRow base e s v n xs) (hb : Below w.heap.size w w') (_ : B = 0) : w'.ownsRow base e s v n xs :=
  h.kept (row := none) ⟨hb.os, hb.tape, hb.output, hb.size, fun q hq _ => hb.block q hq⟩ (by cases hv : v.ownBlock <;> simp)

end Go.Proofs.Yteikdkcledeefaa

/-! What a law keeps of the world, for rows of any type that are read as integers (a list of n pairs: 2 * n integers). -/
namespace Go.Proofs.Yteikdkcledeefaa
open Go.RowKit

/-- A row that lies in blocks from lo to hi: n elements of a type and size, read as integers. -/
structure Bk where
  lo : Nat
  hi : Nat
  ty : TypeId
  sz : Nat
  n : Nat
  v : Value
  xs : List Int

structure OwnB (w : World) (p : Bk) : Prop where
  own : w.ownsRow p.lo p.ty p.sz p.v p.n (p.xs.map (Value.int .i64))
  lt : ∀ g, p.v.ownBlock = some g → g < p.hi
  le : p.hi ≤ w.heap.size

/-- What is owned reads as integers. -/
theorem flat_slI {w : World} {base e sz : Nat} {a : Option Addr} {n m cap : Nat} {xs : List Int} (h : w.ownsRow base e sz (.slice a m cap) n (xs.map (Value.int .i64))) : SlI w w.heap.size a xs := by
  have hl := h.1
  rcases h.2 with ⟨hv, hn⟩ | ⟨g, cap', cur, hv, _, hg, _⟩
  · subst hn
    exact .inl (List.eq_nil_of_length_eq_zero (by simpa using hl))
  · cases hv
    refine .inr ⟨g, 0, (Array.getElem?_eq_some_iff.1 hg).1, rfl, fun i hi => ?_⟩
    have := h.cells (g := g) rfl i (.int .i64 (xs[i]?.getD 0)) (by simp [hi])
    have hadd : (⟨g, 0, none⟩ : Addr).add i = ⟨g, i, none⟩ := by unfold Addr.add; split <;> simp_all
    rw [hadd] at this
    simpa using this

structure Book (w0 : World) (w : World) (A : List (Option Addr × List Int)) (bs : List (Nat × Obj)) (L : List Bk) : Prop where
  from0 : Below w0.heap.size w0 w
  args : ∀ q ∈ A, SlI w w0.heap.size q.1 q.2
  blocks : ∀ b ∈ bs, w.heap[b.1]? = some b.2
  rows : ∀ p ∈ L, OwnB w p

section
variable {w0 w w' : World} {A : List (Option Addr × List Int)} {bs : List (Nat × Obj)} {L : List Bk}

theorem Book.ge (h : Book w0 w A bs L) : w0.heap.size ≤ w.heap.size := h.from0.size

theorem Book.below (h : Book w0 w A bs L) (hb : Below w.heap.size w w') : Book w0 w' A bs L where
  from0 := h.from0.trans (hb.mono h.ge)
  args := fun q hq => (h.args q hq).below (hb.mono h.ge)
  blocks := fun b hbm => (hb.block b.1 (Array.getElem?_eq_some_iff.1 (h.blocks b hbm)).1).trans (h.blocks b hbm)
  rows := fun p hp => ⟨ownsRow_below (h.rows p hp).own hb (fun g hg => Nat.lt_of_lt_of_le ((h.rows p hp).lt g hg) (h.rows p hp).le), (h.rows p hp).lt, Nat.le_trans (h.rows p hp).le hb.size⟩

theorem Book.drew (h : Book w0 w A bs L) : Book w0 w.drew A bs L := h.below (Below.refl _ _).drew
theorem Book.drewN (h : Book w0 w A bs L) (n : Nat) : Book w0 (w.drewN n) A bs L := h.below ⟨rfl, rfl, rfl, Nat.le_refl _, fun _ _ => rfl⟩

theorem Book.arg (h : Book w0 w A bs L) {q : Option Addr × List Int} (hq : q ∈ A) : SlI w w.heap.size q.1 q.2 := (h.args q hq).mono h.ge

theorem Book.alloc (h : Book w0 w A bs L) (o : Obj) : Book w0 (w.alloc o) A ((w.heap.size, o) :: bs) L where
  from0 := h.from0.alloc h.ge o
  args := fun q hq => (h.args q hq).below ((Below.refl _ w).alloc h.ge _)
  blocks := fun b hb => by
    rcases List.mem_cons.1 hb with rfl | hb
    · exact heap_alloc_new w o
    · exact (Below.heap_alloc w o _ (Array.getElem?_eq_some_iff.1 (h.blocks b hb)).1).trans (h.blocks b hb)
  rows := fun p hp => ⟨(h.rows p hp).own.alloc o, (h.rows p hp).lt, by have := (h.rows p hp).le; simp; omega⟩

/-- A new row, out of a call. -/
theorem Book.row (h : Book w0 w A bs L) {ty : TypeId} {sz n : Nat} {v : Value} {xs : List Int}
    (hown : w'.ownsRow w.heap.size ty sz v n (xs.map (Value.int .i64))) (hb : Below w.heap.size w w') : Book w0 w' A bs (⟨w.heap.size, w'.heap.size, ty, sz, n, v, xs⟩ :: L) :=
  { h.below hb with
    rows := fun p hp => by
      rcases List.mem_cons.1 hp with rfl | hp
      · exact ⟨hown, fun g hg => (hown.lt g hg).2, Nat.le_refl _⟩
      · exact (h.below hb).rows p hp }

/-- A row is marked: the others stay. -/
theorem Book.mark {L' : List Bk} (h : Book w0 w A bs L) {p : Bk} {ys : List Int} (hp : p ∈ L)
    (hown : w'.ownsRow p.lo p.ty p.sz p.v p.n (ys.map (Value.int .i64))) (hg : w.grownBy w' p.v.ownBlock)
    (hB : w0.heap.size ≤ p.lo) (hbs : ∀ b ∈ bs, b.1 < p.lo ∨ p.hi ≤ b.1) (hL : ∀ q ∈ L', q = { p with xs := ys } ∨ (q ∈ L ∧ (q.hi ≤ p.lo ∨ p.hi ≤ q.lo))) : Book w0 w' A bs L' where
  from0 := h.from0.grown hg h.ge (fun k e => Nat.le_trans hB ((h.rows p hp).own.lt k e).1)
  args := fun q hq => (h.args q hq).below ((Below.refl _ w).grown hg h.ge (fun k e => Nat.le_trans hB ((h.rows p hp).own.lt k e).1))
  blocks := fun b hb => (hg.block b.1 (Array.getElem?_eq_some_iff.1 (h.blocks b hb)).1 (fun e => by
    have h1 := ((h.rows p hp).own.lt _ e.symm).1
    have h2 := (h.rows p hp).lt _ e.symm
    rcases hbs b hb with h3 | h3 <;> omega)).trans (h.blocks b hb)
  rows := fun q hq => by
    rcases hL q hq with rfl | ⟨hqm, hap⟩
    · exact ⟨hown, (h.rows p hp).lt, Nat.le_trans (h.rows p hp).le hg.size⟩
    · refine ⟨(h.rows q hqm).own.kept hg ?_, (h.rows q hqm).lt, Nat.le_trans (h.rows q hqm).le hg.size⟩
      cases hv : q.v.ownBlock with
      | none => exact .inl rfl
      | some g =>
        refine .inr (fun e => ?_)
        have h1 := ((h.rows p hp).own.lt _ e.symm).1
        have h2 := (h.rows p hp).lt _ e.symm
        have h3 := ((h.rows q hqm).own.lt _ hv).1
        have h4 := (h.rows q hqm).lt _ hv
        rcases hap with h5 | h5 <;> omega

/-- Some of it. -/
theorem Book.only {bs' : List (Nat × Obj)} {L' : List Bk} (h : Book w0 w A bs L) (hb : ∀ b ∈ bs', b ∈ bs) (hL : ∀ p ∈ L', p ∈ L) : Book w0 w A bs' L' :=
  ⟨h.from0, h.args, fun b hbm => h.blocks b (hb b hbm), fun p hp => h.rows p (hL p hp)⟩

/-- A block of another type is written. -/
theorem Book.set2 {b t : Nat} {x y u v : Value} (h : Book w0 w A ((b, .cells #[x, y] t (0, 0)) :: bs) L) (hw : w0.heap.size ≤ b) (hb : ∀ q ∈ bs, q.1 ≠ b) (hty : ∀ p ∈ L, p.ty ≠ t) :
    Book w0 ((w.setCell ⟨b, 0, none⟩ u).setCell ⟨b, 1, none⟩ v) A ((b, .cells #[u, v] t (0, 0)) :: bs) L where
  from0 := (h.from0.setCell (p := ⟨b, 0, none⟩) hw _).setCell (p := ⟨b, 1, none⟩) hw _
  args := fun q hq => (h.args q hq).below (((Below.refl _ w).setCell (p := ⟨b, 0, none⟩) hw _).setCell (p := ⟨b, 1, none⟩) hw _)
  blocks := fun q hq => by
    rcases List.mem_cons.1 hq with rfl | hq
    · have hbk := h.blocks _ (List.mem_cons_self ..)
      simp only at hbk
      simp only [World.setCell, Array.getElem?_modify, hbk]
      simp
    · exact (Below.heap_setCell _ _ _ _ (hb q hq)).trans ((Below.heap_setCell _ _ _ _ (hb q hq)).trans (h.blocks q (List.mem_cons_of_mem _ hq)))
  rows := fun p hp => by
    have hbk := h.blocks _ (List.mem_cons_self ..)
    have hn : p.v.ownBlock ≠ some b := by
      intro e
      have ho := (h.rows p hp).own
      rcases ho.2 with ⟨hv, _⟩ | ⟨g, cap, cur, hv, _, hg, _⟩
      · rw [hv] at e; simp [Value.ownBlock] at e
      · rw [hv] at e
        simp [Value.ownBlock] at e
        subst e
        rw [hg] at hbk
        simp at hbk
        exact hty p hp hbk.2
    exact ⟨ownsRow_set (ownsRow_set (h.rows p hp).own hn _) hn _, (h.rows p hp).lt, by have := (h.rows p hp).le; simpa [World.setCell] using this⟩

theorem Book.slI (h : Book w0 w A bs L) {lo hi : Nat} {ty : TypeId} {sz n : Nat} {a : Option Addr} {m cap : Nat} {xs : List Int} (hp : (⟨lo, hi, ty, sz, n, .slice a m cap, xs⟩ : Bk) ∈ L) : SlI w w.heap.size a xs :=
  flat_slI (h.rows _ hp).own

theorem Book.own (h : Book w0 w A bs L) {lo hi : Nat} {ty : TypeId} {sz n : Nat} {v : Value} {xs : List Int} (hp : (⟨lo, hi, ty, sz, n, v, xs⟩ : Bk) ∈ L) : w.ownsRow lo ty sz v n (xs.map (Value.int .i64)) := (h.rows _ hp).own

theorem Book.two (h : Book w0 w A bs L) {b t : Nat} {u v : Value} (hb : (b, Obj.cells #[u, v] t (0, 0)) ∈ bs) : w.cell? ⟨b, 0, none⟩ = some u ∧ w.cell? ⟨b, 1, none⟩ = some v := by
  have := h.blocks _ hb
  constructor <;> simp [World.cell?, this]

end

end Go.Proofs.Yteikdkcledeefaa

/-! slices.Insert of one pair. -/
namespace Go.Proofs.Yteikdkcledeefaa
open Go.RowKit

theorem wp_copy_run {P : Program} (w : World) {o : Oper} {a : Act} {K : Act → World → Prop} {Q : Exit → Act → World → Prop} (d s : Operand) (t t' : TypeId)
    (ho : o.op = .call { callee := .builtin .copy, args := #[d, s], argTypes := #[t, t'] }) (v u : Value) (hd : a.eval d = v) (hs : a.eval s = u) {v' : Value} {w' : World}
    (hr : (Builtin.copy_ #[t, t'] o.type #[v, u]).run P w = .ok v' w') (h : K (a.put o.dst v') w') : o.wp P a w K Q := by
  unfold Oper.wp execOp
  simp only [ho, resolve, invoke, builtin, Sem.run_bind, Sem.run_pure, Result.andThen_ok, List.map_toArray, List.map_cons, List.map_nil, hd, hs, hr]
  exact h
theorem wpList_copy_run {P : Program} (w : World) {ops : Array Oper} {rest : List Oper} {o : Oper} {a : Act} {Q : Exit → Act → World → Prop} (hgd : o.guard = none) (d s : Operand) (t t' : TypeId)
    (ho : o.op = .call { callee := .builtin .copy, args := #[d, s], argTypes := #[t, t'] }) (v u : Value) (hd : a.eval d = v) (hs : a.eval s = u) {v' : Value} {w' : World}
    (hr : (Builtin.copy_ #[t, t'] o.type #[v, u]).run P w = .ok v' w') (h : wpList P ops Q rest (a.put o.dst v') w') : wpList P ops Q (o :: rest) a w :=
  wpList_plain hgd fun _ hK => wp_copy_run w d s t t' ho v u hd hs hr (hK _ _ h)
theorem step_copy_run {P : Program} {ops : Array Oper} {o : Oper} {a : Act} {w : World} {K : Act → World → Prop} {Q : Exit → Act → World → Prop} {E : Prop}
    (hg : o.guard = none) (d x : Operand) (dT sT : TypeId) (hop : o.op = Op.call { callee := Callee.builtin Builtin.copy, args := #[d, x], argTypes := #[dT, sT] })
    (v u : Value) (hd : a.eval d = v) (hx : a.eval x = u) {v' : Value} {w' : World} (hr : (Builtin.copy_ #[dT, sT] o.type #[v, u]).run P w = .ok v' w') (hK : K (a.put o.dst v') w') :
    if Region.wanted o (yielded ops a.tmps) = true then Oper.wp P o a w K Q else E := by
  have hw : Region.wanted o (yielded ops a.tmps) = true := by simp [Region.wanted, hg]
  rw [if_pos hw]
  exact wp_copy_run w d x dT sT hop v u hd hx hr hK

/-- 'copy' at elements of two cells. -/
theorem run_copy_two {P : Program} (w : World) (dT sT ty elem : TypeId) (b o dLen dCap : Nat) (a : Addr) (sLen sCap : Nat) (cs : List Value)
    (hu : P.underlying dT = some (.slice elem)) (hs : (P.info? elem).map (·.size) = some 2) (hn : cs.length = Nat.min sLen dLen * 2)
    (hsrc : ∀ j v, cs[j]? = some v → w.cell? (a.add j) = some v) (hc : ∀ j, j < cs.length → (w.cell? ⟨b, o + j, none⟩).isSome = true) (hf : ∀ j, j < cs.length → w.frozen? ⟨b, o + j, none⟩ = false) (h1 : ∀ v ∈ cs, v.oneCell' = true) :
    (Builtin.copy_ #[dT, sT] ty #[.slice (some ⟨b, o, none⟩) dLen dCap, .slice (some a) sLen sCap]).run P w = .ok (goInt (Nat.min sLen dLen)) (w.setCells b o cs) := by
  have hl := run_loadCells_list (P := P) w a cs hsrc
  have hst := run_storeCells_cells (P := P) b o cs 0 w (by simpa using hc) (by simpa using hf) h1
  cases hq : P.info? elem with
  | none => simp [hq] at hs
  | some i =>
    have hi : i.size = 2 := by simpa [hq] using hs
    simp [Builtin.copy_, run_underlying hu, Builtin.lenOf, Builtin.firstCells, sizeOf, typeInfo, hq, hi, ← hn, hl, hst]

/-- Values written over an array's cells. -/
def putA (cur : Array Value) : Nat → List Value → Array Value
  | _, [] => cur
  | o, v :: r => putA (cur.setIfInBounds o v) (o + 1) r
theorem putA_size : ∀ (vs : List Value) (cur : Array Value) (o : Nat), (putA cur o vs).size = cur.size
  | [], _, _ => rfl
  | v :: r, cur, o => by rw [putA, putA_size r]; simp
theorem putA_get : ∀ (vs : List Value) (cur : Array Value) (o j : Nat), o + vs.length ≤ cur.size → (putA cur o vs)[j]? = if o ≤ j ∧ j < o + vs.length then vs[j - o]? else cur[j]?
  | [], cur, o, j, _ => by
    rw [putA, if_neg (by simp)]
  | v :: r, cur, o, j, h => by
    simp only [List.length_cons] at h
    rw [putA, putA_get r _ (o + 1) j (by simp; omega)]
    by_cases h1 : o + 1 ≤ j ∧ j < o + 1 + r.length
    · rw [if_pos h1, if_pos (by simp only [List.length_cons]; omega), show j - o = (j - (o + 1)) + 1 by omega]
      simp
    · rw [if_neg h1]
      by_cases h2 : j = o
      · subst h2
        rw [if_pos (by simp only [List.length_cons]; omega)]
        simp [Array.getElem?_setIfInBounds]
        omega
      · rw [if_neg (by simp only [List.length_cons]; omega)]
        rw [Array.getElem?_setIfInBounds, if_neg (by omega)]
theorem setCells_heap {e : TypeId} {g : Nat} : ∀ (vs : List Value) (o : Nat) (w : World) (cur : Array Value), w.heap[g]? = some (.cells cur e (0, 0)) → (w.setCells g o vs).heap[g]? = some (.cells (putA cur o vs) e (0, 0))
  | [], _, _, _, h => h
  | v :: r, o, w, cur, h => by
    rw [World.setCells, putA]
    exact setCells_heap r (o + 1) _ _ (heap_setCell_same w g o cur e v h)
theorem setCells_grown {g : Nat} : ∀ (vs : List Value) (o : Nat) (w : World), w.grownBy (w.setCells g o vs) (some g)
  | [], _, w => ⟨rfl, rfl, rfl, Nat.le_refl _, fun _ _ _ => rfl⟩
  | v :: r, o, w => by
    rw [World.setCells]
    have h := setCells_grown (g := g) r (o + 1) (w.setCell ⟨g, o, none⟩ v)
    have h1 : w.grownBy (w.setCell ⟨g, o, none⟩ v) (some g) := ⟨rfl, rfl, rfl, by simp, fun k _ hk => heap_setCell_other w ⟨g, o, none⟩ k v (fun e => hk (by simp [e]))⟩
    exact ⟨h.os.trans h1.os, h.tape.trans h1.tape, h.output.trans h1.output, Nat.le_trans h1.size h.size, fun k hk hn => (h.block k (Nat.lt_of_lt_of_le hk h1.size) hn).trans (h1.block k hk hn)⟩
theorem setCells_output {g : Nat} (vs : List Value) (o : Nat) (w : World) : (w.setCells g o vs).output = w.output := (setCells_grown vs o w).output
theorem setCells_tape {g : Nat} (vs : List Value) (o : Nat) (w : World) : (w.setCells g o vs).tape = w.tape := (setCells_grown vs o w).tape
theorem setCells_os {g : Nat} (vs : List Value) (o : Nat) (w : World) : (w.setCells g o vs).os = w.os := (setCells_grown vs o w).os
theorem setCells_same {g : Nat} : ∀ (vs : List Value) (o : Nat) {w w' : World}, w.heap = w'.heap → (w.setCells g o vs).heap = (w'.setCells g o vs).heap
  | [], _, _, _, h => h
  | v :: r, o, w, w', h => by
    rw [World.setCells, World.setCells]
    exact setCells_same r (o + 1) (by unfold World.setCell; simp [h])
theorem setCells_size {g : Nat} : ∀ (vs : List Value) (o : Nat) (w : World), (w.setCells g o vs).heap.size = w.heap.size
  | [], _, _ => rfl
  | v :: r, o, w => by rw [World.setCells, setCells_size r]; simp

/-- What the row holds behind the insertion. -/
theorem put_two {cur : Array Value} {n i : Nat} {cs : List Value} {p q : Value} (hi : i ≤ n) (hcs : cs.length = n * 2) (hsz : (n + 1) * 2 ≤ cur.size) (hpre : ∀ j, j < i * 2 → cur[j]? = cs[j]?) :
    (putA (putA cur (i * 2 + 2) (cs.drop (i * 2))) (i * 2) [p, q]).toList.take ((n + 1) * 2) = cs.take (i * 2) ++ p :: q :: cs.drop (i * 2) := by
  apply List.ext_getElem?
  intro j
  rw [List.getElem?_take]
  have hd : (cs.drop (i * 2)).length = n * 2 - i * 2 := by rw [List.length_drop, hcs]
  by_cases hj : j < (n + 1) * 2
  · rw [if_pos hj, Array.getElem?_toList, putA_get _ _ _ _ (by rw [putA_size]; simp; omega), putA_get _ _ _ _ (by rw [hd]; omega), hd]
    have ht : (cs.take (i * 2)).length = i * 2 := by rw [List.length_take, hcs]; omega
    by_cases h1 : j < i * 2
    · rw [if_neg (by simp; omega), if_neg (by omega), hpre j h1, List.getElem?_append_left (by omega), List.getElem?_take, if_pos h1]
    · rw [List.getElem?_append_right (by omega), ht]
      by_cases h2 : j < i * 2 + 2
      · rw [if_pos (by simp; omega)]
        rcases (show j - i * 2 = 0 ∨ j - i * 2 = 1 by omega) with h3 | h3 <;> rw [h3] <;> rfl
      · rw [if_neg (by simp; omega), if_pos (by omega)]
        rw [show j - i * 2 = (j - (i * 2 + 2)) + 2 by omega]
        rfl
  · rw [if_neg hj, List.getElem?_eq_none]
    simp only [List.length_append, List.length_take, List.length_cons, hd, hcs]
    omega
theorem put_two' {cur : Array Value} {n i : Nat} {cs : List Value} {p q : Value} (hi : i ≤ n) (hcs : cs.length = n * 2) (hsz : (n + 1) * 2 ≤ cur.size) (hpre : ∀ j, j < i * 2 → cur[j]? = cs[j]?) :
    (putA (putA cur (i * 2) [p, q]) (i * 2 + 2) (cs.drop (i * 2))).toList.take ((n + 1) * 2) = cs.take (i * 2) ++ p :: q :: cs.drop (i * 2) := by
  rw [← put_two hi hcs hsz hpre]
  congr 2
  have hd : (cs.drop (i * 2)).length = n * 2 - i * 2 := by rw [List.length_drop, hcs]
  apply Array.ext_getElem?
  intro j
  rw [putA_get _ _ _ _ (by rw [putA_size, hd]; omega), putA_get _ _ _ _ (by simp; omega), putA_get _ _ _ _ (by rw [putA_size]; simp; omega), putA_get _ _ _ _ (by rw [hd]; omega)]
  by_cases h1 : i * 2 + 2 ≤ j ∧ j < i * 2 + 2 + (cs.drop (i * 2)).length
  · rw [if_pos h1, if_neg (by simp; omega), if_pos h1]
  · rw [if_neg h1]
    by_cases h2 : i * 2 ≤ j ∧ j < i * 2 + [p, q].length
    · rw [if_pos h2, if_pos h2]
    · rw [if_neg h2, if_neg h2, if_neg h1]

/-- The list with a pair put in at a place. -/
def insAt (xs : List Int) (i : Nat) (x y : Int) : List Int := xs.take (i * 2) ++ x :: y :: xs.drop (i * 2)
theorem insAt_map (xs : List Int) (i : Nat) (x y : Int) : (xs.map (Value.int .i64)).take (i * 2) ++ .int .i64 x :: .int .i64 y :: (xs.map (Value.int .i64)).drop (i * 2) = (insAt xs i x y).map (Value.int .i64) := by
  unfold insAt
  simp
theorem isSome_of {w : World} {g j : Nat} {cur : Array Value} {e : TypeId} (h : w.heap[g]? = some (.cells cur e (0, 0))) (hj : j < cur.size) : (w.cell? ⟨g, j, none⟩).isSome = true := by
  rw [cell_of_row w g j cur e (0, 0) h, Array.getElem?_eq_getElem hj]; rfl
theorem size_pair : (Try.prog.info? 73).map (·.size) = some 2 := by kernel_rfl





end Go.Proofs.Yteikdkcledeefaa

/-! slices.Repeat of one integer, 1, 2, 4 .. 32 times. -/
namespace Go.Proofs.Yteikdkcledeefaa
open Go.RowKit

set_option maxRecDepth 100000 in
set_option maxHeartbeats 1000000 in
theorem mul64_any (C : Nat) (w : World) (hC : C = 1 ∨ C = 2 ∨ C = 4 ∨ C = 8 ∨ C = 16 ∨ C = 32) :
    Calls Try.prog 187 #[.int .u64 1, .int .u64 (C : Int)] w fun e w' => e = .returned (.tuple #[.int .u64 0, .int .u64 (C : Int)]) ∧ w = w' := by
  rcases hC with rfl | rfl | rfl | rfl | rfl | rfl
  all_goals
    go_enter Try.func187, Try.ntmps187
    go_wp2_with fail
    go_ret2
    first | exact ⟨rfl, by trivial⟩ | (refine ⟨?_, by trivial⟩; decide +kernel)

set_option maxRecDepth 100000 in
set_option maxHeartbeats 1000000 in
theorem mul_any (C : Nat) (w : World) (hC : C = 1 ∨ C = 2 ∨ C = 4 ∨ C = 8 ∨ C = 16 ∨ C = 32) :
    Calls Try.prog 115 #[.int .u64 1, .int .u64 (C : Int)] w fun e w' => e = .returned (.tuple #[.int .u64 0, .int .u64 (C : Int)]) ∧ w = w' := by
  have HM := hid (mul64_any C w hC)
  have hl : C ≤ 32 := by omega
  clear hC
  go_enter Try.func115, Try.ntmps115
  go_wp2_with fail
  refine HM.out.mono ?_
  rintro e w' ⟨rfl, rfl⟩
  go_wp2_with fail
  go_ret2
  exact ⟨rfl, by trivial⟩

/-- A row that is filled up to place n. -/
def rowQ (q : Int) (n C : Nat) : List Value := List.replicate n (Value.int .i64 q) ++ List.replicate (C - n) (Value.int .i64 0)
theorem rowQ_len (q : Int) {n C : Nat} (h : n ≤ C) : (rowQ q n C).length = C := by unfold rowQ; simp; omega
theorem own_heap {w : World} {base e g n : Nat} {xs : List Value} (h : w.ownsRow base e 1 (.slice (some ⟨g, 0, none⟩) n n) n xs) : w.heap[g]? = some (.cells xs.toArray e (0, 0)) := by
  rcases h.2 with ⟨h', _⟩ | ⟨g', cap', cur, h', hb, hg, hnc, hcm, hcs, htake⟩
  · simp at h'
  · simp only [Value.slice.injEq, Option.some.injEq, Addr.mk.injEq, and_true, true_and] at h'
    obtain ⟨rfl, rfl⟩ := h'
    rw [hg, ← htake, List.take_of_length_le (by simp; omega)]
theorem heap_own {w : World} {base e g n : Nat} {xs : List Value} (h : w.heap[g]? = some (.cells xs.toArray e (0, 0))) (hl : xs.length = n) (hb : base ≤ g) (hn : n ≤ maxLen) : w.ownsRow base e 1 (.slice (some ⟨g, 0, none⟩) n n) n xs :=
  ⟨by omega, .inr ⟨g, n, _, rfl, hb, h, Nat.le_refl _, hn, by simp [hl], by simp [← hl]⟩⟩
theorem rowQ_put {q : Int} {n m C : Nat} (h : n + m ≤ C) : (rowQ q n C).take n ++ List.replicate m (Value.int .i64 q) ++ (rowQ q n C).drop (n + m) = rowQ q (n + m) C := by
  unfold rowQ
  rw [List.take_left' (by simp), List.drop_append, List.drop_of_length_le (by simp), List.nil_append, List.drop_replicate, List.replicate_append_replicate, List.length_replicate]
  congr 2
  omega
theorem setRow_grown (w : World) (g : Nat) (cs : Array Value) : w.grownBy (w.setRow g cs) (some g) :=
  ⟨rfl, rfl, rfl, by simp [World.setRow], fun k _ hk => by
    unfold World.setRow
    simp only [Array.getElem?_modify]
    rw [if_neg (fun e => hk (by rw [e]))]⟩
theorem setRow_at {w : World} {g : Nat} {cur cs : Array Value} {t : TypeId} (h : w.heap[g]? = some (.cells cur t (0, 0))) : (w.setRow g cs).heap[g]? = some (.cells cs t (0, 0)) := setRow_heap w g cur cs t (0, 0) h

theorem copyQ {W : World} {g n m C sLen dCap sCap : Nat} {q : Int} {a : Addr} (ty : TypeId) (hg : W.heap[g]? = some (.cells (rowQ q n C).toArray 2 (0, 0))) (hm : m = Nat.min sLen (C - n)) (hn : n ≤ C) (hs : ∀ j, j < m → W.cell? (a.add j) = some (.int .i64 q)) :
    (Builtin.copy_ #[22, 22] ty #[.slice (some ⟨g, n, none⟩) (C - n) dCap, .slice (some a) sLen sCap]).run Try.prog W = .ok (goInt m) (W.setRow g (rowQ q (n + m) C).toArray) := by
  have hm2 : m ≤ C - n := by rw [hm]; exact Nat.min_le_right sLen (C - n)
  have hmc : n + m ≤ C := by omega
  have h := run_copy_row (P := Try.prog) W 22 22 ty 2 g n (C - n) dCap a sLen sCap (rowQ q n C).toArray 2 (List.replicate m (Value.int .i64 q)) Try.underlying22 (by kernel_rfl) hg (by rw [List.length_replicate]; exact hm)
    (fun j v hj => by
      rw [List.getElem?_replicate] at hj
      split at hj
      · rename_i hjm
        rw [hs j hjm]
        exact hj
      · cases hj) (by simp only [List.length_replicate, List.size_toArray]; rw [rowQ_len q hn]; exact hmc) (fun v hv => by rw [List.eq_of_mem_replicate hv]; rfl)
  rw [List.length_replicate] at h
  have e := rowQ_put (q := q) hmc
  dsimp only at h
  rw [e] at h
  exact h

set_option maxRecDepth 100000 in
set_option maxHeartbeats 2000000 in
theorem rep_any (C b : Nat) (q : Int) (w : World) (hC : C = 1 ∨ C = 2 ∨ C = 4 ∨ C = 8 ∨ C = 16 ∨ C = 32) (hb : w.cell? ⟨b, 0, none⟩ = some (.int .i64 q)) :
    Calls Try.prog 54 #[.slice (some ⟨b, 0, none⟩) 1 1, .int .i64 (C : Int)] w fun e w' => ∃ g, e = .returned (.slice (some ⟨g, 0, none⟩) C C) ∧ Res w w' (.slice (some ⟨g, 0, none⟩) C C) (List.replicate C q) := by
  have HM := hid (mul_any C w hC)
  have h1 : 1 ≤ C := by omega
  have h32 : C ≤ 32 := by omega
  have hbl := World.block_lt_of_cell? w _ hb
  have Hb := hid hb
  clear hC hb
  go_enter Try.func54, Try.ntmps54
  go_wp2_with fail
  refine HM.out.mono ?_
  rintro e w1 ⟨rfl, rfl⟩
  go_wp2_with (refine make_int (n := C) rfl rfl rfl rfl (by omega) ?_; intro w1 hown1 hg1 hB1)
  have hh1 := own_heap hown1
  rw [show (List.replicate C (0 : Int)).map (Value.int .i64) = rowQ q 0 C by unfold rowQ; simp] at hh1
  have hbq := (hB1.cell (p := ⟨b, 0, none⟩) hbl).trans Hb.out
  have hcp1 := fun ty => copyQ (W := w1) (g := w.heap.size) (n := 0) (m := 1) (C := C) (sLen := 1) (dCap := C) (sCap := 1) (a := ⟨b, 0, none⟩) ty hh1 (by show _ = min _ _; omega) (by omega) (fun j hj => by
    obtain rfl : j = 0 := by omega
    exact hbq)
  simp only [Nat.sub_zero, Nat.zero_add] at hcp1
  have Hh2 := hid (setRow_at (cs := (rowQ q 1 C).toArray) hh1)
  have HB2 := hid (hB1.grown (setRow_grown w1 w.heap.size (rowQ q 1 C).toArray) hB1.size (fun k e => by cases e; exact Nat.le_refl _))
  obtain ⟨W2, hW2⟩ : ∃ W2, W2 = w1.setRow w.heap.size (rowQ q 1 C).toArray := ⟨_, rfl⟩
  rw [← hW2] at hcp1 Hh2 HB2
  clear hown1 hg1 hB1 hh1 hbq hW2
  rw [hcp1]
  clear hcp1
  go_wp2_with fail
  go_loopw [8] (fun nv wx => ∃ n : Nat, 1 ≤ n ∧ n ≤ C ∧ nv = .int .i64 (n : Int) ∧ Hid (wx.heap[w.heap.size]? = some (.cells (rowQ q n C).toArray 2 (0, 0))) ∧ Hid (Below w.heap.size w wx)) (fun nv _ => C - (intOf nv).toNat)
  case atStart => exact ⟨1, Nat.le_refl _, h1, rfl, Hh2, HB2⟩
  case round =>
    clear Hh2 HB2
    obtain ⟨n, hn1, hn, rfl, Hh, HB⟩ := hrel
    by_cases hlt : n < C
    · obtain ⟨m, hm⟩ : ∃ m, m = Nat.min n (C - n) := ⟨_, rfl⟩
      have hm1 : 1 ≤ m ∧ m ≤ n ∧ n + m ≤ C := by
        have e : m = min n (C - n) := hm
        omega
      have hcells : ∀ j, j < m → wr.cell? ((⟨w.heap.size, 0, none⟩ : Addr).add j) = some (.int .i64 q) := fun j hj => by
        rw [Addr.add_lit, Nat.zero_add, cell_of_row wr w.heap.size j _ _ _ Hh.out]
        unfold rowQ
        simp only [List.getElem?_toArray]
        rw [List.getElem?_append_left (by simp; omega), List.getElem?_replicate, if_pos (by omega)]
      have hcp : ∀ W' : World, (∀ k, W'.heap[k]? = wr.heap[k]?) → ∀ ty, (Builtin.copy_ #[22, 22] ty #[.slice (some ⟨w.heap.size, n, none⟩) (C - n) (C - n), .slice (some ⟨w.heap.size, 0, none⟩) n C]).run Try.prog W' = .ok (goInt m) (W'.setRow w.heap.size (rowQ q (n + m) C).toArray) := fun W' hk ty =>
        copyQ ty ((hk _).trans Hh.out) hm hn (fun j hj => (World.cell?_of_block (a := (⟨w.heap.size, 0, none⟩ : Addr).add j) (hk _)).trans (hcells j hj))
      have Hh2 := hid (fun W' (hk : ∀ k, W'.heap[k]? = wr.heap[k]?) => setRow_at (w := W') (cs := (rowQ q (n + m) C).toArray) ((hk w.heap.size).trans Hh.out))
      have Hg := hid (fun W' => setRow_grown W' w.heap.size (rowQ q (n + m) C).toArray)
      have hi0 : (0 : Int) ≤ (n : Int) := by omega
      have hi1 : (n : Int) ≤ (C : Int) := by omega
      have hw1 : IntKind.i64.wrap ((n : Int) + (m : Int)) = ((n + m : Nat) : Int) := by rw [IntKind.wrap_i64]; omega
      have hlc : (n : Int) < (C : Int) := by omega
      have hne : ¬ (C = n) := by omega
      clear hm hcells
      go_wp2_with fail
      go_region_law (refine step_copy_run rfl _ _ 22 22 rfl (.slice (some ⟨w.heap.size, n, none⟩) (C - n) (C - n)) (.slice (some ⟨w.heap.size, 0, none⟩) n C) (by simp [Act.eval, Act.put]) (by simp [Act.eval, Act.put]) (hcp wr.drew (fun _ => rfl) 3) ?_)
      obtain ⟨W3, hW3⟩ : ∃ W3, W3 = wr.drew.setRow w.heap.size (rowQ q (n + m) C).toArray := ⟨_, rfl⟩
      have Hh3 : Hid (W3.heap[w.heap.size]? = some (.cells (rowQ q (n + m) C).toArray 2 (0, 0))) := hid (by rw [hW3]; exact Hh2.out wr.drew (fun _ => rfl))
      have HB3 : Hid (Below w.heap.size w W3) := hid (by
        rw [hW3]
        have hd : Below w.heap.size w wr.drew := HB.out.trans ⟨rfl, rfl, rfl, Nat.le_refl _, fun _ _ => rfl⟩
        exact hd.grown (Hg.out wr.drew) hd.size (fun k e => by cases e; exact Nat.le_refl _))
      rw [← hW3]
      clear hW3 hcp
      have hnm : ((n + m : Nat) : Int) = (n : Int) + (m : Int) := by omega
      dsimp only [List.getElem_toArray, List.getElem_cons_succ, List.getElem_cons_zero, Act.put]
      simp only [List.setIfInBounds_toArray, List.set_cons_succ, List.set_cons_zero]
      go_wp2_with fail
      go_roundw
      case rel => exact ⟨n + m, by omega, hm1.2.2, by go_num, Hh3, HB3⟩
      case measure => simp [intOf]; omega
    · obtain rfl : n = C := by omega
      go_wp2_with fail
      go_ret
      refine ⟨_, rfl, ?_, HB.out⟩
      have e : (List.replicate n q).map (Value.int .i64) = rowQ q n n := by unfold rowQ; simp
      rw [List.length_replicate, e]
      exact heap_own Hh.out (rowQ_len q (Nat.le_refl _)) (Nat.le_refl _) (by unfold maxLen; omega)

end Go.Proofs.Yteikdkcledeefaa

/-! TreeOfOrder: the program's. -/
namespace Go.Proofs.Yteikdkcledeefaa
open Go.RowKit

/-- 'append(a, b...)' of numbers. -/
theorem append_all {w : World} {ops : Array Oper} {rest : List Oper} {o : Oper} {a : Act} {Q : Exit → Act → World → Prop} (hgd : o.guard = none) {s y : Operand}
    (ho : o.op = .call { callee := .builtin .append, args := #[s, y], argTypes := #[22, 22] })
    {base : Nat} {v : Value} {xs ys : List Int} {ad : Addr} {m c : Nat} (hm : m = ys.length) (hown : w.ownsRow base 2 1 v xs.length (xs.map (Value.int .i64))) (hbase : base ≤ w.heap.size) (hl : xs.length ≤ 1048576) (hly : ys.length ≤ 1048576)
    (hs : a.eval s = v) (hy : a.eval y = .slice (some ad) m c) (hc : ∀ i, i < ys.length → w.cell? (ad.add i) = some (.int .i64 (ys[i]?.getD 0)))
    (hK : ∀ v' w', w'.ownsRow base 2 1 v' (xs ++ ys).length ((xs ++ ys).map (Value.int .i64)) → w.grownBy w' v.ownBlock → Below base w w' → wpList Try.prog ops Q rest (a.put o.dst v') w') :
    wpList Try.prog ops Q (o :: rest) a w := by
  subst hm
  obtain ⟨i0, hi, hz0, hz1, hz2⟩ := info_parts info_i64
  refine wpList_append_own_at w hgd s y 22 ho base 2 i0 (.int .i64 0) 1 8 Try.underlying22 hi hz0 hz1 hz2 rfl (by decide) v _ _ hs hown ad ys.length c (ys.map (Value.int .i64)) hy (by simp) (fun j u hj => ?_) (fun u hu => ?_) (by unfold maxLen; omega) (by omega) hbase ?_
  · have hjl : j < ys.length := by
      have := (List.getElem?_eq_some_iff.1 hj).1
      simpa using this
    have := hc j hjl
    rw [List.getElem?_map, List.getElem?_eq_getElem hjl] at hj
    rw [List.getElem?_eq_getElem hjl] at this
    simp at hj this
    rw [this, hj]
  · obtain ⟨x, _, rfl⟩ := List.mem_map.1 hu
    rfl
  · intro v' w1 hown1 hgrow1 _ _
    exact hK v' w1 (by simpa using hown1) hgrow1 ((Below.refl base w).grown hgrow1 hbase (fun k hk => (hown.lt k hk).1))
theorem pow_six {k : Nat} (h : k < 6) : 2 ^ k = 1 ∨ 2 ^ k = 2 ∨ 2 ^ k = 4 ∨ 2 ^ k = 8 ∨ 2 ^ k = 16 ∨ 2 ^ k = 32 := by
  have : k = 0 ∨ k = 1 ∨ k = 2 ∨ k = 3 ∨ k = 4 ∨ k = 5 := by omega
  rcases this with rfl | rfl | rfl | rfl | rfl | rfl <;> decide

set_option maxRecDepth 100000 in
set_option maxHeartbeats 4000000 in
theorem implTreeOfOrder (n : Int) (a : Option Addr) (cap : Nat) (L : List Int) (w : World) (hx : SlI w w.heap.size a L) (hl : L.length ≤ 1048576) (_ : (Lit.int .i64 n).wf = true) :
    Calls Try.prog 15 #[.int .i64 n, .slice a L.length cap] w fun e w' => ∃ v, e = .returned (.tuple #[v, .int .i64 (treeOR n L).2]) ∧ Res w w' v (treeOR n L).1 := by
  have HV := hid (fun W => vc_any n W)
  have Hx := hid hx
  by_cases hn : 1 ≤ n ∧ n ≤ 6
  · have HI := hid (renI_any a cap L n w hx hl hn)
    rw [decide_eq_true hn.1, decide_eq_true hn.2] at HV
    clear hx
    cases hb : isRB L n
    · have HF : Hid (treeOR n L = ([], 2)) := hid (by unfold treeOR; rw [if_neg (by rw [hb]; simp)])
      rw [hb] at HI
      clear hb hn
      go_enter Try.func15, Try.ntmps15
      go_wp2_with fail
      refine (HV.out _).mono ?_
      rintro e w1 ⟨rfl, rfl⟩
      go_wp2_with fail
      refine HI.out.mono ?_
      rintro e w1 ⟨rfl, hB1⟩
      have HB1 := hid hB1
      clear hB1
      go_wp2_with fail
      go_ret2
      rw [HF.out]
      exact ⟨_, rfl, res_nil _ _ HB1.out⟩
    · have hR := isRB_iff.1 hb
      have HF : Hid (treeOR n L = (treeL L L.length, 0)) := hid (by
        unfold treeOR
        rw [if_pos ⟨hn, hb⟩]
        have := hR.len
        rw [show n.toNat = L.length by omega])
      have hL6 : L.length ≤ 6 := by have := hR.len; omega
      rw [hb] at HI
      clear hb hn hR
      go_enter Try.func15, Try.ntmps15
      go_wp2_with fail
      refine (HV.out _).mono ?_
      rintro e w1 ⟨rfl, rfl⟩
      go_wp2_with fail
      refine HI.out.mono ?_
      rintro e w1 ⟨rfl, hB1⟩
      have HB1 := hid hB1
      have HO1 : Hid (Res w w1 (.slice none 0 0) []) := hid (res_nil _ _ hB1)
      clear hB1
      go_wp2_with fail
      go_loopw [20, 6] (fun iv tv wx => ∃ (k : Nat) (v : Value), k ≤ L.length ∧ iv = .int .i64 (k : Int) ∧ tv = v ∧ Hid (wx.ownsRow w.heap.size 2 1 v (treeL L k).length ((treeL L k).map (Value.int .i64))) ∧ Hid (Below w.heap.size w wx)) (fun iv _ _ => L.length - (intOf iv).toNat)
      case atStart => exact ⟨0, _, Nat.zero_le _, rfl, rfl, hid HO1.out.1, HB1⟩
      case round =>
        clear HO1 HB1
        obtain ⟨k, v, hk, rfl, rfl, HO, HB⟩ := hrel
        have hsz := HB.out.size
        by_cases hlt : k < L.length
        · obtain ⟨b, off, hb, rfl, hc⟩ : ∃ b off, b < w.heap.size ∧ a = some ⟨b, off, none⟩ ∧ ∀ i, i < L.length → w.cell? ⟨b, off + i, none⟩ = some (.int .i64 (L[i]?.getD 0)) := by
            rcases Hx.out with h | h
            · rw [h] at hlt; simp at hlt
            · exact h
          have hck := (HB.out.cell (p := ⟨b, off + k, none⟩) hb).trans (hc k hlt)
          have hsu := treeL_succ (L := L) (k := k) (by omega)
          have hsl : (treeL L k).length ≤ 64 := by
            rw [treeL_len]
            have := pow_le64 (n := k) (by omega)
            omega
          obtain ⟨q, hq⟩ : ∃ q, q = L[k]?.getD 0 := ⟨_, rfl⟩
          rw [← hq] at hck hsu
          have hC := pow_six (show k < 6 by omega)
          have hsh : wrap64 (2 ^ k) = ((2 ^ k : Nat) : Int) := by
            rw [wrap64, show ((2 : Int) ^ k) = ((2 ^ k : Nat) : Int) by simp]
            generalize 2 ^ k = z at hC
            omega
          obtain ⟨C, hCC⟩ : ∃ C, C = 2 ^ k := ⟨_, rfl⟩
          rw [← hCC] at hsu hC hsh
          have hC32 : C ≤ 32 := by omega
          have HR := hid (fun c W h => rep_any C c q W hC h)
          obtain ⟨xs, hxs⟩ : ∃ xs, xs = treeL L k := ⟨_, rfl⟩
          rw [← hxs] at hsu HO hsl
          have Hsu := hid hsu
          have hi0 : (0 : Int) ≤ (k : Int) := by omega
          have hi1 : (k : Int) < (L.length : Int) := by omega
          clear hc hq hsu hC hCC hxs
          go_wp2_with fail
          rw [hsh]
          refine (HR.out wr.heap.size _ ((cell_of_row _ wr.heap.size 0 _ _ _ (heap_alloc_new wr _)).trans rfl)).mono ?_
          rintro e w2 ⟨g, rfl, hR⟩
          have hbw : Below wr.heap.size wr w2 := (Below.refl _ wr).alloc (Nat.le_refl _) _ |>.trans (hR.2.mono (by simp))
          have HB2 := hid (HB.out.trans (hbw.mono hsz))
          have hown2 := ownsRow_below HO.out hbw (fun g hg => (HO.out.lt g hg).2)
          have Hown2 := hid hown2
          have hcc : ∀ i, i < (List.replicate C q).length → w2.cell? ((⟨g, 0, none⟩ : Addr).add i) = some (.int .i64 ((List.replicate C q)[i]?.getD 0)) := fun i hi => hR.1.cells rfl i _ (by rw [List.getElem?_map, List.getElem?_eq_getElem hi]; rfl)
          have Hcc := hid hcc
          have hs2 := HB2.out.size
          have hlen2 : C = (List.replicate C q).length := by simp
          have hl2 : (List.replicate C q).length ≤ 1048576 := by simp; omega
          obtain ⟨ys, hys⟩ : ∃ ys, ys = List.replicate C q := ⟨_, rfl⟩
          rw [← hys] at Hsu Hcc hlen2 hl2
          clear hR hown2 hcc hys hbw
          subst hlen2
          go_wp2_with (at_builtin; refine append_all rfl rfl rfl Hown2.out hs2 (by omega) hl2 rfl rfl Hcc.out ?_; intro v' w4 hown4 hgrow4 hB4)
          have Hown4 := hid hown4
          have HB4 := hid (HB2.out.trans hB4)
          clear hown4 hgrow4 hB4
          go_wp2_with fail
          go_roundw
          case rel => exact ⟨k + 1, v', by omega, by go_num, rfl, hid (by rw [Hsu.out]; exact Hown4.out), HB4⟩
          case measure => simp [intOf]; omega
        · obtain rfl : k = L.length := by omega
          go_wp2_with fail
          go_ret2
          rw [HF.out]
          exact ⟨_, rfl, HO.out, HB.out⟩
  · have hf : (decide (1 ≤ n) && decide (n ≤ 6)) = false := by simp; omega
    rw [hf] at HV
    have HF : Hid (treeOR n L = ([], 2)) := hid (by unfold treeOR; rw [if_neg (fun h => hn h.1)])
    clear hn hf hx
    go_enter Try.func15, Try.ntmps15
    go_wp2_with fail
    refine (HV.out _).mono ?_
    rintro e w1 ⟨rfl, rfl⟩
    go_wp2_with fail
    go_ret2
    rw [HF.out]
    exact ⟨_, rfl, res_nil _ _ (Below.refl _ _)⟩

end Go.Proofs.Yteikdkcledeefaa
