import Derived.Test.YtplcbiconfpmlaaMB1
import Derived.Test.YtplcbiconfpmlaaMB2
/-! The laws' helpers for lists of pairs: a list of n pairs is read as 2 * n integers. -/
namespace Go.Proofs.Ytplcbiconfpmlaa
open Go.RowKit

set_option maxRecDepth 100000 in
set_option maxHeartbeats 400000 in
theorem szPairs (a : Option Addr) (n cap : Nat) (left : Int) (w : World) (h1 : 0 ≤ left) (h2 : left ≤ 1048576) (hn : n ≤ 9223372036854775807) :
    Calls Try.prog 25 #[.slice a n cap, .int .i64 left] w fun e w' => e = .returned (.int .i64 (szR left n)) ∧ w = w' := by
  by_cases h : left < n
  · have H := hid (szR_big h)
    go_enter Try.func25, Try.ntmps25
    go_wp2
    go_ret
    exact ⟨ret_int (by rw [H.out]), rfl⟩
  · have H := hid (szR_fit h)
    go_enter Try.func25, Try.ntmps25
    go_wp2
    go_ret
    exact ⟨ret_int (by rw [H.out]), rfl⟩

set_option maxRecDepth 100000 in
set_option maxHeartbeats 400000 in
theorem toPair_any (x y : Int) (w : World) :
    Calls Try.prog 37 #[.agg #[.int .i64 x, .int .i64 y]] w fun e w' => e = .returned (.agg #[.int .i64 x, .int .i64 y]) ∧ Below w.heap.size w w' := by
  go_enter Try.func37, Try.ntmps37
  go_wp2
  refine wp_loop_rounds 3 ?_; rw [rounds_succ]
  go_wp2
  rw [rounds_succ]
  go_wp2
  rw [rounds_succ]
  go_wp2
  exact bodyPost_ret (v := .agg #[.int .i64 x, .int .i64 y]) (by simp [results, Try.results37, go_sem]) rfl ⟨rfl, ((((Below.refl _ w).alloc (Nat.le_refl _) _).alloc (by simp) _).alloc (by simp <;> omega) _)⟩

set_option maxRecDepth 100000 in
set_option maxHeartbeats 400000 in
theorem eqPair_any (x y x' y' : Int) (w : World) :
    Calls Try.prog 68 #[.agg #[.int .i64 x, .int .i64 y], .agg #[.int .i64 x', .int .i64 y']] w fun e w' => e = .returned (.bool (decide (x = x' ∧ y = y'))) ∧ Below w.heap.size w w' := by
  go_enter Try.func68, Try.ntmps68
  go_wp2
  refine wp_loop_rounds 3 ?_; rw [rounds_succ]
  go_wp2
  go_quiet (fail)
  have hB : ∀ n, Below w.heap.size w (((w.alloc (.cells #[.int .i64 x, .int .i64 y] 49)).alloc (.cells #[.int .i64 x', .int .i64 y'] 49)).drewN n) := fun n => Below.trans (((Below.refl _ w).alloc (Nat.le_refl _) _).alloc (by simp) _) ⟨rfl, rfl, rfl, Nat.le_refl _, fun _ _ => rfl⟩
  have HB := hid hB
  clear hB
  by_cases hx : x = x'
  · have hd : (x != x') = false := by simp [hx]
    have Hx := hid hx
    clear hx
    go_wp2_with fail
    rw [rounds_succ]
    go_wp2_with fail
    go_quiet (fail)
    by_cases hy : y = y'
    · have hd2 : (y != y') = false := by simp [hy]
      have Hy := hid hy
      clear hy
      go_wp2_with fail
      rw [rounds_succ]
      go_wp2_with fail
      go_ret
      exact ⟨ret_bool (decide_eq_true ⟨Hx.out, Hy.out⟩).symm, HB.out _⟩
    · have hd2 : (y != y') = true := by simp [hy]
      have Hy := hid hy
      clear hy
      go_wp2_with fail
      go_ret
      refine ⟨ret_bool (decide_eq_false (fun h => Hy.out h.2)).symm, ?_⟩
      first | exact HB.out _ | exact (HB.out 0).trans ⟨rfl, rfl, rfl, Nat.le_refl _, fun _ _ => rfl⟩
  · have hd : (x != x') = true := by simp [hx]
    have Hx := hid hx
    clear hx
    go_wp2_with fail
    go_ret
    exact ⟨ret_bool (decide_eq_false (fun h => Hx.out h.1)).symm, HB.out _⟩

theorem info_pair : (Try.prog.info? 49).map (fun i => (i.zero, i.size, i.bytes)) = some (some (.agg #[.int .i64 0, .int .i64 0]), 2, 16) := by kernel_rfl

theorem made_two (m : Nat) : (madeCells #[Value.int .i64 0, Value.int .i64 0] m).toList = (List.replicate m (0 : Int)).map (Value.int .i64) := by
  refine List.ext_getElem (by simp [madeCells]) (fun i h1 h2 => ?_)
  have : i % 2 = 0 ∨ i % 2 = 1 := Nat.mod_two_eq_zero_or_one i
  rcases this with h | h <;> simp [madeCells, h]

/-- 'make([]Pair, n)'. -/
theorem make_pair {w : World} {ops : Array Oper} {rest : List Oper} {o : Oper} {a : Act} {Q : Exit → Act → World → Prop} (hgd : o.guard = none) {l c : Operand} (hop : o.op = Op.makeSlice 40 l c)
    {n : Nat} (hl : a.eval l = .int .i64 (n : Int)) (hc : a.eval c = .int .i64 (n : Int)) (hn : n ≤ 1048576)
    (hK : ∀ w', w'.ownsRow w.heap.size 49 2 (.slice (some ⟨w.heap.size, 0, none⟩) n n) n ((List.replicate (2 * n) (0 : Int)).map (Value.int .i64)) → Below w.heap.size w w' →
      wpList Try.prog ops Q rest (a.put o.dst (.slice (some ⟨w.heap.size, 0, none⟩) n n)) w') :
    wpList Try.prog ops Q (o :: rest) a w := by
  obtain ⟨i0, hi, hz0, hz1, hz2⟩ := info_parts info_pair
  refine wpList_make_full w hgd l c 40 hop w.heap.size 49 i0 (.agg #[.int .i64 0, .int .i64 0]) 2 Try.underlying40 hi hz0 hz1 .i64 .i64 _ _ n hl hc rfl rfl (by rw [hz2]; omega) (by unfold maxLen; omega) (Nat.le_refl _) ?_
  intro w' hown hg
  rw [show (Value.agg #[Value.int .i64 0, Value.int .i64 0]).cells = #[Value.int .i64 0, Value.int .i64 0] by kernel_rfl, made_two, Nat.mul_comm] at hown
  exact hK w' hown ((Below.refl _ w).grown hg (Nat.le_refl _) (fun k hk => by cases hk))

set_option maxRecDepth 100000 in
set_option maxHeartbeats 400000 in
theorem toPairs (a : Option Addr) (n cap : Nat) (ps : List Int) (w : World) (hx : SlI w w.heap.size a ps) (hp : ps.length = 2 * n) (hl : n ≤ 1048576) :
    Calls Try.prog 27 #[.slice a n cap] w fun e w' =>
      e = .returned (.slice (some ⟨w.heap.size, 0, none⟩) n n) ∧ w'.ownsRow w.heap.size 49 2 (.slice (some ⟨w.heap.size, 0, none⟩) n n) n (ps.map (Value.int .i64)) ∧ Below w.heap.size w w' := by
  go_enter Try.func27, Try.ntmps27
  go_wp2_with (at_make; refine make_pair rfl rfl rfl rfl (by omega) ?_; intro w1 hown hB)
  rcases hx with rfl | ⟨b, off, hb, rfl, hc⟩
  · obtain rfl : n = 0 := by simp at hp; omega
    refine wp_loop_rounds 1 ?_; rw [rounds_succ]
    go_wp2
    go_ret
    exact ⟨rfl, hown, hB⟩
  · go_loopw [4] (fun i wr => ∃ k : Nat, k ≤ n ∧ i = .int .i64 k ∧ wr.ownsRow w.heap.size 49 2 (.slice (some ⟨w.heap.size, 0, none⟩) n n) n ((ps.take (k * 2) ++ List.replicate (ps.length - k * 2) (0 : Int)).map (Value.int .i64)) ∧ Below w.heap.size w wr) (fun i _ => n - (intOf i).toNat)
    case atStart => exact ⟨0, Nat.zero_le _, rfl, by simpa [hp] using hown, hB⟩
    case round =>
      obtain ⟨k, hk, rfl, hown, hB⟩ := hrel
      by_cases hlt : k < n
      · obtain ⟨x, hx⟩ : ∃ x, x = ps[k * 2]?.getD 0 := ⟨_, rfl⟩
        obtain ⟨y, hy⟩ : ∃ y, y = ps[k * 2 + 1]?.getD 0 := ⟨_, rfl⟩
        have hck : wr.cell? ⟨b, off + k * 2, none⟩ = some (.int .i64 x) := by rw [hx]; exact (hB.cell (p := ⟨b, off + k * 2, none⟩) hb).trans (hc (k * 2) (by omega))
        have hck2 : wr.cell? ⟨b, off + k * 2 + 1, none⟩ = some (.int .i64 y) := by rw [hy]; exact (hB.cell (p := ⟨b, off + (k * 2 + 1), none⟩) hb).trans (hc (k * 2 + 1) (by omega))
        have hg0 : wr.cell? ⟨w.heap.size, k * 2, none⟩ = some (.int .i64 0) := by
          rw [hown.cellAt (k * 2) (by omega)]
          rw [List.getElem?_map, List.getElem?_append_right (by simp <;> omega)]
          simp [List.getElem?_replicate, Nat.min_eq_left (show k * 2 ≤ ps.length by omega)]
          omega
        have hg1 : wr.cell? ⟨w.heap.size, k * 2 + 1, none⟩ = some (.int .i64 0) := by
          rw [hown.cellAt (k * 2 + 1) (by omega)]
          rw [List.getElem?_map, List.getElem?_append_right (by simp <;> omega)]
          simp [List.getElem?_replicate, Nat.min_eq_left (show k * 2 ≤ ps.length by omega)]
          omega
        have hf0 := hown.frozenAt (k * 2)
        have hf1 := hown.frozenAt (k * 2 + 1)
        have Hx := hid hx
        have Hy := hid hy
        have Hc := hid hc
        have Hown := hid hown
        have HB := hid hB
        clear hx hy hc hown hB
        go_wp2_with fail
        refine (toPair_any x y wr).mono ?_
        rintro e w2 ⟨rfl, hB2⟩
        have hwb : w.heap.size < wr.heap.size := World.block_lt_of_cell? wr _ hg0
        have hg02 := (hB2.cell (p := ⟨w.heap.size, k * 2, none⟩) hwb).trans hg0
        have hg12 := (hB2.cell (p := ⟨w.heap.size, k * 2 + 1, none⟩) hwb).trans hg1
        have hf02 := (hB2.frozen (p := ⟨w.heap.size, k * 2, none⟩) hwb).trans hf0
        have hf12 := (hB2.frozen (p := ⟨w.heap.size, k * 2 + 1, none⟩) hwb).trans hf1
        have Hown2 := hid (ownsRow_below Hown.out hB2 (fun g hg => by simp [Value.ownBlock] at hg; omega))
        have HB2 := hid (HB.out.trans (hB2.mono HB.out.size))
        clear hg0 hg1 hf0 hf1 Hown HB hB2
        go_wp2_with fail
        go_roundw
        case rel =>
          refine ⟨k + 1, by omega, by go_num, ?_, (HB2.out.setCell (p := ⟨w.heap.size, k * 2, none⟩) (Nat.le_refl _) _).setCell (p := ⟨w.heap.size, k * 2 + 1, none⟩) (Nat.le_refl _) _⟩
          have h := ((Hown2.out.stored (k * 2) (.int .i64 x)).1.stored (k * 2 + 1) (.int .i64 y)).1
          rw [Hx.out, fill_step (by omega), Hy.out, fill_step (by omega), ← Hx.out, ← Hy.out] at h
          rw [show (k + 1) * 2 = k * 2 + 1 + 1 by omega]
          exact h
        case measure => simp [intOf]; omega
      · go_wp2
        go_ret
        obtain rfl : k = n := by omega
        rw [Nat.mul_comm, ← hp] at hown
        exact ⟨rfl, by simpa using hown, hB⟩

set_option maxRecDepth 100000 in
set_option maxHeartbeats 400000 in
theorem eqPairs_yes (a1 a2 : Option Addr) (n c1 c2 : Nat) (ps : List Int) (w : World) (hx : SlI w w.heap.size a1 ps) (hy : SlI w w.heap.size a2 ps) (hp : ps.length = 2 * n) (hl : n ≤ 1048576) :
    Calls Try.prog 29 #[.slice a1 n c1, .slice a2 n c2] w fun e w' => e = .returned (.bool true) ∧ Below w.heap.size w w' := by
  by_cases h0 : n = 0
  · subst h0
    clear hx hy
    go_enter Try.func29, Try.ntmps29
    go_wp2
    refine wp_loop_rounds 1 ?_; rw [rounds_succ]
    go_wp2
    go_ret
    exact ⟨rfl, Below.refl _ _⟩
  · obtain ⟨b, off, hb, rfl, hc⟩ : ∃ b off, b < w.heap.size ∧ a1 = some ⟨b, off, none⟩ ∧ ∀ i, i < ps.length → w.cell? ⟨b, off + i, none⟩ = some (.int .i64 (ps[i]?.getD 0)) := by
      rcases hx with rfl | h
      · simp at hp; omega
      · exact h
    obtain ⟨b2, off2, hb2, rfl, hc2⟩ : ∃ b off, b < w.heap.size ∧ a2 = some ⟨b, off, none⟩ ∧ ∀ i, i < ps.length → w.cell? ⟨b, off + i, none⟩ = some (.int .i64 (ps[i]?.getD 0)) := by
      rcases hy with rfl | h
      · simp at hp; omega
      · exact h
    have Hc := hid hc
    have Hc2 := hid hc2
    have hne : ((n : Int) != (n : Int)) = false := by simp
    clear hc hc2 hx hy h0
    go_enter Try.func29, Try.ntmps29
    go_wp2
    go_loopw [5] (fun i wr => ∃ k : Nat, k ≤ n ∧ i = .int .i64 k ∧ Below w.heap.size w wr) (fun i _ => n - (intOf i).toNat)
    case atStart => exact ⟨0, Nat.zero_le _, rfl, Below.refl _ _⟩
    case round =>
      obtain ⟨k, hk, rfl, hB⟩ := hrel
      by_cases hlt : k < n
      · obtain ⟨x, hx⟩ : ∃ x, x = ps[k * 2]?.getD 0 := ⟨_, rfl⟩
        obtain ⟨y, hy⟩ : ∃ y, y = ps[k * 2 + 1]?.getD 0 := ⟨_, rfl⟩
        have hck : wr.cell? ⟨b, off + k * 2, none⟩ = some (.int .i64 x) := by rw [hx]; exact (hB.cell (p := ⟨b, off + k * 2, none⟩) hb).trans (Hc.out (k * 2) (by omega))
        have hck2 : wr.cell? ⟨b, off + k * 2 + 1, none⟩ = some (.int .i64 y) := by rw [hy]; exact (hB.cell (p := ⟨b, off + (k * 2 + 1), none⟩) hb).trans (Hc.out (k * 2 + 1) (by omega))
        have hdk : wr.cell? ⟨b2, off2 + k * 2, none⟩ = some (.int .i64 x) := by rw [hx]; exact (hB.cell (p := ⟨b2, off2 + k * 2, none⟩) hb2).trans (Hc2.out (k * 2) (by omega))
        have hdk2 : wr.cell? ⟨b2, off2 + k * 2 + 1, none⟩ = some (.int .i64 y) := by rw [hy]; exact (hB.cell (p := ⟨b2, off2 + (k * 2 + 1), none⟩) hb2).trans (Hc2.out (k * 2 + 1) (by omega))
        have hi0 : (0 : Int) ≤ (k : Int) := by omega
        have hi1 : (k : Int) < (n : Int) := by omega
        have HB := hid hB
        clear hx hy hB
        go_wp2_with fail
        go_region_with (go_at_call 68; refine (eqPair_any x y x y _).mono ?_; rintro e w2 ⟨rfl, hB2⟩; rw [decide_eq_true (And.intro rfl rfl)])
        all_goals
          have HB2 := hid (HB.out.trans (Below.mono (w := wr) ⟨hB2.os, hB2.tape, hB2.output, hB2.size, hB2.block⟩ HB.out.size))
          clear hB2
          go_wp2_with fail
          go_roundw
          case rel => exact ⟨k + 1, by omega, by go_num, HB2.out⟩
          case measure => simp [intOf]; omega
      · go_wp2
        go_ret
        exact ⟨rfl, hB⟩

set_option maxRecDepth 100000 in
set_option maxHeartbeats 1000000 in
theorem markPairs (base : Nat) (a : Option Addr) (n cap : Nat) (ps : List Int) (k : Int) (w : World) (hown : w.ownsRow base 49 2 (.slice a n cap) n (ps.map (Value.int .i64))) (hl : n ≤ 1048576) (h0 : 0 ≤ k) (h1 : k ≤ 1099511627776) :
    Calls Try.prog 34 #[.slice a n cap, .int .i64 k] w fun e w' => e = .returned (.int .i64 (k + 2 * n)) ∧
      w'.ownsRow base 49 2 (.slice a n cap) n ((count k (n * 2)).map (Value.int .i64)) ∧ w.grownBy w' (Value.ownBlock (.slice a n cap)) := by
  have hp : ps.length = n * 2 := by simpa using hown.1
  rcases hown.2 with ⟨hv, hn⟩ | ⟨g, cap', cur, hv, hb, hg, rest⟩
  · subst hn
    obtain rfl : ps = [] := List.eq_nil_of_length_eq_zero (by omega)
    have Hown := hid hown
    clear hown hv
    go_enter Try.func34, Try.ntmps34
    go_wp2
    refine wp_loop_rounds 1 ?_; rw [rounds_succ]
    go_wp2
    go_ret
    exact ⟨ret_int (by simp), Hown.out, ⟨rfl, rfl, rfl, Nat.le_refl _, fun _ _ _ => rfl⟩⟩
  · cases hv
    clear hb hg rest
    go_enter Try.func34, Try.ntmps34
    go_wp2
    go_loopw [1, 5] (fun m i wr => ∃ j : Nat, j ≤ n ∧ i = .int .i64 j ∧ m = .int .i64 (k + 2 * j) ∧ wr.ownsRow base 49 2 (.slice (some ⟨g, 0, none⟩) n cap) n ((count k (j * 2) ++ ps.drop (j * 2)).map (Value.int .i64)) ∧ w.grownBy wr (some g)) (fun _ i _ => n - (intOf i).toNat)
    case atStart => exact ⟨0, Nat.zero_le _, rfl, by simp, by simpa [count] using hown, ⟨rfl, rfl, rfl, Nat.le_refl _, fun _ _ _ => rfl⟩⟩
    case round =>
      obtain ⟨j, hj, rfl, rfl, hown, hgr⟩ := hrel
      by_cases hlt : j < n
      · have hcg : ∃ u, wr.cell? ⟨g, j * 2, none⟩ = some (.int .i64 u) := by
          rw [hown.cellAt (j * 2) (by omega)]
          refine ⟨ps[j * 2]?.getD 0, ?_⟩
          rw [List.getElem?_map, List.getElem?_append_right (by rw [count_len]; exact Nat.le_refl _), count_len, Nat.sub_self]
          simp [show j * 2 < ps.length by omega]
        have hcg2 : ∃ u, wr.cell? ⟨g, j * 2 + 1, none⟩ = some (.int .i64 u) := by
          rw [hown.cellAt (j * 2 + 1) (by omega)]
          refine ⟨ps[j * 2 + 1]?.getD 0, ?_⟩
          rw [List.getElem?_map, List.getElem?_append_right (by rw [count_len]; omega), count_len]
          simp [show j * 2 + 1 < ps.length by omega]
        obtain ⟨u, hcu⟩ := hcg
        obtain ⟨u2, hcu2⟩ := hcg2
        have hfg := hown.frozenAt (j * 2)
        have hfg2 := hown.frozenAt (j * 2 + 1)
        have hst := hown.stored (j * 2) (.int .i64 (k + 2 * j))
        have hst2 := hst.1.stored (j * 2 + 1) (.int .i64 (k + 2 * j + 1))
        have hm1 := mark_step (k := k) (xs := ps) (j := j * 2) (by omega)
        have hm2 := mark_step (k := k) (xs := ps) (j := j * 2 + 1) (by omega)
        rw [show k + ((j * 2 : Nat) : Int) = k + 2 * j by omega] at hm1
        rw [show k + ((j * 2 + 1 : Nat) : Int) = k + 2 * j + 1 by omega] at hm2
        rw [hm1, hm2] at hst2
        have Hst := hid hst2
        have Hst1 := hid hst.2
        have Hgr := hid hgr
        have hi0 : (0 : Int) ≤ (j : Int) := by omega
        have hi1 : (j : Int) < (n : Int) := by omega
        clear hst hst2 hown hgr hm1 hm2
        go_wp2
        refine wp_loop_rounds 3 ?_; rw [rounds_succ]
        go_wp2
        rw [rounds_succ]
        go_wp2
        rw [rounds_succ]
        go_wp2
        go_roundw
        case rel =>
          exact ⟨j + 1, by omega, by go_num, by go_num, by rw [show (j + 1) * 2 = j * 2 + 1 + 1 by omega]; exact Hst.out.1, (Hgr.out.trans Hst1.out).trans Hst.out.2⟩
        case measure => simp [intOf]; omega
      · go_wp2
        go_ret
        obtain rfl : j = n := by omega
        exact ⟨rfl, by simpa [hp, List.drop_of_length_le] using hown, hgr⟩

set_option maxRecDepth 100000 in
set_option maxHeartbeats 1000000 in
theorem heldPairs (a : Option Addr) (cap : Nat) (n : Nat) (ps : List Int) (k : Int) (w : World) (hps : ps = count k (n * 2)) (hx : SlI w w.heap.size a ps) (hl : n ≤ 1048576) (h0 : 0 ≤ k) (h1 : k ≤ 1099511627776) :
    Calls Try.prog 35 #[.slice a n cap, .int .i64 k] w fun e w' => e = .returned (.int .i64 (k + 2 * n)) ∧ Below w.heap.size w w' := by
  have hlen : ps.length = n * 2 := by rw [hps, count_len]
  rcases hx with rfl | ⟨b, off, hb, rfl, hc⟩
  · obtain rfl : n = 0 := by simp at hlen; omega
    clear hps hlen
    go_enter Try.func35, Try.ntmps35
    go_wp2
    refine wp_loop_rounds 1 ?_; rw [rounds_succ]
    go_wp2
    go_ret
    exact ⟨ret_int (by simp), Below.refl _ _⟩
  · have Hc := hid hc
    have Hps := hid hps
    have Hlen := hid hlen
    clear hc hps hlen
    go_enter Try.func35, Try.ntmps35
    go_wp2
    go_loop [1, 5] (fun m i => ∃ j : Nat, j ≤ n ∧ i = .int .i64 j ∧ m = .int .i64 (k + 2 * j)) (fun _ i => n - (intOf i).toNat)
    case atStart => exact ⟨0, Nat.zero_le _, rfl, by simp⟩
    case round =>
      obtain ⟨j, hj, rfl, rfl⟩ := hrel
      by_cases hlt : j < n
      · have hck : w.cell? ⟨b, off + j * 2, none⟩ = some (.int .i64 (k + 2 * j)) := by
          have := Hc.out (j * 2) (by rw [Hlen.out]; omega)
          rw [Hps.out, count_get _ _ _ (by omega), show k + ((j * 2 : Nat) : Int) = k + 2 * j by omega] at this
          exact this
        have hck2 : w.cell? ⟨b, off + j * 2 + 1, none⟩ = some (.int .i64 (k + 2 * j + 1)) := by
          have := Hc.out (j * 2 + 1) (by rw [Hlen.out]; omega)
          rw [Hps.out, count_get _ _ _ (by omega), show k + ((j * 2 + 1 : Nat) : Int) = k + 2 * j + 1 by omega] at this
          exact this
        have hi0 : (0 : Int) ≤ (j : Int) := by omega
        have hi1 : (j : Int) < (n : Int) := by omega
        go_wp2
        refine wp_loop_rounds 3 ?_; rw [rounds_succ]
        go_wp2
        rw [rounds_succ]
        go_wp2
        rw [rounds_succ]
        go_wp2
        go_round
        case rel => exact ⟨j + 1, by omega, by go_num, by go_num⟩
        case measure => simp [intOf]; omega
      · go_wp2
        go_ret
        obtain rfl : j = n := by omega
        exact ⟨rfl, Below.refl _ _⟩

end Go.Proofs.Ytplcbiconfpmlaa

/-! The program's list of all pairs. -/
namespace Go.Proofs.Ytplcbiconfpmlaa
open Go.RowKit

/-- 'out = append(out, p)' on a list of pairs that the call itself has made. -/
theorem append_pair {w : World} {ops : Array Oper} {rest : List Oper} {o : Oper} {a : Act} {Q : Exit → Act → World → Prop} (hgd : o.guard = none) {s y : Operand}
    (ho : o.op = .call { callee := .builtin .append, args := #[s, y], argTypes := #[40, 40] })
    {base : Nat} {v : Value} {L : List (Int × Int)} {x x' : Int} (hown : w.ownsRow base 49 2 v L.length ((flatP L).map (Value.int .i64))) (hbase : base ≤ w.heap.size) (hl : L.length ≤ 1099511627776)
    (hs : a.eval s = v) (hy : a.eval y = .slice (some ⟨w.heap.size, 0, none⟩) 1 1)
    (hK : ∀ v' w', w'.ownsRow base 49 2 v' (L ++ [(x, x')]).length ((flatP (L ++ [(x, x')])).map (Value.int .i64)) → w.grownBy w' v.ownBlock → Below base w w' → wpList Try.prog ops Q rest (a.put o.dst v') w') :
    wpList Try.prog ops Q (o :: rest) a (w.alloc (.cells #[.int .i64 x, .int .i64 x'] 49)) := by
  obtain ⟨i0, hi, hz0, hz1, hz2⟩ := info_parts info_pair
  refine wpList_append_own _ hgd s y 40 ho base 49 i0 (.agg #[.int .i64 0, .int .i64 0]) 2 16 Try.underlying40 hi hz0 hz1 hz2 rfl (by decide) v _ _ hs (hown.alloc _) ⟨w.heap.size, 0, none⟩ 1 1 [.int .i64 x, .int .i64 x'] hy rfl ?_ (by simp [Value.oneCell']) (by unfold maxLen; omega) (by omega) (by simp; omega) ?_
  · intro j u hj
    match j, hj with
    | 0, hj => simp at hj; subst hj; simp [go_sem, Addr.add]
    | 1, hj => simp at hj; subst hj; simp [go_sem, Addr.add]
    | j + 2, hj => simp at hj
  · intro v' w1 hown1 hgrow1 _
    have hg : w.grownBy w1 v.ownBlock := (World.grownBy_alloc w _ _).trans hgrow1
    refine hK v' w1 (by rw [flatP_snoc]; simpa using hown1) hg ((Below.refl base w).grown hg hbase (fun k hk => (hown.lt k hk).1))

set_option maxRecDepth 100000 in
set_option maxHeartbeats 4000000 in
theorem pairsOf_any (vn : Nat) (a0 : Option Addr) (cap : Nat) (fs : List Int) (w : World) (hx : SlI w w.heap.size a0 fs) (hl : fs.length ≤ 1048576) (hC : IsC (vn : Int) fs) :
    Calls Try.prog 71 #[.agg #[.int .i64 vn, .slice a0 fs.length cap]] w fun e w' => ∃ v, e = .returned v ∧ w'.ownsRow (w.heap.size + 1) 49 2 v (pairsL fs vn fs.length).length ((flatP (pairsL fs vn fs.length)).map (Value.int .i64)) ∧ Below w.heap.size w w' := by
  have hB0 : Hid (Below w.heap.size w (w.alloc (.cells #[.int .i64 vn, .slice a0 fs.length cap] 28))) := hid ((Below.refl _ w).alloc (Nat.le_refl _) _)
  have hvn : vn ≤ 6 := by have := hC.hi; omega
  have Hf := hid hC.range63
  clear hC
  rcases hx with rfl | ⟨b, off, hb, rfl, hc⟩
  · go_enter Try.func71, Try.ntmps71
    go_wp2
    refine wp_loop_rounds 1 ?_; rw [rounds_succ]
    go_wp2
    go_ret
    exact ⟨_, rfl, World.ownsRow_nil _ _ _ _, hB0.out⟩
  · have Hc := hid hc
    clear hc
    go_enter Try.func71, Try.ntmps71
    go_wp2
    go_loopw [3, 11] (fun v i wr => ∃ k : Nat, k ≤ fs.length ∧ i = .int .i64 k ∧ wr.ownsRow (w.heap.size + 1) 49 2 v (pairsL fs vn k).length ((flatP (pairsL fs vn k)).map (Value.int .i64)) ∧
        Below (w.heap.size + 1) (w.alloc (.cells #[.int .i64 vn, .slice (some ⟨b, off, none⟩) fs.length cap] 28)) wr) (fun _ i _ => fs.length - (intOf i).toNat)
    case atStart => exact ⟨0, Nat.zero_le _, rfl, World.ownsRow_nil _ _ _ _, Below.refl _ _⟩
    case round =>
      obtain ⟨k, hk, rfl, hown, hB⟩ := hrel
      by_cases hlt : k < fs.length
      · have hfk := Hf.out _ (getD_mem hlt)
        obtain ⟨x, hx⟩ : ∃ x : Nat, (x : Int) = fs[k]?.getD 0 := ⟨(fs[k]?.getD 0).toNat, by omega⟩
        have hx64 : x < 64 := by omega
        have hck : wr.cell? ⟨b, off + k, none⟩ = some (.int .i64 (x : Int)) := by rw [hx]; exact ((hB0.out.trans (hB.mono (Nat.le_succ _))).cell (p := ⟨b, off + k, none⟩) hb).trans (Hc.out k hlt)
        have c0 : wr.cell? ⟨w.heap.size, 0, none⟩ = some (.int .i64 vn) := (hB.cell (p := ⟨w.heap.size, 0, none⟩) (by simp)).trans (by simp [go_sem])
        have Hsn : Hid (pairsL fs vn (k + 1) = pairsL fs vn k ++ upS fs x vn) := hid (by rw [pairsL_succ hlt, ← hx]; rfl)
        have hi0 : (0 : Int) ≤ (k : Int) := by omega
        have hi1 : (k : Int) < (fs.length : Int) := by omega
        have Hpl := hid (pairsL_len fs vn k hk)
        have HB := hid hB
        have Hown := hid hown
        clear hx hfk hB hown
        go_wp2
        clear hck c0 hi0 hi1
        go_loopw [3, 17] (fun v j wr => ∃ m : Nat, m ≤ vn ∧ j = .int .i64 m ∧ wr.ownsRow (w.heap.size + 1) 49 2 v (pairsL fs vn k ++ upS fs x m).length ((flatP (pairsL fs vn k ++ upS fs x m)).map (Value.int .i64)) ∧
            Below (w.heap.size + 1) (w.alloc (.cells #[.int .i64 vn, .slice (some ⟨b, off, none⟩) fs.length cap] 28)) wr) (fun _ j _ => vn - (intOf j).toNat)
        case atStart => exact ⟨0, Nat.zero_le _, rfl, by simpa [upS] using Hown.out, HB.out⟩
        case round =>
          clear HB Hown
          obtain ⟨m, hm, rfl, hown, hB⟩ := hrel
          by_cases hltm : m < vn
          · have c0 : wr.cell? ⟨w.heap.size, 0, none⟩ = some (.int .i64 vn) := (hB.cell (p := ⟨w.heap.size, 0, none⟩) (by simp)).trans (by simp [go_sem])
            have c1 : wr.cell? ⟨w.heap.size, 1, none⟩ = some (.slice (some ⟨b, off, none⟩) fs.length cap) := (hB.cell (p := ⟨w.heap.size, 1, none⟩) (by simp)).trans (by simp [go_sem])
            have hp2 : (2 : Nat) ^ m ≤ 32 := by have := Nat.pow_le_pow_right (n := 2) (by decide) (show m ≤ 5 by omega); omega
            have hor : bits BinOp.or IntKind.i64 (x : Int) (wrap64 (2 ^ m)) = ((x ||| 2 ^ m : Nat) : Int) := by rw [pow_wrap (show m ≤ 62 by omega)]; exact (bits_nat .i64 6 (by decide) (fun n h0 h1 => by rw [IntKind.wrap_i64]; omega) x (2 ^ m) (by omega) (by omega)).2
            have Hup := hid (upS_succ fs x m)
            have Hln : Hid ((pairsL fs vn k ++ upS fs x m).length ≤ 1099511627776) := hid (by
              have := Hpl.out
              have h1 := upS_len fs x m
              have h2 := Nat.mul_le_mul hk hvn
              rw [List.length_append]
              omega)
            obtain ⟨y, hy⟩ : ∃ y, y = x ||| 2 ^ m := ⟨_, rfl⟩
            rw [← hy] at hor Hup
            have hy64 : y < 64 := by rw [hy]; exact Nat.or_lt_two_pow (n := 6) (by omega) (by omega)
            have hm0 : (0 : Int) ≤ (m : Int) := by omega
            have hm1 : (m : Int) < (vn : Int) := by omega
            have hsz := hB.size
            simp only [World.size_alloc] at hsz
            have Hx1 : Hid (SlI wr wr.heap.size (some ⟨b, off, none⟩) fs) := hid (SlI.later (w := w) (Or.inr ⟨b, off, hb, rfl, Hc.out⟩) (hB0.out.trans (hB.mono (Nat.le_succ _))) (hB0.out.trans (hB.mono (Nat.le_succ _))).size)
            have Hown := hid hown
            have HB := hid hB
            clear hy hown hB hp2
            by_cases hyx : y = x
            · have hd : ((y : Int) != (x : Int)) = false := by simp [hyx]
              have He := hid (Hup.out false (by simp [hyx]))
              clear hyx Hup
              go_wp2_with fail
              go_roundw
              case rel => exact ⟨m + 1, by omega, by go_num, by rw [He.out]; simpa using Hown.out, HB.out⟩
              case measure => simp [intOf]; omega
            · have hd : ((y : Int) != (x : Int)) = true := by simp; omega
              by_cases hym : (y : Int) ∈ fs
              · have He := hid (Hup.out true (by simp [hyx, hym]))
                have CC := hid (contains_any (some ⟨b, off, none⟩) cap fs (y : Int) wr Hx1.out hl)
                rw [decide_eq_true hym] at CC
                clear hyx hym Hup Hx1
                go_wp2_with (first
                  | (go_at_call 126; refine CC.out.mono ?_; rintro e w' ⟨rfl, rfl⟩)
                  | (at_builtin; refine append_pair rfl rfl Hown.out hsz Hln.out rfl rfl ?_; intro v' w2 hown2 hgrow2 hB2))
                go_roundw
                case rel => exact ⟨m + 1, by omega, by go_num, by rw [He.out, if_pos trivial, ← List.append_assoc]; exact hown2, HB.out.trans hB2⟩
                case measure => simp [intOf]; omega
              · have He := hid (Hup.out false (by simp [hym]))
                have CC := hid (contains_any (some ⟨b, off, none⟩) cap fs (y : Int) wr Hx1.out hl)
                rw [decide_eq_false hym] at CC
                clear hyx hym Hup Hx1
                go_wp2_with (go_at_call 126; refine CC.out.mono ?_; rintro e w' ⟨rfl, rfl⟩)
                go_roundw
                case rel => exact ⟨m + 1, by omega, by go_num, by rw [He.out]; simpa using Hown.out, HB.out⟩
                case measure => simp [intOf]; omega
          · obtain rfl : m = vn := by omega
            have Hown := hid hown
            have HB := hid hB
            clear hown hB
            go_wp2
            go_roundw
            case rel => exact ⟨k + 1, by omega, by go_num, by rw [Hsn.out]; exact Hown.out, HB.out⟩
            case measure => simp [intOf]; omega
      · obtain rfl : k = fs.length := by omega
        go_wp2
        go_ret
        exact ⟨_, rfl, hown, hB0.out.trans (hB.mono (Nat.le_succ _))⟩

end Go.Proofs.Ytplcbiconfpmlaa

/-! The faces as keys of a map: the program's facesHaving. -/
namespace Go.Proofs.Ytplcbiconfpmlaa
open Go.RowKit

theorem wf_face {x : Int} (h0 : 1 ≤ x) (h1 : x ≤ 63) : (Lit.int .i64 x).wf = true := WalkArith.wf_i64 (by omega)

/-- The map of faces. -/
def MapW (w' : World) (b n : Nat) (fs : List Int) : Prop := w'.ownsMap Try.prog 2 (plainElem (H := Unit) Try.prog 4) b n (knownD fs)

theorem MapW.later {w w' : World} {b n : Nat} {fs : List Int} (h : MapW w b n fs) (hB : Below w.heap.size w w') : MapW w' b n fs :=
  World.ownsMap.kept h (row := none) ⟨hB.os, hB.tape, hB.output, hB.size, fun k hk _ => hB.block k hk⟩ (by simp)

theorem MapW.lt {w : World} {b n : Nat} {fs : List Int} (h : MapW w b n fs) : b < w.heap.size := World.ownsMap.lt h


/-! The model's test of a face. -/

end Go.Proofs.Ytplcbiconfpmlaa

/-! All pairs as keys of a map. -/
namespace Go.Proofs.Ytplcbiconfpmlaa
open Go.RowKit

theorem row_pair {w : World} {base g cap : Nat} {L : List (Int × Int)} (h : w.ownsRow base 49 2 (.slice (some ⟨g, 0, none⟩) L.length cap) L.length ((flatP L).map (Value.int .i64))) {k : Nat} (hk : k < L.length) {x y : Int} (hx : L[k]?.getD (0, 0) = (x, y)) :
    w.cell? ⟨g, k * 2, none⟩ = some (.int .i64 x) ∧ w.cell? ⟨g, k * 2 + 1, none⟩ = some (.int .i64 y) := by
  have hlen := flatP_len L
  have ha := flatP_at L k hk
  rw [hx] at ha
  unfold at0 at ha
  simp only at ha
  have h0 : k * 2 < (flatP L).length := by omega
  have h1 : k * 2 + 1 < (flatP L).length := by omega
  constructor
  · rw [h.cellAt (k * 2) (by omega), List.getElem?_map, List.getElem?_eq_getElem h0, ← ha.1, List.getElem?_eq_getElem h0]; rfl
  · rw [h.cellAt (k * 2 + 1) (by omega), List.getElem?_map, List.getElem?_eq_getElem h1, ← ha.2, List.getElem?_eq_getElem h1]; rfl

set_option maxRecDepth 100000 in
set_option maxHeartbeats 4000000 in
theorem known_any (vn : Nat) (a0 : Option Addr) (cap : Nat) (fs : List Int) (w : World) (hx : SlI w w.heap.size a0 fs) (hl : fs.length ≤ 1048576) (hC : IsC (vn : Int) fs) :
    Calls Try.prog 79 #[.agg #[.int .i64 vn, .slice a0 fs.length cap]] w fun e w' => ∃ b n, e = .returned (.map (some b)) ∧ MapP w' b n (pairsL fs vn fs.length) ∧ w.heap.size ≤ b ∧ Below w.heap.size w w' := by
  have hB0 : Hid (Below w.heap.size w ((w.alloc (.cells #[.int .i64 vn, .slice a0 fs.length cap] 28)).alloc (.map #[] 0))) := hid (((Below.refl _ w).alloc (Nat.le_refl _) _).alloc (by simp) _)
  have Hx := hid (hx.later hB0.out hB0.out.size)
  have hvn : vn ≤ 6 := by have := hC.hi; omega
  have Hf := hid hC.range63
  have HC := hid hC
  have Hpl := hid (pairsL_len fs vn fs.length (Nat.le_refl _))
  have Hwf : Hid (∀ q ∈ pairsL fs vn fs.length, wfP q) := hid (fun q hq => by
    obtain ⟨x, y⟩ := q
    have h := (mem_pairsL HC.out x y).1 (by simpa using hq)
    unfold pairB at h
    simp only [Bool.and_eq_true, decide_eq_true_eq] at h
    have h0 := Hf.out x h.1.1.1
    have h1 := Hf.out y h.1.1.2
    exact ⟨wf_face h0.1 h0.2, wf_face h1.1 h1.2⟩)
  have hw0 := World.ownsMap_made (H := Unit) (w.alloc (.cells #[.int .i64 vn, .slice a0 fs.length cap] 28)) Try.prog 49 (plainElem (H := Unit) Try.prog 4)
  have Hw0 := hid hw0
  obtain ⟨L, hL⟩ : ∃ L, L = pairsL fs vn fs.length := ⟨_, rfl⟩
  rw [← hL] at Hwf Hpl ⊢
  have HL := hid hL
  clear hL
  have hmm := @run_makeMap Try.prog
  clear hx hC hw0
  go_enter Try.func79, Try.ntmps79
  go_wp2_with fail
  refine (pairsOf_any vn a0 cap fs _ Hx.out hl HC.out).mono ?_
  rintro e w1 ⟨v, rfl, hrow, hB1⟩
  rw [← HL.out] at hrow
  have hB01 := hid (hB0.out.trans (hB1.mono (by simp <;> omega)))
  have hm1 : w1.ownsMap Try.prog 49 (plainElem (H := Unit) Try.prog 4) (w.heap.size + 1) 0 (.map []) := by
    have := World.ownsMap.kept Hw0.out (row := none) ⟨hB1.os, hB1.tape, hB1.output, hB1.size, fun k hk _ => hB1.block k hk⟩ (by simp)
    simpa using this
  have Hm1 := hid hm1
  have hrow1 := ownsRow_base hrow (show w.heap.size + 1 + 1 ≤ _ by simp)
  have Hrow := hid hrow1
  clear hB1 hrow hm1 hmm hrow1 Hw0 Hx hB0
  rcases Hrow.out.2 with ⟨rfl, hn⟩ | ⟨g, cp, _, rfl, _⟩
  · have hLn : L = [] := List.length_eq_zero_iff.1 hn
    subst hLn
    clear hn
    go_wp2
    refine wp_loop_rounds 1 ?_; rw [rounds_succ]
    go_wp2
    go_ret
    exact ⟨_, _, rfl, Hm1.out, by omega, hB01.out⟩
  · go_wp2
    go_loopw [10] (fun i wr => ∃ k : Nat, k ≤ L.length ∧ i = .int .i64 k ∧ MapP wr (w.heap.size + 1) k (L.take k) ∧ wr.ownsRow (w.heap.size + 1 + 1) 49 2 (.slice (some ⟨g, 0, none⟩) L.length cp) L.length ((flatP L).map (Value.int .i64)) ∧ Below w.heap.size w wr) (fun i _ => L.length - (intOf i).toNat)
    case atStart => exact ⟨0, Nat.zero_le _, rfl, Hm1.out, Hrow.out, hB01.out⟩
    case round =>
      obtain ⟨k, hk, rfl, hm, hr, hB⟩ := hrel
      clear Hrow hB01 Hm1
      by_cases hlt : k < L.length
      · obtain ⟨x, y, hxy⟩ : ∃ x y, L[k]?.getD (0, 0) = (x, y) := ⟨_, _, rfl⟩
        obtain ⟨hc0, hc1⟩ := row_pair hr hlt hxy
        have hmem : (x, y) ∈ L := by rw [← hxy, List.getElem?_eq_getElem hlt]; simp
        have Hsn : Hid (L.take (k + 1) = L.take k ++ [(x, y)]) := hid (by rw [List.take_add_one, ← hxy, List.getElem?_eq_getElem hlt]; rfl)
        have Hwk := hid (Hwf.out _ hmem)
        have hi0 : (0 : Int) ≤ (k : Int) := by omega
        have hi1 : (k : Int) < (L.length : Int) := by omega
        have hLl : L.length ≤ 6291456 := Nat.le_trans Hpl.out (Nat.le_trans (Nat.mul_le_mul hl hvn) (by decide))
        have hkm : k < maxLen := by unfold maxLen; omega
        have Hm := hid hm
        have Hr := hid hr
        have HB := hid hB
        clear hm hr hB hmem hxy
        have HmA := hid (World.ownsMap.alloc Hm.out (.cells #[.int .i64 x, .int .i64 y] 49))
        go_wp2_with (first | (at_mapUpdate; refine wpList_mapUpdate_own _ rfl _ _ _ 82 rfl 49 4 keyedP Try.underlying82 _ (w.heap.size + 1) _ _ rfl HmA.out hkm _ _ _ rfl rfl (keyOfP Hwk.out) _ [] (plainElem_bool Try.underlying4 true) ?_; intro w2 hown2 hgrow2) | go_in)
        go_roundw
        case rel =>
          have hgg : ∀ q, (some g : Option Nat) = some q → w.heap.size + 1 + 1 ≤ q ∧ q < wr.heap.size := fun q hq => Hr.out.lt q hq
          refine ⟨k + 1, by omega, by go_num, ?_, ?_, (HB.out.alloc HB.out.size _).grown hgrow2 (by have := HB.out.size; simp; omega) (fun r e => by cases e; omega)⟩
          · rw [Hsn.out]
            unfold MapP
            rw [pknD_snoc]
            exact hown2
          · exact (Hr.out.alloc _).kept hgrow2 (Or.inr (fun e => by have := hgg g rfl; simp [Value.ownBlock] at e; omega))
        case measure => simp [intOf]; omega
      · obtain rfl : k = L.length := by omega
        rw [List.take_of_length_le (Nat.le_refl _)] at hm
        go_wp2
        go_ret
        exact ⟨_, _, rfl, hm, by omega, hB⟩

end Go.Proofs.Ytplcbiconfpmlaa

/-! The program's IsPairing. -/
namespace Go.Proofs.Ytplcbiconfpmlaa
open Go.RowKit

/-- What the program has asked of the first k pairs. -/
def GoodTo (fs ps : List Int) (k : Nat) : Prop := ∀ i, i < k → pairB fs (at0 ps (i * 2)) (at0 ps (i * 2 + 1)) = true ∧ at0 ps (i * 2) ∉ ps.take (i * 2) ∧ at0 ps (i * 2 + 1) ∉ ps.take (i * 2)

theorem mem_take_at {ps : List Int} {m : Nat} {x : Int} (hm : m ≤ ps.length) : x ∈ ps.take m ↔ ∃ j, j < m ∧ at0 ps j = x := by
  rw [List.mem_iff_getElem?]
  constructor
  · rintro ⟨j, hj⟩
    rw [List.getElem?_take] at hj
    split at hj
    · next h => exact ⟨j, h, by unfold at0; rw [hj]; rfl⟩
    · cases hj
  · rintro ⟨j, h, rfl⟩
    refine ⟨j, ?_⟩
    rw [List.getElem?_take, if_pos h]
    unfold at0
    rw [List.getElem?_eq_getElem (by omega)]; rfl

theorem clash_iff {x y u v : Int} : clashB x y u v = false ↔ x ≠ u ∧ x ≠ v ∧ y ≠ u ∧ y ≠ v := by
  unfold clashB; simp [Bool.or_eq_false_iff, and_assoc]

theorem good_free {ps : List Int} {n i : Nat} (hp : ps.length = 2 * n) (hi : i < n) :
    (at0 ps (i * 2) ∉ ps.take (i * 2) ∧ at0 ps (i * 2 + 1) ∉ ps.take (i * 2)) ↔ ∀ j, j < i → clashB (at0 ps (i * 2)) (at0 ps (i * 2 + 1)) (at0 ps (j * 2)) (at0 ps (j * 2 + 1)) = false := by
  rw [mem_take_at (by omega), mem_take_at (by omega)]
  constructor
  · rintro ⟨h0, h1⟩ j hj
    rw [clash_iff]
    exact ⟨fun e => h0 ⟨j * 2, by omega, e.symm⟩, fun e => h0 ⟨j * 2 + 1, by omega, e.symm⟩, fun e => h1 ⟨j * 2, by omega, e.symm⟩, fun e => h1 ⟨j * 2 + 1, by omega, e.symm⟩⟩
  · intro h
    have key : ∀ j, j < i * 2 → at0 ps j ≠ at0 ps (i * 2) ∧ at0 ps j ≠ at0 ps (i * 2 + 1) := by
      intro j hj
      have hc := clash_iff.1 (h (j / 2) (by omega))
      rcases Nat.mod_two_eq_zero_or_one j with hm | hm
      · have e : j / 2 * 2 = j := by omega
        rw [e] at hc
        exact ⟨fun e => hc.1 e.symm, fun e => hc.2.2.1 e.symm⟩
      · have e : j / 2 * 2 + 1 = j := by omega
        rw [e] at hc
        exact ⟨fun e => hc.2.1 e.symm, fun e => hc.2.2.2 e.symm⟩
    exact ⟨fun ⟨j, hj, e⟩ => (key j hj).1 e, fun ⟨j, hj, e⟩ => (key j hj).2 e⟩

theorem less_asym {x y u v : Int} (h : lessP x y u v = true) : lessP u v x y = false := by
  unfold lessP at *
  simp only [Bool.or_eq_true, Bool.and_eq_true, decide_eq_true_eq, Bool.or_eq_false_iff, Bool.and_eq_false_iff, decide_eq_false_iff_not] at *
  omega

theorem okTo_good {fs ps : List Int} {n : Nat} (hp : ps.length = 2 * n) (h : OkTo fs ps n) : NoDrop ps n 1 ∧ GoodTo fs ps n :=
  ⟨fun j _ h2 h3 => less_asym ((h j h3).2.1 h2), fun i hi => ⟨(h i hi).1, (good_free hp hi).2 (h i hi).2.2⟩⟩

theorem good_okTo {fs ps : List Int} {n : Nat} (hp : ps.length = 2 * n) (hs : NoDrop ps n 1) (h : GoodTo fs ps n) : OkTo fs ps n := by
  intro i hi
  have hc := (good_free hp hi).1 (h i hi).2
  refine ⟨(h i hi).1, fun h1 => ?_, hc⟩
  have hd := hs i h1 h1 hi
  have hn := clash_iff.1 (hc (i - 1) (by omega))
  unfold lessP at *
  simp only [Bool.or_eq_true, Bool.and_eq_true, decide_eq_true_eq, Bool.or_eq_false_iff, Bool.and_eq_false_iff, decide_eq_false_iff_not] at *
  omega

/-- The answer. -/
noncomputable def isPairingR (V : Int) (fs : List Int) (n : Nat) (ps : List Int) : Bool × Int := if isCB V fs then (pairingB fs ps n, 0) else (false, 1)

theorem two_mono {P : Program} {f : FuncId} {args : Array Value} {w : World} {r : Bool × Int} {b : Bool} {c : Int} (hr : r = (b, c))
    (h : Calls P f args w fun e w' => e = .returned (.tuple #[.bool b, .int .i64 c]) ∧ Below w.heap.size w w') : Calls P f args w fun e w' => e = .returned (.tuple #[.bool r.1, .int .i64 r.2]) ∧ Below w.heap.size w w' := by
  subst hr; exact h

set_option maxRecDepth 100000 in
set_option maxHeartbeats 4000000 in
theorem implIsPairing (V : Int) (a0 : Option Addr) (cap : Nat) (fs : List Int) (a1 : Option Addr) (n cap1 : Nat) (ps : List Int) (w : World) (hx : SlI w w.heap.size a0 fs) (hx1 : SlI w w.heap.size a1 ps) (hl : fs.length ≤ 1048576) (hp : ps.length = 2 * n) (hn : n ≤ 1048576) (hw : ∀ x ∈ ps, (Lit.int .i64 x).wf = true) :
    Calls Try.prog 133 #[.agg #[.int .i64 V, .slice a0 fs.length cap], .slice a1 n cap1] w fun e w' => e = .returned (.tuple #[.bool (isPairingR V fs n ps).1, .int .i64 (isPairingR V fs n ps).2]) ∧ Below w.heap.size w w' := by
  have hB0 : Below w.heap.size w (w.alloc (.cells #[.int .i64 V, .slice a0 fs.length cap] 28)) := (Below.refl _ w).alloc (Nat.le_refl _) _
  have Hx := hid (hx.later hB0 hB0.size)
  have Hx0 := hid hx
  have Hy := hid hx1
  clear hx hx1
  by_cases hC : IsC V fs
  · obtain ⟨vn, rfl⟩ : ∃ vn : Nat, V = vn := ⟨V.toNat, by have := hC.lo; omega⟩
    refine two_mono (show isPairingR vn fs n ps = (pairingB fs ps n, 0) by unfold isPairingR; rw [isCB_true hC, if_pos rfl]) ?_
    have HC := hid hC
    have Hp := hid hp
    have Hw := hid hw
    clear hC hp hw
    have hent : ∀ args w, (callFunc 88 args).run Try.prog w = .ok (.enter 88 args) w := enters_of Try.func88 (by kernel_rfl) rfl
    go_enter Try.func133, Try.ntmps133
    go_wp2_with fail
    refine (isc_yes (vn : Int) a0 cap fs _ Hx.out hl HC.out).mono ?_
    rintro e w1 ⟨rfl, hB1⟩
    have HB1 := hid (hB0.trans (hB1.mono (by simp)))
    have k0 : w1.cell? ⟨w.heap.size, 0, none⟩ = some (.int .i64 vn) := (hB1.cell (p := ⟨w.heap.size, 0, none⟩) (by simp)).trans (by simp [go_sem])
    have k1 : w1.cell? ⟨w.heap.size, 1, none⟩ = some (.slice a0 fs.length cap) := (hB1.cell (p := ⟨w.heap.size, 1, none⟩) (by simp)).trans (by simp [go_sem])
    have hs1 : w.heap.size < w1.heap.size := by have := hB1.size; simp at this; omega
    clear hB0 hB1
    go_wp2_with fail
    refine (sorted_any a1 n cap1 ps _ (Hy.out.later HB1.out HB1.out.size) Hp.out hn).mono ?_
    rintro e w2 ⟨rfl, hB2⟩
    by_cases hnd : NoDrop ps n 1
    rotate_left
    · rw [noDropB_false hnd]
      have He := hid (pairingB_false (fs := fs) (fun h => hnd (okTo_good Hp.out h).1))
      clear hnd
      go_wp2_with fail
      go_ret2
      exact ⟨by rw [He.out]; rfl, HB1.out.trans (hB2.mono HB1.out.size)⟩
    · rw [noDropB_true hnd]
      have Hnd := hid hnd
      have HB2 := hid (HB1.out.trans (hB2.mono HB1.out.size))
      have k02 := (hB2.cell (p := ⟨w.heap.size, 0, none⟩) hs1).trans k0
      have k12 := (hB2.cell (p := ⟨w.heap.size, 1, none⟩) hs1).trans k1
      have hs2 : w1.heap.size ≤ w2.heap.size := hB2.size
      clear hnd hB2 k0 k1 HB1 hent
      have hmm := @run_makeMap Try.prog
      go_wp2_with fail
      refine (known_any vn a0 cap fs _ (Hx0.out.later HB2.out HB2.out.size) hl HC.out).mono ?_
      rintro e w3 ⟨bm, nm, rfl, hm, hbm, hB3⟩
      have HB3 := hid (HB2.out.trans (hB3.mono HB2.out.size))
      have Hm := hid hm
      obtain ⟨L, hL⟩ : ∃ L, L = pairsL fs vn fs.length := ⟨_, rfl⟩
      have HL : Hid (∀ x y : Int, (x, y) ∈ L ↔ pairB fs x y = true) := hid (fun x y => by rw [hL]; exact mem_pairsL HC.out x y)
      have Hwl : Hid (∀ q ∈ L, wfP q) := hid (fun q hq => by
        obtain ⟨x, y⟩ := q
        have h := (HL.out x y).1 hq
        unfold pairB at h
        simp only [Bool.and_eq_true, decide_eq_true_eq] at h
        have h0 := HC.out.range63 x h.1.1.1
        have h1 := HC.out.range63 y h.1.1.2
        exact ⟨wf_face h0.1 h0.2, wf_face h1.1 h1.2⟩)
      have hbm3 : bm < w3.heap.size := World.ownsMap.lt hm
      rw [← hL] at Hm
      clear hm hB3 hL HB2 k02 k12
      go_wp2_with fail
      clear hmm
      go_loopw [21] (fun i wr => ∃ k : Nat, k ≤ n ∧ i = .int .i64 k ∧ Hid (GoodTo fs ps k) ∧ MapW wr w3.heap.size (k * 2) (ps.take (k * 2)) ∧ MapP wr bm nm L ∧ Below w.heap.size w wr) (fun i _ => n - (intOf i).toNat)
      case atStart => exact ⟨0, Nat.zero_le _, rfl, hid (fun i hi => by omega), World.ownsMap_made w3 Try.prog 2 _, World.ownsMap.alloc Hm.out _, HB3.out.alloc HB3.out.size _⟩
      case round =>
        obtain ⟨k, hk, rfl, Hg, hown, hm, hB⟩ := hrel
        by_cases hlt : k < n
        · obtain ⟨b, off, hb, rfl, hc⟩ : ∃ b off, b < w.heap.size ∧ a1 = some ⟨b, off, none⟩ ∧ ∀ i, i < ps.length → w.cell? ⟨b, off + i, none⟩ = some (.int .i64 (ps[i]?.getD 0)) := by
            rcases Hy.out with h | h
            · have := Hp.out; rw [h] at this; simp at this; omega
            · exact h
          have hc2 : wr.cell? ⟨b, off + k * 2, none⟩ = some (.int .i64 (at0 ps (k * 2))) := (hB.cell (p := ⟨b, off + k * 2, none⟩) hb).trans (hc _ (by have := Hp.out; omega))
          have hc3 : wr.cell? ⟨b, off + k * 2 + 1, none⟩ = some (.int .i64 (at0 ps (k * 2 + 1))) := (hB.cell (p := ⟨b, off + (k * 2 + 1), none⟩) hb).trans (hc _ (by have := Hp.out; omega))
          obtain ⟨x, hx⟩ : ∃ x, x = at0 ps (k * 2) := ⟨_, rfl⟩
          obtain ⟨y, hy⟩ : ∃ y, y = at0 ps (k * 2 + 1) := ⟨_, rfl⟩
          have hlen := Hp.out
          have hwx : (Lit.int .i64 x).wf = true := Hw.out x (by rw [hx]; exact getD_mem (by omega))
          have hwy : (Lit.int .i64 y).wf = true := Hw.out y (by rw [hy]; exact getD_mem (by omega))
          have Hsn : Hid (ps.take ((k + 1) * 2) = ps.take (k * 2) ++ [x] ++ [y]) := hid (by
            rw [show (k + 1) * 2 = k * 2 + 1 + 1 by omega, take_snoc (show k * 2 + 1 < ps.length by omega), take_snoc (show k * 2 < ps.length by omega), hx, hy]; rfl)
          have Hgood : Hid (GoodTo fs ps n → pairB fs x y = true ∧ x ∉ ps.take (k * 2) ∧ y ∉ ps.take (k * 2)) := hid (fun h => by rw [hx, hy]; exact h k hlt)
          have Hgs : Hid (pairB fs x y = true → x ∉ ps.take (k * 2) → y ∉ ps.take (k * 2) → GoodTo fs ps (k + 1)) := hid (fun h0 h1 h2 i hi => by
            by_cases hik : i < k
            · exact Hg.out i hik
            · obtain rfl : i = k := by omega
              rw [← hx, ← hy]; exact ⟨h0, h1, h2⟩)
          rw [← hx] at hc2
          rw [← hy] at hc3
          have HmA : Hid (MapP (wr.alloc (.cells #[.int .i64 x, .int .i64 y] 49)) bm nm L) := hid (World.ownsMap.alloc hm _)
          have Hown := hid hown
          have HoA : Hid (MapW (wr.alloc (.cells #[.int .i64 x, .int .i64 y] 49)) w3.heap.size (k * 2) (ps.take (k * 2))) := hid (World.ownsMap.alloc hown _)
          have hlk := lookup_pair HmA.out Hwl.out (p := (x, y)) ⟨hwx, hwy⟩
          have hl0 := lookup_known HoA.out hwx
          have hl1 := lookup_known HoA.out hwy
          have hi0 : (0 : Int) ≤ (k : Int) := by omega
          have hi1 : (k : Int) < (n : Int) := by omega
          have HB := hid hB
          have Hbad : Hid (¬ GoodTo fs ps n → pairingB fs ps n = false) := hid (fun h => pairingB_false (fun ho => h (okTo_good Hp.out ho).2))
          clear hx hy hc hB hm hown hlen
          by_cases hxy : (x, y) ∈ L
          rotate_left
          · rw [decide_eq_false hxy] at hlk
            have He := hid (Hbad.out (fun h => hxy ((HL.out x y).2 (Hgood.out h).1)))
            clear hxy
            go_wp2_with (simp only [hlk, hl0, hl1])
            go_ret2
            exact ⟨by rw [He.out]; rfl, HB.out.alloc HB.out.size _⟩
          · rw [decide_eq_true hxy] at hlk
            have Hxy := hid ((HL.out x y).1 hxy)
            clear hxy
            by_cases h0 : x ∈ ps.take (k * 2)
            · rw [decide_eq_true h0] at hl0
              have He := hid (Hbad.out (fun h => (Hgood.out h).2.1 h0))
              clear h0
              go_wp2_with (simp only [hlk, hl0, hl1])
              go_ret2
              exact ⟨by rw [He.out]; rfl, HB.out.alloc HB.out.size _⟩
            · rw [decide_eq_false h0] at hl0
              by_cases h1 : y ∈ ps.take (k * 2)
              · rw [decide_eq_true h1] at hl1
                have He := hid (Hbad.out (fun h => (Hgood.out h).2.2 h1))
                clear h0 h1
                go_wp2_with (simp only [hlk, hl0, hl1])
                go_ret2
                exact ⟨by rw [He.out]; rfl, HB.out.alloc HB.out.size _⟩
              · rw [decide_eq_false h1] at hl1
                have He := hid (Hgs.out Hxy.out h0 h1)
                clear h0 h1
                go_wp2_with (simp only [hlk, hl0, hl1])
                have hu1 := World.ownsMap.update (w := World.drew (wr.alloc (.cells #[.int .i64 x, .int .i64 y] 49))) HoA.out (Maps.int_keyed Try.underlying2) Try.underlying117 (show k * 2 < maxLen by unfold maxLen; omega) (Maps.keyOf_int_mk Try.underlying2 hwx) (plainElem_bool Try.underlying4 true)
                obtain ⟨wa, hrun1, hwa, hga⟩ := hu1
                obtain ⟨wb, hrun2, hwb, hgb⟩ := World.ownsMap.update hwa (Maps.int_keyed Try.underlying2) Try.underlying117 (show k * 2 + 1 < maxLen by unfold maxLen; omega) (Maps.keyOf_int_mk Try.underlying2 hwy) (plainElem_bool Try.underlying4 true)
                have hlw : w3.heap.size < wr.heap.size := by have := World.ownsMap.lt HoA.out; have hne := World.ownsMap.lt (b := w3.heap.size) Hown.out; exact hne
                have hba : ∀ j, j ≠ w3.heap.size → j < wr.heap.size + 1 → wa.heap[j]? = (wr.alloc (.cells #[.int .i64 x, .int .i64 y] 49)).heap[j]? := fun j hj hlt => hga.block j (by show j < (wr.alloc _).heap.size; simp; omega) (by simpa using hj)
                have Hba := hid hba
                have qa : wa.heap[wr.heap.size]? = some (.cells #[.int .i64 x, .int .i64 y] 49 (0, 0)) := (Hba.out _ (by omega) (by omega)).trans (heap_alloc_new _ _)
                have qb : wb.heap[wr.heap.size]? = some (.cells #[.int .i64 x, .int .i64 y] 49 (0, 0)) := (hgb.block _ (lt_get qa) (by simp; omega)).trans qa
                obtain ⟨ca0, ca1, _, _⟩ := two_of qa
                obtain ⟨cb0, cb1, _, _⟩ := two_of qb
                have Hga := hid hga
                have Hgb := hid hgb
                have Hwb := hid hwb
                clear hga hgb hwb hwa hba qa qb
                go_region_held3 (fun w' => w'.cell? ⟨wr.heap.size, 0, none⟩ = some (.int .i64 x) ∧ w'.cell? ⟨wr.heap.size, 1, none⟩ = some (.int .i64 y)) (go_keep) (first
                  | (simp only [hrun1])
                  | (simp only [hrun2]))
                go_wp2_with fail
                go_roundw
                case rel =>
                  have hm2 : MapP wb bm nm L := World.ownsMap.kept (World.ownsMap.kept HmA.out (row := some w3.heap.size) ⟨Hga.out.os, Hga.out.tape, Hga.out.output, Hga.out.size, Hga.out.block⟩ (by simp; omega)) Hgb.out (by simp; omega)
                  have hBx : Below w.heap.size w wa := (HB.out.alloc HB.out.size _).grown (w := wr.alloc (.cells #[.int .i64 x, .int .i64 y] 49)) ⟨Hga.out.os, Hga.out.tape, Hga.out.output, Hga.out.size, Hga.out.block⟩ (by have := HB.out.size; simp; omega) (fun r e => by cases e; have := HB3.out.size; omega)
                  refine ⟨k + 1, by omega, by go_num, He.out, ?_, hm2, hBx.grown Hgb.out hBx.size (fun r e => by cases e; have := HB3.out.size; omega)⟩
                  rw [Hsn.out]
                  unfold MapW
                  rw [knownD_snoc, knownD_snoc, show (k + 1) * 2 = k * 2 + 1 + 1 by omega]
                  exact Hwb.out
                case measure => simp [intOf]; omega
        · obtain rfl : k = n := by omega
          have He := hid (pairingB_true (good_okTo Hp.out Hnd.out Hg.out))
          go_wp2
          go_ret2
          exact ⟨by rw [He.out]; rfl, hB⟩
  · refine two_mono (show isPairingR V fs n ps = (false, 1) by unfold isPairingR; rw [isCB_false hC, if_neg (by simp)]) ?_
    go_enter Try.func133, Try.ntmps133
    go_wp2_with fail
    refine (isc_no V a0 cap fs _ Hx.out hl hC).mono ?_
    rintro e w1 ⟨rfl, hB1⟩
    go_wp2_with fail
    go_ret2
    exact ⟨rfl, hB0.trans (hB1.mono (by simp))⟩

end Go.Proofs.Ytplcbiconfpmlaa

/-! The model's IsPairing. -/
namespace Go.Proofs.Ytplcbiconfpmlaa
open Go.RowKit

set_option maxRecDepth 100000 in
set_option maxHeartbeats 1000000 in
theorem pis_any (V : Int) (a : Option Addr) (cap : Nat) (fs : List Int) (a1 : Option Addr) (n c2 : Nat) (ps : List Int) (w : World) (hx : SlI w w.heap.size a fs) (hx1 : SlI w w.heap.size a1 ps) (hl : fs.length ≤ 1048576) (hf : ∀ x ∈ fs, 1 ≤ x ∧ x ≤ 63) (hp : ps.length = 2 * n) (hn : n ≤ 1048576) :
    Calls Try.prog 129 #[.agg #[.int .i64 V, .slice a fs.length cap], .slice a1 n c2] w fun e w' => e = .returned (.bool (pairingB fs ps n)) ∧ Below w.heap.size w w' := by
  rcases hx1 with rfl | ⟨b, off, hb, rfl, hc⟩
  · obtain rfl : n = 0 := by simp at hp; omega
    have He := hid (pairingB_true (fs := fs) (ps := []) (n := 0) (fun i hi => by omega))
    clear hp hf hx
    go_enter Try.func129, Try.ntmps129
    go_wp2
    refine wp_loop_rounds 1 ?_; rw [rounds_succ]
    go_wp2
    go_ret
    exact ⟨ret_bool He.out.symm, (Below.refl _ w).alloc (Nat.le_refl _) _⟩
  · exact pis_some V a cap fs b off n c2 ps w hx hl hf hb hc hp hn

end Go.Proofs.Ytplcbiconfpmlaa

/-! How many faces a complex has at most. -/
namespace Go.Proofs.Ytplcbiconfpmlaa

theorem asc_len : ∀ (fs : List Int) (lo : Int), fs.Pairwise (· < ·) → (∀ x ∈ fs, lo ≤ x ∧ x ≤ 63) → fs.length ≤ (64 - lo).toNat
  | [], lo, _, _ => by simp
  | x :: fs, lo, hp, hr => by
    have h1 := hr x (by simp)
    have h2 := asc_len fs (x + 1) (List.pairwise_cons.1 hp).2 (fun y hy => ⟨by have := (List.pairwise_cons.1 hp).1 y hy; omega, (hr y (by simp [hy])).2⟩)
    rw [List.length_cons]
    omega

theorem IsC.len63 {V : Int} {fs : List Int} (h : IsC V fs) : fs.length ≤ 63 := by
  have := asc_len fs 1 h.asc h.range63
  omega

end Go.Proofs.Ytplcbiconfpmlaa

/-! l02High, l02Next: the steps from a face. -/
namespace Go.Proofs.Ytplcbiconfpmlaa
open Go.RowKit

/-- The high face of the first pair with a low face; 0: there is none. -/
def highOf (ps : List Int) (n : Nat) (a : Int) : Int := match (List.range n).find? (fun i => decide (at0 ps (i * 2) = a)) with
  | some i => at0 ps (i * 2 + 1)
  | none => 0
theorem highOf_some {ps : List Int} {n i : Nat} {a : Int} (hi : i < n) (ha : at0 ps (i * 2) = a) (h : ∀ j, j < i → at0 ps (j * 2) ≠ a) : highOf ps n a = at0 ps (i * 2 + 1) := by
  have : (List.range n).find? (fun i => decide (at0 ps (i * 2) = a)) = some i := by
    rw [List.find?_range_eq_some]
    exact ⟨by simp [ha], by simpa using hi, fun j hj => by simpa using h j hj⟩
  unfold highOf
  rw [this]
theorem highOf_none {ps : List Int} {n : Nat} {a : Int} (h : ∀ j, j < n → at0 ps (j * 2) ≠ a) : highOf ps n a = 0 := by
  have : (List.range n).find? (fun i => decide (at0 ps (i * 2) = a)) = none := by
    rw [List.find?_eq_none]
    intro i hi
    simpa using h i (by simpa using hi)
  unfold highOf
  rw [this]
/-- The faces to which steps lead. -/
def nextL (ps : List Int) (n : Nat) (a : Int) : List Int := if highOf ps n a = 0 then [] else (belowR (highOf ps n a).toNat 63).filter fun y => decide (y ≠ a)
theorem nextL_len (ps : List Int) (n : Nat) (a : Int) : (nextL ps n a).length ≤ 63 := by
  unfold nextL
  split
  · simp
  · exact Nat.le_trans (List.length_filter_le _ _) (belowR_len _ _)

/-- 'append' of a number; where the row lies afterwards. -/
theorem append_int_at {w : World} {ops : Array Oper} {rest : List Oper} {o : Oper} {a : Act} {Q : Exit → Act → World → Prop} (hgd : o.guard = none) {s y : Operand}
    (ho : o.op = .call { callee := .builtin .append, args := #[s, y], argTypes := #[22, 22] })
    {base : Nat} {v : Value} {xs : List Int} {x : Int} (hown : w.ownsRow base 2 1 v xs.length (xs.map (Value.int .i64))) (hbase : base ≤ w.heap.size) (hl : xs.length ≤ 1099511627776)
    (hs : a.eval s = v) (hy : a.eval y = .slice (some ⟨w.heap.size, 0, none⟩) 1 1)
    (hK : ∀ v' w', w'.ownsRow base 2 1 v' (xs ++ [x]).length ((xs ++ [x]).map (Value.int .i64)) → w.grownBy w' v.ownBlock → (v'.ownBlock = v.ownBlock ∨ v'.ownBlock = some (w.heap.size + 1)) → Below base w w' → wpList Try.prog ops Q rest (a.put o.dst v') w') :
    wpList Try.prog ops Q (o :: rest) a (w.alloc (.cells #[.int .i64 x] 2)) := by
  obtain ⟨i0, hi, hz0, hz1, hz2⟩ := info_parts info_i64
  refine wpList_append_own_at _ hgd s y 22 ho base 2 i0 (.int .i64 0) 1 8 Try.underlying22 hi hz0 hz1 hz2 rfl (by decide) v _ _ hs (hown.alloc _) ⟨w.heap.size, 0, none⟩ 1 1 [.int .i64 x] hy rfl (cell_one_new _ _ _) (by simp [Value.oneCell']) (by unfold maxLen; omega) (by omega) (by simp; omega) ?_
  intro v' w1 hown1 hgrow1 _ hat
  have hg : w.grownBy w1 v.ownBlock := (World.grownBy_alloc w _ _).trans hgrow1
  exact hK v' w1 (by simpa using hown1) hg (by simpa using hat) ((Below.refl base w).grown hg hbase (fun k hk => (hown.lt k hk).1))

set_option maxRecDepth 100000 in
set_option maxHeartbeats 2000000 in
theorem high_any (a1 : Option Addr) (n cap : Nat) (ps : List Int) (a : Int) (w : World) (hx : SlI w w.heap.size a1 ps) (hp : ps.length = 2 * n) (hl : n ≤ 1048576) :
    Calls Try.prog 84 #[.slice a1 n cap, .int .i64 a] w fun e w' => e = .returned (.int .i64 (highOf ps n a)) ∧ w = w' := by
  obtain ⟨E, hE⟩ : ∃ E, E = highOf ps n a := ⟨_, rfl⟩
  have HE := hid hE
  rw [← hE]
  clear hE
  have Hx := hid hx
  have Hp := hid hp
  clear hx hp
  go_enter Try.func84, Try.ntmps84
  go_wp2
  go_loop [5] (fun i => ∃ k : Nat, k ≤ n ∧ i = .int .i64 k ∧ Hid (∀ j, j < k → at0 ps (j * 2) ≠ a)) (fun i => n - (intOf i).toNat)
  case atStart => exact ⟨0, Nat.zero_le _, rfl, hid (fun j hj => absurd hj (Nat.not_lt_zero _))⟩
  case round =>
    obtain ⟨k, hk, rfl, Hk⟩ := hrel
    by_cases hlt : k < n
    · obtain ⟨b, off, hb, rfl, hc⟩ : ∃ b off, b < w.heap.size ∧ a1 = some ⟨b, off, none⟩ ∧ ∀ i, i < ps.length → w.cell? ⟨b, off + i, none⟩ = some (.int .i64 (ps[i]?.getD 0)) := by
        rcases Hx.out with h | h
        · have := Hp.out; rw [h] at this; simp at this; omega
        · exact h
      have c0 : w.cell? ⟨b, off + k * 2, none⟩ = some (.int .i64 (at0 ps (k * 2))) := hc _ (by have := Hp.out; omega)
      have c1 : w.cell? ⟨b, off + k * 2 + 1, none⟩ = some (.int .i64 (at0 ps (k * 2 + 1))) := hc (k * 2 + 1) (by have := Hp.out; omega)
      obtain ⟨x, hx⟩ : ∃ x, x = at0 ps (k * 2) := ⟨_, rfl⟩
      obtain ⟨y, hy⟩ : ∃ y, y = at0 ps (k * 2 + 1) := ⟨_, rfl⟩
      rw [← hx] at c0
      rw [← hy] at c1
      have hi0 : (0 : Int) ≤ (k : Int) := by omega
      have hi1 : (k : Int) < (n : Int) := by omega
      clear hc
      by_cases hxa : x = a
      · have hd : (x == a) = true := by simp [hxa]
        have He : Hid (E = y) := hid (by rw [HE.out, hy]; exact highOf_some hlt (by rw [← hx, hxa]) Hk.out)
        clear hxa hx hy
        go_wp2
        go_ret
        exact ⟨ret_int (by rw [He.out]), rfl⟩
      · have hd : (x == a) = false := by simp [hxa]
        have He : Hid (∀ j, j < k + 1 → at0 ps (j * 2) ≠ a) := hid (fun j hj => by
          by_cases h : j = k
          · rw [h, ← hx]; exact hxa
          · exact Hk.out j (by omega))
        clear hxa hx hy
        go_wp2
        go_round
        case rel => exact ⟨k + 1, by omega, by go_num, He.out⟩
        case measure => simp [intOf]; omega
    · have He : Hid (E = 0) := hid (by rw [HE.out]; exact highOf_none (fun j hj => Hk.out j (by omega)))
      go_wp2
      go_ret
      exact ⟨ret_int (by rw [He.out]), rfl⟩

theorem owned_some {w : World} {base e size n : Nat} {v : Value} {xs : List Value} (h : w.ownsRow base e size v n xs) (hn : v.ownBlock ≠ none) : ∃ g cap, v = .slice (some ⟨g, 0, none⟩) n cap ∧ n ≤ cap := by
  rcases h.2 with ⟨rfl, _⟩ | ⟨g, cap, cur, rfl, _, _, h1, _⟩
  · exact absurd rfl hn
  · exact ⟨g, cap, rfl, h1⟩

set_option maxRecDepth 100000 in
set_option maxHeartbeats 2000000 in
theorem next_any (a1 : Option Addr) (n cap : Nat) (ps : List Int) (a : Int) (w : World) (hx : SlI w w.heap.size a1 ps) (hp : ps.length = 2 * n) (hl : n ≤ 1048576) (hh : 0 ≤ highOf ps n a ∧ highOf ps n a < 64) :
    Calls Try.prog 138 #[.slice a1 n cap, .int .i64 a] w fun e w' => ∃ g c, e = .returned (.slice (some ⟨g, 0, none⟩) (nextL ps n a).length c) ∧ Res w w' (.slice (some ⟨g, 0, none⟩) (nextL ps n a).length c) (nextL ps n a) := by
  have HI := hid (high_any a1 n cap ps a w hx hp hl)
  obtain ⟨f, hf⟩ : ∃ f : Nat, highOf ps n a = f := ⟨(highOf ps n a).toNat, by omega⟩
  have hN : nextL ps n a = if f = 0 then [] else (belowR f 63).filter fun y => decide (y ≠ a) := by
    unfold nextL
    rw [hf, Int.toNat_natCast]
    by_cases h : f = 0
    · rw [if_pos h, if_pos (by omega)]
    · rw [if_neg h, if_neg (by omega)]
  have hf64 : f < 64 := by omega
  rw [hf] at HI
  rw [hN]
  clear hx hp hh hN hf
  have Hown0 := hid (World.ownsRow_made (base := w.heap.size) (e := 2) (size := 1) w #[] 0 (Nat.le_refl _) (by simp [maxLen]) rfl)
  by_cases h0 : f = 0
  · subst h0
    rw [if_pos rfl]
    go_enter Try.func138, Try.ntmps138
    go_wp2_with (go_at_call 84; refine HI.out.mono ?_; rintro e w' ⟨rfl, rfl⟩)
    go_ret
    exact ⟨w.heap.size, 0, rfl, Hown0.out, (Below.refl _ w).alloc (Nat.le_refl _) _⟩
  · rw [if_neg h0]
    have hne : ((f : Int) == 0) = false := by simp; omega
    obtain ⟨ys, hys⟩ : ∃ ys, ys = belowR f 63 := ⟨_, rfl⟩
    have HB := hid (fun w => below_any f w hf64)
    have hyl : ys.length ≤ 63 := by rw [hys]; exact belowR_len _ _
    rw [← hys] at HB ⊢
    clear hys h0
    go_enter Try.func138, Try.ntmps138
    go_wp2_with (go_at_call 84; refine HI.out.mono ?_; rintro e w' ⟨rfl, rfl⟩)
    refine (HB.out _).mono ?_
    rintro e w2 ⟨v, rfl, hown2, hB2⟩
    obtain ⟨_, av, cv, rfl, hs⟩ := ownsRow_slI hown2
    have hown1 := ownsRow_below Hown0.out hB2 (fun g hg => (Hown0.out.lt g hg).2)
    have hB12 : Below w.heap.size w w2 := ((Below.refl _ w).alloc (Nat.le_refl _) _).trans (hB2.mono (by simp))
    have hb0 : ∀ b off, av = some ⟨b, off, none⟩ → w.heap.size + 1 ≤ b := fun b off h => by
      have := (hown2.lt b (by rw [h]; rfl)).1
      simpa using this
    have Hown1 := hid hown1
    have HB12 := hid hB12
    clear hown1 hB12 hown2 hB2
    rcases hs with rfl | ⟨b, off, hb, rfl, hc⟩
    · go_wp2_with fail
      refine wp_loop_rounds 1 ?_; rw [rounds_succ]
      go_wp2
      go_ret
      exact ⟨w.heap.size, 0, rfl, Hown1.out, HB12.out⟩
    · have hbw := hb0 b off rfl
      have Hc := hid hc
      clear hc hb0
      go_wp2_with fail
      go_loopw [6, 8] (fun v i wr => ∃ k : Nat, k ≤ ys.length ∧ i = .int .i64 k ∧ wr.ownsRow w.heap.size 2 1 v ((ys.take k).filter fun y => decide (y ≠ a)).length (((ys.take k).filter fun y => decide (y ≠ a)).map (Value.int .i64)) ∧ v.ownBlock ≠ none ∧ v.ownBlock ≠ some b ∧ Hid (b < wr.heap.size ∧ ∀ i, i < ys.length → wr.cell? ⟨b, off + i, none⟩ = some (.int .i64 (ys[i]?.getD 0))) ∧ Below w.heap.size w wr) (fun _ i _ => ys.length - (intOf i).toNat)
      case atStart => exact ⟨0, Nat.zero_le _, rfl, Hown1.out, by simp [Value.ownBlock], by simp [Value.ownBlock]; omega, hid ⟨hb, Hc.out⟩, HB12.out⟩
      case round =>
        obtain ⟨k, hk, rfl, hown, hnn, hne', HC, hB⟩ := hrel
        by_cases hlt : k < ys.length
        · obtain ⟨y, hy⟩ : ∃ y, y = ys[k]?.getD 0 := ⟨_, rfl⟩
          have hck : wr.cell? ⟨b, off + k, none⟩ = some (.int .i64 y) := by rw [hy]; exact HC.out.2 k hlt
          have Htk : Hid (ys.take (k + 1) = ys.take k ++ [y]) := hid (by rw [take_snoc hlt, hy])
          have hi0 : (0 : Int) ≤ (k : Int) := by omega
          have hi1 : (k : Int) < (ys.length : Int) := by omega
          have hfl : ((ys.take k).filter fun y => decide (y ≠ a)).length ≤ 1048576 := Nat.le_trans (List.length_filter_le _ _) (by simp; omega)
          have hsz := hB.size
          have HB' := hid hB
          have Hown := hid hown
          clear hy hown hB
          by_cases hya : y = a
          · have hd : (y != a) = false := by simp [hya]
            have He : Hid ((ys.take (k + 1)).filter (fun y => decide (y ≠ a)) = (ys.take k).filter (fun y => decide (y ≠ a))) := hid (by rw [Htk.out, List.filter_append]; simp [hya])
            clear hya
            go_wp2_with fail
            go_roundw
            case rel => exact ⟨k + 1, by omega, by go_num, by rw [He.out]; exact Hown.out, hnn, hne', HC, HB'.out⟩
            case measure => simp [intOf]; omega
          · have hd : (y != a) = true := by simp [hya]
            have He : Hid ((ys.take (k + 1)).filter (fun y => decide (y ≠ a)) = (ys.take k).filter (fun y => decide (y ≠ a)) ++ [y]) := hid (by rw [Htk.out, List.filter_append]; simp [hya])
            clear hya
            go_wp2_with (at_builtin; refine append_int_at rfl rfl Hown.out hsz (by omega) rfl rfl ?_; intro v' w4 hown4 hgrow4 hat4 hB4)
            go_roundw
            case rel =>
              have hbn := HC.out.1
              refine ⟨k + 1, by omega, by go_num, by rw [He.out]; exact hown4, ?_, ?_, hid ⟨Nat.lt_of_lt_of_le hbn hB4.size, fun i hi => ?_⟩, HB'.out.trans hB4⟩
              · rcases hat4 with h | h
                · rw [h]; exact hnn
                · rw [h]; intro e; cases e
              · rcases hat4 with h | h
                · rw [h]; exact hne'
                · rw [h]; intro e; injection e with e; omega
              · rw [hgrow4.cell_far _ hbn (fun e => hne' e.symm)]; exact HC.out.2 i hi
            case measure => simp [intOf]; omega
        · obtain rfl : k = ys.length := by omega
          rw [List.take_length] at hown
          have HB' := hid hB
          have Hown := hid hown
          clear hB hown
          go_wp2_with fail
          obtain ⟨g, c, rfl, _⟩ := owned_some Hown.out hnn
          go_ret
          exact ⟨g, c, rfl, Hown.out, HB'.out⟩

end Go.Proofs.Ytplcbiconfpmlaa

/-! Gradient ways, the mathematics: what a search over the steps finds. -/
namespace Go.Proofs.Ytplcbiconfpmlaa
open Go.RowKit

/-- A gradient way with at least one step. -/
inductive Way (ps : List Int) (n : Nat) (a : Int) : Int → Prop
  | one {y : Int} : y ∈ nextL ps n a → Way ps n a y
  | more {x y : Int} : Way ps n a x → y ∈ nextL ps n x → Way ps n a y

/-- All high faces are numbers below 64. -/
def HighsB (ps : List Int) (n : Nat) : Prop := ∀ a, 0 ≤ highOf ps n a ∧ highOf ps n a < 64
theorem next_range {ps : List Int} {n : Nat} (h : HighsB ps n) {a y : Int} (hy : y ∈ nextL ps n a) : 0 ≤ y ∧ y < 64 := by
  unfold nextL at hy
  split at hy
  · simp at hy
  · have hm := (List.mem_filter.1 hy).1
    obtain ⟨v, h1, _, h3, h4, h5⟩ := (mem_belowR 63 (Nat.le_refl _)).1 hm
    have h6 : 2 ^ v ≤ (highOf ps n a).toNat := by
      unfold bitN at h3
      simp at h3
      exact Classical.byContradiction fun hn => by
        rw [Nat.div_eq_of_lt (by omega)] at h3
        simp at h3
    have := h a
    have e : ((2 ^ v : Nat) : Int) = (2 : Int) ^ v := by simp
    have hp : 0 < 2 ^ v := Nat.two_pow_pos v
    omega

def metAt (met : List Bool) (y : Int) : Bool := met[y.toNat]?.getD false
/-- A search under way: what has been met, and what waits. -/
structure Srch (ps : List Int) (n : Nat) (a : Int) (met : List Bool) (st : List Int) : Prop where
  len : met.length = 64
  good : ∀ i : Nat, i < 64 → met[i]?.getD false = true → Way ps n a i
  way : ∀ x ∈ st, Way ps n a x
  rng : ∀ x ∈ st, 0 ≤ x ∧ x < 64
  c0 : ∀ y ∈ nextL ps n a, y ∈ st ∨ metAt met y = true
  c1 : ∀ i : Nat, i < 64 → met[i]?.getD false = true → ∀ y ∈ nextL ps n i, y ∈ st ∨ metAt met y = true
  small : st.length + 64 * met.countP (fun b => !b) ≤ 5000

theorem Srch.start {ps : List Int} {n : Nat} (h : HighsB ps n) (a : Int) : Srch ps n a (List.replicate 64 false) (nextL ps n a) := by
  have hz : ∀ i : Nat, (List.replicate 64 false)[i]?.getD false = false := fun i => by
    rw [List.getElem?_replicate]
    split <;> rfl
  refine ⟨by simp, fun i _ hi => ?_, fun x hx => .one hx, fun x hx => next_range h hx, fun y hy => .inl hy, fun i _ hi => ?_, ?_⟩
  · rw [hz] at hi; cases hi
  · rw [hz] at hi; cases hi
  · have := nextL_len ps n a
    have e : (List.replicate 64 false).countP (fun b => !b) = 64 := by decide
    rw [e]; omega
theorem Srch.skip {ps : List Int} {n : Nat} {a x : Int} {met : List Bool} {st : List Int} (h : Srch ps n a met (st ++ [x])) (hx : metAt met x = true) : Srch ps n a met st := by
  have hk : ∀ y, (y ∈ st ++ [x] ∨ metAt met y = true) → (y ∈ st ∨ metAt met y = true) := fun y hy => by
    rcases hy with h1 | h1
    · rcases List.mem_append.1 h1 with h2 | h2
      · exact .inl h2
      · simp at h2; subst h2; exact .inr hx
    · exact .inr h1
  refine ⟨h.len, h.good, fun y hy => h.way y (List.mem_append_left _ hy), fun y hy => h.rng y (List.mem_append_left _ hy), fun y hy => hk y (h.c0 y hy), fun i h1 h2 y hy => hk y (h.c1 i h1 h2 y hy), ?_⟩
  have := h.small
  simp at this
  omega
theorem metAt_set {met : List Bool} {x y : Int} (hl : met.length = 64) (hx : 0 ≤ x ∧ x < 64) (hy : metAt met y = true ∨ y = x) : metAt (met.set x.toNat true) y = true := by
  unfold metAt at *
  by_cases e : x.toNat = y.toNat
  · rw [← e, List.getElem?_set_self (by omega)]; rfl
  · rw [List.getElem?_set_ne e]
    rcases hy with h | h
    · exact h
    · exact absurd (by rw [h]) e
theorem Srch.step {ps : List Int} {n : Nat} (hh : HighsB ps n) {a x : Int} {met : List Bool} {st : List Int} (h : Srch ps n a met (st ++ [x])) (hx : metAt met x = false) : Srch ps n a (met.set x.toNat true) (st ++ nextL ps n x) := by
  have hr := h.rng x (by simp)
  have hw := h.way x (by simp)
  have hxe : ((x.toNat : Nat) : Int) = x := by omega
  have hk : ∀ y, (y ∈ st ++ [x] ∨ metAt met y = true) → (y ∈ st ++ nextL ps n x ∨ metAt (met.set x.toNat true) y = true) := fun y hy => by
    rcases hy with h1 | h1
    · rcases List.mem_append.1 h1 with h2 | h2
      · exact .inl (List.mem_append_left _ h2)
      · simp at h2; exact .inr (metAt_set h.len hr (.inr h2))
    · exact .inr (metAt_set h.len hr (.inl h1))
  have hg : ∀ i : Nat, (met.set x.toNat true)[i]?.getD false = true → i = x.toNat ∨ met[i]?.getD false = true := fun i hi => by
    by_cases e : x.toNat = i
    · exact .inl e.symm
    · rw [List.getElem?_set_ne e] at hi; exact .inr hi
  refine ⟨by simp [h.len], fun i hi hm => ?_, fun y hy => ?_, fun y hy => ?_, fun y hy => hk y (h.c0 y hy), fun i hi hm y hy => ?_, ?_⟩
  · rcases hg i hm with e | e
    · rw [e, hxe]; exact hw
    · exact h.good i hi e
  · rcases List.mem_append.1 hy with h1 | h1
    · exact h.way y (List.mem_append_left _ h1)
    · exact .more hw h1
  · rcases List.mem_append.1 hy with h1 | h1
    · exact h.rng y (List.mem_append_left _ h1)
    · exact next_range hh h1
  · rcases hg i hm with e | e
    · rw [e, hxe] at hy; exact .inl (List.mem_append_right _ hy)
    · exact hk y (h.c1 i hi e y hy)
  · have hs := h.small
    have hn := nextL_len ps n x
    have hxl : x.toNat < met.length := by rw [h.len]; omega
    have hf : met[x.toNat] = false := by
      unfold metAt at hx
      rw [List.getElem?_eq_getElem hxl] at hx
      simpa using hx
    have hc := List.countP_set (p := fun b : Bool => !b) (a := true) hxl
    rw [hf] at hc
    simp at hc
    have hp : 0 < met.countP (fun b => !b) := List.countP_pos_iff.2 ⟨_, List.getElem_mem hxl, by simp [hf]⟩
    simp at hs ⊢
    omega
/-- The measure falls. -/
theorem Srch.less {ps : List Int} {n : Nat} {a x : Int} {met : List Bool} {st : List Int} (h : Srch ps n a met (st ++ [x])) (hx : metAt met x = false) :
    (st ++ nextL ps n x).length + 64 * (met.set x.toNat true).countP (fun b => !b) < (st ++ [x]).length + 64 * met.countP (fun b => !b) := by
  have hr := h.rng x (by simp)
  have hn := nextL_len ps n x
  have hxl : x.toNat < met.length := by rw [h.len]; omega
  have hf : met[x.toNat] = false := by
    unfold metAt at hx
    rw [List.getElem?_eq_getElem hxl] at hx
    simpa using hx
  have hc := List.countP_set (p := fun b : Bool => !b) (a := true) hxl
  rw [hf] at hc
  simp at hc
  have hp : 0 < met.countP (fun b => !b) := List.countP_pos_iff.2 ⟨_, List.getElem_mem hxl, by simp [hf]⟩
  simp
  omega
theorem Srch.done {ps : List Int} {n : Nat} (hh : HighsB ps n) {a : Int} {met : List Bool} (h : Srch ps n a met []) {y : Int} (hy : Way ps n a y) : metAt met y = true := by
  induction hy with
  | one h1 => exact (h.c0 _ h1).resolve_left (by simp)
  | @more x y h1 h2 ih =>
    have hr : 0 ≤ x ∧ x < 64 := by
      cases h1 with
      | one h3 => exact next_range hh h3
      | more _ h3 => exact next_range hh h3
    have hxe : ((x.toNat : Nat) : Int) = x := by omega
    exact (h.c1 x.toNat (by omega) ih y (by rw [hxe]; exact h2)).resolve_left (by simp)

end Go.Proofs.Ytplcbiconfpmlaa

/-! The sides of a face, one after the other: an iterator. -/
namespace Go.Proofs.Ytplcbiconfpmlaa
open Go.RowKit Go.Shelf

attribute [local go_sem] Oper.semAt_some

/-- A face without a vertex (the face itself if the vertex is not in it). -/
def sideN (f v : Nat) : Nat := f - (f &&& 2 ^ v)
def sideO (f v : Nat) : Option (Fin 64) := if h : sideN f v < 64 then (if sideN f v ≠ f ∧ sideN f v ≠ 0 then some ⟨sideN f v, h⟩ else none) else none
/-- The sides that lack one of the first k vertices. -/
def sidesTo (f k : Nat) : List (Fin 64) := (List.range k).filterMap (sideO f)
def sidesF (f : Nat) : List (Fin 64) := sidesTo f 6

theorem side_lt {f : Nat} (hf : f < 64) (v : Nat) : sideN f v < 64 := by unfold sideN; omega
theorem side_bits : ∀ f : Fin 64, ∀ v : Fin 6, bits BinOp.andNot IntKind.i64 (f.val : Int) (wrap64 (2 ^ v.val)) = (sideN f.val v.val : Int) := by decide +kernel
theorem sidesTo_some {f k : Nat} (hf : f < 64) (h1 : sideN f k ≠ f) (h0 : sideN f k ≠ 0) : sidesTo f (k + 1) = sidesTo f k ++ [⟨sideN f k, side_lt hf k⟩] := by
  unfold sidesTo
  rw [List.range_succ, List.filterMap_append]
  have : sideO f k = some ⟨sideN f k, side_lt hf k⟩ := by unfold sideO; rw [dif_pos (side_lt hf k), if_pos ⟨h1, h0⟩]
  simp [this]
theorem sidesTo_none {f k : Nat} (h : ¬ (sideN f k ≠ f ∧ sideN f k ≠ 0)) : sidesTo f (k + 1) = sidesTo f k := by
  unfold sidesTo
  rw [List.range_succ, List.filterMap_append]
  have : sideO f k = none := by
    unfold sideO
    by_cases hh : sideN f k < 64
    · rw [dif_pos hh, if_neg h]
    · rw [dif_neg hh]
  simp [this]
theorem sidesTo_prefix (f : Nat) : ∀ m k, sidesTo f k <+: sidesTo f (k + m)
  | 0, k => List.prefix_refl _
  | m + 1, k => by
    refine (sidesTo_prefix f m k).trans ?_
    unfold sidesTo
    rw [← Nat.add_assoc, List.range_succ, List.filterMap_append]
    exact List.prefix_append _ _
theorem sides_len (f k : Nat) : (sidesTo f k).length ≤ k := by
  unfold sidesTo
  exact Nat.le_trans (List.length_filterMap_le _ _) (by simp)

set_option maxRecDepth 100000 in
set_option maxHeartbeats 2000000 in
/-- The iterator over the sides of f: whatever the loop's body, as long as it keeps the block of f. -/
theorem sides1_in (n : Nat) (hn : 1 ≤ n) (l B0 f : Nat) (hf : f < 64) (J Jx : List (Fin 64) → World → Prop)
    (hY : ∀ pre x W, J pre W → pre ++ [x] <+: sidesF f → YieldAt Fence.wide (n - 1) Try.prog l #[.int .i64 (x.val : Int)] W fun e W' =>
      (e = .returned (.bool true) ∧ J (pre ++ [x]) W' ∧ KeepB B0 W W') ∨ (e = .returned (.bool false) ∧ Jx (pre ++ [x]) W'))
    (hJd : ∀ pre W m, J pre W → J pre (W.drewN m))
    (W : World) (hB0 : W.heap[B0]? = some (.cells #[.int .i64 (f : Int)] 2 (0, 0))) (h0 : J [] W) :
    CallsIn Fence.wide n Try.prog 208 #[.func (.yield l) #[] #[], .pointer (some ⟨B0, 0, none⟩)] W fun e W' => (∃ v, e = .returned v) ∧
      ((∃ ys, ys = sidesF f ∧ J ys W') ∨ (∃ pre, pre <+: sidesF f ∧ Jx pre W')) := by
  have c0 := (box_cell hB0).1
  refine callsIn_of_wp Try.func208 rfl trivial ?_ rfl
  simp only [Try.ntmps208, List.size_toArray, List.length_cons, List.length_nil, Nat.reduceAdd, Nat.reduceSub, Array.replicate_succ, Array.replicate_zero, List.push_toArray, List.append_toArray, List.nil_append, List.cons_append]
  gi_wp2
  gi_loopw [5] (fun p wr => ∃ (k : Nat), p = .int .i64 (k : Int) ∧ k ≤ 6 ∧ J (sidesTo f k) wr ∧ wr.heap[B0]? = some (.cells #[.int .i64 (f : Int)] 2 (0, 0)))
    (fun p _ => 6 - (intOf p).toNat)
  case atStart =>
    exact ⟨0, rfl, by omega, h0, hB0⟩
  case round =>
    obtain ⟨k, rfl, hk, hJs, hBr⟩ := hrel
    by_cases hk6 : k < 6
    · have hki : (k : Int) < 6 := by omega
      have hk0 : (0 : Int) ≤ (k : Int) := by omega
      have c0r := (box_cell hBr).1
      have hb : bits BinOp.andNot IntKind.i64 (f : Int) (wrap64 (2 ^ k)) = (sideN f k : Int) := side_bits ⟨f, hf⟩ ⟨k, hk6⟩
      obtain ⟨s, hs⟩ : ∃ s, s = sideN f k := ⟨_, rfl⟩
      rw [← hs] at hb
      have hs64 : s < 64 := by rw [hs]; exact side_lt hf k
      have HJ := hid hJs
      have HB := hid hBr
      clear hJs hBr
      by_cases h1 : s = f
      · have hd : ((s : Int) != (f : Int)) = false := by simp [h1]
        have Hst := hid (sidesTo_none (f := f) (k := k) (fun h => h.1 (by rw [← hs]; exact h1)))
        clear h1 hs
        gi_wp2
        gi_quiet (fail)
        gi_wp2
        refine ⟨fun _ h => (by cases h), ?_⟩
        gi_wp2
        go_roundw
        case rel => exact ⟨k + 1, by go_num, by omega, by rw [Hst.out]; exact hJd _ _ _ HJ.out, HB.out⟩
        case measure => simp [intOf]; omega
      · have hd : ((s : Int) != (f : Int)) = true := by simp; omega
        by_cases h2 : s = 0
        · have hd2 : ((s : Int) != 0) = false := by simp [h2]
          have Hst := hid (sidesTo_none (f := f) (k := k) (fun h => h.2 (by rw [← hs]; exact h2)))
          clear h1 h2 hs
          gi_wp2
          gi_quiet (fail)
          gi_wp2
          refine ⟨fun _ h => (by cases h), ?_⟩
          gi_wp2
          go_roundw
          case rel => exact ⟨k + 1, by go_num, by omega, by rw [Hst.out]; exact hJd _ _ _ HJ.out, HB.out⟩
          case measure => simp [intOf]; omega
        · have hd2 : ((s : Int) != 0) = true := by simp; omega
          have Hst := hid (sidesTo_some hf (k := k) (by rw [← hs]; exact h1) (by rw [← hs]; exact h2))
          have Hpre : Hid (sidesTo f k ++ [⟨s, hs64⟩] <+: sidesF f) := hid (by
            have e : sidesTo f (k + 1) = sidesTo f k ++ [⟨s, hs64⟩] := by rw [Hst.out]; simp [hs]
            rw [← e]
            have := sidesTo_prefix f (6 - (k + 1)) (k + 1)
            rwa [show k + 1 + (6 - (k + 1)) = 6 by omega] at this)
          have Hst' : Hid (sidesTo f (k + 1) = sidesTo f k ++ [⟨s, hs64⟩]) := hid (by rw [Hst.out]; simp [hs])
          have HY : Hid (∀ W', J (sidesTo f k) W' → YieldAt Fence.wide (n - 1) Try.prog l #[.int .i64 (s : Int)] W' fun e W'' =>
              (e = .returned (.bool true) ∧ J (sidesTo f k ++ [⟨s, hs64⟩]) W'' ∧ KeepB B0 W' W'') ∨ (e = .returned (.bool false) ∧ Jx (sidesTo f k ++ [⟨s, hs64⟩]) W'')) := hid (fun W' hj => hY _ ⟨s, hs64⟩ W' hj Hpre.out)
          clear h1 h2 hs Hst
          gi_wp2
          gi_quiet (fail)
          obtain ⟨fn, tmps, assign, body, hy, hR⟩ := HY.out _ (hJd _ _ nq HJ.out)
          gi_wp2
          refine hR.mono ?_
          rintro e W3 (⟨rfl, hJ3, hk3⟩ | ⟨rfl, hJx3⟩)
          · have hBr3 : W3.heap[B0]? = some (.cells #[.int .i64 (f : Int)] 2 (0, 0)) := Eq.trans hk3 HB.out
            have c03 := (box_cell hBr3).1
            gi_wp2
            go_roundw
            case rel => exact ⟨k + 1, by go_num, by omega, by rw [Hst'.out]; exact hJ3, hBr3⟩
            case measure => simp [intOf]; omega
          · gi_wp2
            refine bodyPost_ret (results_none rfl _ _ _) rfl ?_
            exact ⟨⟨_, rfl⟩, .inr ⟨_, Hpre.out, hJx3⟩⟩
    · obtain rfl : k = 6 := by omega
      gi_wp2
      go_end0
      exact ⟨⟨_, rfl⟩, .inl ⟨_, rfl, hJs⟩⟩

set_option maxHeartbeats 1000000 in
/-- sidesOf: its argument is boxed; the function value captures the box. -/
theorem sides_in (n : Nat) (x : Int) (w : World) :
    CallsIn Fence.wide n Try.prog 186 #[.int .i64 x] w fun e w' => e = .returned (.func (.func 208) #[] #[.pointer (some ⟨w.heap.size, 0, none⟩)]) ∧ w' = w.alloc (.cells #[.int .i64 x] 2) := by
  refine callsIn_of_wp Try.func186 rfl trivial ?_ rfl
  simp only [Try.ntmps186, List.size_toArray, List.length_cons, List.length_nil, Nat.reduceAdd, Nat.reduceSub, Array.replicate_succ, Array.replicate_zero, List.push_toArray, List.append_toArray, List.nil_append, List.cons_append]
  gi_wp2
  go_ret
  exact ⟨rfl, rfl⟩

theorem grown_drewN (W : World) (m : Nat) : W.grownBy (W.drewN m) none := ⟨rfl, rfl, rfl, Nat.le_refl _, fun _ _ _ => rfl⟩

theorem sides_stops (n : Nat) (hn : 1 ≤ n) (B0 f : Nat) (hf : f < 64) (w : World) (hB : B0 < w.heap.size)
    (hc : w.heap[B0]? = some (.cells #[.int .i64 (f : Int)] 2 (0, 0))) :
    SeqStopsK Fence.wide n Try.prog 208 #[.pointer (some ⟨B0, 0, none⟩)] (fun x : Fin 64 => #[Value.int .i64 (x.val : Int)]) (KeepB B0) (fun ys => ys = sidesF f) (fun pre => pre <+: sidesF f) 64 w :=
  fun l J Jx W hW hA _ hY h0 => sides1_in n hn l B0 f hf J Jx (fun pre x W1 hj hp => hY pre x W1 hj (by have h1 := hp.length_le; have h2 := sides_len f 6; unfold sidesF at h1; simp only [List.length_append, List.length_cons, List.length_nil] at h1; omega)) (fun pre W m h => hA pre W _ none h (grown_drewN W m) (fun r e => by cases e)) W ((hW.block B0 hB).trans hc) h0

end Go.Proofs.Ytplcbiconfpmlaa

/-! Iterators that keep a state of their own in cells: what lies in the blocks that they lay themselves. -/
namespace Go.Proofs.Ytplcbiconfpmlaa
open Go.RowKit Go.Shelf

attribute [local go_sem] Oper.semAt_some

/-- I abides new blocks, and the turn of one of the k blocks from lo on, or of one behind them that is no cells. -/
def OwnIn {β : Type} (lo k : Nat) (I : β → World → Prop) : Prop :=
  ∀ s W W' row, I s W → W.grownBy W' row → (∀ r, row = some r → lo ≤ r ∧ (r < lo + k ∨ ∃ o : Obj, W.heap[r]? = some o ∧ o.isCells = false)) → I s W'

/-- The blocks Bs and the k blocks from lo on lie as they lay; no block is lost. -/
structure KeepP (Bs : List Nat) (lo k : Nat) (W W' : World) : Prop where
  size : W.heap.size ≤ W'.heap.size
  same : ∀ r, (r ∈ Bs ∨ (lo ≤ r ∧ r < lo + k)) → W'.heap[r]? = W.heap[r]?

theorem KeepP.refl (Bs : List Nat) (lo k : Nat) (W : World) : KeepP Bs lo k W W := ⟨Nat.le_refl _, fun _ _ => rfl⟩
theorem KeepP.trans {Bs : List Nat} {lo k : Nat} {X Y Z : World} (h : KeepP Bs lo k X Y) (h' : KeepP Bs lo k Y Z) : KeepP Bs lo k X Z := ⟨Nat.le_trans h.size h'.size, fun r hr => (h'.same r hr).trans (h.same r hr)⟩
theorem KeepP.of_grownBy {Bs : List Nat} {lo k : Nat} {W W' : World} {row : Option Nat} (hg : W.grownBy W' row) (hB : ∀ b ∈ Bs, b < W.heap.size) (hlo : lo + k ≤ W.heap.size) (hrow : ∀ j, row = some j → j ∉ Bs ∧ (j < lo ∨ lo + k ≤ j)) : KeepP Bs lo k W W' :=
  ⟨hg.size, fun r hr => hg.block r (by rcases hr with h | h; exact hB r h; omega) (fun e => by have := hrow r e.symm; rcases hr with h | h; exact this.1 h; omega)⟩
theorem KeepP.of_below {Bs : List Nat} {lo k B : Nat} {W W' : World} (h : Below B W W') (hB : ∀ b ∈ Bs, b < B) (hlo : lo + k ≤ B) : KeepP Bs lo k W W' :=
  ⟨h.size, fun r hr => h.block r (by rcases hr with h | h; exact hB r h; omega)⟩
theorem KeepP.less {Bs Bs' : List Nat} {lo lo' k k' : Nat} {W W' : World} (h : KeepP Bs lo k W W') (hB : ∀ b ∈ Bs', b ∈ Bs ∨ (lo ≤ b ∧ b < lo + k)) (hlo : lo ≤ lo') (hk : lo' + k' ≤ lo + k) : KeepP Bs' lo' k' W W' :=
  ⟨h.size, fun r hr => h.same r (by rcases hr with h | h; exact hB r h; exact .inr (by omega))⟩
theorem KeepP.setCell {Bs : List Nat} {lo k : Nat} (W : World) (b : Nat) (o : Nat) (v : Value) (hb : b ∉ Bs ∧ (b < lo ∨ lo + k ≤ b)) : KeepP Bs lo k W (W.setCell ⟨b, o, none⟩ v) :=
  ⟨by simp [World.setCell], fun r hr => Below.heap_setCell _ _ _ _ (fun e => by simp only at e; subst e; rcases hr with h | h; exact hb.1 h; omega)⟩

theorem OwnIn.less {β : Type} {lo lo' k k' : Nat} {I : β → World → Prop} (h : OwnIn lo k I) (hlo : lo ≤ lo') (hk : lo' + k' ≤ lo + k) : OwnIn lo' k' I :=
  fun s W W' row hs hg hr => h s W W' row hs hg (fun r e => by
    obtain ⟨h1, h2⟩ := hr r e
    refine ⟨by omega, ?_⟩
    rcases h2 with h2 | h2
    · exact .inl (by omega)
    · exact .inr h2)
theorem OwnIn.and {β : Type} {lo k : Nat} {I I' : β → World → Prop} (h : OwnIn lo k I) (h' : OwnIn lo k I') : OwnIn lo k (fun s W => I s W ∧ I' s W) := fun s W W' row hs hg hr => ⟨h s W W' row hs.1 hg hr, h' s W W' row hs.2 hg hr⟩
theorem OwnIn.alloc {β : Type} {lo k : Nat} {I : β → World → Prop} (h : OwnIn lo k I) {s : β} {W : World} (o : Obj) (hs : I s W) : I s (W.alloc o) := h s W _ none hs (World.grownBy_alloc W o none) (fun r e => by cases e)
theorem OwnIn.drewN {β : Type} {lo k : Nat} {I : β → World → Prop} (h : OwnIn lo k I) {s : β} {W : World} (m : Nat) (hs : I s W) : I s (W.drewN m) := h s W _ none hs (grown_drewN W m) (fun r e => by cases e)
theorem OwnIn.putObj {β : Type} {lo k : Nat} {I : β → World → Prop} (h : OwnIn lo k I) {s : β} {W : World} {l : Nat} (o' : Obj) (hs : I s W) (h1 : lo ≤ l) (h2 : l < lo + k) : I s (W.putObj l o') :=
  h s W _ (some l) hs (grownBy_putObj' W l o') (fun r e => by cases e; exact ⟨h1, .inl h2⟩)
theorem OwnIn.map {β γ : Type} {lo k : Nat} {I : β → World → Prop} (h : OwnIn lo k I) (f : γ → β) : OwnIn lo k (fun s W => I (f s) W) := fun s W W' row hs hg hr => h (f s) W W' row hs hg hr
theorem ownIn_pure {β : Type} (lo k : Nat) (p : β → Prop) : OwnIn lo k (fun s (_ : World) => p s) := fun _ _ _ _ hs _ _ => hs
/-- What lies in a block of cells ahead of lo, or beyond the k blocks, stays. -/
theorem ownIn_block {β : Type} {lo k : Nat} {b : Nat} (f : β → Obj) (hb : b < lo) : OwnIn lo k (fun s (W : World) => W.heap[b]? = some (f s)) :=
  fun s W W' row hs hg hr => (hg.block b (Array.getElem?_eq_some_iff.1 hs).1 (fun e => by have := (hr b e.symm).1; omega)).trans hs
theorem ownIn_below {β : Type} {lo k n₀ : Nat} {w₀ : World} (h0 : n₀ ≤ lo) (hsz : n₀ ≤ w₀.heap.size) : OwnIn lo k (fun (_ : β) W => Below n₀ w₀ W) :=
  fun _ W W' row hs hg hr => hs.grown hg (Nat.le_trans hsz hs.size) (fun r e => by have := (hr r e).1; omega)

/-- An iterator's contract: it hands over the elements of L, one after the other, until a round says no more; it lays k blocks of its own when it begins, and reads the blocks Bs; every invariant that abides the turns of its own blocks is carried on. -/
def SeqStopsP {α : Type} (F : Fence) (n : Nat) (P : Program) (g : Nat) (lb : Array Value) (encs : α → Array Value) (Bs : List Nat) (k : Nat) (L : List α) (w0 : World) : Prop :=
  ∀ (l : Nat) (J Jx : List α → World → Prop) (W : World), Below w0.heap.size w0 W → OwnIn W.heap.size k J → OwnIn W.heap.size k Jx →
    (∀ pre x W1, pre ++ [x] <+: L → W.heap.size + k ≤ W1.heap.size → J pre W1 → YieldAt F (n - 1) P l (encs x) W1 fun e W' => KeepP Bs W.heap.size k W1 W' ∧ ((e = .returned (.bool true) ∧ J (pre ++ [x]) W') ∨ (e = .returned (.bool false) ∧ Jx (pre ++ [x]) W'))) →
    J [] W →
    CallsIn F n P g (#[.func (.yield l) #[] #[]] ++ lb) W fun e W' => (∃ v, e = .returned v) ∧ (J L W' ∨ ∃ pre, pre <+: L ∧ Jx pre W')

/-- How a round may be left. -/
def postP {α : Type} (Bs : List Nat) (lo k : Nat) (I : List α → World → Prop) (Ix : Code → List α → World → Prop) (xs : List α) (W : World) : Exit → Act → World → Prop
  | .normal, _, W' => KeepP Bs lo k W W' ∧ I xs W'
  | .ret, _, W' => KeepP Bs lo k W W' ∧ Ix .ret xs W'
  | .exit id, _, W' => KeepP Bs lo k W W' ∧ Ix (.exit id) xs W'
  | .goto t, _, W' => KeepP Bs lo k W W' ∧ Ix (.goto t) xs W'
  | .panic _, _, _ => False
  | .outgrown, _, _ => False

/-- A loop over such an iterator. -/
theorem wpIn_rangeFunc_P {α : Type} {F : Fence} {n : Nat} {P : Program} {w : World} {g : Operand} {ps : Array Tmp} {assign body : Code} {Q : Exit → Act → World → Prop} {a : Act}
    (hro : F.round = none) (h1 : 1 ≤ n) {gf : Nat} {lb : Array Value} (hg : a.eval g = .func (.func gf) #[] lb) (hFg : F.fn gf) (eg : ∀ args w, (callFunc gf args).run P w = .ok (.enter gf args) w)
    {encs : α → Array Value} {Bs : List Nat} {k : Nat} {L : List α} {w0 : World} (hseq : SeqStopsP F (n - 1) P gf lb encs Bs k L w0) (hBs : ∀ b ∈ Bs, b < w.heap.size)
    (hb0 : Below w0.heap.size w0 w) (hps : ∀ x, (encs x).size = ps.size)
    (I : List α → World → Prop) (Ix : Code → List α → World → Prop) (hI : OwnIn w.heap.size (2 + k) I) (hIx : ∀ c, OwnIn w.heap.size (2 + k) (Ix c)) (h0 : I [] w) (a₁ : α → Act)
    (hassign : ∀ (l : Nat) (x : α) (W : World) (K : Act → World → Prop), K (a₁ x) W →
      assign.wpIn (F.inRound l) (n - 1 - 1) P (Exit.then K (fun _ _ _ => False)) { tmps := (ps.zip (encs x)).foldl (fun t (p, v) => t.setIfInBounds p v) a.tmps, defers := [] } W)
    (hbody : ∀ (l : Nat) (pre : List α) (x : α) (W : World), pre ++ [x] <+: L → w.heap.size + (2 + k) ≤ W.heap.size → I pre W → body.wpIn (F.inRound l) (n - 1 - 1) P (postP Bs w.heap.size (2 + k) I Ix (pre ++ [x]) W) (a₁ x) W)
    (hdone : ∀ (W : World), I L W → W.heap[w.heap.size]? = some (.deferred (some [])) → Q .normal { a with defers := { target := .collected w.heap.size, args := #[] } :: a.defers } W)
    (hstop : ∀ (c : Code) (pre : List α) (W : World), pre <+: L → Ix c pre W → W.heap[w.heap.size]? = some (.deferred (some [])) → c.wpIn F n P Q { a with defers := { target := .collected w.heap.size, args := #[] } :: a.defers } W) :
    (Code.rangeFunc g ps assign body).wpIn F n P Q a w := by
  refine wpIn_rangeFunc ?_
  intro fn hfn
  rw [hro]
  let rec_ : LoopState → Option Code → Loop := fun st pe => { state := st, pending := pe, fn, tmps := a.tmps, params := ps, assign, body, defers := w.heap.size }
  obtain ⟨rec, hrec⟩ : ∃ rec, rec = rec_ := ⟨_, rfl⟩
  obtain ⟨W1, hW1⟩ : ∃ W1, (w.alloc (.deferred (some []))).alloc (.loop (rec .ready none)) = W1 := ⟨_, rfl⟩
  have hs1 : W1.heap.size = w.heap.size + 2 := by rw [← hW1]; simp
  have hL1 : W1.heap[w.heap.size + 1]? = some (.loop (rec .ready none)) := by
    rw [← hW1]; have := World.alloc_heap_new (w.alloc (.deferred (some []))) (.loop (rec .ready none)); rwa [World.size_alloc] at this
  have hK1 : W1.heap[w.heap.size]? = some (.deferred (some [])) := by
    rw [← hW1]; exact (Below.heap_alloc _ _ _ (by simp)).trans (World.alloc_heap_new w _)
  have hI1 : I [] W1 := by rw [← hW1]; exact hI.alloc _ (hI.alloc _ h0)
  have hb1 : Below w0.heap.size w0 W1 := by
    rw [← hW1]; exact hb0.trans ((((Below.refl _ w).alloc (Nat.le_refl _) _).alloc (by simp) _).mono hb0.size)
  have hIk : ∀ {I' : List α → World → Prop}, OwnIn w.heap.size (2 + k) I' → OwnIn W1.heap.size k I' := fun h => h.less (by omega) (by omega)
  refine ⟨w.heap.size + 1, [{ target := .collected w.heap.size, args := #[] }], W1, { target := .fn (.func gf) lb, args := #[.func (.yield (w.heap.size + 1)) #[] #[]] }, W1, gf,
    #[.func (.yield (w.heap.size + 1)) #[] #[]] ++ lb, W1, ?_, ?_, ?_, ?_, fun _ => h1, ?_⟩
  · rw [← hW1, hrec]; exact run_enterLoop_outer _ _ _ _ _
  · simp only [resolve, hg]
    simp [go_sem]
  · intro f' hf'; simp [Target.leads] at hf'; subst hf'; exact hFg
  · simp [invoke, go_sem, eg]
  · have hrow : ∀ {A B : World} {row : Option Nat} {b : Nat} {o : Obj}, A.grownBy B row → (∀ r, row = some r → W1.heap.size ≤ r ∧ (r < W1.heap.size + k ∨ ∃ o : Obj, A.heap[r]? = some o ∧ o.isCells = false)) → b < W1.heap.size → A.heap[b]? = some o → B.heap[b]? = some o :=
      fun hg' hr hb ho => (hg'.block _ (Array.getElem?_eq_some_iff.1 ho).1 (fun e => by have := (hr _ e.symm).1; omega)).trans ho
    refine (hseq (w.heap.size + 1)
      (fun pre W => I pre W ∧ W.heap[w.heap.size + 1]? = some (.loop (rec .ready none)) ∧ W.heap[w.heap.size]? = some (.deferred (some [])))
      (fun pre W => ∃ c, Ix c pre W ∧ W.heap[w.heap.size + 1]? = some (.loop (rec .done (some c))) ∧ W.heap[w.heap.size]? = some (.deferred (some [])))
      W1 hb1
      (fun s A B row hs hg' hr => ⟨hIk hI s A B row hs.1 hg' hr, hrow hg' hr (by omega) hs.2.1, hrow hg' hr (by omega) hs.2.2⟩)
      (fun s A B row hs hg' hr => by
        obtain ⟨c, hc, hl, hk⟩ := hs
        exact ⟨c, hIk (hIx c) s A B row hc hg' hr, hrow hg' hr (by omega) hl, hrow hg' hr (by omega) hk⟩)
      ?_ ⟨hI1, hL1, hK1⟩).mono ?_
    · rintro pre x W hpre hsk ⟨hi, hl, hk⟩
      have hlt : w.heap.size + 1 < W.heap.size := (Array.getElem?_eq_some_iff.1 hl).1
      have hy := run_yield (P := P) (args := encs x) hl (by rw [hrec]; exact hps x)
      rw [hrec] at hy
      refine ⟨fn, _, assign, body, hy, roundIn_of_wpIn hfn (hassign _ x W _ ?_)⟩
      clear hy
      refine ⟨_, run_beginRound hl (by rw [hrec]), ?_⟩
      obtain ⟨W2, hW2⟩ : ∃ W2, W2 = W.putObj (w.heap.size + 1) (.loop { rec .ready none with state := .busy }) := ⟨_, rfl⟩
      have hl2 : W2.heap[w.heap.size + 1]? = some (.loop { rec .ready none with state := .busy }) := by rw [hW2]; exact World.putObj_heap_same hlt
      have hk2 : W2.heap[w.heap.size]? = some (.deferred (some [])) := by rw [hW2]; exact (World.putObj_heap_other (by omega)).trans hk
      have hi2 : I pre W2 := by rw [hW2]; exact hI.putObj _ hi (by omega) (by omega)
      have hkp : ∀ {X Y : World} {o : Obj}, X = Y.putObj (w.heap.size + 1) o → KeepP Bs W1.heap.size k Y X := fun e => ⟨by rw [e, World.putObj_size]; exact Nat.le_refl _, fun r hr => by
        rw [e]
        refine World.putObj_heap_other ?_
        rcases hr with h | h
        · have := hBs r h; omega
        · omega⟩
      refine wpIn_mono (hbody _ pre x _ hpre (by rw [World.putObj_size]; omega) (by rw [← hW2]; exact hi2)) ?_
      rw [← hW2]
      have fin : ∀ (jump : Option Code) (W3 : World), KeepP Bs w.heap.size (2 + k) W2 W3 →
          (Instr.endRound (w.heap.size + 1) jump).run P W3 = .ok (.bool jump.isNone) (W3.putObj (w.heap.size + 1) (.loop (rec (if jump.isNone then .ready else .done) jump))) ∧
          (W3.putObj (w.heap.size + 1) (.loop (rec (if jump.isNone then .ready else .done) jump))).heap[w.heap.size + 1]? = some (.loop (rec (if jump.isNone then .ready else .done) jump)) ∧
          (W3.putObj (w.heap.size + 1) (.loop (rec (if jump.isNone then .ready else .done) jump))).heap[w.heap.size]? = some (.deferred (some [])) ∧
          KeepP Bs W1.heap.size k W (W3.putObj (w.heap.size + 1) (.loop (rec (if jump.isNone then .ready else .done) jump))) := fun jump W3 hk3 => by
        have hl3 := (hk3.same (w.heap.size + 1) (.inr ⟨by omega, by omega⟩)).trans hl2
        have hd3 := (hk3.same w.heap.size (.inr ⟨by omega, by omega⟩)).trans hk2
        have := run_endRound (P := P) jump hl3
        rw [hrec] at this ⊢
        exact ⟨this, World.putObj_heap_same (Array.getElem?_eq_some_iff.1 hl3).1, (World.putObj_heap_other (by omega)).trans hd3,
          (hkp hW2).trans ((hk3.less (fun b hb => .inl hb) (by omega) (by omega)).trans (hkp rfl))⟩
      rintro e a3 W3 hp
      cases e with
      | normal =>
        obtain ⟨hr, hl4, hk4, hkk⟩ := fin none W3 hp.1
        exact ⟨_, _, hr, hkk, .inl ⟨rfl, hI.putObj _ hp.2 (by omega) (by omega), hl4, hk4⟩⟩
      | ret =>
        obtain ⟨hr, hl4, hk4, hkk⟩ := fin (some .ret) W3 hp.1
        exact ⟨_, _, hr, hkk, .inr ⟨rfl, .ret, (hIx _).putObj _ hp.2 (by omega) (by omega), hl4, hk4⟩⟩
      | exit id =>
        obtain ⟨hr, hl4, hk4, hkk⟩ := fin (some (.exit id)) W3 hp.1
        exact ⟨_, _, hr, hkk, .inr ⟨rfl, .exit id, (hIx _).putObj _ hp.2 (by omega) (by omega), hl4, hk4⟩⟩
      | goto t =>
        obtain ⟨hr, hl4, hk4, hkk⟩ := fin (some (.goto t)) W3 hp.1
        exact ⟨_, _, hr, hkk, .inr ⟨rfl, .goto t, (hIx _).putObj _ hp.2 (by omega) (by omega), hl4, hk4⟩⟩
      | panic ch => exact hp.elim
      | outgrown => exact hp.elim
    · rintro e W2 ⟨⟨v, rfl⟩, (⟨hi, hl, hk⟩ | ⟨pre, hSp, c, hi, hl, hk⟩)⟩
      · exact ⟨none, _, by have := run_endLoop (P := P) hl (by rw [hrec]; simp [rec_]); rw [hrec] at this; exact this, hdone _ (hI.putObj _ hi (by omega) (by omega)) ((World.putObj_heap_other (by omega)).trans hk)⟩
      · exact ⟨some c, _, by have := run_endLoop (P := P) hl (by rw [hrec]; simp [rec_]); rw [hrec] at this; exact this, hstop c pre _ hSp ((hIx c).putObj _ hi (by omega) (by omega)) ((World.putObj_heap_other (by omega)).trans hk)⟩

end Go.Proofs.Ytplcbiconfpmlaa

/-! The signs of the sides of a face, the model's. -/
namespace Go.Proofs.Ytplcbiconfpmlaa
open Go.RowKit

/-- The first j signs of a face with n + 1 vertices. -/
def sgTo (n j : Nat) : List Int := (List.range j).map fun i => 1 - 2 * (((n - i) % 2 : Nat) : Int)
def signL (f : Nat) : List Int := if ones f = 1 then [] else sgTo (ones f - 1) (ones f)
theorem sgTo_succ (n j : Nat) : sgTo n (j + 1) = sgTo n j ++ [1 - 2 * (((n - j) % 2 : Nat) : Int)] := by simp [sgTo, List.range_succ]
theorem sgTo_len (n j : Nat) : (sgTo n j).length = j := by simp [sgTo]

set_option maxRecDepth 100000 in
set_option maxHeartbeats 1000000 in
theorem signs_any (f : Nat) (w : World) (hf : f < 64) (h0 : f ≠ 0) :
    Calls Try.prog 201 #[.int .i64 (f : Int)] w fun e w' => ∃ v, e = .returned v ∧ Res w w' v (signL f) := by
  have hown0 := World.ownsRow_made (base := w.heap.size) (e := 2) (size := 1) w #[] 0 (by simp) (by simp [maxLen]) rfl
  have Hown0 := hid hown0
  have hop := ones_pos ⟨f, hf⟩ h0
  have ho := ones_le f
  obtain ⟨n, hn⟩ : ∃ n, ones f = n + 1 := ⟨ones f - 1, by have : 0 < ones f := hop; omega⟩
  have HO : Hid (∀ w, Calls Try.prog 130 #[.int .i64 (f : Int)] w fun e w' => e = .returned (.int .i64 ((n : Int) + 1)) ∧ w = w') := hid (fun w => (ones_any f w hf).mono fun _ _ ⟨he, hw⟩ => ⟨by rw [he, hn]; rfl, hw⟩)
  have hn5 : n ≤ 5 := by omega
  have hsg : signL f = if n = 0 then [] else sgTo n (n + 1) := by unfold signL; rw [hn]; simp
  rw [hsg]
  clear hown0 hop ho hn hsg
  by_cases hz : n = 0
  · subst hz
    go_enter Try.func201, Try.ntmps201
    go_wp2_with (go_at_call 130; refine (HO.out _).mono ?_; rintro e w' ⟨rfl, rfl⟩)
    go_ret
    exact ⟨_, rfl, by simpa using Hown0.out, (Below.refl _ w).alloc (Nat.le_refl _) _⟩
  · rw [if_neg hz]
    have hd : ((n : Int) == 0) = false := beq_eq_false_iff_ne.2 (by omega)
    clear hz
    go_enter Try.func201, Try.ntmps201
    go_wp2_with (go_at_call 130; refine (HO.out _).mono ?_; rintro e w' ⟨rfl, rfl⟩)
    go_loopw [3, 4] (fun v p wr => ∃ j : Nat, j ≤ n + 1 ∧ p = .int .i64 ((n : Int) - j) ∧ wr.ownsRow w.heap.size 2 1 v (sgTo n j).length ((sgTo n j).map (Value.int .i64)) ∧ Below w.heap.size w wr) (fun _ p _ => (intOf p + 1).toNat)
    case atStart => exact ⟨0, Nat.zero_le _, by simp, by simpa [sgTo] using Hown0.out, (Below.refl _ w).alloc (Nat.le_refl _) _⟩
    case round =>
      obtain ⟨j, hj, rfl, hown, hB⟩ := hrel
      have HB := hid hB
      have Hown := hid hown
      have Hsz := hid hB.size
      have hle := sgTo_len n j
      by_cases hjn : j = n + 1
      · subst hjn
        have e : (n : Int) - ((n + 1 : Nat) : Int) = -1 := by omega
        rw [e]
        clear e hown hB
        go_wp2
        go_ret
        exact ⟨_, rfl, Hown.out, HB.out⟩
      · obtain ⟨q, hq⟩ : ∃ q : Nat, n = q + j := ⟨n - j, by omega⟩
        have e : (n : Int) - (j : Int) = (q : Int) := by omega
        have He : Hid (((n : Int) - ((j + 1 : Nat) : Int)) = (q : Int) - 1) := hid (by omega)
        have hs := sgTo_succ n j
        rw [show n - j = q by omega] at hs
        rw [e]
        have hq0 : (0 : Int) ≤ (q : Int) := by omega
        have hqw : IntKind.i64.wrap ((q : Int) - 1) = (q : Int) - 1 := by rw [IntKind.wrap_i64]; omega
        have hmod : (q : Int).tmod 2 = ((q % 2 : Nat) : Int) := by rw [Int.tmod_eq_emod_of_nonneg (by omega)]; omega
        rcases Nat.mod_two_eq_zero_or_one q with h2 | h2
        · rw [h2] at hmod hs
          have Hs := hid hs
          clear e hown hB hs h2 hq
          have hmod' : (q : Int).tmod 2 = 0 := hmod
          clear hmod
          · skip
            go_wp2_with (at_builtin; refine append_int rfl rfl Hown.out Hsz.out (by omega) rfl rfl ?_; intro v' w2 hown2 hgrow2 hB2)
            go_roundw
            case rel => exact ⟨j + 1, by omega, by rw [He.out], by rw [Hs.out]; exact hown2, HB.out.trans hB2⟩
            case measure => simp [intOf] <;> omega
        · rw [h2] at hmod hs
          have Hs := hid hs
          clear e hown hB hs h2 hq
          have hmod' : (q : Int).tmod 2 = 1 := hmod
          clear hmod
          · skip
            go_wp2_with (at_builtin; refine append_int rfl rfl Hown.out Hsz.out (by omega) rfl rfl ?_; intro v' w2 hown2 hgrow2 hB2)
            go_roundw
            case rel => exact ⟨j + 1, by omega, by rw [He.out], by rw [Hs.out]; exact hown2, HB.out.trans hB2⟩
            case measure => simp [intOf] <;> omega

/-- What SignsOf hands back. -/
noncomputable def signsOfR (V : Int) (fs : List Int) (f : Int) : List Int × Int := if isCB V fs then (if f ∈ fs then (signL f.toNat, 0) else ([], 2)) else ([], 1)

theorem signsOfR_len (V : Int) (fs : List Int) (f : Int) (_h : fs.length ≤ 1048576) : (signsOfR V fs f).1.length ≤ 1048576 := by
  unfold signsOfR
  have := ones_le f.toNat
  split
  · split
    · unfold signL
      split
      · simp
      · simp only [sgTo_len]; omega
    · simp
  · simp

theorem sign_mono {P : Program} {fn : FuncId} {args : Array Value} {w : World} {r : List Int × Int} {xs : List Int} {c : Int} (hr : r = (xs, c))
    (h : Calls P fn args w fun e w' => ∃ v, e = .returned (.tuple #[v, .int .i64 c]) ∧ Res w w' v xs) : Calls P fn args w fun e w' => ∃ v, e = .returned (.tuple #[v, .int .i64 r.2]) ∧ Res w w' v r.1 := by
  subst hr; exact h

end Go.Proofs.Ytplcbiconfpmlaa
