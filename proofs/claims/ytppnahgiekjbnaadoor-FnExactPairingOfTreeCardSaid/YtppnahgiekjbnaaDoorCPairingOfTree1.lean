import Derived.Lib.QuietBelow
import Derived.WideKeyPair
import Derived.Shelf.SlLaysF0
import Derived.Ground.SlsfProg
import Derived.Test.YtppnahgiekjbnaaDoorProg
import Derived.Shelf.SlSortCmp.WholeK
import Derived.Sort.OwnSortedInts
import Derived.Test.YtppnahgiekjbnaaDoorMQ3
import Derived.Test.YtppnahgiekjbnaaDoorMQ1
import Derived.Test.YtppnahgiekjbnaaDoorMQ2
import Derived.Test.YtppnahgiekjbnaaDoorMQ4
import Derived.Test.YtppnahgiekjbnaaDoorMQ5
/-! The laws' helpers for lists of pairs: a list of n pairs is read as 2 * n integers. -/
namespace Go.Proofs.YtppnahgiekjbnaaDoor
open Go.RowKit



set_option maxRecDepth 100000 in
set_option maxHeartbeats 400000 in
theorem eqPair_any (x y x' y' : Int) (w : World) :
    Calls Tryd.prog 44 #[.agg #[.int .i64 x, .int .i64 y], .agg #[.int .i64 x', .int .i64 y']] w fun e w' => e = .returned (.bool (decide (x = x' ∧ y = y'))) ∧ Below w.heap.size w w' := by
  go_enter Tryd.func44, Tryd.ntmps44
  go_wp2
  refine wp_loop_rounds 3 ?_; rw [rounds_succ]
  go_wp2
  go_quiet (fail)
  have hB : ∀ n, Below w.heap.size w (((w.alloc (.cells #[.int .i64 x, .int .i64 y] 67)).alloc (.cells #[.int .i64 x', .int .i64 y'] 67)).drewN n) := fun n => Below.trans (((Below.refl _ w).alloc (Nat.le_refl _) _).alloc (by simp) _) ⟨rfl, rfl, rfl, Nat.le_refl _, fun _ _ => rfl⟩
  have HB := hid hB
  clear hB
  by_cases hx : x = x'
  · have hd : (x != x') = false := by simp [hx]
    have Hx := hid hx
    clear hx
    go_wp2_with fail
    rw [rounds_succ]
    go_wp2_with fail
    go_quiet (fail)
    by_cases hy : y = y'
    · have hd2 : (y != y') = false := by simp [hy]
      have Hy := hid hy
      clear hy
      go_wp2_with fail
      rw [rounds_succ]
      go_wp2_with fail
      go_ret
      exact ⟨ret_bool (decide_eq_true ⟨Hx.out, Hy.out⟩).symm, HB.out _⟩
    · have hd2 : (y != y') = true := by simp [hy]
      have Hy := hid hy
      clear hy
      go_wp2_with fail
      go_ret
      refine ⟨ret_bool (decide_eq_false (fun h => Hy.out h.2)).symm, ?_⟩
      first | exact HB.out _ | exact (HB.out 0).trans ⟨rfl, rfl, rfl, Nat.le_refl _, fun _ _ => rfl⟩
  · have hd : (x != x') = true := by simp [hx]
    have Hx := hid hx
    clear hx
    go_wp2_with fail
    go_ret
    exact ⟨ret_bool (decide_eq_false (fun h => Hx.out h.1)).symm, HB.out _⟩

theorem info_pair : (Tryd.prog.info? 67).map (fun i => (i.zero, i.size, i.bytes)) = some (some (.agg #[.int .i64 0, .int .i64 0]), 2, 16) := by kernel_rfl

theorem made_two (m : Nat) : (madeCells #[Value.int .i64 0, Value.int .i64 0] m).toList = (List.replicate m (0 : Int)).map (Value.int .i64) := by
  refine List.ext_getElem (by simp [madeCells]) (fun i h1 h2 => ?_)
  have : i % 2 = 0 ∨ i % 2 = 1 := Nat.mod_two_eq_zero_or_one i
  rcases this with h | h <;> simp [madeCells, h]

/-- 'make([]Pair, n)'. -/
theorem make_pair {w : World} {ops : Array Oper} {rest : List Oper} {o : Oper} {a : Act} {Q : Exit → Act → World → Prop} (hgd : o.guard = none) {l c : Operand} (hop : o.op = Op.makeSlice 38 l c)
    {n : Nat} (hl : a.eval l = .int .i64 (n : Int)) (hc : a.eval c = .int .i64 (n : Int)) (hn : n ≤ 1048576)
    (hK : ∀ w', w'.ownsRow w.heap.size 67 2 (.slice (some ⟨w.heap.size, 0, none⟩) n n) n ((List.replicate (2 * n) (0 : Int)).map (Value.int .i64)) → Below w.heap.size w w' →
      wpList Tryd.prog ops Q rest (a.put o.dst (.slice (some ⟨w.heap.size, 0, none⟩) n n)) w') :
    wpList Tryd.prog ops Q (o :: rest) a w := by
  obtain ⟨i0, hi, hz0, hz1, hz2⟩ := info_parts info_pair
  refine wpList_make_full w hgd l c 38 hop w.heap.size 67 i0 (.agg #[.int .i64 0, .int .i64 0]) 2 Tryd.underlying38 hi hz0 hz1 .i64 .i64 _ _ n hl hc rfl rfl (by rw [hz2]; omega) (by unfold maxLen; omega) (Nat.le_refl _) ?_
  intro w' hown hg
  rw [show (Value.agg #[Value.int .i64 0, Value.int .i64 0]).cells = #[Value.int .i64 0, Value.int .i64 0] by kernel_rfl, made_two, Nat.mul_comm] at hown
  exact hK w' hown ((Below.refl _ w).grown hg (Nat.le_refl _) (fun k hk => by cases hk))


set_option maxRecDepth 100000 in
set_option maxHeartbeats 400000 in
theorem eqPairs_yes (a1 a2 : Option Addr) (n c1 c2 : Nat) (ps : List Int) (w : World) (hx : SlI w w.heap.size a1 ps) (hy : SlI w w.heap.size a2 ps) (hp : ps.length = 2 * n) (hl : n ≤ 1048576) :
    Calls Tryd.prog 22 #[.slice a1 n c1, .slice a2 n c2] w fun e w' => e = .returned (.bool true) ∧ Below w.heap.size w w' := by
  by_cases h0 : n = 0
  · subst h0
    clear hx hy
    go_enter Tryd.func22, Tryd.ntmps22
    go_wp2
    refine wp_loop_rounds 1 ?_; rw [rounds_succ]
    go_wp2
    go_ret
    exact ⟨rfl, Below.refl _ _⟩
  · obtain ⟨b, off, hb, rfl, hc⟩ : ∃ b off, b < w.heap.size ∧ a1 = some ⟨b, off, none⟩ ∧ ∀ i, i < ps.length → w.cell? ⟨b, off + i, none⟩ = some (.int .i64 (ps[i]?.getD 0)) := by
      rcases hx with rfl | h
      · simp at hp; omega
      · exact h
    obtain ⟨b2, off2, hb2, rfl, hc2⟩ : ∃ b off, b < w.heap.size ∧ a2 = some ⟨b, off, none⟩ ∧ ∀ i, i < ps.length → w.cell? ⟨b, off + i, none⟩ = some (.int .i64 (ps[i]?.getD 0)) := by
      rcases hy with rfl | h
      · simp at hp; omega
      · exact h
    have Hc := hid hc
    have Hc2 := hid hc2
    have hne : ((n : Int) != (n : Int)) = false := by simp
    clear hc hc2 hx hy h0
    go_enter Tryd.func22, Tryd.ntmps22
    go_wp2
    go_loopw [5] (fun i wr => ∃ k : Nat, k ≤ n ∧ i = .int .i64 k ∧ Below w.heap.size w wr) (fun i _ => n - (intOf i).toNat)
    case atStart => exact ⟨0, Nat.zero_le _, rfl, Below.refl _ _⟩
    case round =>
      obtain ⟨k, hk, rfl, hB⟩ := hrel
      by_cases hlt : k < n
      · obtain ⟨x, hx⟩ : ∃ x, x = ps[k * 2]?.getD 0 := ⟨_, rfl⟩
        obtain ⟨y, hy⟩ : ∃ y, y = ps[k * 2 + 1]?.getD 0 := ⟨_, rfl⟩
        have hck : wr.cell? ⟨b, off + k * 2, none⟩ = some (.int .i64 x) := by rw [hx]; exact (hB.cell (p := ⟨b, off + k * 2, none⟩) hb).trans (Hc.out (k * 2) (by omega))
        have hck2 : wr.cell? ⟨b, off + k * 2 + 1, none⟩ = some (.int .i64 y) := by rw [hy]; exact (hB.cell (p := ⟨b, off + (k * 2 + 1), none⟩) hb).trans (Hc.out (k * 2 + 1) (by omega))
        have hdk : wr.cell? ⟨b2, off2 + k * 2, none⟩ = some (.int .i64 x) := by rw [hx]; exact (hB.cell (p := ⟨b2, off2 + k * 2, none⟩) hb2).trans (Hc2.out (k * 2) (by omega))
        have hdk2 : wr.cell? ⟨b2, off2 + k * 2 + 1, none⟩ = some (.int .i64 y) := by rw [hy]; exact (hB.cell (p := ⟨b2, off2 + (k * 2 + 1), none⟩) hb2).trans (Hc2.out (k * 2 + 1) (by omega))
        have hi0 : (0 : Int) ≤ (k : Int) := by omega
        have hi1 : (k : Int) < (n : Int) := by omega
        have HB := hid hB
        clear hx hy hB
        go_wp2_with fail
        go_region_with (go_at_call 44; refine (eqPair_any x y x y _).mono ?_; rintro e w2 ⟨rfl, hB2⟩; rw [decide_eq_true (And.intro rfl rfl)])
        all_goals
          have HB2 := hid (HB.out.trans (Below.mono (w := wr) ⟨hB2.os, hB2.tape, hB2.output, hB2.size, hB2.block⟩ HB.out.size))
          clear hB2
          go_wp2_with fail
          go_roundw
          case rel => exact ⟨k + 1, by omega, by go_num, HB2.out⟩
          case measure => simp [intOf]; omega
      · go_wp2
        go_ret
        exact ⟨rfl, hB⟩

set_option maxRecDepth 100000 in
set_option maxHeartbeats 1000000 in
theorem markPairs (base : Nat) (a : Option Addr) (n cap : Nat) (ps : List Int) (k : Int) (w : World) (hown : w.ownsRow base 67 2 (.slice a n cap) n (ps.map (Value.int .i64))) (hl : n ≤ 1048576) (h0 : 0 ≤ k) (h1 : k ≤ 1099511627776) :
    Calls Tryd.prog 23 #[.slice a n cap, .int .i64 k] w fun e w' => e = .returned (.int .i64 (k + 2 * n)) ∧
      w'.ownsRow base 67 2 (.slice a n cap) n ((count k (n * 2)).map (Value.int .i64)) ∧ w.grownBy w' (Value.ownBlock (.slice a n cap)) := by
  have hp : ps.length = n * 2 := by simpa using hown.1
  rcases hown.2 with ⟨hv, hn⟩ | ⟨g, cap', cur, hv, hb, hg, rest⟩
  · subst hn
    obtain rfl : ps = [] := List.eq_nil_of_length_eq_zero (by omega)
    have Hown := hid hown
    clear hown hv
    go_enter Tryd.func23, Tryd.ntmps23
    go_wp2
    refine wp_loop_rounds 1 ?_; rw [rounds_succ]
    go_wp2
    go_ret
    exact ⟨ret_int (by simp), Hown.out, ⟨rfl, rfl, rfl, Nat.le_refl _, fun _ _ _ => rfl⟩⟩
  · cases hv
    clear hb hg rest
    go_enter Tryd.func23, Tryd.ntmps23
    go_wp2
    go_loopw [1, 5] (fun m i wr => ∃ j : Nat, j ≤ n ∧ i = .int .i64 j ∧ m = .int .i64 (k + 2 * j) ∧ wr.ownsRow base 67 2 (.slice (some ⟨g, 0, none⟩) n cap) n ((count k (j * 2) ++ ps.drop (j * 2)).map (Value.int .i64)) ∧ w.grownBy wr (some g)) (fun _ i _ => n - (intOf i).toNat)
    case atStart => exact ⟨0, Nat.zero_le _, rfl, by simp, by simpa [count] using hown, ⟨rfl, rfl, rfl, Nat.le_refl _, fun _ _ _ => rfl⟩⟩
    case round =>
      obtain ⟨j, hj, rfl, rfl, hown, hgr⟩ := hrel
      by_cases hlt : j < n
      · have hcg : ∃ u, wr.cell? ⟨g, j * 2, none⟩ = some (.int .i64 u) := by
          rw [hown.cellAt (j * 2) (by omega)]
          refine ⟨ps[j * 2]?.getD 0, ?_⟩
          rw [List.getElem?_map, List.getElem?_append_right (by rw [count_len]; exact Nat.le_refl _), count_len, Nat.sub_self]
          simp [show j * 2 < ps.length by omega]
        have hcg2 : ∃ u, wr.cell? ⟨g, j * 2 + 1, none⟩ = some (.int .i64 u) := by
          rw [hown.cellAt (j * 2 + 1) (by omega)]
          refine ⟨ps[j * 2 + 1]?.getD 0, ?_⟩
          rw [List.getElem?_map, List.getElem?_append_right (by rw [count_len]; omega), count_len]
          simp [show j * 2 + 1 < ps.length by omega]
        obtain ⟨u, hcu⟩ := hcg
        obtain ⟨u2, hcu2⟩ := hcg2
        have hfg := hown.frozenAt (j * 2)
        have hfg2 := hown.frozenAt (j * 2 + 1)
        have hst := hown.stored (j * 2) (.int .i64 (k + 2 * j))
        have hst2 := hst.1.stored (j * 2 + 1) (.int .i64 (k + 2 * j + 1))
        have hm1 := mark_step (k := k) (xs := ps) (j := j * 2) (by omega)
        have hm2 := mark_step (k := k) (xs := ps) (j := j * 2 + 1) (by omega)
        rw [show k + ((j * 2 : Nat) : Int) = k + 2 * j by omega] at hm1
        rw [show k + ((j * 2 + 1 : Nat) : Int) = k + 2 * j + 1 by omega] at hm2
        rw [hm1, hm2] at hst2
        have Hst := hid hst2
        have Hst1 := hid hst.2
        have Hgr := hid hgr
        have hi0 : (0 : Int) ≤ (j : Int) := by omega
        have hi1 : (j : Int) < (n : Int) := by omega
        clear hst hst2 hown hgr hm1 hm2
        go_wp2
        refine wp_loop_rounds 3 ?_; rw [rounds_succ]
        go_wp2
        rw [rounds_succ]
        go_wp2
        rw [rounds_succ]
        go_wp2
        go_roundw
        case rel =>
          exact ⟨j + 1, by omega, by go_num, by go_num, by rw [show (j + 1) * 2 = j * 2 + 1 + 1 by omega]; exact Hst.out.1, (Hgr.out.trans Hst1.out).trans Hst.out.2⟩
        case measure => simp [intOf]; omega
      · go_wp2
        go_ret
        obtain rfl : j = n := by omega
        exact ⟨rfl, by simpa [hp, List.drop_of_length_le] using hown, hgr⟩

set_option maxRecDepth 100000 in
set_option maxHeartbeats 1000000 in
theorem heldPairs (a : Option Addr) (cap : Nat) (n : Nat) (ps : List Int) (k : Int) (w : World) (hps : ps = count k (n * 2)) (hx : SlI w w.heap.size a ps) (hl : n ≤ 1048576) (h0 : 0 ≤ k) (h1 : k ≤ 1099511627776) :
    Calls Tryd.prog 24 #[.slice a n cap, .int .i64 k] w fun e w' => e = .returned (.int .i64 (k + 2 * n)) ∧ Below w.heap.size w w' := by
  have hlen : ps.length = n * 2 := by rw [hps, count_len]
  rcases hx with rfl | ⟨b, off, hb, rfl, hc⟩
  · obtain rfl : n = 0 := by simp at hlen; omega
    clear hps hlen
    go_enter Tryd.func24, Tryd.ntmps24
    go_wp2
    refine wp_loop_rounds 1 ?_; rw [rounds_succ]
    go_wp2
    go_ret
    exact ⟨ret_int (by simp), Below.refl _ _⟩
  · have Hc := hid hc
    have Hps := hid hps
    have Hlen := hid hlen
    clear hc hps hlen
    go_enter Tryd.func24, Tryd.ntmps24
    go_wp2
    go_loop [1, 5] (fun m i => ∃ j : Nat, j ≤ n ∧ i = .int .i64 j ∧ m = .int .i64 (k + 2 * j)) (fun _ i => n - (intOf i).toNat)
    case atStart => exact ⟨0, Nat.zero_le _, rfl, by simp⟩
    case round =>
      obtain ⟨j, hj, rfl, rfl⟩ := hrel
      by_cases hlt : j < n
      · have hck : w.cell? ⟨b, off + j * 2, none⟩ = some (.int .i64 (k + 2 * j)) := by
          have := Hc.out (j * 2) (by rw [Hlen.out]; omega)
          rw [Hps.out, count_get _ _ _ (by omega), show k + ((j * 2 : Nat) : Int) = k + 2 * j by omega] at this
          exact this
        have hck2 : w.cell? ⟨b, off + j * 2 + 1, none⟩ = some (.int .i64 (k + 2 * j + 1)) := by
          have := Hc.out (j * 2 + 1) (by rw [Hlen.out]; omega)
          rw [Hps.out, count_get _ _ _ (by omega), show k + ((j * 2 + 1 : Nat) : Int) = k + 2 * j + 1 by omega] at this
          exact this
        have hi0 : (0 : Int) ≤ (j : Int) := by omega
        have hi1 : (j : Int) < (n : Int) := by omega
        go_wp2
        refine wp_loop_rounds 3 ?_; rw [rounds_succ]
        go_wp2
        rw [rounds_succ]
        go_wp2
        rw [rounds_succ]
        go_wp2
        go_round
        case rel => exact ⟨j + 1, by omega, by go_num, by go_num⟩
        case measure => simp [intOf]; omega
      · go_wp2
        go_ret
        obtain rfl : j = n := by omega
        exact ⟨rfl, Below.refl _ _⟩

end Go.Proofs.YtppnahgiekjbnaaDoor

/-! Pairs compared. -/
namespace Go.Proofs.YtppnahgiekjbnaaDoor
open Go.RowKit

/-- A pair comes ahead of another one. -/
def lessP (x y x' y' : Int) : Bool := decide (x < x') || (decide (x = x') && decide (y < y'))

set_option maxRecDepth 100000 in
set_option maxHeartbeats 1000000 in
theorem less_any (x y x' y' : Int) (w : World) :
    Calls Tryd.prog 64 #[.agg #[.int .i64 x, .int .i64 y], .agg #[.int .i64 x', .int .i64 y']] w fun e w' => e = .returned (.bool (lessP x y x' y')) ∧ Below w.heap.size w w' := by
  have HB : Hid (Below w.heap.size w ((w.alloc (.cells #[.int .i64 x, .int .i64 y] 67)).alloc (.cells #[.int .i64 x', .int .i64 y'] 67))) := hid (((Below.refl _ w).alloc (Nat.le_refl _) _).alloc (by simp) _)
  by_cases h1 : x < x'
  · have hd : decide (x < x') = true := decide_eq_true h1
    have He : Hid (lessP x y x' y' = true) := hid (by unfold lessP; simp [h1])
    clear h1
    go_enter Tryd.func64, Tryd.ntmps64
    go_wp2
    go_ret
    exact ⟨ret_bool He.out.symm, HB.out⟩
  · have hd : decide (x < x') = false := decide_eq_false h1
    by_cases h2 : x = x'
    · have hd2 : (x == x') = true := by simp [h2]
      have He : Hid (lessP x y x' y' = decide (y < y')) := hid (by unfold lessP; simp [h2])
      clear h1 h2
      go_enter Tryd.func64, Tryd.ntmps64
      go_wp2
      go_ret
      exact ⟨ret_bool He.out.symm, HB.out⟩
    · have hd2 : (x == x') = false := by simp [h2]
      have He : Hid (lessP x y x' y' = false) := hid (by unfold lessP; simp [h1, h2])
      clear h1 h2
      go_enter Tryd.func64, Tryd.ntmps64
      go_wp2
      go_ret
      exact ⟨ret_bool He.out.symm, HB.out⟩

/-- -1, 0 or 1. -/
def cmpI (x y : Int) : Int := if x < y then -1 else if y < x then 1 else 0

set_option maxRecDepth 100000 in
set_option maxHeartbeats 1000000 in
theorem nan_any (x : Int) (w : World) : Calls Tryd.prog 103 #[.int .i64 x] w fun e w' => e = .returned (.bool false) ∧ w = w' := by
  have hne : (x != x) = false := by simp
  go_enter Tryd.func103, Tryd.ntmps103
  go_wp2
  go_ret
  exact ⟨rfl, rfl⟩

set_option maxRecDepth 100000 in
set_option maxHeartbeats 1000000 in
theorem cmp_any (x y : Int) (w : World) : Calls Tryd.prog 69 #[.int .i64 x, .int .i64 y] w fun e w' => e = .returned (.int .i64 (cmpI x y)) ∧ w = w' := by
  by_cases h1 : x < y
  · have hd : decide (x < y) = true := decide_eq_true h1
    have He : Hid (cmpI x y = -1) := hid (by unfold cmpI; simp [h1])
    clear h1
    go_enter Tryd.func69, Tryd.ntmps69
    go_wp2_with (go_at_call 103; refine (nan_any _ _).mono ?_; rintro e w' ⟨rfl, rfl⟩)
    go_ret
    exact ⟨ret_int He.out.symm, rfl⟩
  · have hd : decide (x < y) = false := decide_eq_false h1
    by_cases h2 : y < x
    · have hd2 : decide (y < x) = true := decide_eq_true h2
      have He : Hid (cmpI x y = 1) := hid (by unfold cmpI; simp [h1, h2])
      clear h1 h2
      go_enter Tryd.func69, Tryd.ntmps69
      go_wp2_with (go_at_call 103; refine (nan_any _ _).mono ?_; rintro e w' ⟨rfl, rfl⟩)
      go_ret
      exact ⟨ret_int He.out.symm, rfl⟩
    · have hd2 : decide (y < x) = false := decide_eq_false h2
      have He : Hid (cmpI x y = 0) := hid (by unfold cmpI; simp [h1, h2])
      clear h1 h2
      go_enter Tryd.func69, Tryd.ntmps69
      go_wp2_with (go_at_call 103; refine (nan_any _ _).mono ?_; rintro e w' ⟨rfl, rfl⟩)
      go_ret
      exact ⟨ret_int He.out.symm, rfl⟩

/-- The first of two that is not 0. -/
def orI (u v : Int) : Int := if u = 0 then v else u

theorem two_new (W : World) (H : Nat) (hH : W.heap.size = H) (u v : Value) (t : Nat) : (W.alloc (.cells #[u, v] t)).cell? ⟨H, 0, none⟩ = some u ∧ (W.alloc (.cells #[u, v] t)).cell? ⟨H, 1, none⟩ = some v := by
  subst hH
  constructor <;> simp [go_sem]

theorem two_new_d (W : World) (H : Nat) (hH : W.heap.size = H) (u v : Value) (t : Nat) : (W.alloc (.cells #[u, v] t)).drew.cell? ⟨H, 0, none⟩ = some u ∧ (W.alloc (.cells #[u, v] t)).drew.cell? ⟨H, 1, none⟩ = some v := two_new W H hH u v t

set_option maxRecDepth 100000 in
set_option maxHeartbeats 1000000 in
theorem or_any (u v : Int) (b : Nat) (w : World) (h0 : w.cell? ⟨b, 0, none⟩ = some (.int .i64 u)) (h1 : w.cell? ⟨b, 1, none⟩ = some (.int .i64 v)) :
    Calls Tryd.prog 68 #[.slice (some ⟨b, 0, none⟩) 2 2] w fun e w' => e = .returned (.int .i64 (orI u v)) ∧ w = w' := by
  by_cases hu : u = 0
  · have hd : (u != 0) = false := by simp [hu]
    by_cases hv : v = 0
    · have hd2 : (v != 0) = false := by simp [hv]
      have He : Hid (orI u v = 0) := hid (by unfold orI; rw [if_pos hu, hv])
      clear hu hv
      go_enter Tryd.func68, Tryd.ntmps68
      go_wp2
      refine wp_loop_rounds 3 ?_; rw [rounds_succ]
      go_wp2
      rw [rounds_succ]
      go_wp2
      rw [rounds_succ]
      go_wp2
      go_ret
      exact ⟨ret_int He.out.symm, rfl⟩
    · have hd2 : (v != 0) = true := by simp [hv]
      have He : Hid (orI u v = v) := hid (by unfold orI; rw [if_pos hu])
      clear hu hv
      go_enter Tryd.func68, Tryd.ntmps68
      go_wp2
      refine wp_loop_rounds 3 ?_; rw [rounds_succ]
      go_wp2
      rw [rounds_succ]
      go_wp2
      go_ret
      exact ⟨ret_int He.out.symm, rfl⟩
  · have hd : (u != 0) = true := by simp [hu]
    have He : Hid (orI u v = u) := hid (by unfold orI; rw [if_neg hu])
    clear hu
    go_enter Tryd.func68, Tryd.ntmps68
    go_wp2
    refine wp_loop_rounds 3 ?_; rw [rounds_succ]
    go_wp2
    go_ret
    exact ⟨ret_int He.out.symm, rfl⟩

/-- What comparePairs hands back. -/
def cmpP (x y x' y' : Int) : Int := orI (cmpI x x') (cmpI y y')

theorem cmpP_neg (x y x' y' : Int) : cmpP x y x' y' < 0 ↔ lessP x y x' y' = true := by
  unfold cmpP orI cmpI lessP
  simp only [Bool.or_eq_true, Bool.and_eq_true, decide_eq_true_eq]
  repeat' split
  all_goals omega

set_option maxRecDepth 100000 in
set_option maxHeartbeats 1000000 in
theorem cp_any (x y x' y' : Int) (w : World) :
    Calls Tryd.prog 43 #[.agg #[.int .i64 x, .int .i64 y], .agg #[.int .i64 x', .int .i64 y']] w fun e w' => e = .returned (.int .i64 (cmpP x y x' y')) ∧ Below w.heap.size w w' := by
  go_enter Tryd.func43, Tryd.ntmps43
  go_wp2
  have q0 : ((w.alloc (.cells #[.int .i64 x, .int .i64 y] 67)).alloc (.cells #[.int .i64 x', .int .i64 y'] 67)).cell? ⟨w.heap.size, 0, none⟩ = some (.int .i64 x) := by simp [go_sem]
  have q1 : ((w.alloc (.cells #[.int .i64 x, .int .i64 y] 67)).alloc (.cells #[.int .i64 x', .int .i64 y'] 67)).cell? ⟨w.heap.size, 1, none⟩ = some (.int .i64 y) := by simp [go_sem]
  have q2 : ((w.alloc (.cells #[.int .i64 x, .int .i64 y] 67)).alloc (.cells #[.int .i64 x', .int .i64 y'] 67)).cell? ⟨w.heap.size + 1, 0, none⟩ = some (.int .i64 x') := by simp [go_sem]
  have q3 : ((w.alloc (.cells #[.int .i64 x, .int .i64 y] 67)).alloc (.cells #[.int .i64 x', .int .i64 y'] 67)).cell? ⟨w.heap.size + 1, 1, none⟩ = some (.int .i64 y') := by simp [go_sem]
  have hsz : ((w.alloc (.cells #[.int .i64 x, .int .i64 y] 67)).alloc (.cells #[.int .i64 x', .int .i64 y'] 67)).heap.size = w.heap.size + 1 + 1 := by simp
  have HB : Hid (Below w.heap.size w ((w.alloc (.cells #[.int .i64 x, .int .i64 y] 67)).alloc (.cells #[.int .i64 x', .int .i64 y'] 67))) := hid (((Below.refl _ w).alloc (Nat.le_refl _) _).alloc (by simp) _)
  obtain ⟨W, hW⟩ : ∃ W, W = (w.alloc (.cells #[.int .i64 x, .int .i64 y] 67)).alloc (.cells #[.int .i64 x', .int .i64 y'] 67) := ⟨_, rfl⟩
  rw [← hW] at q0 q1 q2 q3 hsz HB ⊢
  clear hW
  go_region_held3 (fun w' => w'.cell? ⟨w.heap.size, 0, none⟩ = some (.int .i64 x) ∧ w'.cell? ⟨w.heap.size, 1, none⟩ = some (.int .i64 y) ∧ w'.cell? ⟨w.heap.size + 1, 0, none⟩ = some (.int .i64 x') ∧ w'.cell? ⟨w.heap.size + 1, 1, none⟩ = some (.int .i64 y')) (go_keep) (first
    | (go_at_call 69; refine (cmp_any _ _ _).mono ?_; rintro e w' ⟨rfl, rfl⟩)
    | (go_at_call 68; refine (or_any (cmpI x x') (cmpI y y') _ _ (two_new_d W _ hsz _ _ _).1 (two_new_d W _ hsz _ _ _).2).mono ?_; rintro e w' ⟨rfl, rfl⟩))
  all_goals
    go_wp2_with fail
    go_ret
    exact ⟨rfl, HB.out.trans (Below.mono (w := W) (((Below.refl _ W).alloc (Nat.le_refl _) _).drew) HB.out.size)⟩

end Go.Proofs.YtppnahgiekjbnaaDoor

/-! The model's test of a pair of faces. -/
namespace Go.Proofs.YtppnahgiekjbnaaDoor
open Go.RowKit Go.Sort

/-- Two faces are a pair. -/
def pairB (fs : List Int) (x y : Int) : Bool := decide (x ∈ fs) && decide (y ∈ fs) && decide (x.toNat &&& y.toNat = x.toNat) && decide (ones y.toNat = ones x.toNat + 1)

set_option maxRecDepth 100000 in
set_option maxHeartbeats 4000000 in
theorem pair_any (V : Int) (a : Option Addr) (cap : Nat) (fs : List Int) (x y : Int) (w : World) (hx : SlI w w.heap.size a fs) (hl : fs.length ≤ 1048576) (hf : ∀ x ∈ fs, 1 ≤ x ∧ x ≤ 63) :
    Calls Tryd.prog 92 #[.agg #[.int .i64 V, .slice a fs.length cap], .agg #[.int .i64 x, .int .i64 y]] w fun e w' => e = .returned (.bool (pairB fs x y)) ∧ Below w.heap.size w w' := by
  obtain ⟨W, hW⟩ : ∃ W, W = (w.alloc (.cells #[.int .i64 V, .slice a fs.length cap] 28)).alloc (.cells #[.int .i64 x, .int .i64 y] 67) := ⟨_, rfl⟩
  have HB : Hid (Below w.heap.size w W) := hid (by rw [hW]; exact ((Below.refl _ w).alloc (Nat.le_refl _) _).alloc (by simp) _)
  have q0 : W.heap[w.heap.size]? = some (.cells #[.int .i64 V, .slice a fs.length cap] 28 (0, 0)) := by rw [hW]; exact (Below.heap_alloc _ _ _ (by simp)).trans (heap_alloc_new _ _)
  have q1 : W.heap[w.heap.size + 1]? = some (.cells #[.int .i64 x, .int .i64 y] 67 (0, 0)) := by rw [hW]; exact new2 _ _ _
  have HW := hid hW
  have Hx := hid (hx.later HB.out HB.out.size)
  obtain ⟨k0, k1, _, _⟩ := two_of q0
  obtain ⟨p0, p1, _, _⟩ := two_of q1
  clear hW q0 q1 hx
  have Hf := hid hf
  clear hf
  have cX : ∀ d os, Calls Tryd.prog 39 #[.agg #[.int .i64 V, .slice a fs.length cap], .int .i64 x] (grow (redrawn W d) os) fun e w'' => e = .returned (.bool (decide (x ∈ fs))) ∧ ∃ p : Regrown, w'' = grow (redrawn W p.d) p.os := fun d os => Calls.regrown_of (has_any V x a cap fs _ (Hx.out.later (below_regrown W d os) (below_regrown W d os).size) hl)
  have cY : ∀ d os, Calls Tryd.prog 39 #[.agg #[.int .i64 V, .slice a fs.length cap], .int .i64 y] (grow (redrawn W d) os) fun e w'' => e = .returned (.bool (decide (y ∈ fs))) ∧ ∃ p : Regrown, w'' = grow (redrawn W p.d) p.os := fun d os => Calls.regrown_of (has_any V y a cap fs _ (Hx.out.later (below_regrown W d os) (below_regrown W d os).size) hl)
  have CX := hid cX
  have CY := hid cY
  have r0 := cell_regrown k0
  have r1 := cell_regrown k1
  have r2 := cell_regrown p0
  have r3 := cell_regrown p1
  clear cX cY k0 k1 p0 p1 Hx
  by_cases hx1 : x ∈ fs
  · rw [decide_eq_true hx1] at CX
    by_cases hy1 : y ∈ fs
    · rw [decide_eq_true hy1] at CY
      have hxr := Hf.out x hx1
      have hyr := Hf.out y hy1
      have He : Hid (pairB fs x y = (decide (x.toNat &&& y.toNat = x.toNat) && decide (ones y.toNat = ones x.toNat + 1))) := hid (by unfold pairB; rw [decide_eq_true hx1, decide_eq_true hy1]; simp)
      clear hx1 hy1
      obtain ⟨x, rfl⟩ : ∃ n : Nat, x = n := ⟨x.toNat, by omega⟩
      obtain ⟨y, rfl⟩ : ∃ n : Nat, y = n := ⟨y.toNat, by omega⟩
      have hx64 : x < 64 := by omega
      have hy64 : y < 64 := by omega
      simp only [Int.toNat_natCast] at He
      have hbits : bits BinOp.and IntKind.i64 (x : Int) (y : Int) = ((x &&& y : Nat) : Int) := (bits_nat .i64 6 (by decide) (fun n h0 h1 => by rw [IntKind.wrap_i64]; omega) x y (by omega) (by omega)).1
      have ho := ones_le x
      have ho' := ones_le y
      have cO : ∀ (f : Nat), f < 64 → ∀ d os, Calls Tryd.prog 49 #[.int .i64 (f : Int)] (grow (redrawn W d) os) fun e w'' => e = .returned (.int .i64 (ones f : Int)) ∧ ∃ p : Regrown, w'' = grow (redrawn W p.d) p.os := fun f hf d os => Calls.regrown_of ((ones_any f _ hf).mono fun _ _ ⟨he, hw⟩ => ⟨he, by rw [← hw]; exact Below.refl _ _⟩)
      have COx := hid (cO x hx64)
      have COy := hid (cO y hy64)
      have hw : IntKind.i64.wrap (((ones x : Nat) : Int) + 1) = ((ones x : Nat) : Int) + 1 := by rw [IntKind.wrap_i64]; omega
      clear cO
      by_cases hb : x &&& y = x
      · have hd : (((x &&& y : Nat) : Int) == (x : Int)) = true := by simp; omega
        have He2 : Hid (pairB fs x y = decide (ones y = ones x + 1)) := hid (by rw [He.out, decide_eq_true hb]; simp)
        have Ho : Hid ((((ones y : Nat) : Int) == ((ones x : Nat) : Int) + 1) = decide (ones y = ones x + 1)) := hid (by rw [Bool.eq_iff_iff]; simp; omega)
        clear hb
        go_enter Tryd.func92, Tryd.ntmps92
        go_wp2_with fail
        rw [← HW.out]
        refine wp_region_quiet_below (by kernel_rfl) (by kernel_rfl) ?_
        iterate 3 (with_reducible refine wpQuiet_step (fun K hK => ?_); have HK := hid hK; clear hK; go_simp; with_reducible refine HK.out _ ?_; clear HK K)
        (with_reducible refine wpQuiet_step (fun K hK => ?_); have HK := hid hK; clear hK; go_simp; apply Exists.intro; with_reducible refine ⟨fun _ => ?_, HK.out _ ?_⟩; exact CX.out _ _; clear HK K)
        iterate 4 (with_reducible refine wpQuiet_step (fun K hK => ?_); have HK := hid hK; clear hK; go_simp; with_reducible refine HK.out _ ?_; clear HK K)
        (with_reducible refine wpQuiet_step (fun K hK => ?_); have HK := hid hK; clear hK; go_simp; apply Exists.intro; with_reducible refine ⟨fun _ => ?_, HK.out _ ?_⟩; exact CY.out _ _; clear HK K)
        iterate 14 (with_reducible refine wpQuiet_step (fun K hK => ?_); have HK := hid hK; clear hK; go_simp; with_reducible refine HK.out _ ?_; clear HK K)
        (with_reducible refine wpQuiet_step (fun K hK => ?_); have HK := hid hK; clear hK; go_simp; apply Exists.intro; with_reducible refine ⟨fun _ => ?_, HK.out _ ?_⟩; exact COy.out _ _; clear HK K)
        iterate 2 (with_reducible refine wpQuiet_step (fun K hK => ?_); have HK := hid hK; clear hK; go_simp; with_reducible refine HK.out _ ?_; clear HK K)
        (with_reducible refine wpQuiet_step (fun K hK => ?_); have HK := hid hK; clear hK; go_simp; apply Exists.intro; with_reducible refine ⟨fun _ => ?_, HK.out _ ?_⟩; exact COx.out _ _; clear HK K)
        iterate 4 (with_reducible refine wpQuiet_step (fun K hK => ?_); have HK := hid hK; clear hK; go_simp; with_reducible refine HK.out _ ?_; clear HK K)
        with_reducible refine wpQuiet_nil ?_
        intro _ hw'
        obtain ⟨⟨dq, osq⟩, hw''⟩ := hw'
        subst hw''
        go_wp2_with fail
        go_ret
        exact ⟨ret_bool (by rw [He2.out]; exact Ho.out), HB.out.trans ((below_regrown W dq osq).mono HB.out.size)⟩
      · have hd : (((x &&& y : Nat) : Int) == (x : Int)) = false := by simp; omega
        have He2 : Hid (pairB fs x y = false) := hid (by rw [He.out, decide_eq_false hb]; simp)
        clear hb
        go_enter Tryd.func92, Tryd.ntmps92
        go_wp2_with fail
        rw [← HW.out]
        refine wp_region_quiet_below (by kernel_rfl) (by kernel_rfl) ?_
        iterate 3 (with_reducible refine wpQuiet_step (fun K hK => ?_); have HK := hid hK; clear hK; go_simp; with_reducible refine HK.out _ ?_; clear HK K)
        (with_reducible refine wpQuiet_step (fun K hK => ?_); have HK := hid hK; clear hK; go_simp; apply Exists.intro; with_reducible refine ⟨fun _ => ?_, HK.out _ ?_⟩; exact CX.out _ _; clear HK K)
        iterate 4 (with_reducible refine wpQuiet_step (fun K hK => ?_); have HK := hid hK; clear hK; go_simp; with_reducible refine HK.out _ ?_; clear HK K)
        (with_reducible refine wpQuiet_step (fun K hK => ?_); have HK := hid hK; clear hK; go_simp; apply Exists.intro; with_reducible refine ⟨fun _ => ?_, HK.out _ ?_⟩; exact CY.out _ _; clear HK K)
        iterate 22 (with_reducible refine wpQuiet_step (fun K hK => ?_); have HK := hid hK; clear hK; go_simp; with_reducible refine HK.out _ ?_; clear HK K)
        with_reducible refine wpQuiet_nil ?_
        intro _ hw'
        obtain ⟨⟨dq, osq⟩, hw''⟩ := hw'
        subst hw''
        go_wp2_with fail
        go_ret
        exact ⟨ret_bool He2.out.symm, HB.out.trans ((below_regrown W dq osq).mono HB.out.size)⟩
    · rw [decide_eq_false hy1] at CY
      have He : Hid (pairB fs x y = false) := hid (by unfold pairB; rw [decide_eq_false hy1]; simp)
      clear hx1 hy1
      go_enter Tryd.func92, Tryd.ntmps92
      go_wp2_with fail
      rw [← HW.out]
      refine wp_region_quiet_below (by kernel_rfl) (by kernel_rfl) ?_
      iterate 3 (with_reducible refine wpQuiet_step (fun K hK => ?_); have HK := hid hK; clear hK; go_simp; with_reducible refine HK.out _ ?_; clear HK K)
      (with_reducible refine wpQuiet_step (fun K hK => ?_); have HK := hid hK; clear hK; go_simp; apply Exists.intro; with_reducible refine ⟨fun _ => ?_, HK.out _ ?_⟩; exact CX.out _ _; clear HK K)
      iterate 4 (with_reducible refine wpQuiet_step (fun K hK => ?_); have HK := hid hK; clear hK; go_simp; with_reducible refine HK.out _ ?_; clear HK K)
      (with_reducible refine wpQuiet_step (fun K hK => ?_); have HK := hid hK; clear hK; go_simp; apply Exists.intro; with_reducible refine ⟨fun _ => ?_, HK.out _ ?_⟩; exact CY.out _ _; clear HK K)
      iterate 22 (with_reducible refine wpQuiet_step (fun K hK => ?_); have HK := hid hK; clear hK; go_simp; with_reducible refine HK.out _ ?_; clear HK K)
      with_reducible refine wpQuiet_nil ?_
      intro _ hw'
      obtain ⟨⟨dq, osq⟩, hw''⟩ := hw'
      subst hw''
      go_wp2_with fail
      go_ret
      exact ⟨ret_bool He.out.symm, HB.out.trans ((below_regrown W dq osq).mono HB.out.size)⟩
  · rw [decide_eq_false hx1] at CX
    have He : Hid (pairB fs x y = false) := hid (by unfold pairB; rw [decide_eq_false hx1]; simp)
    clear hx1
    go_enter Tryd.func92, Tryd.ntmps92
    go_wp2_with fail
    rw [← HW.out]
    refine wp_region_quiet_below (by kernel_rfl) (by kernel_rfl) ?_
    iterate 3 (with_reducible refine wpQuiet_step (fun K hK => ?_); have HK := hid hK; clear hK; go_simp; with_reducible refine HK.out _ ?_; clear HK K)
    (with_reducible refine wpQuiet_step (fun K hK => ?_); have HK := hid hK; clear hK; go_simp; apply Exists.intro; with_reducible refine ⟨fun _ => ?_, HK.out _ ?_⟩; exact CX.out _ _; clear HK K)
    iterate 27 (with_reducible refine wpQuiet_step (fun K hK => ?_); have HK := hid hK; clear hK; go_simp; with_reducible refine HK.out _ ?_; clear HK K)
    with_reducible refine wpQuiet_nil ?_
    intro _ hw'
    obtain ⟨⟨dq, osq⟩, hw''⟩ := hw'
    subst hw''
    go_wp2_with fail
    go_ret
    exact ⟨ret_bool He.out.symm, HB.out.trans ((below_regrown W dq osq).mono HB.out.size)⟩

end Go.Proofs.YtppnahgiekjbnaaDoor

/-! slices.IsSortedFunc on a list of pairs. -/
namespace Go.Proofs.YtppnahgiekjbnaaDoor
open Go.RowKit

/-- The number at a place. -/
def at0 (ps : List Int) (i : Nat) : Int := ps[i]?.getD 0

/-- No pair comes ahead of the one before it, from place k on. -/
def NoDrop (ps : List Int) (n k : Nat) : Prop := ∀ j, k ≤ j → 1 ≤ j → j < n → lessP (at0 ps (j * 2)) (at0 ps (j * 2 + 1)) (at0 ps ((j - 1) * 2)) (at0 ps ((j - 1) * 2 + 1)) = false

noncomputable def noDropB (ps : List Int) (n : Nat) : Bool := @decide (NoDrop ps n 1) (Classical.propDecidable _)
theorem noDropB_true {ps : List Int} {n : Nat} (h : NoDrop ps n 1) : noDropB ps n = true := by unfold noDropB; exact @decide_eq_true _ (Classical.propDecidable _) h
theorem noDropB_false {ps : List Int} {n : Nat} (h : ¬ NoDrop ps n 1) : noDropB ps n = false := by unfold noDropB; exact @decide_eq_false _ (Classical.propDecidable _) h


end Go.Proofs.YtppnahgiekjbnaaDoor

/-! The model's test of a pairing. -/
namespace Go.Proofs.YtppnahgiekjbnaaDoor
open Go.RowKit Go.Sort

/-- Two pairs have a face in common. -/
def clashB (x y x' y' : Int) : Bool := decide (x = x') || decide (x = y') || decide (y = x') || decide (y = y')

/-- The first k pairs are pairs, in order, and the pair i has no face of an earlier one. -/
def OkTo (fs ps : List Int) (k : Nat) : Prop := ∀ i, i < k → pairB fs (at0 ps (i * 2)) (at0 ps (i * 2 + 1)) = true ∧ (1 ≤ i → lessP (at0 ps ((i - 1) * 2)) (at0 ps ((i - 1) * 2 + 1)) (at0 ps (i * 2)) (at0 ps (i * 2 + 1)) = true) ∧ ∀ j, j < i → clashB (at0 ps (i * 2)) (at0 ps (i * 2 + 1)) (at0 ps (j * 2)) (at0 ps (j * 2 + 1)) = false

noncomputable def pairingB (fs ps : List Int) (n : Nat) : Bool := @decide (OkTo fs ps n) (Classical.propDecidable _)
theorem pairingB_true {fs ps : List Int} {n : Nat} (h : OkTo fs ps n) : pairingB fs ps n = true := by unfold pairingB; exact @decide_eq_true _ (Classical.propDecidable _) h
theorem pairingB_false {fs ps : List Int} {n : Nat} (h : ¬ OkTo fs ps n) : pairingB fs ps n = false := by unfold pairingB; exact @decide_eq_false _ (Classical.propDecidable _) h

set_option maxRecDepth 100000 in
set_option maxHeartbeats 8000000 in
theorem pis_some (V : Int) (a : Option Addr) (cap : Nat) (fs : List Int) (b off n c2 : Nat) (ps : List Int) (w : World) (hx : SlI w w.heap.size a fs) (hl : fs.length ≤ 1048576) (hf : ∀ x ∈ fs, 1 ≤ x ∧ x ≤ 63)
    (hb : b < w.heap.size) (hc : ∀ i, i < ps.length → w.cell? ⟨b, off + i, none⟩ = some (.int .i64 (ps[i]?.getD 0))) (hp : ps.length = 2 * n) (hn : n ≤ 1048576) :
    Calls Tryd.prog 65 #[.agg #[.int .i64 V, .slice a fs.length cap], .slice (some ⟨b, off, none⟩) n c2] w fun e w' => e = .returned (.bool (pairingB fs ps n)) ∧ Below w.heap.size w w' := by
  obtain ⟨W0, hW0⟩ : ∃ W0, W0 = w.alloc (.cells #[.int .i64 V, .slice a fs.length cap] 28) := ⟨_, rfl⟩
  have HW0 : Hid (Below w.heap.size w W0) := hid (by rw [hW0]; exact (Below.refl _ w).alloc (Nat.le_refl _) _)
  have hs0 : W0.heap.size = w.heap.size + 1 := by rw [hW0]; simp
  have q0 : W0.heap[w.heap.size]? = some (.cells #[.int .i64 V, .slice a fs.length cap] 28 (0, 0)) := by rw [hW0]; exact heap_alloc_new _ _
  obtain ⟨k0, k1, _, _⟩ := two_of q0
  have K0 := hid k0
  have K1 := hid k1
  have Hs0 := hid hs0
  have Hx := hid hx
  have Hc := hid hc
  have Hp := hid hp
  have Hf := hid hf
  have HW := hid hW0
  clear hc hp hf hx q0 k0 k1 hs0
  go_enter Tryd.func65, Tryd.ntmps65
  go_wp2_with fail
  rw [← HW.out]
  clear hW0
  go_loopw [5] (fun i wr => ∃ k : Nat, k ≤ n ∧ i = .int .i64 k ∧ Hid (OkTo fs ps k) ∧ Below (w.heap.size + 1) W0 wr) (fun i _ => n - (intOf i).toNat)
  case atStart => exact ⟨0, Nat.zero_le _, rfl, hid (fun i hi => by omega), Below.refl _ _⟩
  case round =>
    obtain ⟨k, hk, rfl, Hk, hB⟩ := hrel
    have HB := hid hB
    clear hB
    by_cases hlt : k < n
    · have hc0 : wr.cell? ⟨w.heap.size, 0, none⟩ = some (.int .i64 V) := (HB.out.cell (p := ⟨w.heap.size, 0, none⟩) (by simp)).trans K0.out
      have hc1 : wr.cell? ⟨w.heap.size, 1, none⟩ = some (.slice a fs.length cap) := (HB.out.cell (p := ⟨w.heap.size, 1, none⟩) (by simp)).trans K1.out
      have HBw : Hid (Below w.heap.size w wr) := hid (HW0.out.trans (HB.out.mono (Nat.le_succ _)))
      have hc2 : wr.cell? ⟨b, off + k * 2, none⟩ = some (.int .i64 (at0 ps (k * 2))) := (HBw.out.cell (p := ⟨b, off + k * 2, none⟩) hb).trans (Hc.out _ (by have := Hp.out; omega))
      have hc3 : wr.cell? ⟨b, off + k * 2 + 1, none⟩ = some (.int .i64 (at0 ps (k * 2 + 1))) := (HBw.out.cell (p := ⟨b, off + (k * 2 + 1), none⟩) hb).trans (Hc.out _ (by have := Hp.out; omega))
      obtain ⟨x, hx⟩ : ∃ x, x = at0 ps (k * 2) := ⟨_, rfl⟩
      obtain ⟨y, hy⟩ : ∃ y, y = at0 ps (k * 2 + 1) := ⟨_, rfl⟩
      rw [← hx] at hc2
      rw [← hy] at hc3
      have HX := hid hx
      have HY := hid hy
      clear hx hy
      have hi0 : (0 : Int) ≤ (k : Int) := by omega
      have hi1 : (k : Int) < (n : Int) := by omega
      have r0 := cell_regrown hc0
      have r1 := cell_regrown hc1
      have r2 := cell_regrown hc2
      have r3 := cell_regrown hc3
      have cP : ∀ d os, Calls Tryd.prog 92 #[.agg #[.int .i64 V, .slice a fs.length cap], .agg #[.int .i64 x, .int .i64 y]] (grow (redrawn wr d) os) fun e w'' => e = .returned (.bool (pairB fs x y)) ∧ ∃ p : Regrown, w'' = grow (redrawn wr p.d) p.os := fun d os => Calls.regrown_of (pair_any V a cap fs x y _ ((Hx.out.later HBw.out HBw.out.size).later (below_regrown wr d os) (below_regrown wr d os).size) hl Hf.out)
      have CP := hid cP
      clear cP
      by_cases hq : pairB fs x y = true
      · rw [hq] at CP
        have Hq := hid hq
        clear hq hc0 hc1 hc2 hc3
        by_cases hk0 : 0 < k
        rotate_left
        · have hd : decide (0 < k) = false := decide_eq_false hk0
          have Hk0 := hid hk0
          clear hk0
          go_wp2_with fail
          refine wp_region_quiet_below (by kernel_rfl) (by kernel_rfl) ?_
          iterate 5 (with_reducible refine wpQuiet_step (fun K hK => ?_); have HK := hid hK; clear hK; go_simp; (first | with_reducible refine HK.out _ ?_ | (rw [if_neg (by decide)]; with_reducible refine HK.out _ ?_)); clear HK K)
          (with_reducible refine wpQuiet_step (fun K hK => ?_); have HK := hid hK; clear hK; go_simp; apply Exists.intro; with_reducible refine ⟨fun _ => ?_, HK.out _ ?_⟩; exact CP.out _ _; clear HK K)
          iterate 18 (with_reducible refine wpQuiet_step (fun K hK => ?_); have HK := hid hK; clear hK; go_simp; (first | with_reducible refine HK.out _ ?_ | (rw [if_neg (by decide)]; with_reducible refine HK.out _ ?_)); clear HK K)
          with_reducible refine wpQuiet_nil ?_
          intro _ hw'
          obtain ⟨⟨dq, osq⟩, hw''⟩ := hw'
          subst hw''
          go_wp2_with fail
          have HB' : Hid (Below (w.heap.size + 1) W0 (grow (redrawn wr dq) osq)) := hid (HB.out.trans ((below_regrown wr dq osq).mono (by rw [← Hs0.out]; exact HB.out.size)))
          refine wp_loop_rounds 1 ?_; rw [rounds_succ]
          go_wp2_with fail
          go_roundw
          case rel =>
            have hk0 := Hk0.out
            refine ⟨k + 1, by omega, by go_num, fun i hi => ?_, HB'.out⟩
            obtain rfl : i = k := by omega
            exact ⟨by rw [← HX.out, ← HY.out]; exact Hq.out, fun h => by omega, fun j hj => by omega⟩
          case measure => simp [intOf]; omega
        · obtain ⟨m, rfl⟩ : ∃ m : Nat, k = m + 1 := ⟨k - 1, by omega⟩
          clear hk0
          have hd2 : wr.cell? ⟨b, off + m * 2, none⟩ = some (.int .i64 (at0 ps (m * 2))) := (HBw.out.cell (p := ⟨b, off + m * 2, none⟩) hb).trans (Hc.out _ (by have := Hp.out; omega))
          have hd3 : wr.cell? ⟨b, off + m * 2 + 1, none⟩ = some (.int .i64 (at0 ps (m * 2 + 1))) := (HBw.out.cell (p := ⟨b, off + (m * 2 + 1), none⟩) hb).trans (Hc.out _ (by have := Hp.out; omega))
          obtain ⟨x', hx'⟩ : ∃ x, x = at0 ps (m * 2) := ⟨_, rfl⟩
          obtain ⟨y', hy'⟩ : ∃ y, y = at0 ps (m * 2 + 1) := ⟨_, rfl⟩
          rw [← hx'] at hd2
          rw [← hy'] at hd3
          have HX' := hid hx'
          have HY' := hid hy'
          clear hx' hy'
          have s2 := cell_regrown hd2
          have s3 := cell_regrown hd3
          clear hd2 hd3
          have hi2 : (0 : Int) ≤ (m : Int) := by omega
          have hi3 : (m : Int) < (n : Int) := by omega
          have hw1 : IntKind.i64.wrap (m : Int) = m := by rw [IntKind.wrap_i64]; omega
          have hw2 : IntKind.i64.wrap ((m : Int) + 1 - 1) = m := by rw [show (m : Int) + 1 - 1 = m by omega]; exact hw1
          have hw3 : wrap64 (m : Int) = m := IntWalk.wrap64_in _ ⟨by omega, by omega⟩
          have hj0 : (0 : Int) ≤ (m : Int) + 1 := by omega
          have hj1 : (m : Int) + 1 < (n : Int) := by omega
          have hgt : (0 : Int) < (m : Int) + 1 := by omega
          have CL : Hid (∀ d os, Calls Tryd.prog 64 #[.agg #[.int .i64 x', .int .i64 y'], .agg #[.int .i64 x, .int .i64 y]] (grow (redrawn wr d) os) fun e w'' => e = .returned (.bool (lessP x' y' x y)) ∧ ∃ p : Regrown, w'' = grow (redrawn wr p.d) p.os) := hid (fun d os => Calls.regrown_of (less_any x' y' x y _))
          by_cases hql : lessP x' y' x y = true
          · rw [hql] at CL
            have Hql := hid hql
            clear hql
            go_wp2_with fail
            refine wp_region_quiet_below (by kernel_rfl) (by kernel_rfl) ?_
            iterate 5 (with_reducible refine wpQuiet_step (fun K hK => ?_); have HK := hid hK; clear hK; go_simp; (first | with_reducible refine HK.out _ ?_ | (rw [if_neg (by decide)]; with_reducible refine HK.out _ ?_)); clear HK K)
            (with_reducible refine wpQuiet_step (fun K hK => ?_); have HK := hid hK; clear hK; go_simp; apply Exists.intro; with_reducible refine ⟨fun _ => ?_, HK.out _ ?_⟩; exact CP.out _ _; clear HK K)
            iterate 14 (with_reducible refine wpQuiet_step (fun K hK => ?_); have HK := hid hK; clear hK; go_simp; (first | with_reducible refine HK.out _ ?_ | (rw [if_neg (by decide)]; with_reducible refine HK.out _ ?_)); clear HK K)
            (with_reducible refine wpQuiet_step (fun K hK => ?_); have HK := hid hK; clear hK; go_simp; apply Exists.intro; with_reducible refine ⟨fun _ => ?_, HK.out _ ?_⟩; exact CL.out _ _; clear HK K)
            iterate 3 (with_reducible refine wpQuiet_step (fun K hK => ?_); have HK := hid hK; clear hK; go_simp; (first | with_reducible refine HK.out _ ?_ | (rw [if_neg (by decide)]; with_reducible refine HK.out _ ?_)); clear HK K)
            with_reducible refine wpQuiet_nil ?_
            intro _ hw'
            obtain ⟨⟨dq, osq⟩, hw''⟩ := hw'
            subst hw''
            go_wp2_with fail
            have HB' : Hid (Below (w.heap.size + 1) W0 (grow (redrawn wr dq) osq)) := hid (HB.out.trans ((below_regrown wr dq osq).mono (by rw [← Hs0.out]; exact HB.out.size)))
            clear HB r0 r1 r2 r3 s2 s3 CP CL HBw
            go_loopw [6] (fun j wx => ∃ i : Nat, i ≤ m + 1 ∧ j = .int .i64 i ∧ Hid (∀ t, t < i → clashB x y (at0 ps (t * 2)) (at0 ps (t * 2 + 1)) = false) ∧ Below (w.heap.size + 1) W0 wx) (fun j _ => m + 1 - (intOf j).toNat)
            case atStart => exact ⟨0, Nat.zero_le _, rfl, hid (fun t ht => by omega), HB'.out⟩
            case round =>
              obtain ⟨i, hi, rfl, Hcl, hBx⟩ := hrel
              have HBx := hid hBx
              clear hBx HB'
              by_cases hlt2 : i < m + 1
              · have HBv : Hid (Below w.heap.size w wr) := hid (HW0.out.trans (HBx.out.mono (Nat.le_succ _)))
                have hc2 : wr.cell? ⟨b, off + (m + 1) * 2, none⟩ = some (.int .i64 x) := ((HBv.out.cell (p := ⟨b, off + (m + 1) * 2, none⟩) hb).trans (Hc.out _ (by have := Hp.out; omega))).trans (by rw [HX.out]; rfl)
                have hc3 : wr.cell? ⟨b, off + (m + 1) * 2 + 1, none⟩ = some (.int .i64 y) := ((HBv.out.cell (p := ⟨b, off + ((m + 1) * 2 + 1), none⟩) hb).trans (Hc.out _ (by have := Hp.out; omega))).trans (by rw [HY.out]; rfl)
                have hd2 : wr.cell? ⟨b, off + i * 2, none⟩ = some (.int .i64 (at0 ps (i * 2))) := (HBv.out.cell (p := ⟨b, off + i * 2, none⟩) hb).trans (Hc.out _ (by have := Hp.out; omega))
                have hd3 : wr.cell? ⟨b, off + i * 2 + 1, none⟩ = some (.int .i64 (at0 ps (i * 2 + 1))) := (HBv.out.cell (p := ⟨b, off + (i * 2 + 1), none⟩) hb).trans (Hc.out _ (by have := Hp.out; omega))
                obtain ⟨u, hu⟩ : ∃ u, u = at0 ps (i * 2) := ⟨_, rfl⟩
                obtain ⟨v, hv⟩ : ∃ v, v = at0 ps (i * 2 + 1) := ⟨_, rfl⟩
                rw [← hu] at hd2
                rw [← hv] at hd3
                have HU := hid hu
                have HV := hid hv
                clear hu hv
                have hi4 : (0 : Int) ≤ (i : Int) := by omega
                have hi5 : (i : Int) < (n : Int) := by omega
                have hi6 : (i : Int) < (m : Int) + 1 := by omega
                have Hbad : Hid (clashB x y u v = true → pairingB fs ps n = false) := hid (fun h => pairingB_false (fun ho => by have := (ho (m + 1) hlt).2.2 i hlt2; rw [← HX.out, ← HY.out, ← HU.out, ← HV.out, h] at this; cases this))
                by_cases h0 : x = u
                · have g0 : (x == u) = true := by simp [h0]
                  have He : Hid (pairingB fs ps n = false) := hid (Hbad.out (by unfold clashB; simp [h0]))
                  clear h0
                  go_wp2_with fail
                  refine wp_region_quiet_lit (by kernel_rfl) (by kernel_rfl) ?_
                  iterate 50 (with_reducible refine wpQuiet_step (fun K hK => ?_); have HK := hid hK; clear hK; go_simp; (first | with_reducible refine HK.out _ ?_ | (rw [if_neg (by decide)]; with_reducible refine HK.out _ ?_)); clear HK K)
                  with_reducible refine wpQuiet_nil ?_
                  intro _ hw'
                  obtain ⟨nq, hw''⟩ := hw'
                  subst hw''
                  go_wp2_with fail
                  go_ret
                  exact ⟨ret_bool He.out.symm, HBv.out.trans ⟨rfl, rfl, rfl, Nat.le_refl _, fun _ _ => rfl⟩⟩
                · have g0 : (x == u) = false := by simp [h0]
                  by_cases h1 : x = v
                  · have g1 : (x == v) = true := by simp [h1]
                    have He : Hid (pairingB fs ps n = false) := hid (Hbad.out (by unfold clashB; simp [h1]))
                    clear h0 h1
                    go_wp2_with fail
                    refine wp_region_quiet_lit (by kernel_rfl) (by kernel_rfl) ?_
                    iterate 50 (with_reducible refine wpQuiet_step (fun K hK => ?_); have HK := hid hK; clear hK; go_simp; (first | with_reducible refine HK.out _ ?_ | (rw [if_neg (by decide)]; with_reducible refine HK.out _ ?_)); clear HK K)
                    with_reducible refine wpQuiet_nil ?_
                    intro _ hw'
                    obtain ⟨nq, hw''⟩ := hw'
                    subst hw''
                    go_wp2_with fail
                    go_ret
                    exact ⟨ret_bool He.out.symm, HBv.out.trans ⟨rfl, rfl, rfl, Nat.le_refl _, fun _ _ => rfl⟩⟩
                  · have g1 : (x == v) = false := by simp [h1]
                    by_cases h2 : y = u
                    · have g2 : (y == u) = true := by simp [h2]
                      have He : Hid (pairingB fs ps n = false) := hid (Hbad.out (by unfold clashB; simp [h2]))
                      clear h0 h1 h2
                      go_wp2_with fail
                      refine wp_region_quiet_lit (by kernel_rfl) (by kernel_rfl) ?_
                      iterate 50 (with_reducible refine wpQuiet_step (fun K hK => ?_); have HK := hid hK; clear hK; go_simp; (first | with_reducible refine HK.out _ ?_ | (rw [if_neg (by decide)]; with_reducible refine HK.out _ ?_)); clear HK K)
                      with_reducible refine wpQuiet_nil ?_
                      intro _ hw'
                      obtain ⟨nq, hw''⟩ := hw'
                      subst hw''
                      go_wp2_with fail
                      go_ret
                      exact ⟨ret_bool He.out.symm, HBv.out.trans ⟨rfl, rfl, rfl, Nat.le_refl _, fun _ _ => rfl⟩⟩
                    · have g2 : (y == u) = false := by simp [h2]
                      by_cases h3 : y = v
                      · have g3 : (y == v) = true := by simp [h3]
                        have He : Hid (pairingB fs ps n = false) := hid (Hbad.out (by unfold clashB; simp [h3]))
                        clear h0 h1 h2 h3
                        go_wp2_with fail
                        refine wp_region_quiet_lit (by kernel_rfl) (by kernel_rfl) ?_
                        iterate 50 (with_reducible refine wpQuiet_step (fun K hK => ?_); have HK := hid hK; clear hK; go_simp; (first | with_reducible refine HK.out _ ?_ | (rw [if_neg (by decide)]; with_reducible refine HK.out _ ?_)); clear HK K)
                        with_reducible refine wpQuiet_nil ?_
                        intro _ hw'
                        obtain ⟨nq, hw''⟩ := hw'
                        subst hw''
                        go_wp2_with fail
                        go_ret
                        exact ⟨ret_bool He.out.symm, HBv.out.trans ⟨rfl, rfl, rfl, Nat.le_refl _, fun _ _ => rfl⟩⟩
                      · have g3 : (y == v) = false := by simp [h3]
                        have He : Hid (∀ t, t < i + 1 → clashB x y (at0 ps (t * 2)) (at0 ps (t * 2 + 1)) = false) := hid (fun t ht => by
                          by_cases hti : t < i
                          · exact Hcl.out t hti
                          · obtain rfl : t = i := by omega
                            rw [← HU.out, ← HV.out]; unfold clashB; simp only [decide_eq_false h0, decide_eq_false h1, decide_eq_false h2, decide_eq_false h3]; rfl)
                        clear h0 h1 h2 h3
                        go_wp2_with fail
                        refine wp_region_quiet_lit (by kernel_rfl) (by kernel_rfl) ?_
                        iterate 50 (with_reducible refine wpQuiet_step (fun K hK => ?_); have HK := hid hK; clear hK; go_simp; (first | with_reducible refine HK.out _ ?_ | (rw [if_neg (by decide)]; with_reducible refine HK.out _ ?_)); clear HK K)
                        with_reducible refine wpQuiet_nil ?_
                        intro _ hw'
                        obtain ⟨nq, hw''⟩ := hw'
                        subst hw''
                        go_wp2_with fail
                        go_roundw
                        case rel => exact ⟨i + 1, by omega, by go_num, He.out, HBx.out.trans ⟨rfl, rfl, rfl, Nat.le_refl _, fun _ _ => rfl⟩⟩
                        case measure => simp [intOf]; omega
              · obtain rfl : i = m + 1 := by omega
                go_wp2_with fail
                go_roundw
                case rel =>
                  refine ⟨m + 1 + 1, by omega, by go_num, fun i hi => ?_, HBx.out⟩
                  by_cases him : i < m + 1
                  · exact Hk.out i him
                  · obtain rfl : i = m + 1 := by omega
                    refine ⟨by rw [← HX.out, ← HY.out]; exact Hq.out, fun _ => ?_, fun j hj => ?_⟩
                    · rw [Nat.add_sub_cancel, ← HX.out, ← HY.out, ← HX'.out, ← HY'.out]; exact Hql.out
                    · rw [← HX.out, ← HY.out]; exact Hcl.out j hj
                case measure => simp [intOf]; omega
          · have hql' : lessP x' y' x y = false := by simpa using hql
            rw [hql'] at CL
            have He : Hid (pairingB fs ps n = false) := hid (pairingB_false (fun h => by have := (h (m + 1) hlt).2.1 (by omega); rw [Nat.add_sub_cancel, ← HX.out, ← HY.out, ← HX'.out, ← HY'.out, hql'] at this; cases this))
            clear hql hql'
            go_wp2_with fail
            refine wp_region_quiet_below (by kernel_rfl) (by kernel_rfl) ?_
            iterate 5 (with_reducible refine wpQuiet_step (fun K hK => ?_); have HK := hid hK; clear hK; go_simp; (first | with_reducible refine HK.out _ ?_ | (rw [if_neg (by decide)]; with_reducible refine HK.out _ ?_)); clear HK K)
            (with_reducible refine wpQuiet_step (fun K hK => ?_); have HK := hid hK; clear hK; go_simp; apply Exists.intro; with_reducible refine ⟨fun _ => ?_, HK.out _ ?_⟩; exact CP.out _ _; clear HK K)
            iterate 14 (with_reducible refine wpQuiet_step (fun K hK => ?_); have HK := hid hK; clear hK; go_simp; (first | with_reducible refine HK.out _ ?_ | (rw [if_neg (by decide)]; with_reducible refine HK.out _ ?_)); clear HK K)
            (with_reducible refine wpQuiet_step (fun K hK => ?_); have HK := hid hK; clear hK; go_simp; apply Exists.intro; with_reducible refine ⟨fun _ => ?_, HK.out _ ?_⟩; exact CL.out _ _; clear HK K)
            iterate 3 (with_reducible refine wpQuiet_step (fun K hK => ?_); have HK := hid hK; clear hK; go_simp; (first | with_reducible refine HK.out _ ?_ | (rw [if_neg (by decide)]; with_reducible refine HK.out _ ?_)); clear HK K)
            with_reducible refine wpQuiet_nil ?_
            intro _ hw'
            obtain ⟨⟨dq, osq⟩, hw''⟩ := hw'
            subst hw''
            go_wp2_with fail
            go_ret
            exact ⟨ret_bool He.out.symm, HBw.out.trans ((below_regrown wr dq osq).mono HBw.out.size)⟩
      · have hq' : pairB fs x y = false := by simpa using hq
        have He : Hid (pairingB fs ps n = false) := hid (pairingB_false (fun h => by have := (h k hlt).1; rw [← HX.out, ← HY.out, hq'] at this; cases this))
        rw [hq'] at CP
        clear hq hq' hc0 hc1 hc2 hc3
        go_wp2_with fail
        refine wp_region_quiet_below (by kernel_rfl) (by kernel_rfl) ?_
        iterate 5 (with_reducible refine wpQuiet_step (fun K hK => ?_); have HK := hid hK; clear hK; go_simp; (first | with_reducible refine HK.out _ ?_ | (rw [if_neg (by decide)]; with_reducible refine HK.out _ ?_)); clear HK K)
        (with_reducible refine wpQuiet_step (fun K hK => ?_); have HK := hid hK; clear hK; go_simp; apply Exists.intro; with_reducible refine ⟨fun _ => ?_, HK.out _ ?_⟩; exact CP.out _ _; clear HK K)
        iterate 18 (with_reducible refine wpQuiet_step (fun K hK => ?_); have HK := hid hK; clear hK; go_simp; (first | with_reducible refine HK.out _ ?_ | (rw [if_neg (by decide)]; with_reducible refine HK.out _ ?_)); clear HK K)
        with_reducible refine wpQuiet_nil ?_
        intro _ hw'
        obtain ⟨⟨dq, osq⟩, hw''⟩ := hw'
        subst hw''
        go_wp2_with fail
        go_ret
        exact ⟨ret_bool He.out.symm, HBw.out.trans ((below_regrown wr dq osq).mono HBw.out.size)⟩
    · obtain rfl : k = n := by omega
      have He : Hid (pairingB fs ps k = true) := hid (pairingB_true Hk.out)
      go_wp2
      go_ret
      exact ⟨ret_bool He.out.symm, HW0.out.trans (HB.out.mono (Nat.le_succ _))⟩

end Go.Proofs.YtppnahgiekjbnaaDoor

/-! Lists of pairs: all pairs of a complex; maps whose keys are pairs. -/
namespace Go.Proofs.YtppnahgiekjbnaaDoor
open Go.RowKit

def flatP (L : List (Int × Int)) : List Int := L.flatMap fun p => [p.1, p.2]
theorem flatP_snoc (L : List (Int × Int)) (p : Int × Int) : flatP (L ++ [p]) = flatP L ++ [p.1, p.2] := by simp [flatP]
theorem flatP_len : ∀ L : List (Int × Int), (flatP L).length = 2 * L.length
  | [] => rfl
  | p :: L => by have := flatP_len L; unfold flatP at *; simp only [List.flatMap_cons, List.length_append, List.length_cons, List.length_nil]; omega
theorem flatP_at : ∀ (L : List (Int × Int)) (i : Nat), i < L.length → at0 (flatP L) (i * 2) = (L[i]?.getD (0, 0)).1 ∧ at0 (flatP L) (i * 2 + 1) = (L[i]?.getD (0, 0)).2
  | [], i, h => by simp at h
  | p :: L, 0, _ => by simp [flatP, at0]
  | p :: L, i + 1, h => by
    have ih := flatP_at L i (by simpa using h)
    have e : flatP (p :: L) = p.1 :: p.2 :: flatP L := by simp [flatP]
    have e1 : (i + 1) * 2 = i * 2 + 1 + 1 := by omega
    rw [e, e1]
    unfold at0 at *
    simpa using ih

/-- The pairs of a low face, over the first vertices. -/
def upS (fs : List Int) (x m : Nat) : List (Int × Int) := ((List.range m).filter fun v => decide (x ||| 2 ^ v ≠ x) && decide (((x ||| 2 ^ v : Nat) : Int) ∈ fs)).map fun v => ((x : Int), ((x ||| 2 ^ v : Nat) : Int))
theorem upS_succ (fs : List Int) (x m : Nat) (c : Bool) (h : (decide (x ||| 2 ^ m ≠ x) && decide (((x ||| 2 ^ m : Nat) : Int) ∈ fs)) = c) : upS fs x (m + 1) = upS fs x m ++ (if c then [((x : Int), ((x ||| 2 ^ m : Nat) : Int))] else []) := by
  unfold upS
  rw [List.range_succ, List.filter_append, List.map_append]
  cases c
  · rw [List.filter_cons, if_neg (by rw [h]; simp)]; simp
  · rw [List.filter_cons, if_pos h]; simp
theorem upS_len (fs : List Int) (x m : Nat) : (upS fs x m).length ≤ m := by
  unfold upS
  rw [List.length_map]
  exact Nat.le_trans (List.length_filter_le _ _) (by simp)

/-- All pairs whose low faces are among the first k faces. -/
def pairsL (fs : List Int) (V k : Nat) : List (Int × Int) := (fs.take k).flatMap fun x => upS fs x.toNat V
theorem pairsL_succ {fs : List Int} {V k : Nat} (hlt : k < fs.length) : pairsL fs V (k + 1) = pairsL fs V k ++ upS fs (fs[k]?.getD 0).toNat V := by
  unfold pairsL
  rw [take_snoc hlt, List.flatMap_append]
  simp
theorem pairsL_len (fs : List Int) (V : Nat) : ∀ k, k ≤ fs.length → (pairsL fs V k).length ≤ k * V
  | 0, _ => by simp [pairsL]
  | k + 1, h => by
    have h1 := pairsL_len fs V k (by omega)
    have h2 := upS_len fs (fs[k]?.getD 0).toNat V
    rw [pairsL_succ (by omega), List.length_append, Nat.add_mul]
    omega

theorem up_pair : ∀ x : Fin 64, ∀ v : Fin 6, x.val ||| 2 ^ v.val ≠ x.val → x.val &&& (x.val ||| 2 ^ v.val) = x.val ∧ ones (x.val ||| 2 ^ v.val) = ones x.val + 1 := by decide +kernel
theorem pair_up : ∀ x : Fin 64, ∀ y : Fin 64, x.val &&& y.val = x.val → ones y.val = ones x.val + 1 → ∃ v : Fin 6, x.val ||| 2 ^ v.val = y.val ∧ y.val ≠ x.val := by decide +kernel

theorem mem_pairsL {V : Int} {fs : List Int} (hC : IsC V fs) (x y : Int) : (x, y) ∈ pairsL fs V.toNat fs.length ↔ pairB fs x y = true := by
  have hr := hC.range63
  have hlo := hC.lo
  have hhi := hC.hi
  unfold pairsL upS pairB
  rw [List.take_of_length_le (Nat.le_refl _)]
  simp only [List.mem_flatMap, List.mem_map, List.mem_filter, List.mem_range, Bool.and_eq_true, decide_eq_true_eq, Prod.mk.injEq]
  constructor
  · rintro ⟨x0, hx0, v, ⟨hv, hne, hm⟩, rfl, rfl⟩
    have h0 := hr x0 hx0
    have hu := up_pair ⟨x0.toNat, by omega⟩ ⟨v, by omega⟩ hne
    rw [Int.toNat_of_nonneg (by omega)]
    simp only [Int.toNat_natCast]
    exact ⟨⟨⟨hx0, hm⟩, hu.1⟩, hu.2⟩
  · rintro ⟨⟨⟨hx, hy⟩, hb⟩, ho⟩
    have h0 := hr x hx
    have h1 := hr y hy
    obtain ⟨v, hv, hne⟩ := pair_up ⟨x.toNat, by omega⟩ ⟨y.toNat, by omega⟩ hb ho
    simp only at hv hne
    have hyr := (hC.range y hy).2
    have hle : 2 ^ v.val ≤ y.toNat := by rw [← hv]; exact Nat.right_le_or
    refine ⟨x, hx, v.val, ⟨?_, by rw [hv]; exact hne, by rw [hv, Int.toNat_of_nonneg (by omega)]; exact hy⟩, Int.toNat_of_nonneg (by omega), by rw [hv, Int.toNat_of_nonneg (by omega)]⟩
    rcases Nat.lt_or_ge v.val V.toNat with h | h
    · exact h
    · exfalso
      have hp := Nat.pow_le_pow_right (n := 2) (by decide) h
      unfold allV at hyr
      have e : ((2 : Int) ^ V.toNat) = ((2 ^ V.toNat : Nat) : Int) := by simp
      rw [e] at hyr
      generalize (2 : Nat) ^ V.toNat = q at *
      generalize (2 : Nat) ^ v.val = q' at *
      omega

/-! ### maps whose keys are pairs -/

theorem arrP : Go.WideMaps.ArrKey Tryd.prog 67 2 2 := ⟨Tryd.underlying67, by kernel_rfl, by kernel_rfl, by kernel_rfl⟩
theorem keyedP : Maps.Keyed Tryd.prog 67 := Maps.Keyed.of_law arrP.law
def keyP (p : Int × Int) : Lit := .string (keyBytes [.int .i64 p.1, .int .i64 p.2])
def wfP (p : Int × Int) : Prop := (Lit.int .i64 p.1).wf = true ∧ (Lit.int .i64 p.2).wf = true
theorem keyOfP {p : Int × Int} (h : wfP p) : keyOf Tryd.prog 67 (.agg #[.int .i64 p.1, .int .i64 p.2]) = some (keyP p) :=
  Go.WideMaps.keyOf_pair arrP Tryd.underlying2 ⟨Tryd.prog.types.size - 1, by kernel_rfl⟩ h.1 h.2
theorem keyP_inj {p q : Int × Int} (hp : wfP p) (hq : wfP q) (h : keyP p = keyP q) : p = q := by
  have := keyedP.inj (keyOfP hp) (by rw [h]; exact keyOfP hq)
  simp only [Value.agg.injEq, Array.mk.injEq, List.cons.injEq, Value.int.injEq, true_and, and_true] at this
  exact Prod.ext this.1 this.2

def pknFrom (D : DataW Unit) (pre : List (Int × Int)) : DataW Unit := pre.foldl (fun D p => D.put (keyP p) (.lit (.bool true))) D
def pknD (pre : List (Int × Int)) : DataW Unit := pknFrom (.map []) pre
theorem pknD_snoc (pre : List (Int × Int)) (p : Int × Int) : pknD (pre ++ [p]) = (pknD pre).put (keyP p) (.lit (.bool true)) := by simp [pknD, pknFrom]
theorem isKey_keyP (p : Int × Int) (h : wfP p) : WideAt.IsKeyLit (keyP p) := keyedP.key (keyOfP h)
theorem pknFrom_at (p : Int × Int) (hp : wfP p) : ∀ (pre : List (Int × Int)) (D : DataW Unit), (∀ q ∈ pre, wfP q) → Maps.IsMap D → (pknFrom D pre).atKey (keyP p) (.lit (.bool false)) = if p ∈ pre then .lit (.bool true) else D.atKey (keyP p) (.lit (.bool false))
  | [], D, _, _ => by simp [pknFrom]
  | x :: pre, D, hw, hD => by
    have ih := pknFrom_at p hp pre (D.put (keyP x) (.lit (.bool true))) (fun q hq => hw q (by simp [hq])) (hD.put _ _)
    have e : pknFrom D (x :: pre) = pknFrom (D.put (keyP x) (.lit (.bool true))) pre := rfl
    rw [e, ih]
    by_cases hm : p ∈ pre
    · simp [hm]
    · by_cases hx : p = x
      · subst hx
        rw [if_neg hm, if_pos (by simp), Maps.atKey_put_same hD (isKey_keyP p hp)]
      · rw [if_neg hm, if_neg (by simp [hm, hx]), Maps.atKey_put_other (fun e => hx (keyP_inj hp (hw x (by simp)) e))]

theorem pknD_at (p : Int × Int) (hp : wfP p) (pre : List (Int × Int)) (hw : ∀ q ∈ pre, wfP q) : (pknD pre).atKey (keyP p) (.lit (.bool false)) = .lit (.bool (decide (p ∈ pre))) := by
  unfold pknD
  rw [pknFrom_at p hp pre _ hw Maps.isMap_empty]
  by_cases h : p ∈ pre
  · simp [h]
  · simp [h]
    rfl

/-- The map of pairs. -/
def MapP (w' : World) (b n : Nat) (L : List (Int × Int)) : Prop := w'.ownsMap Tryd.prog 67 (plainElem (H := Unit) Tryd.prog 4) b n (pknD L)

theorem MapP.later {w w' : World} {b n : Nat} {L : List (Int × Int)} (h : MapP w b n L) (hB : Below w.heap.size w w') : MapP w' b n L :=
  World.ownsMap.kept h (row := none) ⟨hB.os, hB.tape, hB.output, hB.size, fun k hk _ => hB.block k hk⟩ (by simp)


end Go.Proofs.YtppnahgiekjbnaaDoor

/-! Results of several parts: rows in intervals of blocks that do not meet. -/
namespace Go.Proofs.YtppnahgiekjbnaaDoor
open Go.RowKit

/-- A result: a slice of pairs in new memory. -/
def ResP (w w' : World) (v : Value) (L : List (Int × Int)) : Prop := w'.ownsRow w.heap.size 67 2 v L.length ((flatP L).map (Value.int .i64)) ∧ Below w.heap.size w w'

theorem ResP.later {w0 w w' : World} {v : Value} {L : List (Int × Int)} (h : ResP w w' v L) (h0 : Below w0.heap.size w0 w) : ResP w0 w' v L :=
  ⟨ownsRow_base h.1 h0.size, h0.trans (h.2.mono h0.size)⟩
theorem resP_nil (w w' : World) (h : Below w.heap.size w w') : ResP w w' (.slice none 0 0) [] := ⟨World.ownsRow_nil _ _ _ _, h⟩

structure PartB (w w' : World) (p : Bk) : Prop where
  own : w'.ownsRow p.lo p.ty p.sz p.v p.n (p.xs.map (Value.int .i64))
  lt : ∀ g, p.v.ownBlock = some g → g < p.hi
  le : p.hi ≤ w'.heap.size
  ge : w.heap.size ≤ p.lo

theorem part_ints {w w' : World} {v : Value} {xs : List Int} (h : Res w w' v xs) : PartB w w' ⟨w.heap.size, w'.heap.size, 2, 1, xs.length, v, xs⟩ :=
  ⟨h.1, fun g hg => (h.1.lt g hg).2, Nat.le_refl _, Nat.le_refl _⟩
theorem part_pairs {w w' : World} {v : Value} {L : List (Int × Int)} (h : ResP w w' v L) : PartB w w' ⟨w.heap.size, w'.heap.size, 67, 2, L.length, v, flatP L⟩ :=
  ⟨h.1, fun g hg => (h.1.lt g hg).2, Nat.le_refl _, Nat.le_refl _⟩

/-- Two rows in blocks of their own. -/
def Apart (v q : Value) : Prop := ∀ g, v.ownBlock = some g → q.ownBlock ≠ some g

theorem apart_ty {w : World} {b1 e1 s1 n1 b2 e2 s2 n2 : Nat} {v q : Value} {xs ys : List Value} (h1 : w.ownsRow b1 e1 s1 v n1 xs) (h2 : w.ownsRow b2 e2 s2 q n2 ys) (hne : e1 ≠ e2) : Apart v q := by
  intro g hv hq
  rcases h1.2 with ⟨rfl, _⟩ | ⟨g1, _, _, rfl, _, hg1, _⟩
  · simp [Value.ownBlock] at hv
  rcases h2.2 with ⟨rfl, _⟩ | ⟨g2, _, _, rfl, _, hg2, _⟩
  · simp [Value.ownBlock] at hq
  simp [Value.ownBlock] at hv hq
  subst hv hq
  rw [hg1] at hg2
  simp at hg2
  exact hne hg2.2

theorem row_at {w : World} {b e s n : Nat} {v : Value} {xs : List Value} (h : w.ownsRow b e s v n xs) : (v.ownBlock = none ∧ ∀ b', w.ownsRow b' e s v n xs) ∨ ∃ g, v.ownBlock = some g ∧ b ≤ g ∧ g < w.heap.size ∧ w.ownsRow g e s v n xs := by
  rcases h.2 with ⟨rfl, hn⟩ | ⟨g, cp, cur, rfl, hb, hg, rest⟩
  · exact .inl ⟨rfl, fun b' => ⟨h.1, .inl ⟨rfl, hn⟩⟩⟩
  · exact .inr ⟨g, rfl, hb, (Array.getElem?_eq_some_iff.1 hg).1, h.1, .inr ⟨g, cp, cur, rfl, Nat.le_refl _, hg, rest⟩⟩

theorem two_parts {w w' : World} {e1 s1 n1 e2 s2 n2 : Nat} {v q : Value} {xs ys : List Int} (h1 : w'.ownsRow w.heap.size e1 s1 v n1 (xs.map (Value.int .i64))) (h2 : w'.ownsRow w.heap.size e2 s2 q n2 (ys.map (Value.int .i64))) (ha : Apart v q) (hB : Below w.heap.size w w') :
    ∃ l1 r1 l2 r2, PartB w w' ⟨l1, r1, e1, s1, n1, v, xs⟩ ∧ PartB w w' ⟨l2, r2, e2, s2, n2, q, ys⟩ ∧ (r1 ≤ l2 ∨ r2 ≤ l1) := by
  have hs := hB.size
  rcases row_at h1 with ⟨hv, h1'⟩ | ⟨g1, hv, hb1, hl1, h1'⟩
  · rcases row_at h2 with ⟨hq, h2'⟩ | ⟨g2, hq, hb2, hl2, h2'⟩
    · exact ⟨_, _, _, _, ⟨h1' w.heap.size, fun g hg => (by simp only at hg; rw [hv] at hg; cases hg), hs, Nat.le_refl _⟩, ⟨h2' w.heap.size, fun g hg => (by simp only at hg; rw [hq] at hg; cases hg), hs, Nat.le_refl _⟩, .inl (Nat.le_refl _)⟩
    · exact ⟨_, w.heap.size, _, g2 + 1, ⟨h1' w.heap.size, fun g hg => (by simp only at hg; rw [hv] at hg; cases hg), hs, Nat.le_refl _⟩, ⟨h2', fun g hg => (by simp only at hg; rw [hq] at hg; cases hg; simp only; omega), hl2, hb2⟩, .inl hb2⟩
  · rcases row_at h2 with ⟨hq, h2'⟩ | ⟨g2, hq, hb2, hl2, h2'⟩
    · exact ⟨_, g1 + 1, _, w.heap.size, ⟨h1', fun g hg => (by simp only at hg; rw [hv] at hg; cases hg; simp only; omega), hl1, hb1⟩, ⟨h2' w.heap.size, fun g hg => (by simp only at hg; rw [hq] at hg; cases hg), hs, Nat.le_refl _⟩, .inr hb1⟩
    · have hne : g1 ≠ g2 := fun e => ha g1 hv (by rw [hq, e])
      exact ⟨_, g1 + 1, _, g2 + 1, ⟨h1', fun g hg => (by simp only at hg; rw [hv] at hg; cases hg; simp only; omega), hl1, hb1⟩, ⟨h2', fun g hg => (by simp only at hg; rw [hq] at hg; cases hg; simp only; omega), hl2, hb2⟩, (by omega)⟩

theorem pairs_form {w : World} {base e n : Nat} {v : Value} {L : List (Int × Int)} (h : w.ownsRow base e 2 v n ((flatP L).map (Value.int .i64))) : n = L.length ∧ ∃ a cap, v = .slice a L.length cap ∧ True := by
  have hl := h.1
  simp [flatP_len] at hl
  have hn : n = L.length := by omega
  rcases h.2 with ⟨rfl, hn0⟩ | ⟨g, cap, cur, rfl, _⟩
  · refine ⟨hn, none, 0, ?_, trivial⟩
    rw [show L.length = 0 by omega]
  · exact ⟨hn, _, cap, by rw [hn], trivial⟩

theorem Book.add {w0 w w' : World} {A : List (Option Addr × List Int)} {bs : List (Nat × Obj)} {L : List Bk} {p : Bk} (h : Book w0 w' A bs L) (hp : PartB w w' p) : Book w0 w' A bs (p :: L) :=
  ⟨h.from0, h.args, h.blocks, fun q hq => by
    rcases List.mem_cons.1 hq with rfl | hq
    · exact ⟨hp.own, hp.lt, hp.le⟩
    · exact h.rows q hq⟩

end Go.Proofs.YtppnahgiekjbnaaDoor

/-! The pairing of a tree, as mathematics: pairs put into an ascending list, and pairs sorted. -/
namespace Go.Proofs.YtppnahgiekjbnaaDoor
open Go.RowKit

/-- Not behind. -/
def leP (p q : Int × Int) : Prop := lessP q.1 q.2 p.1 p.2 = false
theorem leP_iff {p q : Int × Int} : leP p q ↔ p.1 < q.1 ∨ (p.1 = q.1 ∧ p.2 ≤ q.2) := by
  unfold leP lessP
  simp only [Bool.or_eq_false_iff, Bool.and_eq_false_iff, decide_eq_false_iff_not]
  omega
theorem leP_anti {p q : Int × Int} (h1 : leP p q) (h2 : leP q p) : p = q := by
  rw [leP_iff] at h1 h2
  obtain ⟨a, b⟩ := p
  obtain ⟨c, d⟩ := q
  simp only at h1 h2
  simp only [Prod.mk.injEq]
  omega
theorem leP_trans {p q r : Int × Int} (h1 : leP p q) (h2 : leP q r) : leP p r := by
  rw [leP_iff] at *
  omega
theorem leP_of_less {p q : Int × Int} (h : lessP p.1 p.2 q.1 q.2 = true) : leP p q := by
  rw [leP_iff]
  unfold lessP at h
  simp only [Bool.or_eq_true, Bool.and_eq_true, decide_eq_true_eq] at h
  omega
/-- Two ascending lists of the same pairs are one. -/
theorem asc_one : ∀ {a b : List (Int × Int)}, a.Perm b → a.Pairwise leP → b.Pairwise leP → a = b
  | [], b, h, _, _ => (List.nil_perm.1 h).symm
  | x :: a, [], h, _, _ => by simp at h
  | x :: a, y :: b, h, ha, hb => by
    obtain ⟨ha1, ha2⟩ := List.pairwise_cons.1 ha
    obtain ⟨hb1, hb2⟩ := List.pairwise_cons.1 hb
    have hxy : x = y := by
      rcases List.mem_cons.1 (h.mem_iff.1 (List.mem_cons_self (a := x) (l := a))) with e | hx
      · exact e
      · rcases List.mem_cons.1 (h.mem_iff.2 (List.mem_cons_self (a := y) (l := b))) with e | hy
        · exact e.symm
        · exact leP_anti (ha1 _ hy) (hb1 _ hx)
    subst hxy
    rw [asc_one (List.Perm.cons_inv h) ha2 hb2]

/-- The place of a pair, from the end on. -/
def plL (L : List (Int × Int)) (p : Int × Int) : Nat → Nat
  | 0 => 0
  | k + 1 => if lessP p.1 p.2 (L[k]?.getD (0, 0)).1 (L[k]?.getD (0, 0)).2 then plL L p k else k + 1
theorem plL_le (L : List (Int × Int)) (p : Int × Int) : ∀ n, plL L p n ≤ n
  | 0 => Nat.le_refl _
  | k + 1 => by
    unfold plL
    split
    · exact Nat.le_succ_of_le (plL_le L p k)
    · exact Nat.le_refl _
/-- Behind the place all are greater; ahead of it stands one that isn't. -/
theorem plL_spec (L : List (Int × Int)) (p : Int × Int) : ∀ n, (∀ j, plL L p n ≤ j → j < n → leP p (L[j]?.getD (0, 0))) ∧ (0 < plL L p n → leP (L[plL L p n - 1]?.getD (0, 0)) p)
  | 0 => ⟨fun j _ h => absurd h (by omega), fun h => by simp [plL] at h⟩
  | k + 1 => by
    obtain ⟨i1, i2⟩ := plL_spec L p k
    unfold plL
    split
    · rename_i h
      refine ⟨fun j h1 h2 => ?_, i2⟩
      by_cases e : j = k
      · rw [e]; exact leP_of_less h
      · exact i1 j h1 (by omega)
    · rename_i h
      refine ⟨fun j h1 h2 => absurd h2 (by omega), fun _ => ?_⟩
      rw [Nat.add_sub_cancel]
      unfold leP
      simpa using h
/-- The list with the pair. -/
def insL (L : List (Int × Int)) (p : Int × Int) : List (Int × Int) := L.take (plL L p L.length) ++ (p :: L.drop (plL L p L.length))
theorem insL_perm (L : List (Int × Int)) (p : Int × Int) : (insL L p).Perm (p :: L) := by
  unfold insL
  refine List.perm_middle.trans ?_
  rw [List.take_append_drop]
theorem insL_asc {L : List (Int × Int)} (p : Int × Int) (h : L.Pairwise leP) : (insL L p).Pairwise leP := by
  obtain ⟨s1, s2⟩ := plL_spec L p L.length
  have hle := plL_le L p L.length
  unfold insL
  obtain ⟨P, hP⟩ : ∃ P, P = plL L p L.length := ⟨_, rfl⟩
  rw [← hP] at s1 s2 hle ⊢
  have hsp : (L.take P ++ L.drop P).Pairwise leP := by rw [List.take_append_drop]; exact h
  obtain ⟨h1, h2, h3⟩ := List.pairwise_append.1 hsp
  have hb : ∀ q ∈ L.drop P, leP p q := fun q hq => by
    obtain ⟨i, hi, rfl⟩ := List.mem_iff_getElem.1 hq
    have hi' : P + i < L.length := by simp at hi; omega
    have := s1 (P + i) (by omega) hi'
    rw [List.getElem?_eq_getElem hi'] at this
    rw [List.getElem_drop]
    exact this
  have ht : ∀ q ∈ L.take P, leP q p := fun q hq => by
    obtain ⟨i, hi, rfl⟩ := List.mem_iff_getElem.1 hq
    have hi' : i < P := by simp at hi; omega
    have hl := s2 (by omega)
    have hPl : P - 1 < L.length := by omega
    rw [List.getElem?_eq_getElem hPl] at hl
    rw [List.getElem_take]
    by_cases e : i = P - 1
    · subst e; exact hl
    · exact leP_trans (List.pairwise_iff_getElem.1 h i (P - 1) (by omega) hPl (by omega)) hl
  refine List.pairwise_append.2 ⟨h1, List.pairwise_cons.2 ⟨hb, h2⟩, fun x hx y hy => ?_⟩
  rcases List.mem_cons.1 hy with rfl | hy
  · exact ht x hx
  · exact h3 x hx y hy
/-- All pairs put in, one after the other. -/
def insAll (ps : List (Int × Int)) : List (Int × Int) := ps.foldl insL []
theorem insAll_from (ps : List (Int × Int)) : ∀ L : List (Int × Int), L.Pairwise leP → (ps.foldl insL L).Pairwise leP ∧ (ps.foldl insL L).Perm (ps ++ L) := by
  induction ps with
  | nil => exact fun L h => ⟨h, List.Perm.refl _⟩
  | cons p ps ih =>
    intro L h
    obtain ⟨i1, i2⟩ := ih (insL L p) (insL_asc p h)
    refine ⟨i1, i2.trans ?_⟩
    exact ((insL_perm L p).append_left ps).trans (List.perm_middle)
/-- What is sorted of the same pairs is that list. -/
theorem insAll_eq {ps qs : List (Int × Int)} (hp : qs.Perm ps) (hs : qs.Pairwise leP) : qs = insAll ps := by
  obtain ⟨i1, i2⟩ := insAll_from ps [] List.Pairwise.nil
  rw [List.append_nil] at i2
  exact asc_one (hp.trans i2.symm) hs i1
theorem insAll_snoc (ps : List (Int × Int)) (p : Int × Int) : insAll (ps ++ [p]) = insL (insAll ps) p := by unfold insAll; rw [List.foldl_append]; rfl
theorem insAll_len (ps : List (Int × Int)) : (insAll ps).length = ps.length := by
  have h := (insAll_from ps [] List.Pairwise.nil).2.length_eq
  rw [List.append_nil] at h
  exact h

/-- The pair of a face with its own side without the last question, if both are faces. -/
def potOf (T : List Int) (n : Nat) (f : Int) : Option (Int × Int) :=
  if f.toNat.testBit (qsA T f.toNat n) && (f.toNat ^^^ 2 ^ qsA T f.toNat n != 0) then some (((f.toNat ^^^ 2 ^ qsA T f.toNat n : Nat) : Int), f) else none
def potL (T : List Int) (n : Nat) (fs : List Int) : List (Int × Int) := fs.filterMap (potOf T n)
theorem potL_len (T : List Int) (n : Nat) (fs : List Int) : (potL T n fs).length ≤ fs.length := List.length_filterMap_le _ _
theorem potL_take (T : List Int) (n : Nat) (fs : List Int) {k : Nat} (hk : k < fs.length) : potL T n (fs.take (k + 1)) = match potOf T n (fs[k]?.getD 0) with | some p => potL T n (fs.take k) ++ [p] | none => potL T n (fs.take k) := by
  unfold potL
  rw [List.take_succ_eq_append_getElem hk, List.filterMap_append, List.getElem?_eq_getElem hk]
  simp only [Option.getD_some]
  cases h : potOf T n fs[k] with
  | some p => simp [h]
  | none => simp [h]

end Go.Proofs.YtppnahgiekjbnaaDoor

/-! 'append(row, list...)' of pairs, as a run. -/
namespace Go.Proofs.YtppnahgiekjbnaaDoor
open Go.RowKit

theorem wp_append_run {P : Program} {o : Oper} {a : Act} {w w' : World} {K : Act → World → Prop} {Q : Exit → Act → World → Prop} {s y : Operand} {T : TypeId} (ho : o.op = .call { callee := .builtin .append, args := #[s, y], argTypes := #[T, T] })
    {v u v' : Value} (hs : a.eval s = v) (hy : a.eval y = u) (hr : (Builtin.append_ #[T, T] o.type #[v, u]).run P w = .ok v' w') (hK : K (a.put o.dst v') w') : o.wp P a w K Q := by
  unfold Oper.wp execOp
  simp only [ho, resolve, invoke, builtin, Sem.run_bind, Sem.run_pure, Result.andThen_ok, List.map_toArray, List.map_cons, List.map_nil, hs, hy, hr]
  exact hK
/-- 'append(row, list...)' of pairs, as a run. -/
theorem append_run {w : World} {base : Nat} {v : Value} {m : Nat} {xs ys : List Int} {ad : Addr} {l c : Nat} (hown : w.ownsRow base 67 2 v m (xs.map (Value.int .i64))) (hbase : base ≤ w.heap.size) (hm : m ≤ 1048576) (hl : l ≤ 1048576) (hys : ys.length = l * 2)
    (hc : ∀ j, j < l * 2 → w.cell? (ad.add j) = some (.int .i64 (ys[j]?.getD 0))) :
    ∃ v' w', (Builtin.append_ #[38, 38] 38 #[v, .slice (some ad) l c]).run Tryd.prog w = .ok v' w' ∧ w'.ownsRow base 67 2 v' (m + l) ((xs ++ ys).map (Value.int .i64)) ∧ w.grownBy w' v.ownBlock ∧ Below base w w' := by
  obtain ⟨i0, hi, hz0, hz1, hz2⟩ := info_parts info_pair
  obtain ⟨v', w', h1, h2, h3, _, _⟩ := run_append_own_at (P := Tryd.prog) (w := w) base 38 38 67 i0 (.agg #[.int .i64 0, .int .i64 0]) 2 16 Tryd.underlying38 hi hz0 hz1 hz2 rfl (by decide) v m (xs.map (Value.int .i64)) hown ad l c (ys.map (Value.int .i64)) (by simp [hys]) (fun j u hj => by
    have hjl : j < ys.length := by
      have := (List.getElem?_eq_some_iff.1 hj).1
      simpa using this
    have h := hc j (by omega)
    rw [List.getElem?_map, List.getElem?_eq_getElem hjl] at hj
    rw [List.getElem?_eq_getElem hjl] at h
    simp at hj h
    rw [h, hj]) (fun u hu => by
    obtain ⟨x, _, rfl⟩ := List.mem_map.1 hu
    rfl) (by unfold maxLen; omega) (by omega) hbase
  exact ⟨v', w', h1, by rw [List.map_append]; exact h2, h3, (Below.refl base w).grown h3 hbase (fun k hk => (hown.lt k hk).1)⟩
/-- A list of one pair. -/
theorem one_pair {w : World} {base : Nat} (hb : base ≤ w.heap.size) (x y : Int) : (w.alloc (.cells #[.int .i64 x, .int .i64 y] 67)).ownsRow base 67 2 (.slice (some ⟨w.heap.size, 0, none⟩) 1 1) 1 ([x, y].map (Value.int .i64)) :=
  ⟨by simp, .inr ⟨w.heap.size, 1, _, rfl, hb, heap_alloc_new w _, Nat.le_refl _, by decide, by simp, by simp⟩⟩

theorem wpList_append_run {P : Program} {ops : Array Oper} {rest : List Oper} {o : Oper} {a : Act} {w w' : World} {Q : Exit → Act → World → Prop} (hgd : o.guard = none) {s y : Operand} {T : TypeId} (ho : o.op = .call { callee := .builtin .append, args := #[s, y], argTypes := #[T, T] })
    {v u v' : Value} (hs : a.eval s = v) (hy : a.eval y = u) (hr : (Builtin.append_ #[T, T] o.type #[v, u]).run P w = .ok v' w') (hK : wpList P ops Q rest (a.put o.dst v') w') : wpList P ops Q (o :: rest) a w :=
  wpList_plain hgd fun _ hK' => wp_append_run ho hs hy hr (hK' _ _ hK)

theorem map_get {ys : List Int} {j : Nat} (h : j < ys.length) : (ys.map (Value.int .i64))[j]? = some (.int .i64 (ys[j]?.getD 0)) := by simp [h]

theorem own_pairs {w : World} {base b n c : Nat} {qs : List Int} (h : w.ownsRow base 67 2 (.slice (some ⟨b, 0, none⟩) n c) n (qs.map (Value.int .i64))) : b < w.heap.size ∧ n ≤ c ∧ ∀ i, i < qs.length → w.cell? ⟨b, 0 + i, none⟩ = some (.int .i64 (qs[i]?.getD 0)) := by
  refine ⟨(h.lt b rfl).2, ?_, fun i hi => ?_⟩
  · rcases h.2 with ⟨h1, _⟩ | ⟨g, cp, cur, h1, _, _, h2, _⟩
    · cases h1
    · injection h1 with _ h3
      omega
  · have := h.cells rfl i _ (map_get hi)
    have hadd : (⟨b, 0, none⟩ : Addr).add i = ⟨b, 0 + i, none⟩ := by unfold Addr.add; split <;> simp_all
    rwa [hadd] at this
theorem row_later {w w' : World} {B base e s n : Nat} {v : Value} {xs : List Value} (h : w.ownsRow base e s v n xs) (hb : Below w.heap.size w w') (_ : B = 0) : w'.ownsRow base e s v n xs :=
  h.kept (row := none) ⟨hb.os, hb.tape, hb.output, hb.size, fun q hq _ => hb.block q hq⟩ (by cases hv : v.ownBlock <;> simp)

end Go.Proofs.YtppnahgiekjbnaaDoor

/-! The library's slices.SortFunc at pairs: that this program holds its very body. -/
namespace Go.Proofs.YtppnahgiekjbnaaDoor
open Go.Shelf

def sortFL_ren : Go.Shelf.Ren := ⟨fun | 6 => 42 | 15 => 67 | 14 => 66 | 28 => 101 | 29 => 102 | 20 => 93 | 21 => 94 | 22 => 95 | 23 => 96 | 24 => 97 | 25 => 98 | 26 => 99 | 27 => 100 | 46 => 110 | 47 => 111 | 48 => 112 | 49 => 113 | 50 => 114 | 57 => 117 | n => n, fun | 22 => 38 | 24 => 67 | 25 => 69 | 3 => 3 | 39 => 91 | 0 => 0 | 53 => 125 | 55 => 49 | 4 => 4 | 46 => 118 | 45 => 117 | 50 => 122 | 5 => 5 | 9 => 9 | 66 => 129 | 70 => 133 | 76 => 135 | 77 => 136 | n => n, fun | n => n⟩
theorem sortFL : Go.Proofs.SlLaysF0.n6 Tryd.prog sortFL_ren := {
  mixed := by kernel_rfl,
  f6 := ⟨Tryd.f42.name, by decide, Tryd.func42.trans (congrArg some (by kernel_rfl))⟩,
  f14 := ⟨Tryd.f66.name, by decide, Tryd.func66.trans (congrArg some (by kernel_rfl))⟩,
  f15 := Tryd.func67.trans (congrArg some (by kernel_rfl)),
  f20 := ⟨Tryd.f93.name, by decide, Tryd.func93.trans (congrArg some (by kernel_rfl))⟩,
  f21 := ⟨Tryd.f94.name, by decide, Tryd.func94.trans (congrArg some (by kernel_rfl))⟩,
  f22 := ⟨Tryd.f95.name, by decide, Tryd.func95.trans (congrArg some (by kernel_rfl))⟩,
  f23 := ⟨Tryd.f96.name, by decide, Tryd.func96.trans (congrArg some (by kernel_rfl))⟩,
  f24 := ⟨Tryd.f97.name, by decide, Tryd.func97.trans (congrArg some (by kernel_rfl))⟩,
  f25 := ⟨Tryd.f98.name, by decide, Tryd.func98.trans (congrArg some (by kernel_rfl))⟩,
  f26 := ⟨Tryd.f99.name, by decide, Tryd.func99.trans (congrArg some (by kernel_rfl))⟩,
  f27 := ⟨Tryd.f100.name, by decide, Tryd.func100.trans (congrArg some (by kernel_rfl))⟩,
  f28 := Tryd.func101.trans (congrArg some (by kernel_rfl)),
  f29 := Tryd.func102.trans (congrArg some (by kernel_rfl)),
  f46 := ⟨Tryd.f110.name, by decide, Tryd.func110.trans (congrArg some (by kernel_rfl))⟩,
  f47 := Tryd.func111.trans (congrArg some (by kernel_rfl)),
  f48 := Tryd.func112.trans (congrArg some (by kernel_rfl)),
  f49 := ⟨Tryd.f113.name, by decide, Tryd.func113.trans (congrArg some (by kernel_rfl))⟩,
  f50 := ⟨Tryd.f114.name, by decide, Tryd.func114.trans (congrArg some (by kernel_rfl))⟩,
  f57 := ⟨Tryd.f117.name, by decide, Tryd.func117.trans (congrArg some (by kernel_rfl))⟩,
  t0 := Tryd.underlying0,
  a0 := Tryd.isAgg0,
  z0 := Tryd.sizeOf0,
  v0 := Tryd.zeroValue0,
  t3 := Tryd.underlying3,
  a3 := Tryd.isAgg3,
  z3 := Tryd.sizeOf3,
  v3 := Tryd.zeroValue3,
  t4 := Tryd.underlying4,
  a4 := Tryd.isAgg4,
  z4 := Tryd.sizeOf4,
  v4 := Tryd.zeroValue4,
  t5 := Tryd.underlying5,
  a5 := Tryd.isAgg5,
  z5 := Tryd.sizeOf5,
  v5 := Tryd.zeroValue5,
  t9 := Tryd.underlying9,
  a9 := Tryd.isAgg9,
  z9 := Tryd.sizeOf9,
  v9 := Tryd.zeroValue9,
  t22 := Tryd.underlying38,
  a22 := Tryd.isAgg38,
  z22 := Tryd.sizeOf38,
  v22 := Tryd.zeroValue38,
  t25 := Tryd.underlying69,
  a25 := Tryd.isAgg69,
  z25 := Tryd.sizeOf69,
  v25 := Tryd.zeroValue69,
  t39 := Tryd.underlying91,
  a39 := Tryd.isAgg91,
  z39 := Tryd.sizeOf91,
  v39 := Tryd.zeroValue91,
  t45 := Tryd.underlying117,
  a45 := Tryd.isAgg117,
  z45 := Tryd.sizeOf117,
  v45 := Tryd.zeroValue117,
  t46 := Tryd.underlying118,
  a46 := Tryd.isAgg118,
  z46 := Tryd.sizeOf118,
  v46 := Tryd.zeroValue118,
  t50 := Tryd.underlying122,
  a50 := Tryd.isAgg122,
  z50 := Tryd.sizeOf122,
  v50 := Tryd.zeroValue122,
  t53 := Tryd.underlying125,
  a53 := Tryd.isAgg125,
  z53 := Tryd.sizeOf125,
  v53 := Tryd.zeroValue125,
  t55 := Tryd.underlying49,
  a55 := Tryd.isAgg49,
  z55 := Tryd.sizeOf49,
  v55 := Tryd.zeroValue49,
  t66 := Tryd.underlying129,
  a66 := Tryd.isAgg129,
  z66 := Tryd.sizeOf129,
  v66 := Tryd.zeroValue129,
  t70 := Tryd.underlying133,
  a70 := Tryd.isAgg133,
  z70 := Tryd.sizeOf133,
  v70 := Tryd.zeroValue133,
  t76 := Tryd.underlying135,
  a76 := Tryd.isAgg135,
  z76 := Tryd.sizeOf135,
  v76 := Tryd.zeroValue135,
  t77 := Tryd.underlying136,
  a77 := Tryd.isAgg136,
  z77 := Tryd.sizeOf136,
  v77 := Tryd.zeroValue136 }

end Go.Proofs.YtppnahgiekjbnaaDoor

/-! slices.SortFunc over pairs. -/
namespace Go.Proofs.YtppnahgiekjbnaaDoor
open Go.RowKit Go.Sort Go.Lib

set_option maxRecDepth 100000 in
set_option maxHeartbeats 1000000 in
/-- comparePairs: what it lays. -/
theorem cp_lays (x y x' y' : Int) (w : World) :
    Calls Tryd.prog 43 #[.agg #[.int .i64 x, .int .i64 y], .agg #[.int .i64 x', .int .i64 y']] w fun e w' => e = .returned (.int .i64 (cmpP x y x' y')) ∧ ∃ q os, w' = grow (w.drewN q) os := by
  go_enter Tryd.func43, Tryd.ntmps43
  go_wp2
  have q0 : ((w.alloc (.cells #[.int .i64 x, .int .i64 y] 67)).alloc (.cells #[.int .i64 x', .int .i64 y'] 67)).cell? ⟨w.heap.size, 0, none⟩ = some (.int .i64 x) := by simp [go_sem]
  have q1 : ((w.alloc (.cells #[.int .i64 x, .int .i64 y] 67)).alloc (.cells #[.int .i64 x', .int .i64 y'] 67)).cell? ⟨w.heap.size, 1, none⟩ = some (.int .i64 y) := by simp [go_sem]
  have q2 : ((w.alloc (.cells #[.int .i64 x, .int .i64 y] 67)).alloc (.cells #[.int .i64 x', .int .i64 y'] 67)).cell? ⟨w.heap.size + 1, 0, none⟩ = some (.int .i64 x') := by simp [go_sem]
  have q3 : ((w.alloc (.cells #[.int .i64 x, .int .i64 y] 67)).alloc (.cells #[.int .i64 x', .int .i64 y'] 67)).cell? ⟨w.heap.size + 1, 1, none⟩ = some (.int .i64 y') := by simp [go_sem]
  have hsz : ((w.alloc (.cells #[.int .i64 x, .int .i64 y] 67)).alloc (.cells #[.int .i64 x', .int .i64 y'] 67)).heap.size = w.heap.size + 1 + 1 := by simp
  obtain ⟨W, hW⟩ : ∃ W, W = (w.alloc (.cells #[.int .i64 x, .int .i64 y] 67)).alloc (.cells #[.int .i64 x', .int .i64 y'] 67) := ⟨_, rfl⟩
  rw [← hW] at q0 q1 q2 q3 hsz ⊢
  have HW := hid hW
  clear hW
  go_region_held3 (fun w' => w'.cell? ⟨w.heap.size, 0, none⟩ = some (.int .i64 x) ∧ w'.cell? ⟨w.heap.size, 1, none⟩ = some (.int .i64 y) ∧ w'.cell? ⟨w.heap.size + 1, 0, none⟩ = some (.int .i64 x') ∧ w'.cell? ⟨w.heap.size + 1, 1, none⟩ = some (.int .i64 y')) (go_keep) (first
    | (go_at_call 69; refine (cmp_any _ _ _).mono ?_; rintro e w' ⟨rfl, rfl⟩)
    | (go_at_call 68; refine (or_any (cmpI x x') (cmpI y y') _ _ (two_new_d W _ hsz _ _ _).1 (two_new_d W _ hsz _ _ _).2).mono ?_; rintro e w' ⟨rfl, rfl⟩))
  all_goals
    go_wp2_with fail
    go_ret
    exact ⟨rfl, 1, _, by rw [HW.out, alloc_eq_grow, alloc_eq_grow, alloc_eq_grow, grow_grow, grow_grow]; rfl⟩

/-- A pair's two cells. -/
def encP (p : Int × Int) : List Value := [.int .i64 p.1, .int .i64 p.2]
def cmpF (p q : Int × Int) : Int := cmpP p.1 p.2 q.1 q.2
theorem ltF (p q : Int × Int) : ltOf cmpF p q = lessP p.1 p.2 q.1 q.2 := by
  unfold ltOf cmpF
  rw [Bool.eq_iff_iff, decide_eq_true_eq]
  exact cmpP_neg ..
theorem sworder : SWO (ltOf cmpF) where
  irrefl x := by rw [ltF]; unfold lessP; simp
  trans x y z h1 h2 := by
    rw [ltF] at *
    unfold lessP at *
    simp only [Bool.or_eq_true, Bool.and_eq_true, decide_eq_true_eq] at *
    omega
  ntrans x y z h1 h2 := by
    rw [ltF] at *
    unfold lessP at *
    simp only [Bool.or_eq_false_iff, Bool.and_eq_false_iff, decide_eq_false_iff_not] at *
    omega

theorem flatP_map (L : List (Int × Int)) : (flatP L).map (Value.int .i64) = L.flatMap encP := by
  unfold flatP encP
  rw [List.map_flatMap]
  rfl
theorem flatMap_at : ∀ (L : List (Int × Int)) (t : Nat), t < 2 * L.length → (L.flatMap encP)[t]? = (encP (L[t / 2]?.getD (0, 0)))[t % 2]?
  | [], t, h => by simp at h
  | p :: L, 0, _ => rfl
  | p :: L, 1, _ => rfl
  | p :: L, t + 2, h => by
    have ih := flatMap_at L t (by simp at h; omega)
    have e : (p :: L).flatMap encP = .int .i64 p.1 :: .int .i64 p.2 :: L.flatMap encP := rfl
    rw [e, List.getElem?_cons_succ, List.getElem?_cons_succ, ih]
    have h1 : (t + 2) / 2 = t / 2 + 1 := by omega
    have h2 : (t + 2) % 2 = t % 2 := by omega
    rw [h1, h2, List.getElem?_cons_succ]
theorem flatMap_len (L : List (Int × Int)) : (L.flatMap encP).length = 2 * L.length := by rw [← flatP_map, List.length_map, flatP_len]
theorem flatK_eq (d : Array (Int × Int)) : flatK encP 2 d = (d.toList.flatMap encP).toArray := by
  refine ext_get! (by have h := flatMap_len d.toList; rw [Array.length_toList] at h; rw [size_flatK]; refine Eq.trans ?_ h.symm; exact Nat.mul_comm _ _) fun t ht => ?_
  have ht' : t < d.size * 2 := by simpa using ht
  rw [get_flatK _ _ _ _ ht']
  have h1 := flatMap_at d.toList t (by simp; omega)
  have h2 : t / 2 < d.size := by omega
  have h3 : t < (d.toList.flatMap encP).length := by rw [flatMap_len]; simp; omega
  rw [getElem!_pos d _ h2]
  rw [getElem!_pos (d.toList.flatMap encP).toArray t (by simpa using h3)]
  rw [List.getElem_toArray]
  rw [List.getElem?_eq_getElem h3] at h1
  have h4 : (d.toList[t / 2]?.getD (0, 0)) = d[t / 2] := by rw [List.getElem?_eq_getElem (by simpa using h2)]; simp
  rw [h4] at h1
  have h5 : t % 2 = 0 ∨ t % 2 = 1 := by omega
  rcases h5 with e | e
  · rw [e] at h1 ⊢
    simp only [encP, List.getElem?_cons_zero, Option.some.injEq] at h1
    simp [encP, h1]
  · rw [e] at h1 ⊢
    simp only [encP, List.getElem?_cons_succ, List.getElem?_cons_zero, Option.some.injEq] at h1
    simp [encP, h1]

theorem holdsV {w : World} {g : Nat} {cur : Array Value} {e : TypeId} {vs : List Value} (hb : w.heap[g]? = some (.cells cur e (0, 0))) (ht : cur.toList.take vs.length = vs) : Holds id w g 0 vs.toArray := by
  intro j hj
  have hj' : j < vs.length := by simpa using hj
  refine ⟨?_, by simp [World.frozen?, hb]⟩
  have h1 : (cur.toList.take vs.length)[j]? = vs[j]? := by rw [ht]
  rw [List.getElem?_take_of_lt hj'] at h1
  simp only [World.cell?, hb, Nat.zero_add]
  simp only [Option.isSome_none, Bool.false_eq_true, if_false]
  rw [← Array.getElem?_toList, h1]
  simp [hj']
theorem heapV {w : World} {g n : Nat} {os : Array Obj} {cur : Array Value} {e : TypeId} {fr : Nat × Nat} (d : Array Value) (hb : w.heap[g]? = some (.cells cur e fr)) :
    (grow (putRow id (Sort.ahead w n) g 0 d) os).heap[g]? = some (.cells (putCells id 0 d cur) e fr) := by
  have hg : g < w.heap.size := (Array.getElem?_eq_some_iff.1 hb).1
  rw [heap_grow_old _ _ (by simpa using hg)]
  simp [putRow, mapBlock, Sort.ahead, Array.getElem?_modify, hb, onCells]
theorem grownV {w : World} {g n : Nat} {os : Array Obj} (d : Array Value) : w.grownBy (grow (putRow id (Sort.ahead w n) g 0 d) os) (some g) := by
  refine ⟨rfl, rfl, rfl, by simp, fun k hk hne => ?_⟩
  rw [heap_grow_old _ _ (by simpa using hk)]
  have : g ≠ k := fun e => hne (by rw [e])
  simp [putRow, mapBlock, Sort.ahead, Array.getElem?_modify, this]
theorem takeV (cur : Array Value) (ts : List Value) (h : ts.length ≤ cur.size) : (putCells id 0 ts.toArray cur).toList.take ts.length = ts := by
  apply List.ext_getElem?
  intro j
  by_cases hj : j < ts.length
  · rw [List.getElem?_take_of_lt hj, Array.getElem?_toList]
    simp [putCells, hj, show j < cur.size by omega]
  · rw [List.getElem?_take_eq_none (by omega), List.getElem?_eq_none (by omega)]

/-- slices.SortFunc with comparePairs on a row of the call's own. -/
theorem sortP_any (base g n cap : Nat) (L : List (Int × Int)) (w : World) (hL : L.length = n) (hown : w.ownsRow base 67 2 (.slice (some ⟨g, 0, none⟩) n cap) n ((flatP L).map (Value.int .i64))) (hn : n ≤ 1048576) :
    Calls Tryd.prog 42 #[.slice (some ⟨g, 0, none⟩) n cap, .func (.func 43) #[] #[]] w fun e w' =>
      e = .returned (.tuple #[]) ∧ w'.ownsRow base 67 2 (.slice (some ⟨g, 0, none⟩) n cap) n ((flatP (insAll L)).map (Value.int .i64)) ∧ w.grownBy w' (some g) := by
  subst hL
  rcases hown.2 with ⟨hv, _⟩ | ⟨g', cap', cur, hv, hg, hh, h1, h2, h3, h4⟩
  · cases hv
  cases hv
  have hfl : (flatK encP 2 L.toArray) = ((flatP L).map (Value.int .i64)).toArray := by rw [flatK_eq, flatP_map]
  have hH : HoldsK encP 2 w g 0 L.toArray := by
    unfold HoldsK
    rw [hfl]
    refine holdsV hh ?_
    rw [List.length_map, flatP_len, Nat.mul_comm]
    exact h4
  have hent : ∀ args w, (callFunc 43 args).run Tryd.prog w = .ok (.enter 43 args) w := enters_of Tryd.func43 (by kernel_rfl) rfl
  have hcon := AnyQ.slices_SortFunc sortFL 2 Tryd.isAgg67 Tryd.sizeOf67 encP (fun _ => rfl) (fun x v hv => by simp [encP] at hv; rcases hv with rfl | rfl <;> rfl) cmpF sworder 43 #[] g 0 cap L.toArray w hent
    (fun m os dk _ x y => cp_lays x.1 x.2 y.1 y.2 _) hH (lt_of_get hh) (by simp; omega)
  refine Calls.mono hcon ?_
  rintro e w' ⟨rfl, d', m, os, hp, hs, rfl⟩
  obtain ⟨p1, _, p3⟩ := hp
  have hsz : d'.size = L.length := by simpa using p1
  have hperm : d'.toList.Perm L := by
    have e1 : d'.extract 0 L.toArray.size = d' := by rw [show L.toArray.size = d'.size by rw [p1]]; exact Array.extract_size ..
    have e2 : L.toArray.extract 0 L.toArray.size = L.toArray := Array.extract_size ..
    rw [e1, e2] at p3
    exact p3
  have hasc : d'.toList.Pairwise leP := by
    refine List.pairwise_iff_getElem.2 fun i j hi hj hij => ?_
    have hi' : i < d'.size := by simpa using hi
    have hj' : j < d'.size := by simpa using hj
    have h := hs i j (Nat.zero_le _) hij (by rw [← p1]; exact hj')
    rw [ltF, getElem!_pos d' j hj', getElem!_pos d' i hi'] at h
    exact h
  have he : d'.toList = insAll L := insAll_eq hperm hasc
  have hfl' : flatK encP 2 d' = ((flatP (insAll L)).map (Value.int .i64)).toArray := by rw [flatK_eq, flatP_map, he]
  unfold sortWorldK putRowK
  rw [hfl']
  have hlen : ((flatP (insAll L)).map (Value.int .i64)).length = L.length * 2 := by rw [List.length_map, flatP_len, insAll_len, Nat.mul_comm]
  refine ⟨rfl, ⟨hlen, .inr ⟨g, cap, _, rfl, hg, heapV _ hh, h1, h2, by simp [putCells, h3], ?_⟩⟩, grownV _⟩
  rw [← hlen]
  exact takeV cur _ (by rw [hlen, h3]; exact Nat.mul_le_mul_right 2 h1)

end Go.Proofs.YtppnahgiekjbnaaDoor

/-! slices.SortFunc over no pair. -/
namespace Go.Proofs.YtppnahgiekjbnaaDoor
open Go.RowKit Go.Sort Go.Lib

theorem ins_nil (c : Value) (w : World) :
    Calls Tryd.prog 93 #[.slice none 0 0, .int .i64 0, .int .i64 0, c] w fun e w' => e = .returned (.tuple #[]) ∧ w = w' := by
  go_enter Tryd.func93, Tryd.ntmps93
  go_wp2_with fail
  refine wp_loop_rounds 1 ?_; rw [rounds_succ]
  go_wp2_with fail
  go_end0
  exact ⟨rfl, rfl⟩
theorem pdq_nil (l : Int) (c : Value) (w : World) :
    Calls Tryd.prog 66 #[.slice none 0 0, .int .i64 0, .int .i64 0, .int .i64 l, c] w fun e w' => e = .returned (.tuple #[]) ∧ w = w' := by
  go_enter Tryd.func66, Tryd.ntmps66
  go_wp2_with fail
  refine wp_loop_rounds 1 ?_; rw [rounds_succ]
  go_wp2_with (first
    | (go_at_call 93; refine (ins_nil _ _).mono ?_; rintro e w' ⟨rfl, rfl⟩))
  refine bodyPost_ret (results_none rfl _ _ _) rfl ?_
  exact ⟨rfl, rfl⟩
theorem sort_nil (c : Value) (w : World) :
    Calls Tryd.prog 42 #[.slice none 0 0, c] w fun e w' => e = .returned (.tuple #[]) ∧ w = w' := by
  have hl : ∀ W : World, Calls Tryd.prog 67 #[.int .u64 0] W fun e w' => (∃ l : Int, e = .returned (.int .i64 l)) ∧ W = w' := fun W =>
    (Go.Proofs.Any.bits_Len (Go.Proofs.SlLaysF0.n15.bits (P := Tryd.prog) (ρ := sortFL_ren) { sortFL with }) (0 : Int) W (by omega) (by omega)).mono fun e w' ⟨he, hw⟩ => ⟨⟨_, he⟩, hw.symm⟩
  go_enter Tryd.func42, Tryd.ntmps42
  go_wp2_with (first
    | (go_at_call 67; refine (hl _).mono ?_; rintro e w' ⟨⟨l, rfl⟩, rfl⟩)
    | (go_at_call 66; refine (pdq_nil _ _ _).mono ?_; rintro e w' ⟨rfl, rfl⟩))
  go_end0
  exact ⟨rfl, rfl⟩

end Go.Proofs.YtppnahgiekjbnaaDoor

/-! The last question of a tree: the program's. -/
namespace Go.Proofs.YtppnahgiekjbnaaDoor
open Go.RowKit Go.Shelf

attribute [local go_sem] Oper.semAt_some

/-- The last question so far. -/
def lastA (pre : List (Nat × Nat)) : Int := ((pre.getLast?.map fun x => (x.1 : Int))).getD 0
theorem lastA_snoc (pre : List (Nat × Nat)) (x : Nat × Nat) : lastA (pre ++ [x]) = (x.1 : Int) := by unfold lastA; simp
theorem lastA_way (T : List Int) (h k : Nat) : lastA (wayQ T h (k + 1)) = (qsA T h k : Int) := by rw [wayQ_succ, lastA_snoc]

set_option maxRecDepth 100000 in
set_option maxHeartbeats 8000000 in
theorem lastQ_in (n h : Nat) (T : List Int) (w : World) (hT : IsT (n + 1) T) (h6 : n + 1 ≤ 6) (hh : h < 64) :
    CallsIn Fence.wide 14 Tryd.prog 41 #[.agg (tcells ((n + 1 : Nat) : Int) (padL T)).toArray, .int .i64 (h : Int)] w fun e w' => e = .returned (.int .i64 (qsA T h n : Int)) ∧ Below w.heap.size w w' := by
  have hTl : T.length ≤ 63 := by have := pow_le64 h6; have := hT.len; omega
  obtain ⟨_, _, _, _, hi⟩ := zero_tree
  obtain ⟨A, hA⟩ : ∃ A, A = (tcells ((n + 1 : Nat) : Int) (padL T)).toArray := ⟨_, rfl⟩
  have hAs : A.size = 65 := by rw [hA]; unfold tcells; simp [padL_len hTl]
  have hi66 : (Tryd.prog.info? 54).map (·.size) = some A.size := by rw [hi, hAs]
  have HAe := hid hA
  have HT := hid hT
  rw [← hA]
  clear hA hT hi
  refine callsIn_of_wp_marks Tryd.func41 rfl trivial ?_ rfl
  simp only [Tryd.ntmps41, List.size_toArray, List.length_cons, List.length_nil, Nat.reduceAdd, Nat.reduceSub, Array.replicate_succ, Array.replicate_zero, List.push_toArray, List.append_toArray, List.nil_append, List.cons_append]
  have hb4 : ((w.alloc (.cells A 54)).alloc (.cells #[.int .i64 0] 2)).heap[w.heap.size]? = some (.cells A 54 (0, 0)) := (Below.heap_alloc _ _ _ (by simp <;> omega)).trans (heap_alloc_new _ _)
  refine wpIn_wide.2 ?_
  go_wp2_with (first
    | (refine wpList_load_row rfl 54 _ rfl w.heap.size rfl 54 A (0, 0) _ hb4 Tryd.underlying54 rfl hi66 ?_)
    | (go_at_call 61; refine (callsIn_wide.1 (way_in 14 A _ _)).mono ?_; rintro e w' ⟨rfl, rfl⟩))
  rename_i Q1 K1 hk1
  obtain ⟨W0, hW0⟩ : ∃ W0, W0 = ((((w.alloc (.cells A 54)).alloc (.cells #[.int .i64 0] 2)).alloc (.cells A 54)).alloc (.cells #[.int .i64 (h : Int)] 2)) := ⟨_, rfl⟩
  rw [← hW0]
  have hs0 : W0.heap.size = w.heap.size + 4 := by rw [hW0]; simp
  have hk4 : W0.heap[w.heap.size + 1 + 1]? = some (.cells A 54 (0, 0)) := by rw [hW0]; exact (Below.heap_alloc _ _ _ (by simp)).trans (by have := heap_alloc_new ((w.alloc (.cells A 54)).alloc (.cells #[.int .i64 0] 2)) (.cells A 54); simpa using this)
  have hk5 : W0.heap[w.heap.size + 1 + 1 + 1]? = some (.cells #[.int .i64 (h : Int)] 2 (0, 0)) := by rw [hW0]; have := heap_alloc_new (((w.alloc (.cells A 54)).alloc (.cells #[.int .i64 0] 2)).alloc (.cells A 54)) (.cells #[.int .i64 (h : Int)] 2); simpa using this
  have hk1' : W0.heap[w.heap.size + 1]? = some (.cells #[.int .i64 (lastA [])] 2 (0, 0)) := by rw [hW0]; exact (Below.heap_alloc _ _ _ (by simp <;> omega)).trans ((Below.heap_alloc _ _ _ (by simp <;> omega)).trans (new2 _ _ _))
  have hB0 : Below w.heap.size w W0 := by rw [hW0]; exact ((((Below.refl _ w).alloc (Nat.le_refl _) _).alloc (by simp) _).alloc (by simp <;> omega) _).alloc (by simp <;> omega) _
  rw [HAe.out] at hk4
  have Hs0 := hid hs0
  clear hW0 hb4 hs0
  refine (wpIn_wide (n := 14)).1 ?_
  refine wpIn_rangeFunc_P rfl (by decide) (gf := 91) (lb := #[.pointer (some ⟨w.heap.size + 1 + 1, 0, none⟩), .pointer (some ⟨w.heap.size + 1 + 1 + 1, 0, none⟩)]) rfl trivial (enters_of Tryd.func91 (by kernel_rfl) rfl)
    (way_P 13 (by decide) (n + 1) h (w.heap.size + 1 + 1) (w.heap.size + 1 + 1 + 1) T W0 (by have := Hs0.out; omega) (by have := Hs0.out; omega) hk4 hk5 HT.out (by omega) h6 hh) (by have := Hs0.out; simp; omega) (Below.refl _ _) (fun _ => rfl)
    (fun pre W' => W'.heap[w.heap.size + 1]? = some (.cells #[.int .i64 (lastA pre)] 2 (0, 0)) ∧ Below w.heap.size w W')
    (fun _ _ _ => False)
    (OwnIn.and (ownIn_block (fun pre => _) (by have := Hs0.out; omega)) (ownIn_below (by have := Hs0.out; omega) (Nat.le_refl _)))
    (fun _ => ownIn_pure _ _ _)
    ⟨hk1', hB0⟩
    (fun x => { tmps := #[.agg A, .int .i64 (h : Int), .pointer (some ⟨w.heap.size, 0, none⟩), undef, .int .i64 0, .pointer (some ⟨w.heap.size + 1, 0, none⟩), .int .i64 (x.1 : Int), .agg A, .int .i64 (h : Int), .func (.func 91) #[] #[.pointer (some ⟨w.heap.size + 1 + 1, 0, none⟩), .pointer (some ⟨w.heap.size + 1 + 1 + 1, 0, none⟩)], .int .i64 (x.1 : Int), .int .i64 (x.2 : Int), undef, undef], defers := [] }) ?assign ?body ?done ?stop
  case assign =>
    intro l x W K hK
    gi_wp2
    exact hK
  case body =>
    rintro l pre x W hpre hsz ⟨hk, hB⟩
    obtain ⟨c1, f1⟩ := box_cell hk
    have HB := hid hB
    have Hk := hid hk
    have hsl := Hs0.out
    clear hB hk hpre
    gi_wp2
    refine ⟨KeepP.setCell _ _ _ _ (by simp <;> omega), ?_, HB.out.setCell (p := ⟨w.heap.size + 1, 0, none⟩) (by simp only; omega) _⟩
    rw [lastA_snoc]
    simp only [World.setCell, Array.getElem?_modify, Hk.out]
    simp
  case done =>
    rintro W ⟨hk, hB⟩ hD
    rw [lastA_way] at hk
    obtain ⟨c1, f1⟩ := box_cell hk
    have HB := hid hB
    have HD := hid hD
    clear hk hB hD
    refine hk1 _ _ ?_
    go_wp2_with fail
    refine leaves_marks (by simp) [_] _ (by simp) (fun D hD' => by simp only [List.mem_singleton] at hD'; subst hD'; exact HD.out) (fun w' hw' => ?_)
    refine ⟨_, ?_, rfl, HB.out.grown (shut_grown hw' (D := W0.heap.size) (by simp)) HB.out.size (fun r e => by cases e; have := Hs0.out; omega)⟩
    simp [results, Tryd.results41, go_sem]
  case stop =>
    rintro c pre W hpre h hD
    exact h.elim

end Go.Proofs.YtppnahgiekjbnaaDoor

/-! The program's list of all pairs. -/
namespace Go.Proofs.YtppnahgiekjbnaaDoor
open Go.RowKit

/-- 'out = append(out, p)' on a list of pairs that the call itself has made. -/
theorem append_pair {w : World} {ops : Array Oper} {rest : List Oper} {o : Oper} {a : Act} {Q : Exit → Act → World → Prop} (hgd : o.guard = none) {s y : Operand}
    (ho : o.op = .call { callee := .builtin .append, args := #[s, y], argTypes := #[38, 38] })
    {base : Nat} {v : Value} {L : List (Int × Int)} {x x' : Int} (hown : w.ownsRow base 67 2 v L.length ((flatP L).map (Value.int .i64))) (hbase : base ≤ w.heap.size) (hl : L.length ≤ 1099511627776)
    (hs : a.eval s = v) (hy : a.eval y = .slice (some ⟨w.heap.size, 0, none⟩) 1 1)
    (hK : ∀ v' w', w'.ownsRow base 67 2 v' (L ++ [(x, x')]).length ((flatP (L ++ [(x, x')])).map (Value.int .i64)) → w.grownBy w' v.ownBlock → Below base w w' → wpList Tryd.prog ops Q rest (a.put o.dst v') w') :
    wpList Tryd.prog ops Q (o :: rest) a (w.alloc (.cells #[.int .i64 x, .int .i64 x'] 67)) := by
  obtain ⟨i0, hi, hz0, hz1, hz2⟩ := info_parts info_pair
  refine wpList_append_own _ hgd s y 38 ho base 67 i0 (.agg #[.int .i64 0, .int .i64 0]) 2 16 Tryd.underlying38 hi hz0 hz1 hz2 rfl (by decide) v _ _ hs (hown.alloc _) ⟨w.heap.size, 0, none⟩ 1 1 [.int .i64 x, .int .i64 x'] hy rfl ?_ (by simp [Value.oneCell']) (by unfold maxLen; omega) (by omega) (by simp; omega) ?_
  · intro j u hj
    match j, hj with
    | 0, hj => simp at hj; subst hj; simp [go_sem, Addr.add]
    | 1, hj => simp at hj; subst hj; simp [go_sem, Addr.add]
    | j + 2, hj => simp at hj
  · intro v' w1 hown1 hgrow1 _
    have hg : w.grownBy w1 v.ownBlock := (World.grownBy_alloc w _ _).trans hgrow1
    refine hK v' w1 (by rw [flatP_snoc]; simpa using hown1) hg ((Below.refl base w).grown hg hbase (fun k hk => (hown.lt k hk).1))


end Go.Proofs.YtppnahgiekjbnaaDoor

/-! PairingOfTree: the program's. -/
namespace Go.Proofs.YtppnahgiekjbnaaDoor
open Go.RowKit Go.Shelf

/-- What PairingOfTree answers. -/
noncomputable def potR (V : Int) (fs T : List Int) : List (Int × Int) × Int := if codeT V fs T = 0 then (insAll (potL T (V.toNat - 1) fs), 0) else ([], codeT V fs T)
theorem potR_len (V : Int) (fs T : List Int) (h : fs.length ≤ 1048576) (_ : T.length ≤ 1048576) : (potR V fs T).1.length ≤ 1048576 := by
  unfold potR
  split
  · simp only
    rw [insAll_len]
    exact Nat.le_trans (potL_len ..) h
  · simp
theorem anot6 : ∀ f : Fin 64, ∀ q : Fin 6, bits BinOp.andNot IntKind.i64 (f.val : Int) ((2 ^ q.val : Nat) : Int) = (((if f.val.testBit q.val then f.val ^^^ 2 ^ q.val else f.val) : Nat) : Int) := by decide +kernel
theorem xor6 : ∀ f : Fin 64, ∀ q : Fin 6, f.val ^^^ 2 ^ q.val < 64 ∧ (f.val.testBit q.val → f.val ^^^ 2 ^ q.val ≠ f.val) := by decide +kernel

set_option maxRecDepth 100000 in
set_option maxHeartbeats 8000000 in
theorem implPairingOfTree (V : Int) (a0 : Option Addr) (cap : Nat) (fs : List Int) (a : Option Addr) (cap1 : Nat) (T : List Int) (w : World) (hx : SlI w w.heap.size a0 fs) (hx1 : SlI w w.heap.size a T) (hl : fs.length ≤ 1048576) (hl1 : T.length ≤ 1048576)
    (pv : Value) (hG : w.cell? ⟨2, 0, none⟩ = some (.iface 138 pv)) :
    Calls Tryd.prog 21 #[.agg #[.int .i64 V, .slice a0 fs.length cap], .slice a T.length cap1] w fun e w' => ∃ v, e = .returned (.tuple #[v, .int .i64 (potR V fs T).2]) ∧ ResP w w' v (potR V fs T).1 := by
  obtain ⟨Z, hZs, hZ1, hz, hi⟩ := zero_tree
  have hZ0 : ¬ Z = #[] := by rintro rfl; simp at hZs
  obtain ⟨W0, hW0⟩ : ∃ W0, W0 = w.alloc (.cells #[.int .i64 V, .slice a0 fs.length cap] 28) := ⟨_, rfl⟩
  have hB0 : Below w.heap.size w W0 := by rw [hW0]; exact (Below.refl _ w).alloc (Nat.le_refl _) _
  have Hk : Hid (W0.heap[w.heap.size]? = some (.cells #[.int .i64 V, .slice a0 fs.length cap] 28 (0, 0))) := hid (by rw [hW0]; exact heap_alloc_new _ _)
  have Hx := hid hx
  have HB0 := hid hB0
  have HC := hid (treeFor_any V a0 cap fs a cap1 T W0 pv (hx.later hB0 hB0.size) hl (hx1.later hB0 hB0.size) hl1 ((hB0.cell (World.block_lt_of_cell? _ _ hG)).trans hG))
  rw [hW0] at HC
  obtain ⟨k0, k1, _, _⟩ := two_of Hk.out
  rw [hW0] at k0 k1
  clear hx hx1 hB0 hG
  obtain ⟨c, hc⟩ : ∃ c, c = codeT V fs T := ⟨_, rfl⟩
  by_cases h0 : c = 0
  · obtain ⟨hC, hT⟩ := codeT_zero (hc.symm.trans h0)
    have hlo := hC.lo
    have hhi := hC.hi
    rw [← hc, h0] at HC
    obtain ⟨n, rfl⟩ : ∃ n : Nat, V = (n : Int) := ⟨V.toNat, by omega⟩
    rw [Int.toNat_natCast] at hT
    obtain ⟨m, hm⟩ : ∃ m, n = m + 1 := ⟨n - 1, by omega⟩
    have HR : Hid (potR (n : Int) fs T = (insAll (potL T m fs), 0)) := hid (by unfold potR; rw [if_pos (hc.symm.trans h0), Int.toNat_natCast, hm]; rfl)
    have HQ : Hid (∀ q : Nat, q < 64 → ∀ W, Calls Tryd.prog 41 #[.agg (tcells (n : Int) (padL T)).toArray, .int .i64 (q : Int)] W fun e w' => e = .returned (.int .i64 (qsA T q m : Int)) ∧ Below W.heap.size W w') := hid (by
      subst hm
      exact fun q hq W => callsIn_wide.1 (lastQ_in m q T W hT (by omega) hq))
    have HQl : Hid (∀ q : Nat, qsA T q m < 6) := hid (fun q => by have := (way_ok hT q (show m < n by omega)).2.2.2; omega)
    have HC63 := hid hC.range63
    have hfl := hC.len63
    clear hc hC hT hm
    go_enter Tryd.func21, Tryd.ntmps21
    go_wp2_with fail
    refine HC.out.mono ?_
    rintro e w1 ⟨A, rfl, hAs, hA1, hAe, hB1⟩
    rw [← hW0] at hB1
    have HAe := hid (hAe trivial)
    have HB1 := hid (HB0.out.trans ((hB1.alloc hB1.size (.cells A 54)).mono HB0.out.size))
    have Hk1 := hid (((hB1.alloc hB1.size (.cells A 54)).block _ (lt_get Hk.out)).trans Hk.out)
    have Ht1 : Hid ((w1.alloc (.cells A 54)).heap[w1.heap.size]? = some (.cells A 54 (0, 0))) := hid (heap_alloc_new _ _)
    obtain ⟨k0, k1, _, _⟩ := two_of Hk1.out
    have hsc := run_storeCells_new (P := Tryd.prog) w1 54 Z A (by rw [hi, hAs]) (by rw [hZs, hAs]) hA1
    clear hB1 hAe
    go_wp2_with fail
    obtain ⟨w3, hw3⟩ : ∃ x, x = w1.alloc (.cells A 54) := ⟨_, rfl⟩
    have HB3 : Hid (Below w.heap.size w w3) := hid (by rw [hw3]; exact HB1.out)
    have Ht3 : Hid (w3.heap[w1.heap.size]? = some (.cells A 54 (0, 0))) := hid (by rw [hw3]; exact Ht1.out)
    rw [← hw3]
    clear hw3 hsc k0 k1 Hk1 Ht1 HC HB1
    have HQ : Hid (∀ q : Nat, q < 64 → ∀ W, Calls Tryd.prog 41 #[.agg A, .int .i64 (q : Int)] W fun e w' => e = .returned (.int .i64 (qsA T q m : Int)) ∧ Below W.heap.size W w') := hid (by rw [HAe.out]; exact HQ.out)
    have hiA : (Tryd.prog.info? 54).map (·.size) = some A.size := by rw [hi, hAs]
    go_loopw [8, 24] (fun ov hv wx => ∃ (k : Nat) (L : List (Int × Int)), Hid (k ≤ fs.length ∧ L = potL T m (fs.take k)) ∧ hv = .int .i64 (k : Int) ∧ Hid (wx.ownsRow w3.heap.size 67 2 ov L.length ((flatP L).map (Value.int .i64))) ∧ Hid (Below w3.heap.size w3 wx)) (fun _ hv _ => fs.length - (intOf hv).toNat)
    case atStart => exact ⟨0, [], hid ⟨Nat.zero_le _, rfl⟩, rfl, hid (World.ownsRow_nil _ _ _ _), hid (Below.refl _ _)⟩
    case round =>
      obtain ⟨k, L, HK, rfl, HO, HB⟩ := hrel
      obtain ⟨hk, hL⟩ := HK.out
      have hw3 := HB3.out.size
      by_cases hlt : k < fs.length
      · obtain ⟨b, off, hb, rfl, hcl⟩ : ∃ b off, b < w.heap.size ∧ a0 = some ⟨b, off, none⟩ ∧ ∀ i, i < fs.length → w.cell? ⟨b, off + i, none⟩ = some (.int .i64 (fs[i]?.getD 0)) := by
          rcases Hx.out with h | h
          · rw [h] at hlt; simp at hlt
          · exact h
        have hfk := HC63.out _ (getD_mem hlt)
        have hck := ((HB3.out.trans (HB.out.mono HB3.out.size)).cell (p := ⟨b, off + k, none⟩) hb).trans (hcl k hlt)
        have Hsn := hid (potL_take T m fs hlt)
        have hi0 : (0 : Int) ≤ (k : Int) := by omega
        have hi1 : (k : Int) < (fs.length : Int) := by omega
        obtain ⟨x, hxe⟩ : ∃ x : Nat, fs[k]?.getD 0 = (x : Int) := ⟨(fs[k]?.getD 0).toNat, by omega⟩
        have hx64 : x < 64 := by omega
        rw [hxe] at hck Hsn
        have HLq := hid (fun W => HQ.out x hx64 W)
        obtain ⟨q, hq⟩ : ∃ q, q = qsA T x m := ⟨_, rfl⟩
        have hq6 : q < 6 := by rw [hq]; exact HQl.out x
        have Hpo : Hid (potOf T m (x : Int) = if x.testBit q && (x ^^^ 2 ^ q != 0) then some (((x ^^^ 2 ^ q : Nat) : Int), (x : Int)) else none) := hid (by unfold potOf; rw [Int.toNat_natCast, ← hq])
        rw [← hq] at HLq
        have hxl : L.length ≤ 1099511627776 := by have := potL_len T m (fs.take k); rw [hL]; simp at this; omega
        have Han := hid (anot6 ⟨x, hx64⟩ ⟨q, hq6⟩)
        have Hxo := hid (xor6 ⟨x, hx64⟩ ⟨q, hq6⟩)
        have Hsh := hid (shl_two q hq6)
        obtain ⟨low, hlow⟩ : ∃ low : Nat, low = if x.testBit q then x ^^^ 2 ^ q else x := ⟨_, rfl⟩
        simp only at Han
        rw [← hlow] at Han
        have hs2 : bits BinOp.andNot IntKind.i64 (x : Int) (wrap64 (2 ^ q)) = (low : Int) := by rw [Hsh.out]; exact Han.out
        have Hs2 := hid hs2
        have hq0 : (0 : Int) ≤ (q : Int) := by omega
        have ht := (HB.out.block _ (lt_get Ht3.out)).trans Ht3.out
        have hlx : low < 64 := by rw [hlow]; split; exact Hxo.out.1; exact hx64
        have hcs : (((low : Int) != (x : Int)) = true ∧ ((low : Int) != 0) = true ∧ potL T m (fs.take (k + 1)) = L ++ [((low : Int), (x : Int))]) ∨ (((low : Int) != (x : Int)) = true ∧ ((low : Int) != 0) = false ∧ potL T m (fs.take (k + 1)) = L) ∨ (((low : Int) != (x : Int)) = false ∧ potL T m (fs.take (k + 1)) = L) := by
          have h1 := Hsn.out
          rw [Hpo.out, ← hL] at h1
          have h2 := Hxo.out.2
          simp only at h2
          by_cases hb : x.testBit q = true
          · rw [if_pos hb] at hlow
            have h3 := h2 hb
            rw [← hlow] at h1 h3
            by_cases hz : low = 0
            · refine .inr (.inl ⟨by simp; omega, by simp [hz], ?_⟩)
              rw [hb, hz] at h1
              simpa using h1
            · refine .inl ⟨by simp; omega, by simp; omega, ?_⟩
              rw [hb, show (low != 0) = true by simp [hz]] at h1
              simpa using h1
          · rw [if_neg hb] at hlow
            refine .inr (.inr ⟨by simp [hlow], ?_⟩)
            rw [show x.testBit q = false by simpa using hb] at h1
            simpa using h1
        clear hxe hq hlow hs2 hcl hL hk HK Hsn Hpo Han Hxo Hsh
        rcases hcs with ⟨d1, d2, hp⟩ | ⟨d1, d2, hp⟩ | ⟨d1, hp⟩
        · have Hp := hid hp
          clear hp
          have hs2 := Hs2.out
          go_wp2_with (first
            | (refine wpList_load_row rfl 54 _ rfl w1.heap.size rfl 54 A (0, 0) _ ht Tryd.underlying54 rfl hiA ?_)
            | (go_at_call 41; refine (HLq.out _).mono ?_; rintro e w2 ⟨rfl, hb2⟩; have HO2 := hid (ownsRow_below HO.out hb2 (fun g hg => (HO.out.lt g hg).2)); have HB2 := hid (HB.out.trans (hb2.mono HB.out.size)); have hsz2 := HB2.out.size; clear hb2)
            | (at_builtin; refine append_pair rfl rfl HO2.out hsz2 hxl rfl rfl ?_; intro v' w4 hown4 hgrow4 hB4; have Hown4 := hid hown4; have HB4 := hid (HB2.out.trans hB4); clear hown4 hgrow4 hB4))
          clear hs2 Hs2 d1 d2
          go_roundw
          case rel => exact ⟨k + 1, L ++ [((low : Int), (x : Int))], hid ⟨hlt, Hp.out.symm⟩, by go_num, Hown4, HB4⟩
          case measure => simp [intOf]; omega
        · have Hp := hid hp
          clear hp
          have hs2 := Hs2.out
          go_wp2_with (first
            | (refine wpList_load_row rfl 54 _ rfl w1.heap.size rfl 54 A (0, 0) _ ht Tryd.underlying54 rfl hiA ?_)
            | (go_at_call 41; refine (HLq.out _).mono ?_; rintro e w2 ⟨rfl, hb2⟩; have HO2 := hid (ownsRow_below HO.out hb2 (fun g hg => (HO.out.lt g hg).2)); have HB2 := hid (HB.out.trans (hb2.mono HB.out.size)); have hsz2 := HB2.out.size; clear hb2))
          clear hs2 Hs2 d1 d2
          go_roundw
          case rel => exact ⟨k + 1, L, hid ⟨hlt, Hp.out.symm⟩, by go_num, HO2, HB2⟩
          case measure => simp [intOf]; omega
        · have Hp := hid hp
          clear hp
          have hs2 := Hs2.out
          go_wp2_with (first
            | (refine wpList_load_row rfl 54 _ rfl w1.heap.size rfl 54 A (0, 0) _ ht Tryd.underlying54 rfl hiA ?_)
            | (go_at_call 41; refine (HLq.out _).mono ?_; rintro e w2 ⟨rfl, hb2⟩; have HO2 := hid (ownsRow_below HO.out hb2 (fun g hg => (HO.out.lt g hg).2)); have HB2 := hid (HB.out.trans (hb2.mono HB.out.size)); have hsz2 := HB2.out.size; clear hb2))
          clear hs2 Hs2 d1
          go_roundw
          case rel => exact ⟨k + 1, L, hid ⟨hlt, Hp.out.symm⟩, by go_num, HO2, HB2⟩
          case measure => simp [intOf]; omega
      · obtain rfl : k = fs.length := by omega
        have hLl : L.length ≤ 63 := by have := potL_len T m (fs.take fs.length); rw [hL]; simp at this ⊢; omega
        have HX : Hid (insAll L = insAll (potL T m fs)) := hid (by rw [hL, List.take_length])
        have hi1 : ¬ ((fs.length : Int) < (fs.length : Int)) := by omega
        clear hL hk HK
        rcases HO.out.2 with ⟨rfl, h0⟩ | ⟨g, cp, cur, rfl, _⟩
        · have hL0 : L = [] := List.eq_nil_of_length_eq_zero h0
          have HSn := hid (fun c W => sort_nil c W)
          clear h0
          go_wp2_with (first
            | (go_at_call 42; refine (HSn.out _ _).mono ?_; rintro e w' ⟨rfl, rfl⟩))
          go_ret2
          rw [HR.out]
          refine ⟨_, rfl, ?_⟩
          rw [← HX.out, hL0]
          exact ⟨World.ownsRow_nil _ _ _ _, HB3.out.trans (HB.out.mono HB3.out.size)⟩
        · have HS := hid (sortP_any w3.heap.size g L.length cp L wr rfl HO.out (by omega))
          have Hlt := hid HO.out.lt
          go_wp2_with (first
            | (go_at_call 42; refine HS.out.mono ?_; rintro e w4 ⟨rfl, hown4, hgrow4⟩; have Hown4 := hid hown4; have Hgrow4 := hid hgrow4; clear hown4 hgrow4))
          go_ret2
          rw [HR.out]
          have hr : ResP w3 w4 (.slice (some ⟨g, 0, none⟩) L.length cp) (insAll L) := ⟨by rw [insAll_len]; exact Hown4.out, HB.out.grown Hgrow4.out HB.out.size (fun r e => by cases e; exact (Hlt.out g rfl).1)⟩
          refine ⟨_, rfl, ?_⟩
          rw [← HX.out]
          exact hr.later HB3.out
  · have HR : Hid (potR V fs T = ([], c)) := hid (by unfold potR; rw [if_neg (by rw [← hc]; exact h0), ← hc])
    have hcc := codeT_not (by rw [← hc]; exact h0)
    rw [← hc] at hcc HC
    clear hc h0
    rcases hcc with rfl | rfl
    all_goals
      go_enter Tryd.func21, Tryd.ntmps21
      go_wp2_with fail
      refine HC.out.mono ?_
      rintro e w1 ⟨A, rfl, hAs, hA1, hAe, hB1⟩
      rw [← hW0] at hB1
      have HB1 := hid (HB0.out.trans ((hB1.alloc hB1.size (.cells A 54)).mono HB0.out.size))
      have hsc := run_storeCells_new (P := Tryd.prog) w1 54 Z A (by rw [hi, hAs]) (by rw [hZs, hAs]) hA1
      clear hB1 hAe
      go_wp2_with fail
      go_ret2
      rw [HR.out]
      exact ⟨_, rfl, World.ownsRow_nil _ _ _ _, HB1.out⟩

end Go.Proofs.YtppnahgiekjbnaaDoor

/-! All pairs as keys of a map. -/
namespace Go.Proofs.YtppnahgiekjbnaaDoor
open Go.RowKit

theorem row_pair {w : World} {base g cap : Nat} {L : List (Int × Int)} (h : w.ownsRow base 67 2 (.slice (some ⟨g, 0, none⟩) L.length cap) L.length ((flatP L).map (Value.int .i64))) {k : Nat} (hk : k < L.length) {x y : Int} (hx : L[k]?.getD (0, 0) = (x, y)) :
    w.cell? ⟨g, k * 2, none⟩ = some (.int .i64 x) ∧ w.cell? ⟨g, k * 2 + 1, none⟩ = some (.int .i64 y) := by
  have hlen := flatP_len L
  have ha := flatP_at L k hk
  rw [hx] at ha
  unfold at0 at ha
  simp only at ha
  have h0 : k * 2 < (flatP L).length := by omega
  have h1 : k * 2 + 1 < (flatP L).length := by omega
  constructor
  · rw [h.cellAt (k * 2) (by omega), List.getElem?_map, List.getElem?_eq_getElem h0, ← ha.1, List.getElem?_eq_getElem h0]; rfl
  · rw [h.cellAt (k * 2 + 1) (by omega), List.getElem?_map, List.getElem?_eq_getElem h1, ← ha.2, List.getElem?_eq_getElem h1]; rfl


end Go.Proofs.YtppnahgiekjbnaaDoor

/-! The program's IsPairing. -/
namespace Go.Proofs.YtppnahgiekjbnaaDoor
open Go.RowKit

/-- What the program has asked of the first k pairs. -/
def GoodTo (fs ps : List Int) (k : Nat) : Prop := ∀ i, i < k → pairB fs (at0 ps (i * 2)) (at0 ps (i * 2 + 1)) = true ∧ at0 ps (i * 2) ∉ ps.take (i * 2) ∧ at0 ps (i * 2 + 1) ∉ ps.take (i * 2)

theorem mem_take_at {ps : List Int} {m : Nat} {x : Int} (hm : m ≤ ps.length) : x ∈ ps.take m ↔ ∃ j, j < m ∧ at0 ps j = x := by
  rw [List.mem_iff_getElem?]
  constructor
  · rintro ⟨j, hj⟩
    rw [List.getElem?_take] at hj
    split at hj
    · next h => exact ⟨j, h, by unfold at0; rw [hj]; rfl⟩
    · cases hj
  · rintro ⟨j, h, rfl⟩
    refine ⟨j, ?_⟩
    rw [List.getElem?_take, if_pos h]
    unfold at0
    rw [List.getElem?_eq_getElem (by omega)]; rfl

theorem clash_iff {x y u v : Int} : clashB x y u v = false ↔ x ≠ u ∧ x ≠ v ∧ y ≠ u ∧ y ≠ v := by
  unfold clashB; simp [Bool.or_eq_false_iff, and_assoc]

theorem good_free {ps : List Int} {n i : Nat} (hp : ps.length = 2 * n) (hi : i < n) :
    (at0 ps (i * 2) ∉ ps.take (i * 2) ∧ at0 ps (i * 2 + 1) ∉ ps.take (i * 2)) ↔ ∀ j, j < i → clashB (at0 ps (i * 2)) (at0 ps (i * 2 + 1)) (at0 ps (j * 2)) (at0 ps (j * 2 + 1)) = false := by
  rw [mem_take_at (by omega), mem_take_at (by omega)]
  constructor
  · rintro ⟨h0, h1⟩ j hj
    rw [clash_iff]
    exact ⟨fun e => h0 ⟨j * 2, by omega, e.symm⟩, fun e => h0 ⟨j * 2 + 1, by omega, e.symm⟩, fun e => h1 ⟨j * 2, by omega, e.symm⟩, fun e => h1 ⟨j * 2 + 1, by omega, e.symm⟩⟩
  · intro h
    have key : ∀ j, j < i * 2 → at0 ps j ≠ at0 ps (i * 2) ∧ at0 ps j ≠ at0 ps (i * 2 + 1) := by
      intro j hj
      have hc := clash_iff.1 (h (j / 2) (by omega))
      rcases Nat.mod_two_eq_zero_or_one j with hm | hm
      · have e : j / 2 * 2 = j := by omega
        rw [e] at hc
        exact ⟨fun e => hc.1 e.symm, fun e => hc.2.2.1 e.symm⟩
      · have e : j / 2 * 2 + 1 = j := by omega
        rw [e] at hc
        exact ⟨fun e => hc.2.1 e.symm, fun e => hc.2.2.2 e.symm⟩
    exact ⟨fun ⟨j, hj, e⟩ => (key j hj).1 e, fun ⟨j, hj, e⟩ => (key j hj).2 e⟩

theorem less_asym {x y u v : Int} (h : lessP x y u v = true) : lessP u v x y = false := by
  unfold lessP at *
  simp only [Bool.or_eq_true, Bool.and_eq_true, decide_eq_true_eq, Bool.or_eq_false_iff, Bool.and_eq_false_iff, decide_eq_false_iff_not] at *
  omega

theorem okTo_good {fs ps : List Int} {n : Nat} (hp : ps.length = 2 * n) (h : OkTo fs ps n) : NoDrop ps n 1 ∧ GoodTo fs ps n :=
  ⟨fun j _ h2 h3 => less_asym ((h j h3).2.1 h2), fun i hi => ⟨(h i hi).1, (good_free hp hi).2 (h i hi).2.2⟩⟩

theorem good_okTo {fs ps : List Int} {n : Nat} (hp : ps.length = 2 * n) (hs : NoDrop ps n 1) (h : GoodTo fs ps n) : OkTo fs ps n := by
  intro i hi
  have hc := (good_free hp hi).1 (h i hi).2
  refine ⟨(h i hi).1, fun h1 => ?_, hc⟩
  have hd := hs i h1 h1 hi
  have hn := clash_iff.1 (hc (i - 1) (by omega))
  unfold lessP at *
  simp only [Bool.or_eq_true, Bool.and_eq_true, decide_eq_true_eq, Bool.or_eq_false_iff, Bool.and_eq_false_iff, decide_eq_false_iff_not] at *
  omega

/-- The answer. -/
noncomputable def isPairingR (V : Int) (fs : List Int) (n : Nat) (ps : List Int) : Bool × Int := if isCB V fs then (pairingB fs ps n, 0) else (false, 1)

theorem two_mono {P : Program} {f : FuncId} {args : Array Value} {w : World} {r : Bool × Int} {b : Bool} {c : Int} (hr : r = (b, c))
    (h : Calls P f args w fun e w' => e = .returned (.tuple #[.bool b, .int .i64 c]) ∧ Below w.heap.size w w') : Calls P f args w fun e w' => e = .returned (.tuple #[.bool r.1, .int .i64 r.2]) ∧ Below w.heap.size w w' := by
  subst hr; exact h


end Go.Proofs.YtppnahgiekjbnaaDoor

/-! The model's IsPairing. -/
namespace Go.Proofs.YtppnahgiekjbnaaDoor
open Go.RowKit

set_option maxRecDepth 100000 in
set_option maxHeartbeats 1000000 in
theorem pis_any (V : Int) (a : Option Addr) (cap : Nat) (fs : List Int) (a1 : Option Addr) (n c2 : Nat) (ps : List Int) (w : World) (hx : SlI w w.heap.size a fs) (hx1 : SlI w w.heap.size a1 ps) (hl : fs.length ≤ 1048576) (hf : ∀ x ∈ fs, 1 ≤ x ∧ x ≤ 63) (hp : ps.length = 2 * n) (hn : n ≤ 1048576) :
    Calls Tryd.prog 65 #[.agg #[.int .i64 V, .slice a fs.length cap], .slice a1 n c2] w fun e w' => e = .returned (.bool (pairingB fs ps n)) ∧ Below w.heap.size w w' := by
  rcases hx1 with rfl | ⟨b, off, hb, rfl, hc⟩
  · obtain rfl : n = 0 := by simp at hp; omega
    have He := hid (pairingB_true (fs := fs) (ps := []) (n := 0) (fun i hi => by omega))
    clear hp hf hx
    go_enter Tryd.func65, Tryd.ntmps65
    go_wp2
    refine wp_loop_rounds 1 ?_; rw [rounds_succ]
    go_wp2
    go_ret
    exact ⟨ret_bool He.out.symm, (Below.refl _ w).alloc (Nat.le_refl _) _⟩
  · exact pis_some V a cap fs b off n c2 ps w hx hl hf hb hc hp hn

end Go.Proofs.YtppnahgiekjbnaaDoor

/-! l02With: a pair is put into an ascending list. -/
namespace Go.Proofs.YtppnahgiekjbnaaDoor
open Go.RowKit

attribute [local go_sem] Oper.semAt_some

/-- The place of a pair: behind all that are not greater, from the end on. -/
def placeP (qs : List Int) (x y : Int) : Nat → Nat
  | 0 => 0
  | k + 1 => if lessP x y (at0 qs (k * 2)) (at0 qs (k * 2 + 1)) then placeP qs x y k else k + 1
theorem placeP_le (qs : List Int) (x y : Int) : ∀ n, placeP qs x y n ≤ n
  | 0 => Nat.le_refl _
  | k + 1 => by
    unfold placeP
    split
    · exact Nat.le_succ_of_le (placeP_le qs x y k)
    · exact Nat.le_refl _
/-- The list with the pair. -/
def insP (qs : List Int) (n : Nat) (x y : Int) : List Int := qs.take (2 * placeP qs x y n) ++ (x :: y :: qs.drop (2 * placeP qs x y n))
theorem insP_len {qs : List Int} {n : Nat} (h : qs.length = 2 * n) (x y : Int) : (insP qs n x y).length = 2 * (n + 1) := by
  have := placeP_le qs x y n
  unfold insP
  simp
  omega

/-- At the loop's end. -/
def WhOut (B : Nat) (V : Int) (a0 : Option Addr) (l cap : Nat) (a1 : Option Addr) (n cap1 : Nat) (x y : Int) (P : Nat) (a' : Act) : Prop :=
  ∃ us : Nat → Value, a' = { tmps := List.toArray ((.agg #[.int .i64 V, .slice a0 l cap]) :: (.slice a1 n cap1) :: (.agg #[.int .i64 x, .int .i64 y]) :: (.pointer (some ⟨B, 0, none⟩)) :: us 4 :: (.pointer (some ⟨B + 1, 0, none⟩)) :: (.slice none 0 0) :: (.bool false) :: (.int .i64 (P : Int)) :: us 9 :: us 10 :: us 11 :: us 12 :: us 13 :: us 14 :: us 15 :: us 16 :: us 17 :: us 18 :: us 19 :: us 20 :: us 21 :: us 22 :: us 23 :: us 24 :: us 25 :: us 26 :: us 27 :: us 28 :: us 29 :: us 30 :: us 31 :: us 32 :: us 33 :: us 34 :: us 35 :: us 36 :: us 37 :: us 38 :: us 39 :: us 40 :: us 41 :: us 42 :: []), defers := [] }
theorem whOut_of {B : Nat} {V : Int} {a0 : Option Addr} {l cap : Nat} {a1 : Option Addr} {n cap1 : Nat} {x y : Int} {P : Nat} (tm : Array Value) (h : tm = List.toArray ((.agg #[.int .i64 V, .slice a0 l cap]) :: (.slice a1 n cap1) :: (.agg #[.int .i64 x, .int .i64 y]) :: (.pointer (some ⟨B, 0, none⟩)) :: tm.getD 4 undef :: (.pointer (some ⟨B + 1, 0, none⟩)) :: (.slice none 0 0) :: (.bool false) :: (.int .i64 (P : Int)) :: tm.getD 9 undef :: tm.getD 10 undef :: tm.getD 11 undef :: tm.getD 12 undef :: tm.getD 13 undef :: tm.getD 14 undef :: tm.getD 15 undef :: tm.getD 16 undef :: tm.getD 17 undef :: tm.getD 18 undef :: tm.getD 19 undef :: tm.getD 20 undef :: tm.getD 21 undef :: tm.getD 22 undef :: tm.getD 23 undef :: tm.getD 24 undef :: tm.getD 25 undef :: tm.getD 26 undef :: tm.getD 27 undef :: tm.getD 28 undef :: tm.getD 29 undef :: tm.getD 30 undef :: tm.getD 31 undef :: tm.getD 32 undef :: tm.getD 33 undef :: tm.getD 34 undef :: tm.getD 35 undef :: tm.getD 36 undef :: tm.getD 37 undef :: tm.getD 38 undef :: tm.getD 39 undef :: tm.getD 40 undef :: tm.getD 41 undef :: tm.getD 42 undef :: [])) : WhOut B V a0 l cap a1 n cap1 x y P { tmps := tm, defers := [] } :=
  ⟨fun i => tm.getD i undef, congrArg (fun t => ({ tmps := t, defers := [] } : Act)) h⟩

def WhQ (W0 : World) (B : Nat) (V : Int) (a0 : Option Addr) (l cap : Nat) (a1 : Option Addr) (n cap1 : Nat) (x y : Int) (P : Nat) : Exit → Act → World → Prop
  | .exit 0, a', wr => WhOut B V a0 l cap a1 n cap1 x y P a' ∧ Below W0.heap.size W0 wr
  | _, _, _ => False

set_option maxRecDepth 1000000 in
set_option maxHeartbeats 4000000 in
theorem with_any (V : Int) (a0 : Option Addr) (cap : Nat) (fs : List Int) (b off n cap1 : Nat) (qs : List Int) (x y : Int) (w : World) (hx : SlI w w.heap.size a0 fs) (hb : b < w.heap.size) (hcl : ∀ i, i < qs.length → w.cell? ⟨b, off + i, none⟩ = some (.int .i64 (qs[i]?.getD 0))) (hl : fs.length ≤ 1048576) (hf : ∀ x ∈ fs, 1 ≤ x ∧ x ≤ 63) (hp : qs.length = 2 * n) (hn : n + 1 ≤ 1048576) (hcap : n ≤ cap1) :
    Calls Tryd.prog 40 #[.agg #[.int .i64 V, .slice a0 fs.length cap], .slice (some ⟨b, off, none⟩) n cap1, .agg #[.int .i64 x, .int .i64 y]] w fun e w' => ∃ v, e = .returned (.tuple #[v, .bool (pairingB fs (insP qs n x y) (n + 1))]) ∧ w'.ownsRow w.heap.size 67 2 v (n + 1) ((insP qs n x y).map (Value.int .i64)) ∧ Below w.heap.size w w' := by
  obtain ⟨W0, hW0⟩ : ∃ W0, W0 = (w.alloc (.cells #[.int .i64 V, .slice a0 fs.length cap] 28)).alloc (.cells #[.int .i64 x, .int .i64 y] 67) := ⟨_, rfl⟩
  have hB0 : Below w.heap.size w W0 := by rw [hW0]; exact ((Below.refl _ w).alloc (Nat.le_refl _) _).alloc (by simp) _
  have hs0 : W0.heap.size = w.heap.size + 2 := by rw [hW0]; simp
  have hpb : W0.heap[w.heap.size + 1]? = some (.cells #[.int .i64 x, .int .i64 y] 67 (0, 0)) := by
    have := heap_alloc_new (w.alloc (.cells #[.int .i64 V, .slice a0 fs.length cap] 28)) (.cells #[.int .i64 x, .int .i64 y] 67)
    rw [World.size_alloc] at this
    rw [hW0]
    exact this
  have hk0 : W0.cell? ⟨w.heap.size, 0, none⟩ = some (.int .i64 V) := by rw [hW0]; simp [go_sem]
  have hk1 : W0.cell? ⟨w.heap.size, 1, none⟩ = some (.slice a0 fs.length cap) := by rw [hW0]; simp [go_sem]
  have Hcl := hid hcl
  have Hp := hid hp
  have HB0 := hid hB0
  have Hpb := hid hpb
  have Hk0 := hid hk0
  have Hk1 := hid hk1
  have Hx := hid hx
  obtain ⟨P, hP⟩ : ∃ P, P = placeP qs x y n := ⟨_, rfl⟩
  have HP := hid hP
  clear hx hcl hp hB0 hpb hk0 hk1 hP
  go_enter Tryd.func40, Tryd.ntmps40
  go_wp2_with fail
  rw [← hW0]
  clear hW0
  refine wp_mono (Q := WhQ W0 w.heap.size V a0 fs.length cap (some ⟨b, off, none⟩) n cap1 x y P) ?_ ?_
  · go_loopw [8] (fun i wr => ∃ k : Nat, k ≤ n ∧ i = .int .i64 k ∧ Hid (placeP qs x y k = P) ∧ Below W0.heap.size W0 wr) (fun i _ => (intOf i).toNat)
    case atStart => exact ⟨n, Nat.le_refl _, rfl, hid HP.out.symm, Below.refl _ _⟩
    case round =>
      obtain ⟨k, hk, rfl, Hk, hB⟩ := hrel
      rcases k with _ | k
      · have HB := hid hB
        have HP0 : Hid (P = 0) := hid Hk.out.symm
        clear hB
        go_wp2_with fail
        go_quiet (fail)
        go_wp2_with fail
        rw [HP0.out]
        exact ⟨whOut_of _ rfl, HB.out.trans (below_drewN (Below.refl _ wr) _)⟩
      · have hcl := Hcl.out
        have hBw := HB0.out.trans (hB.mono HB0.out.size)
        have hc2 : wr.cell? ⟨b, off + k * 2, none⟩ = some (.int .i64 (at0 qs (k * 2))) := (hBw.cell (p := ⟨b, off + k * 2, none⟩) hb).trans (hcl _ (by have := Hp.out; omega))
        have hc3 : wr.cell? ⟨b, off + k * 2 + 1, none⟩ = some (.int .i64 (at0 qs (k * 2 + 1))) := (hBw.cell (p := ⟨b, off + (k * 2 + 1), none⟩) hb).trans (hcl _ (by have := Hp.out; omega))
        obtain ⟨x', hx'⟩ : ∃ x, x = at0 qs (k * 2) := ⟨_, rfl⟩
        obtain ⟨y', hy'⟩ : ∃ y, y = at0 qs (k * 2 + 1) := ⟨_, rfl⟩
        rw [← hx'] at hc2
        rw [← hy'] at hc3
        obtain ⟨p0, p1, _, _⟩ := two_of ((hB.block _ (lt_of_get Hpb.out)).trans Hpb.out)
        obtain ⟨c, hcc⟩ : ∃ c, c = lessP x y x' y' := ⟨_, rfl⟩
        have HL := hid (less_any x y x' y' wr.drew)
        rw [← hcc] at HL
        have hi0 : (0 : Int) ≤ (k : Int) := by omega
        have hi1 : (k : Int) < (n : Int) := by omega
        have hpos : (0 : Int) < ((k + 1 : Nat) : Int) := by omega
        have hwr : IntKind.i64.wrap ((k : Int) + 1 - 1) = (k : Int) := by rw [IntKind.wrap_i64]; omega
        have hwr3 : IntKind.i64.wrap (k : Int) = (k : Int) := by rw [IntKind.wrap_i64]; omega
        have hwr2 : IntKind.i64.wrap (((k + 1 : Nat) : Int) - 1) = (k : Int) := by rw [IntKind.wrap_i64]; omega
        have HB := hid hB
        have Hxy : Hid (placeP qs x y (k + 1) = if c then placeP qs x y k else k + 1) := hid (by rw [hcc, hx', hy']; rfl)
        clear hcl hx' hy' hB hBw hcc
        go_wp2_with fail
        go_region_with (go_at_call 64; refine HL.out.mono ?_; rintro e w2 ⟨rfl, hB2⟩; have HB2 := hid hB2; clear hB2)
        all_goals
          have HB3 := hid (HB.out.trans (((below_drewN (Below.refl _ wr) 1).trans HB2.out).mono HB.out.size))
          cases c
          · have HP0 : Hid (P = k + 1) := hid (by rw [← Hk.out, Hxy.out]; rfl)
            go_wp2_with fail
            rw [HP0.out]
            exact ⟨whOut_of _ rfl, HB3.out⟩
          · have HP0 : Hid (placeP qs x y k = P) := hid (by rw [← Hk.out, Hxy.out]; rfl)
            go_wp2_with fail
            go_roundw
            case rel => exact ⟨k, by omega, by go_num, HP0, HB3.out⟩
            case measure => simp [intOf]
  · rintro e a' wr h
    cases e with
    | exit id =>
      rcases id with _ | id
      · obtain ⟨⟨us, rfl⟩, hB⟩ := h
        have hPn := placeP_le qs x y n
        rw [← HP.out] at hPn
        have hBw := HB0.out.trans (hB.mono HB0.out.size)
        obtain ⟨p0, p1, _, _⟩ := two_of ((hB.block _ (lt_of_get Hpb.out)).trans Hpb.out)
        have k0 := (hB.cell (p := ⟨w.heap.size, 0, none⟩) (by simp only; omega)).trans Hk0.out
        have k1 := (hB.cell (p := ⟨w.heap.size, 1, none⟩) (by simp only; omega)).trans Hk1.out
        have hi0 : (0 : Int) ≤ (P : Int) := by omega
        have hi1 : (P : Int) ≤ (n : Int) := by omega
        have hi2 : (n : Int) ≤ (cap1 : Int) := by omega
        have hi3 : (P : Int) ≤ (cap1 : Int) := by omega
        have HBw := hid hBw
        have Hi := hid hPn
        clear hBw hPn
        have hcl := Hcl.out
        · obtain ⟨ad, had, hadc⟩ : ∃ ad : Addr, (if cap1 = P then some (⟨b, off, none⟩ : Addr) else some ⟨b, off + P * 2, none⟩) = some ad ∧ ∀ W', Below w.heap.size w W' → ∀ j, j < (n - P) * 2 → W'.cell? (ad.add j) = some (.int .i64 ((qs.drop (2 * P))[j]?.getD 0)) := by
            by_cases hcp : cap1 = P
            · exact ⟨_, if_pos hcp, fun W' _ j hj => by have := Hi.out; omega⟩
            · refine ⟨_, if_neg hcp, fun W' h j hj => ?_⟩
              have hadd : (⟨b, off + P * 2, none⟩ : Addr).add j = ⟨b, off + (P * 2 + j), none⟩ := by unfold Addr.add; split <;> simp_all [Nat.add_assoc]
              rw [hadd, (h.cell (p := ⟨b, off + (P * 2 + j), none⟩) hb), hcl _ (by have := Hp.out; omega), List.getElem?_drop, Nat.mul_comm 2 P]
          have hW1 := one_pair (w := wr.drew) (base := wr.heap.size) (Nat.le_refl _) x y
          have hBd : Below wr.heap.size wr (wr.drew.alloc (.cells #[.int .i64 x, .int .i64 y] 67)) := (below_drewN (Below.refl _ wr) 1).alloc (Nat.le_refl _) _
          obtain ⟨v1, W2, hr1, hown1, hg1, hb1⟩ := append_run (l := n - P) (c := cap1 - P) (ys := qs.drop (2 * P)) hW1 hBd.size (by omega) (by omega) (by have := Hp.out; simp; omega) (hadc _ (HBw.out.trans (hBd.mono HBw.out.size)))
          have hB2 := hBd.trans hb1
          obtain ⟨g1, c1, rfl, hg1l⟩ : ∃ g c, v1 = .slice (some ⟨g, 0, none⟩) (1 + (n - P)) c ∧ g < W2.heap.size := by
            rcases hown1.2 with ⟨_, h0⟩ | ⟨g, cp, cur, h1, _, h2, _⟩
            · omega
            · exact ⟨g, cp, h1, lt_of_get h2⟩
          have hown0 := World.ownsRow_made (base := wr.heap.size) (e := 67) (size := 2) W2 #[] 0 hB2.size (by unfold maxLen; omega) rfl
          have hB3 : Below wr.heap.size wr (W2.alloc (.cells #[] 67)) := hB2.alloc hB2.size _
          obtain ⟨v4, W4, hr4, hown4, hg4, hb4⟩ := append_run (xs := []) (ad := ⟨b, off, none⟩) (l := P) (c := cap1) (ys := qs.take (2 * P)) hown0 hB3.size (by omega) (by omega) (by have := Hp.out; have := Hi.out; simp; omega) (fun j hj => by
            have hadd : (⟨b, off, none⟩ : Addr).add j = ⟨b, off + j, none⟩ := by unfold Addr.add; split <;> simp_all
            rw [hadd, ((HBw.out.trans (hB3.mono HBw.out.size)).cell (p := ⟨b, off + j, none⟩) hb), hcl _ (by have := Hp.out; have := Hi.out; omega), List.getElem?_take_of_lt (by omega)])
          have hB4 := hB3.trans hb4
          have hown1' := (hown1.alloc (.cells #[] 67)).kept hg4 (.inr (by intro e; simp [Value.ownBlock] at e; omega))
          obtain ⟨v5, W5, hr5, hown5, hg5, hb5⟩ := append_run (ad := ⟨g1, 0, none⟩) (l := 1 + (n - P)) (c := c1) (ys := [x, y] ++ qs.drop (2 * P)) hown4 hB4.size (by have := Hi.out; omega) (by omega) (by have := Hp.out; simp; omega) (fun j hj => hown1'.cells rfl j _ (map_get (by have := Hp.out; simp; omega)))
          have hB5 := hB4.trans hb5
          have hall : ([] ++ qs.take (2 * P)) ++ ([x, y] ++ qs.drop (2 * P)) = insP qs n x y := by unfold insP; rw [← HP.out]; simp
          rw [hall, show 0 + P + (1 + (n - P)) = n + 1 by have := Hi.out; omega] at hown5
          obtain ⟨g5, c5, rfl⟩ : ∃ g c, v5 = .slice (some ⟨g, 0, none⟩) (n + 1) c := by
            rcases hown5.2 with ⟨_, h0⟩ | ⟨g, cp, cur, h1, _, h2, _⟩
            · omega
            · exact ⟨g, cp, h1⟩
          have hBW5 := HBw.out.trans (hB5.mono HBw.out.size)
          have HI := hid (pis_any V a0 cap fs (some ⟨g5, 0, none⟩) (n + 1) c5 (insP qs n x y) W5 (Hx.out.later hBW5 hBW5.size) (flat_slI hown5) hl hf (insP_len Hp.out x y) hn)
          have q0 := (hB5.cell (p := ⟨w.heap.size, 0, none⟩) (by have := HBw.out.size; have := lt_of_get Hpb.out; have := hB.size; simp only; omega)).trans k0
          have q1 := (hB5.cell (p := ⟨w.heap.size, 1, none⟩) (by have := HBw.out.size; have := lt_of_get Hpb.out; have := hB.size; simp only; omega)).trans k1
          have Hown5 := hid (ownsRow_base hown5 HBw.out.size)
          have HBW5 := hid hBW5
          clear hown5 hB5 hBW5 hall hown1' hB4 hown4 hg4 hb4 hB3 hown0 hB2 hown1 hg1 hb1 hg5 hb5 hW1 hBd hadc
          simp only [Exit.inBlock, Exit.then]
          go_wp2_with fail
          refine wp_region_any (by kernel_rfl) ?_
          refine wpAny_take (i := 2) (v := ?_) rfl (by kernel_rfl) (by kernel_rfl) (by kernel_rfl) (fun _ _ _ h => h) (Or.inl ⟨by rfl, ?_⟩) ?_
          rotate_left
          · intro w; go_simp; rfl
          refine wpAny_take (i := 3) (v := ?_) rfl (by kernel_rfl) (by kernel_rfl) (by kernel_rfl) (fun _ _ _ h => h) (Or.inl ⟨by rfl, ?_⟩) ?_
          rotate_left
          · intro w; go_simp; rfl
          refine wpAny_take (i := 4) (v := ?_) rfl (by kernel_rfl) (by kernel_rfl) (by kernel_rfl) (fun _ _ _ h => h) (Or.inl ⟨by rfl, ?_⟩) ?_
          rotate_left
          · intro w; go_simp; rfl
          refine wpAny_ready (rs := [0]) (by kernel_rfl) (by simp) ?_
          refine AllReady.cons rfl (fun K hK => ?_) AllReady.nil
          go_simp
          refine hK _ _ ?_
          clear hK K
          refine wpAny_ready (rs := [1]) (by kernel_rfl) (by simp) ?_
          refine AllReady.cons rfl (fun K hK => ?_) AllReady.nil
          go_simp
          refine hK _ _ ?_
          clear hK K
          refine wpAny_ready (rs := [5]) (by kernel_rfl) (by simp) ?_
          refine AllReady.cons rfl (fun K hK => ?_) AllReady.nil
          rw [if_pos (by rfl)]
          refine wp_append_run rfl rfl (show _ = Value.slice (some ad) (n - P) (cap1 - P) from by first | exact congrArg (fun t => Value.slice t (n - P) (cap1 - P)) had | (rw [← had]; rfl)) hr1 ?_
          refine hK _ _ ?_
          clear hK K
          refine wpAny_ready (rs := [6]) (by kernel_rfl) (by simp) ?_
          refine AllReady.cons rfl (fun K hK => ?_) AllReady.nil
          go_simp
          refine hK _ _ ?_
          clear hK K
          refine wpAny_done (by kernel_rfl) ?_ _
          simp only [Exit.then]
          go_wp2_with (first
            | (at_builtin; first | (refine wpList_append_run rfl rfl rfl rfl hr4 ?_) | (refine wpList_append_run rfl rfl rfl rfl hr5 ?_))
            | (go_at_call 65; refine HI.out.mono ?_; rintro e w6 ⟨rfl, hB6⟩; have HB6 := hid hB6; clear hB6))
          go_ret2
          exact ⟨_, rfl, Hown5.out.kept (row := none) ⟨HB6.out.os, HB6.out.tape, HB6.out.output, HB6.out.size, fun k hk _ => HB6.out.block k hk⟩ (.inr (by simp [Value.ownBlock])), HBW5.out.trans (HB6.out.mono HBW5.out.size)⟩
      · exact h.elim
    | normal => exact h.elim
    | goto l => exact h.elim
    | ret => exact h.elim
    | panic ch => exact h.elim
    | outgrown => exact h.elim

end Go.Proofs.YtppnahgiekjbnaaDoor

/-! PairingOfTree: the model's. -/
namespace Go.Proofs.YtppnahgiekjbnaaDoor
open Go.RowKit Go.Shelf

theorem placeP_eq (L : List (Int × Int)) (x y : Int) : ∀ k, k ≤ L.length → placeP (flatP L) x y k = plL L (x, y) k
  | 0, _ => rfl
  | k + 1, h => by
    obtain ⟨e1, e2⟩ := flatP_at L k (by omega)
    unfold placeP plL
    rw [e1, e2, placeP_eq L x y k (by omega)]
theorem flatP_take2 : ∀ (L : List (Int × Int)) (P : Nat), (flatP L).take (2 * P) = flatP (L.take P)
  | [], P => by simp [flatP]
  | p :: L, 0 => by simp [flatP]
  | p :: L, P + 1 => by
    have e : flatP (p :: L) = p.1 :: p.2 :: flatP L := by simp [flatP]
    have e2 : flatP ((p :: L).take (P + 1)) = p.1 :: p.2 :: flatP (L.take P) := by simp [flatP]
    rw [e, e2, show 2 * (P + 1) = 2 * P + 1 + 1 by omega, List.take_succ_cons, List.take_succ_cons, flatP_take2 L P]
theorem flatP_drop2 : ∀ (L : List (Int × Int)) (P : Nat), (flatP L).drop (2 * P) = flatP (L.drop P)
  | [], P => by simp [flatP]
  | p :: L, 0 => by simp [flatP]
  | p :: L, P + 1 => by
    have e : flatP (p :: L) = p.1 :: p.2 :: flatP L := by simp [flatP]
    rw [e, show 2 * (P + 1) = 2 * P + 1 + 1 by omega, List.drop_succ_cons, List.drop_succ_cons, flatP_drop2 L P, List.drop_succ_cons]
theorem insP_eq (L : List (Int × Int)) (x y : Int) : insP (flatP L) L.length x y = flatP (insL L (x, y)) := by
  unfold insP insL
  rw [placeP_eq L x y _ (Nat.le_refl _), flatP_take2, flatP_drop2]
  simp [flatP]
theorem insL_len (L : List (Int × Int)) (p : Int × Int) : (insL L p).length = L.length + 1 := by
  have := (insL_perm L p).length_eq
  simpa using this
theorem xor64 : ∀ f : Fin 64, ∀ q : Fin 6, bits BinOp.xor IntKind.i64 (f.val : Int) ((2 ^ q.val : Nat) : Int) = ((f.val ^^^ 2 ^ q.val : Nat) : Int) := by decide +kernel
theorem and64 : ∀ f : Fin 64, ∀ q : Fin 6, ((bits BinOp.and IntKind.i64 (f.val : Int) ((2 ^ q.val : Nat) : Int)) != 0) = f.val.testBit q.val := by decide +kernel
theorem sub64 : ∀ f : Fin 64, ∀ q : Fin 6, f.val.testBit q.val = true → (f.val ^^^ 2 ^ q.val) &&& f.val = f.val ^^^ 2 ^ q.val := by decide +kernel

set_option maxRecDepth 100000 in
set_option maxHeartbeats 8000000 in
theorem specPairingOfTree (V : Int) (a0 : Option Addr) (cap : Nat) (fs : List Int) (a : Option Addr) (cap1 : Nat) (T : List Int) (w : World) (hx : SlI w w.heap.size a0 fs) (hx1 : SlI w w.heap.size a T) (hl : fs.length ≤ 1048576) (hl1 : T.length ≤ 1048576) :
    Calls Tryd.prog 20 #[.agg #[.int .i64 V, .slice a0 fs.length cap], .slice a T.length cap1] w fun e w' => ∃ v, e = .returned (.tuple #[v, .int .i64 (potR V fs T).2]) ∧ ResP w w' v (potR V fs T).1 := by
  obtain ⟨W0, hW0⟩ : ∃ W0, W0 = w.alloc (.cells #[.int .i64 V, .slice a0 fs.length cap] 28) := ⟨_, rfl⟩
  have hB0 : Below w.heap.size w W0 := by rw [hW0]; exact (Below.refl _ w).alloc (Nat.le_refl _) _
  have Hk : Hid (W0.heap[w.heap.size]? = some (.cells #[.int .i64 V, .slice a0 fs.length cap] 28 (0, 0))) := hid (by rw [hW0]; exact heap_alloc_new _ _)
  have Hx := hid hx
  have Hx1 := hid hx1
  have HB0 := hid hB0
  have HC := hid (codeS_any V a0 cap fs a cap1 T W0 (hx.later hB0 hB0.size) hl (hx1.later hB0 hB0.size) hl1)
  rw [hW0] at HC
  obtain ⟨k0, k1, _, _⟩ := two_of Hk.out
  rw [hW0] at k0 k1
  clear hx hx1 hB0
  obtain ⟨c, hc⟩ : ∃ c, c = codeT V fs T := ⟨_, rfl⟩
  by_cases h0 : c = 0
  · obtain ⟨hC, hT⟩ := codeT_zero (hc.symm.trans h0)
    have hlo := hC.lo
    have hhi := hC.hi
    rw [← hc, h0] at HC
    obtain ⟨n, rfl⟩ : ∃ n : Nat, V = (n : Int) := ⟨V.toNat, by omega⟩
    rw [Int.toNat_natCast] at hT
    obtain ⟨m, hm⟩ : ∃ m, n = m + 1 := ⟨n - 1, by omega⟩
    have HR : Hid (potR (n : Int) fs T = (insAll (potL T m fs), 0)) := hid (by unfold potR; rw [if_pos (hc.symm.trans h0), Int.toNat_natCast, hm]; rfl)
    have HWy := hid (fun (q : Nat) (hq : q < 64) W (hb : Below w.heap.size w W) => wayS_any n q a cap1 T W (Hx1.out.later hb hb.size) hT (by omega) (by omega) hq)
    have HQl : Hid (∀ q : Nat, qsA T q m < 6 ∧ (wayL T q n)[m]?.getD 0 = (qsA T q m : Int)) := hid (fun q => by
      have h := way_ok hT q (show m < n by omega)
      refine ⟨by omega, ?_⟩
      rw [wayL_at T q (show m < n by omega)]
      exact h.2.2.1)
    have HC63 := hid hC.range63
    have HCc := hid hC.closed
    have hfl := hC.len63
    have hn1 : IntKind.i64.wrap ((n : Int) - 1) = (m : Int) := by rw [IntKind.wrap_i64]; omega
    have Hn1 := hid hn1
    have Hm := hid hm
    clear hc hC hT hm hn1
    go_enter Tryd.func20, Tryd.ntmps20
    go_wp2_with fail
    refine HC.out.mono ?_
    rintro e w1 ⟨rfl, hB1⟩
    rw [← hW0] at hB1
    have HB1 := hid (HB0.out.trans (hB1.mono HB0.out.size))
    have Hk1 := hid ((hB1.block _ (lt_get Hk.out)).trans Hk.out)
    have hown0 := World.ownsRow_made (base := w1.heap.size) (e := 67) (size := 2) w1 #[] 0 (by simp) (by simp [maxLen]) rfl
    have Hown0 := hid hown0
    clear hB1 k0 k1 hown0 Hk HB0 hW0 HC
    go_wp2_with fail
    go_loopw [7, 8] (fun ov hv wx => ∃ (k g cp : Nat) (L : List (Int × Int)), Hid (k ≤ fs.length ∧ L = insAll (potL T m (fs.take k))) ∧ ov = .slice (some ⟨g, 0, none⟩) L.length cp ∧ hv = .int .i64 (k : Int) ∧ Hid (wx.ownsRow w1.heap.size 67 2 (.slice (some ⟨g, 0, none⟩) L.length cp) L.length ((flatP L).map (Value.int .i64))) ∧ Hid (Below w1.heap.size w1 wx)) (fun _ hv _ => fs.length - (intOf hv).toNat)
    case atStart => exact ⟨0, _, _, [], hid ⟨Nat.zero_le _, rfl⟩, rfl, rfl, Hown0, hid ((Below.refl _ w1).alloc (Nat.le_refl _) _)⟩
    case round =>
      clear Hown0
      obtain ⟨k, g, cp, L, HK, rfl, rfl, HO, HB⟩ := hrel
      obtain ⟨hk, hL⟩ := HK.out
      have Hkr := hid ((HB.out.block _ (lt_get Hk1.out)).trans Hk1.out)
      obtain ⟨q0, q1, _, _⟩ := two_of Hkr.out
      have hw1 := HB1.out.size
      by_cases hlt : k < fs.length
      · obtain ⟨b, off, hb, rfl, hcl⟩ : ∃ b off, b < w.heap.size ∧ a0 = some ⟨b, off, none⟩ ∧ ∀ i, i < fs.length → w.cell? ⟨b, off + i, none⟩ = some (.int .i64 (fs[i]?.getD 0)) := by
          rcases Hx.out with h | h
          · rw [h] at hlt; simp at hlt
          · exact h
        have hfk := HC63.out _ (getD_mem hlt)
        have hck := ((HB1.out.trans (HB.out.mono HB1.out.size)).cell (p := ⟨b, off + k, none⟩) hb).trans (hcl k hlt)
        have Hsn := hid (potL_take T m fs hlt)
        have Hcl := hid (HCc.out _ (getD_mem hlt))
        have hi0 : (0 : Int) ≤ (k : Int) := by omega
        have hi1 : (k : Int) < (fs.length : Int) := by omega
        obtain ⟨x, hxe⟩ : ∃ x : Nat, fs[k]?.getD 0 = (x : Int) := ⟨(fs[k]?.getD 0).toNat, by omega⟩
        have hx64 : x < 64 := by omega
        rw [hxe] at hck Hsn Hcl
        rw [Int.toNat_natCast] at Hcl
        have HLq := hid (fun W hb => HWy.out x hx64 W hb)
        obtain ⟨q, hq⟩ : ∃ q, q = qsA T x m := ⟨_, rfl⟩
        have hq6 : q < 6 := by rw [hq]; exact (HQl.out x).1
        have hwx := (HQl.out x).2
        rw [← hq] at hwx
        have Hpo : Hid (potOf T m (x : Int) = if x.testBit q && (x ^^^ 2 ^ q != 0) then some (((x ^^^ 2 ^ q : Nat) : Int), (x : Int)) else none) := hid (by unfold potOf; rw [Int.toNat_natCast, ← hq])
        have hxl : L.length ≤ 1048575 := by
          have := potL_len T m (fs.take k)
          rw [hL, insAll_len]
          simp at this
          omega
        obtain ⟨ws, hws⟩ : ∃ ws, ws = wayL T x n := ⟨_, rfl⟩
        have hwl : ws.length = n := by rw [hws, wayL_len]
        rw [← hws] at HLq hwx
        have hHas : ((x ^^^ 2 ^ q : Nat) : Int) ∈ fs ↔ x.testBit q = true ∧ x ^^^ 2 ^ q ≠ 0 ∨ ((x ^^^ 2 ^ q : Nat) : Int) ∈ fs ∧ x.testBit q = false := by
          constructor
          · intro h
            cases hb : x.testBit q
            · exact .inr ⟨h, rfl⟩
            · refine .inl ⟨rfl, fun e => ?_⟩
              have := HC63.out _ h
              omega
          · rintro (⟨h1, h2⟩ | h)
            · exact Hcl.out _ h2 (sub64 ⟨x, hx64⟩ ⟨q, hq6⟩ h1)
            · exact h.1
        obtain ⟨z, hz⟩ : ∃ z, z = x ^^^ 2 ^ q := ⟨_, rfl⟩
        rw [← hz] at Hpo hHas
        have hsh := shl_two q hq6
        have hxr := xor64 ⟨x, hx64⟩ ⟨q, hq6⟩
        have han := and64 ⟨x, hx64⟩ ⟨q, hq6⟩
        simp only at hxr han
        obtain ⟨Q, hQ⟩ : ∃ Q : Nat, Q = 2 ^ q := ⟨_, rfl⟩
        rw [← hQ] at hsh hxr han hz
        rw [← hz] at hxr
        have hxm : insAll (potL T m (fs.take (k + 1))) = if x.testBit q && (z != 0) then insL L ((z : Int), (x : Int)) else L := by
          have h1 := Hsn.out
          rw [Hpo.out] at h1
          cases hb : (x.testBit q && (z != 0))
          · rw [hb] at h1
            rw [h1, hL]
            simp
          · rw [hb] at h1
            simp only [if_true] at h1
            rw [h1, insAll_snoc, hL]
            simp
        have Hhm := hid hxm
        have HHas := hid hHas
        have Hhs := hid hsh
        have Hxr := hid hxr
        have Han := hid han
        have HLl := hid hL
        have hq0 : (0 : Int) ≤ (q : Int) := by omega
        clear hxm hHas hsh hxr han hxe hq hz hQ hws hcl Hsn Hpo Hcl HK hk hL
        go_wp2_with fail
        refine region_M 9 (fun W : World => W.heap[w.heap.size]? = some (.cells #[.int .i64 (n : Int), .slice (some ⟨b, off, none⟩) fs.length cap] 28 (0, 0)) ∧ W.cell? ⟨b, off + k, none⟩ = some (.int .i64 (x : Int))) (by kernel_rfl) ?_
        have hbd := below_dn' wr 1
        obtain ⟨x0, hx0⟩ : ∃ x, x = wr.drew := ⟨_, rfl⟩
        have HX0 : Hid (x0.heap[w.heap.size]? = some (.cells #[.int .i64 (n : Int), .slice (some ⟨b, off, none⟩) fs.length cap] 28 (0, 0)) ∧ x0.cell? ⟨b, off + k, none⟩ = some (.int .i64 (x : Int))) := hid (by rw [hx0]; exact ⟨Hkr.out, hck⟩)
        have HBx : Hid (Below w1.heap.size w1 x0) := hid (by rw [hx0]; exact HB.out.trans (hbd.mono HB.out.size))
        have HOx : Hid (x0.ownsRow w1.heap.size 67 2 (.slice (some ⟨g, 0, none⟩) L.length cp) L.length ((flatP L).map (Value.int .i64))) := hid (by rw [hx0]; exact ownsRow_below HO.out hbd (fun g hg => (HO.out.lt g hg).2))
        rw [← hx0]
        clear hx0 hbd q0 q1 Hkr HO HB hck
        refine anyM_take (i := 0) (v := .pointer (some ⟨w.heap.size, 0, none⟩)) [1, 8, 9] rfl (by kernel_rfl) (fun _ _ _ h => h) (Or.inl ⟨by rfl, fun W hW => by (go_simp)⟩) HX0.out ?_
        refine anyM_take (i := 1) (v := .int .i64 (n : Int)) [8, 9] rfl (by kernel_rfl) (fun _ _ _ h => h) (Or.inl ⟨by rfl, fun W hW => by (obtain ⟨z0, z1, _, _⟩ := two_of hW.1; go_simp)⟩) HX0.out ?_
        refine anyM_take (i := 2) (v := .slice a T.length cap1) [8, 9] rfl (by kernel_rfl) (fun _ _ _ h => h) (Or.inl ⟨by rfl, fun W hW => by (go_simp)⟩) HX0.out ?_
        refine anyM_take (i := 3) (v := .pointer (some ⟨w.heap.size, 1, none⟩)) [4, 6, 7, 8, 9] rfl (by kernel_rfl) (fun _ _ _ h => h) (Or.inl ⟨by rfl, fun W hW => by (go_simp)⟩) HX0.out ?_
        refine anyM_take (i := 4) (v := .slice (some ⟨b, off, none⟩) fs.length cap) [6, 7, 8, 9] rfl (by kernel_rfl) (fun _ _ _ h => h) (Or.inl ⟨by rfl, fun W hW => by (obtain ⟨z0, z1, _, _⟩ := two_of hW.1; go_simp)⟩) HX0.out ?_
        refine anyM_take (i := 5) (v := .int .i64 (k : Int)) [6, 7, 8, 9] rfl (by kernel_rfl) (fun _ _ _ h => h) (Or.inl ⟨by rfl, fun W hW => by (go_simp)⟩) HX0.out ?_
        refine anyM_take (i := 6) (v := .pointer (some ⟨b, off + k, none⟩)) [7, 8, 9] rfl (by kernel_rfl) (fun _ _ _ h => h) (Or.inl ⟨by rfl, fun W hW => by (go_simp)⟩) HX0.out ?_
        refine anyM_take (i := 7) (v := .int .i64 (x : Int)) [8, 9] rfl (by kernel_rfl) (fun _ _ _ h => h) (Or.inl ⟨by rfl, fun W hW => by (have z0 := hW.2; go_simp)⟩) HX0.out ?_
        refine anyM_ready (rs := [8]) (by kernel_rfl) (by simp) ?_
        refine AllM.cons rfl (fun K hK => ?_) AllM.nil
        go_simp
        go_at_call 32
        refine (HLq.out _ (HB1.out.trans (HBx.out.mono HB1.out.size))).mono ?_
        rintro e x1 ⟨v1, rfl, hr1⟩
        obtain ⟨g1, c1, hv1, hc1⟩ : ∃ g c, v1 = .slice (some ⟨g, 0, none⟩) n c ∧ x1.cell? ⟨g, m, none⟩ = some (.int .i64 (q : Int)) := by
          rcases hr1.1.2 with ⟨hn, h0⟩ | ⟨g, cap', cur, rfl, hg, hh, hc1, hc2, hc3, hc4⟩
          · have := Hm.out; omega
          · refine ⟨g, cap', by rw [hwl], ?_⟩
            have hmm := Hm.out
            have h := hr1.1.cells (g := g) rfl m (.int .i64 (q : Int)) (by rw [List.getElem?_map, List.getElem?_eq_getElem (show m < ws.length by omega)]; rw [List.getElem?_eq_getElem (show m < ws.length by omega)] at hwx; simpa using hwx)
            have hadd : (⟨g, 0, none⟩ : Addr).add m = ⟨g, m, none⟩ := by unfold Addr.add; split <;> simp_all
            rwa [hadd] at h
        subst hv1
        have hb1 := hr1.2
        have HX1 : Hid (x1.heap[w.heap.size]? = some (.cells #[.int .i64 (n : Int), .slice (some ⟨b, off, none⟩) fs.length cap] 28 (0, 0)) ∧ x1.cell? ⟨b, off + k, none⟩ = some (.int .i64 (x : Int))) := hid ⟨(hb1.block _ (lt_get HX0.out.1)).trans HX0.out.1, (hb1.cell (World.block_lt_of_cell? _ _ HX0.out.2)).trans HX0.out.2⟩
        have HOx := hid (ownsRow_below HOx.out hb1 (fun g hg => (HOx.out.lt g hg).2))
        have HBx := hid (HBx.out.trans (hb1.mono HBx.out.size))
        clear hb1 hr1
        refine hK.out _ _ (fun _ => HX1.out) ?_
        clear hK K
        refine anyM_ready (rs := [9]) (by kernel_rfl) (by simp) ?_
        refine AllM.cons rfl (fun K hK => ?_) AllM.nil
        go_simp
        refine hK.out _ _ (fun h => absurd rfl h) ?_
        clear hK K
        refine anyM_done (by kernel_rfl) ?_ _
        have hn1 := Hn1.out
        have hm0 : (0 : Int) ≤ (m : Int) := by omega
        have hm1 : (m : Int) < (n : Int) := by have := Hm.out; omega
        have hsh := Hhs.out
        go_wp2_with fail
        rw [hsh]
        have HWi : Hid (∀ W : World, Below w.heap.size w W → W.ownsRow w1.heap.size 67 2 (.slice (some ⟨g, 0, none⟩) L.length cp) L.length ((flatP L).map (Value.int .i64)) → Calls Tryd.prog 40 #[.agg #[.int .i64 (n : Int), .slice (some ⟨b, off, none⟩) fs.length cap], .slice (some ⟨g, 0, none⟩) L.length cp, .agg #[.int .i64 (z : Int), .int .i64 (x : Int)]] W fun e w' => ∃ g2 cp2 pb, e = .returned (.tuple #[.slice (some ⟨g2, 0, none⟩) (L.length + 1) cp2, .bool pb]) ∧ w'.ownsRow W.heap.size 67 2 (.slice (some ⟨g2, 0, none⟩) (L.length + 1) cp2) (L.length + 1) ((flatP (insL L ((z : Int), (x : Int)))).map (Value.int .i64)) ∧ Below W.heap.size W w') := hid (fun W hB ho => by
          refine (with_any (n : Int) (some ⟨b, off, none⟩) cap fs g 0 L.length cp (flatP L) (z : Int) (x : Int) W (Hx.out.later hB hB.size) (ho.lt g rfl).2 (fun i hi => ?_) hl HC63.out (flatP_len L) (by omega) ?_).mono ?_
          · rcases flat_slI ho with h | ⟨b', off', _, he, hc⟩
            · rw [h] at hi; simp at hi
            · cases he; exact hc i hi
          · rcases ho.2 with ⟨hn, _⟩ | ⟨g', cap', cur, hv, _, _, h1, _⟩
            · cases hn
            · cases hv; exact h1
          · rintro e w' ⟨v, rfl, ho2, hB2⟩
            rw [insP_eq] at ho2
            rcases ho2.2 with ⟨_, h0⟩ | ⟨g', cap', cur, rfl, _⟩
            · omega
            · exact ⟨g', cap', _, rfl, ho2, hB2⟩)
        have hxr := Hxr.out
        cases ht : x.testBit q with
        | false =>
          have hd : ((bits BinOp.and IntKind.i64 (x : Int) (Q : Int)) != 0) = false := by rw [Han.out]; exact ht
          have Hnx : Hid (insAll (potL T m (fs.take (k + 1))) = L) := hid (by rw [Hhm.out, ht]; rfl)
          clear ht hsh hxr
          refine region_M 18 (fun W : World => W.heap[w.heap.size]? = some (.cells #[.int .i64 (n : Int), .slice (some ⟨b, off, none⟩) fs.length cap] 28 (0, 0)) ∧ W.cell? ⟨b, off + k, none⟩ = some (.int .i64 (x : Int))) (by kernel_rfl) ?_
          have hbd := below_dn' x1 1
          obtain ⟨x2, hx2⟩ : ∃ x, x = x1.drew := ⟨_, rfl⟩
          have HX2 : Hid (x2.heap[w.heap.size]? = some (.cells #[.int .i64 (n : Int), .slice (some ⟨b, off, none⟩) fs.length cap] 28 (0, 0)) ∧ x2.cell? ⟨b, off + k, none⟩ = some (.int .i64 (x : Int))) := hid (by rw [hx2]; exact HX1.out)
          have HB2 : Hid (Below w1.heap.size w1 x2) := hid (by rw [hx2]; exact HBx.out.trans (hbd.mono HBx.out.size))
          have HO2 : Hid (x2.ownsRow w1.heap.size 67 2 (.slice (some ⟨g, 0, none⟩) L.length cp) L.length ((flatP L).map (Value.int .i64))) := hid (by rw [hx2]; exact ownsRow_below HOx.out hbd (fun g hg => (HOx.out.lt g hg).2))
          rw [← hx2]
          clear hx2 hbd HX1 HBx HOx
          refine anyM_take (i := 0) (v := .pointer (some ⟨w.heap.size, 1, none⟩)) [1, 3, 4, 6, 7, 8, 18] rfl (by kernel_rfl) (fun _ _ _ h => h) (Or.inl ⟨by rfl, fun W hW => by (go_simp)⟩) HX2.out ?_
          refine anyM_take (i := 1) (v := .slice (some ⟨b, off, none⟩) fs.length cap) [3, 4, 6, 7, 8, 18] rfl (by kernel_rfl) (fun _ _ _ h => h) (Or.inl ⟨by rfl, fun W hW => by (obtain ⟨z0, z1, _, _⟩ := two_of hW.1; go_simp)⟩) HX2.out ?_
          refine anyM_take (i := 2) (v := .int .i64 (k : Int)) [3, 4, 6, 7, 8, 18] rfl (by kernel_rfl) (fun _ _ _ h => h) (Or.inl ⟨by rfl, fun W hW => by (go_simp)⟩) HX2.out ?_
          refine anyM_take (i := 3) (v := .pointer (some ⟨b, off + k, none⟩)) [4, 6, 7, 8, 18] rfl (by kernel_rfl) (fun _ _ _ h => h) (Or.inl ⟨by rfl, fun W hW => by (go_simp)⟩) HX2.out ?_
          refine anyM_take (i := 4) (v := .int .i64 (x : Int)) [6, 7, 8, 18] rfl (by kernel_rfl) (fun _ _ _ h => h) (Or.inl ⟨by rfl, fun W hW => by (have z0 := hW.2; go_simp)⟩) HX2.out ?_
          refine anyM_take (i := 5) (v := .int .i64 (Q : Int)) [6, 7, 8, 18] rfl (by kernel_rfl) (fun _ _ _ h => h) (Or.inl ⟨by rfl, fun W hW => by (go_simp)⟩) HX2.out ?_
          refine anyM_take (i := 6) (v := .int .i64 (bits BinOp.and IntKind.i64 (x : Int) (Q : Int))) [7, 8, 18] rfl (by kernel_rfl) (fun _ _ _ h => h) (Or.inl ⟨by rfl, fun W hW => by (go_simp)⟩) HX2.out ?_
          refine anyM_take (i := 7) (v := .bool false) [8, 18] rfl (by kernel_rfl) (fun _ _ _ h => h) (Or.inl ⟨by rfl, fun W hW => by (go_simp)⟩) HX2.out ?_
          refine anyM_take (i := 8) (v := .bool false) [18] rfl (by kernel_rfl) (fun _ _ _ h => h) (Or.inl ⟨by rfl, fun W hW => by (go_simp)⟩) HX2.out ?_
          refine anyM_take (i := 9) (v := undef) [17, 18] rfl (by kernel_rfl) (fun _ _ _ h => h) (Or.inr ⟨by kernel_rfl, rfl⟩) HX2.out ?_
          refine anyM_take (i := 10) (v := undef) [11, 13, 14, 16, 17, 18] rfl (by kernel_rfl) (fun _ _ _ h => h) (Or.inr ⟨by kernel_rfl, rfl⟩) HX2.out ?_
          refine anyM_take (i := 11) (v := undef) [13, 14, 16, 17, 18] rfl (by kernel_rfl) (fun _ _ _ h => h) (Or.inr ⟨by kernel_rfl, rfl⟩) HX2.out ?_
          refine anyM_take (i := 12) (v := undef) [13, 14, 16, 17, 18] rfl (by kernel_rfl) (fun _ _ _ h => h) (Or.inr ⟨by kernel_rfl, rfl⟩) HX2.out ?_
          refine anyM_take (i := 13) (v := undef) [14, 16, 17, 18] rfl (by kernel_rfl) (fun _ _ _ h => h) (Or.inr ⟨by kernel_rfl, rfl⟩) HX2.out ?_
          refine anyM_take (i := 14) (v := undef) [16, 17, 18] rfl (by kernel_rfl) (fun _ _ _ h => h) (Or.inr ⟨by kernel_rfl, rfl⟩) HX2.out ?_
          refine anyM_take (i := 15) (v := undef) [16, 17, 18] rfl (by kernel_rfl) (fun _ _ _ h => h) (Or.inr ⟨by kernel_rfl, rfl⟩) HX2.out ?_
          refine anyM_take (i := 16) (v := undef) [17, 18] rfl (by kernel_rfl) (fun _ _ _ h => h) (Or.inr ⟨by kernel_rfl, rfl⟩) HX2.out ?_
          refine anyM_ready (rs := [17]) (by kernel_rfl) (by simp) ?_
          refine AllM.cons rfl (fun K hK => ?_) AllM.nil
          go_simp
          refine hK.out _ _ (fun _ => HX2.out) ?_
          clear hK K
          refine anyM_ready (rs := [18]) (by kernel_rfl) (by simp) ?_
          refine AllM.cons rfl (fun K hK => ?_) AllM.nil
          go_simp
          refine hK.out _ _ (fun h => absurd rfl h) ?_
          clear hK K
          refine anyM_done (by kernel_rfl) ?_ _
          clear hd
          go_wp2_with fail
          go_roundw
          case rel => exact ⟨k + 1, g, cp, L, hid ⟨hlt, Hnx.out.symm⟩, rfl, by go_num, HO2, HB2⟩
          case measure => simp [intOf]; omega
        | true =>
          have hd : ((bits BinOp.and IntKind.i64 (x : Int) (Q : Int)) != 0) = true := by rw [Han.out]; exact ht
          obtain ⟨zb, hzb⟩ : ∃ zb, zb = (z != 0) := ⟨_, rfl⟩
          have HHz : Hid (decide ((z : Int) ∈ fs) = zb) := hid (by
            rw [hzb]
            have h := HHas.out
            rw [ht] at h
            by_cases hz : z = 0
            · rw [decide_eq_false (fun hm => by rcases h.1 hm with ⟨_, h2⟩ | ⟨_, h2⟩; exact h2 hz; cases h2)]; simp [hz]
            · rw [decide_eq_true (h.2 (.inl ⟨rfl, hz⟩))]; simp [hz])
          have HHf := hid (fun W (hB : Below w.heap.size w W) => has_any (n : Int) (z : Int) (some ⟨b, off, none⟩) cap fs W (Hx.out.later hB hB.size) hl)
          rw [HHz.out] at HHf
          have Hnx : Hid (insAll (potL T m (fs.take (k + 1))) = if zb then insL L ((z : Int), (x : Int)) else L) := hid (by rw [Hhm.out, ht, hzb]; simp)
          clear ht hsh hzb
          refine region_M 18 (fun W : World => W.heap[w.heap.size]? = some (.cells #[.int .i64 (n : Int), .slice (some ⟨b, off, none⟩) fs.length cap] 28 (0, 0)) ∧ W.cell? ⟨b, off + k, none⟩ = some (.int .i64 (x : Int))) (by kernel_rfl) ?_
          have hbd := below_dn' x1 1
          obtain ⟨x2, hx2⟩ : ∃ x, x = x1.drew := ⟨_, rfl⟩
          have HX2 : Hid (x2.heap[w.heap.size]? = some (.cells #[.int .i64 (n : Int), .slice (some ⟨b, off, none⟩) fs.length cap] 28 (0, 0)) ∧ x2.cell? ⟨b, off + k, none⟩ = some (.int .i64 (x : Int))) := hid (by rw [hx2]; exact HX1.out)
          have HB2 : Hid (Below w1.heap.size w1 x2) := hid (by rw [hx2]; exact HBx.out.trans (hbd.mono HBx.out.size))
          have HO2 : Hid (x2.ownsRow w1.heap.size 67 2 (.slice (some ⟨g, 0, none⟩) L.length cp) L.length ((flatP L).map (Value.int .i64))) := hid (by rw [hx2]; exact ownsRow_below HOx.out hbd (fun g hg => (HOx.out.lt g hg).2))
          rw [← hx2]
          clear hx2 hbd HX1 HBx HOx
          refine anyM_take (i := 0) (v := .pointer (some ⟨w.heap.size, 1, none⟩)) [1, 3, 4, 6, 7, 8, 18] rfl (by kernel_rfl) (fun _ _ _ h => h) (Or.inl ⟨by rfl, fun W hW => by (go_simp)⟩) HX2.out ?_
          refine anyM_take (i := 1) (v := .slice (some ⟨b, off, none⟩) fs.length cap) [3, 4, 6, 7, 8, 18] rfl (by kernel_rfl) (fun _ _ _ h => h) (Or.inl ⟨by rfl, fun W hW => by (obtain ⟨z0, z1, _, _⟩ := two_of hW.1; go_simp)⟩) HX2.out ?_
          refine anyM_take (i := 2) (v := .int .i64 (k : Int)) [3, 4, 6, 7, 8, 18] rfl (by kernel_rfl) (fun _ _ _ h => h) (Or.inl ⟨by rfl, fun W hW => by (go_simp)⟩) HX2.out ?_
          refine anyM_take (i := 3) (v := .pointer (some ⟨b, off + k, none⟩)) [4, 6, 7, 8, 18] rfl (by kernel_rfl) (fun _ _ _ h => h) (Or.inl ⟨by rfl, fun W hW => by (go_simp)⟩) HX2.out ?_
          refine anyM_take (i := 4) (v := .int .i64 (x : Int)) [6, 7, 8, 18] rfl (by kernel_rfl) (fun _ _ _ h => h) (Or.inl ⟨by rfl, fun W hW => by (have z0 := hW.2; go_simp)⟩) HX2.out ?_
          refine anyM_take (i := 5) (v := .int .i64 (Q : Int)) [6, 7, 8, 18] rfl (by kernel_rfl) (fun _ _ _ h => h) (Or.inl ⟨by rfl, fun W hW => by (go_simp)⟩) HX2.out ?_
          refine anyM_take (i := 6) (v := .int .i64 (bits BinOp.and IntKind.i64 (x : Int) (Q : Int))) [7, 8, 18] rfl (by kernel_rfl) (fun _ _ _ h => h) (Or.inl ⟨by rfl, fun W hW => by (go_simp)⟩) HX2.out ?_
          refine anyM_take (i := 7) (v := .bool true) [8, 18] rfl (by kernel_rfl) (fun _ _ _ h => h) (Or.inl ⟨by rfl, fun W hW => by (go_simp)⟩) HX2.out ?_
          refine anyM_take (i := 8) (v := .bool true) [18] rfl (by kernel_rfl) (fun _ _ _ h => h) (Or.inl ⟨by rfl, fun W hW => by (go_simp)⟩) HX2.out ?_
          refine anyM_take (i := 9) (v := .agg #[.int .i64 (n : Int), .slice (some ⟨b, off, none⟩) fs.length cap]) [17, 18] rfl (by kernel_rfl) (fun _ _ _ h => h) (Or.inl ⟨by kernel_rfl, fun W hW => by (obtain ⟨z0, z1, _, _⟩ := two_of hW.1; go_simp)⟩) HX2.out ?_
          refine anyM_take (i := 10) (v := .pointer (some ⟨w.heap.size, 1, none⟩)) [11, 13, 14, 16, 17, 18] rfl (by kernel_rfl) (fun _ _ _ h => h) (Or.inl ⟨by kernel_rfl, fun W hW => by (go_simp)⟩) HX2.out ?_
          refine anyM_take (i := 11) (v := .slice (some ⟨b, off, none⟩) fs.length cap) [13, 14, 16, 17, 18] rfl (by kernel_rfl) (fun _ _ _ h => h) (Or.inl ⟨by kernel_rfl, fun W hW => by (obtain ⟨z0, z1, _, _⟩ := two_of hW.1; go_simp)⟩) HX2.out ?_
          refine anyM_take (i := 12) (v := .int .i64 (k : Int)) [13, 14, 16, 17, 18] rfl (by kernel_rfl) (fun _ _ _ h => h) (Or.inl ⟨by kernel_rfl, fun W hW => by (go_simp)⟩) HX2.out ?_
          refine anyM_take (i := 13) (v := .pointer (some ⟨b, off + k, none⟩)) [14, 16, 17, 18] rfl (by kernel_rfl) (fun _ _ _ h => h) (Or.inl ⟨by kernel_rfl, fun W hW => by (go_simp)⟩) HX2.out ?_
          refine anyM_take (i := 14) (v := .int .i64 (x : Int)) [16, 17, 18] rfl (by kernel_rfl) (fun _ _ _ h => h) (Or.inl ⟨by kernel_rfl, fun W hW => by (have z0 := hW.2; go_simp)⟩) HX2.out ?_
          refine anyM_take (i := 15) (v := .int .i64 (Q : Int)) [16, 17, 18] rfl (by kernel_rfl) (fun _ _ _ h => h) (Or.inl ⟨by kernel_rfl, fun W hW => by (go_simp)⟩) HX2.out ?_
          refine anyM_take (i := 16) (v := .int .i64 (z : Int)) [17, 18] rfl (by kernel_rfl) (fun _ _ _ h => h) (Or.inl ⟨by kernel_rfl, fun W hW => by (go_simp)⟩) HX2.out ?_
          refine anyM_ready (rs := [17]) (by kernel_rfl) (by simp) ?_
          refine AllM.cons rfl (fun K hK => ?_) AllM.nil
          go_simp
          go_at_call 39
          refine (HHf.out _ (HB1.out.trans (HB2.out.mono HB1.out.size))).mono ?_
          rintro e x3 ⟨rfl, hb3⟩
          have HX3 : Hid (x3.heap[w.heap.size]? = some (.cells #[.int .i64 (n : Int), .slice (some ⟨b, off, none⟩) fs.length cap] 28 (0, 0)) ∧ x3.cell? ⟨b, off + k, none⟩ = some (.int .i64 (x : Int))) := hid ⟨(hb3.block _ (lt_get HX2.out.1)).trans HX2.out.1, (hb3.cell (World.block_lt_of_cell? _ _ HX2.out.2)).trans HX2.out.2⟩
          have HO3 := hid (ownsRow_below HO2.out hb3 (fun g hg => (HO2.out.lt g hg).2))
          have HB3 := hid (HB2.out.trans (hb3.mono HB2.out.size))
          clear hb3 HX2 HO2 HB2
          refine hK.out _ _ (fun _ => HX3.out) ?_
          clear hK K
          refine anyM_ready (rs := [18]) (by kernel_rfl) (by simp) ?_
          refine AllM.cons rfl (fun K hK => ?_) AllM.nil
          cases zb with
          | false =>
            go_simp
            refine hK.out _ _ (fun h => absurd rfl h) ?_
            clear hK K
            refine anyM_done (by kernel_rfl) ?_ _
            clear hd
            go_wp2_with fail
            go_roundw
            case rel => exact ⟨k + 1, g, cp, L, hid ⟨hlt, by rw [Hnx.out]; rfl⟩, rfl, by go_num, HO3, HB3⟩
            case measure => simp [intOf]; omega
          | true =>
            go_simp
            refine hK.out _ _ (fun h => absurd rfl h) ?_
            clear hK K
            refine anyM_done (by kernel_rfl) ?_ _
            clear hd
            go_wp2_with fail
            refine region_M 19 (fun W : World => W.heap[w.heap.size]? = some (.cells #[.int .i64 (n : Int), .slice (some ⟨b, off, none⟩) fs.length cap] 28 (0, 0)) ∧ W.cell? ⟨b, off + k, none⟩ = some (.int .i64 (x : Int))) (by kernel_rfl) ?_
            have hbd := below_dn' x3 1
            obtain ⟨x4, hx4⟩ : ∃ x, x = x3.drew := ⟨_, rfl⟩
            have HX4 : Hid (x4.heap[w.heap.size]? = some (.cells #[.int .i64 (n : Int), .slice (some ⟨b, off, none⟩) fs.length cap] 28 (0, 0)) ∧ x4.cell? ⟨b, off + k, none⟩ = some (.int .i64 (x : Int))) := hid (by rw [hx4]; exact HX3.out)
            have HB4 : Hid (Below w1.heap.size w1 x4) := hid (by rw [hx4]; exact HB3.out.trans (hbd.mono HB3.out.size))
            have HO4 : Hid (x4.ownsRow w1.heap.size 67 2 (.slice (some ⟨g, 0, none⟩) L.length cp) L.length ((flatP L).map (Value.int .i64))) := hid (by rw [hx4]; exact ownsRow_below HO3.out hbd (fun g hg => (HO3.out.lt g hg).2))
            rw [← hx4]
            clear hx4 hbd HX3 HB3 HO3
            refine anyM_take (i := 0) (v := .agg #[.int .i64 (n : Int), .slice (some ⟨b, off, none⟩) fs.length cap]) [15, 16, 17, 19] rfl (by kernel_rfl) (fun _ _ _ h => h) (Or.inl ⟨by rfl, fun W hW => by (obtain ⟨z0, z1, _, _⟩ := two_of hW.1; go_simp)⟩) HX4.out ?_
            refine anyM_take (i := 1) (v := .slice (some ⟨g, 0, none⟩) L.length cp) [15, 16, 17, 19] rfl (by kernel_rfl) (fun _ _ _ h => h) (Or.inl ⟨by rfl, fun W hW => by (go_simp)⟩) HX4.out ?_
            refine anyM_take (i := 2) (v := .pointer (some ⟨w.heap.size, 1, none⟩)) [3, 5, 6, 8, 14, 15, 16, 17, 19] rfl (by kernel_rfl) (fun _ _ _ h => h) (Or.inl ⟨by rfl, fun W hW => by (go_simp)⟩) HX4.out ?_
            refine anyM_take (i := 3) (v := .slice (some ⟨b, off, none⟩) fs.length cap) [5, 6, 8, 14, 15, 16, 17, 19] rfl (by kernel_rfl) (fun _ _ _ h => h) (Or.inl ⟨by rfl, fun W hW => by (obtain ⟨z0, z1, _, _⟩ := two_of hW.1; go_simp)⟩) HX4.out ?_
            refine anyM_take (i := 4) (v := .int .i64 (k : Int)) [5, 6, 8, 14, 15, 16, 17, 19] rfl (by kernel_rfl) (fun _ _ _ h => h) (Or.inl ⟨by rfl, fun W hW => by (go_simp)⟩) HX4.out ?_
            refine anyM_take (i := 5) (v := .pointer (some ⟨b, off + k, none⟩)) [6, 8, 14, 15, 16, 17, 19] rfl (by kernel_rfl) (fun _ _ _ h => h) (Or.inl ⟨by rfl, fun W hW => by (go_simp)⟩) HX4.out ?_
            refine anyM_take (i := 6) (v := .int .i64 (x : Int)) [8, 14, 15, 16, 17, 19] rfl (by kernel_rfl) (fun _ _ _ h => h) (Or.inl ⟨by rfl, fun W hW => by (have z0 := hW.2; go_simp)⟩) HX4.out ?_
            refine anyM_take (i := 7) (v := .int .i64 (Q : Int)) [8, 14, 15, 16, 17, 19] rfl (by kernel_rfl) (fun _ _ _ h => h) (Or.inl ⟨by rfl, fun W hW => by (go_simp)⟩) HX4.out ?_
            refine anyM_take (i := 8) (v := .int .i64 (z : Int)) [14, 15, 16, 17, 19] rfl (by kernel_rfl) (fun _ _ _ h => h) (Or.inl ⟨by rfl, fun W hW => by (go_simp)⟩) HX4.out ?_
            refine anyM_take (i := 9) (v := .pointer (some ⟨w.heap.size, 1, none⟩)) [10, 12, 13, 14, 15, 16, 17, 19] rfl (by kernel_rfl) (fun _ _ _ h => h) (Or.inl ⟨by rfl, fun W hW => by (go_simp)⟩) HX4.out ?_
            refine anyM_take (i := 10) (v := .slice (some ⟨b, off, none⟩) fs.length cap) [12, 13, 14, 15, 16, 17, 19] rfl (by kernel_rfl) (fun _ _ _ h => h) (Or.inl ⟨by rfl, fun W hW => by (obtain ⟨z0, z1, _, _⟩ := two_of hW.1; go_simp)⟩) HX4.out ?_
            refine anyM_take (i := 11) (v := .int .i64 (k : Int)) [12, 13, 14, 15, 16, 17, 19] rfl (by kernel_rfl) (fun _ _ _ h => h) (Or.inl ⟨by rfl, fun W hW => by (go_simp)⟩) HX4.out ?_
            refine anyM_take (i := 12) (v := .pointer (some ⟨b, off + k, none⟩)) [13, 14, 15, 16, 17, 19] rfl (by kernel_rfl) (fun _ _ _ h => h) (Or.inl ⟨by rfl, fun W hW => by (go_simp)⟩) HX4.out ?_
            refine anyM_take (i := 13) (v := .int .i64 (x : Int)) [14, 15, 16, 17, 19] rfl (by kernel_rfl) (fun _ _ _ h => h) (Or.inl ⟨by rfl, fun W hW => by (have z0 := hW.2; go_simp)⟩) HX4.out ?_
            refine anyM_take (i := 14) (v := .agg #[.int .i64 (z : Int), .int .i64 (x : Int)]) [15, 16, 17, 19] rfl (by kernel_rfl) (fun _ _ _ h => h) (Or.inl ⟨by rfl, fun W hW => by (go_simp)⟩) HX4.out ?_
            refine anyM_ready (rs := [15]) (by kernel_rfl) (by simp) ?_
            refine AllM.cons rfl (fun K hK => ?_) AllM.nil
            go_simp
            go_at_call 40
            refine (HWi.out _ (HB1.out.trans (HB4.out.mono HB1.out.size)) HO4.out).mono ?_
            rintro e x5 ⟨g2, cp2, pb, rfl, hown5, hb5⟩
            have HX5 : Hid (x5.heap[w.heap.size]? = some (.cells #[.int .i64 (n : Int), .slice (some ⟨b, off, none⟩) fs.length cap] 28 (0, 0)) ∧ x5.cell? ⟨b, off + k, none⟩ = some (.int .i64 (x : Int))) := hid ⟨(hb5.block _ (lt_get HX4.out.1)).trans HX4.out.1, (hb5.cell (World.block_lt_of_cell? _ _ HX4.out.2)).trans HX4.out.2⟩
            have HO5 : Hid (x5.ownsRow w1.heap.size 67 2 (.slice (some ⟨g2, 0, none⟩) (insL L ((z : Int), (x : Int))).length cp2) (insL L ((z : Int), (x : Int))).length ((flatP (insL L ((z : Int), (x : Int)))).map (Value.int .i64))) := hid (by rw [insL_len]; exact ownsRow_base hown5 HB4.out.size)
            have HB5 := hid (HB4.out.trans (hb5.mono HB4.out.size))
            clear hb5 hown5 HX4 HO4 HB4
            refine hK.out _ _ (fun _ => HX5.out) ?_
            clear hK K
            refine anyM_ready (rs := [16]) (by kernel_rfl) (by simp) ?_
            refine AllM.cons rfl (fun K hK => ?_) AllM.nil
            go_simp
            refine hK.out _ _ (fun _ => HX5.out) ?_
            clear hK K
            refine anyM_ready (rs := [17, 18]) (by kernel_rfl) (by simp) ?_
            refine AllM.cons rfl (fun K hK => ?_) (AllM.cons rfl (fun K hK => ?_) AllM.nil)
            · skip
              go_simp
              refine hK.out _ _ (fun _ => HX5.out) ?_
              clear hK K
              refine anyM_ready (rs := [18, 19]) (by kernel_rfl) (by simp) ?_
              refine AllM.cons rfl (fun K hK => ?_) (AllM.cons rfl (fun K hK => ?_) AllM.nil)
              · skip
                go_simp
                refine hK.out _ _ (fun _ => HX5.out) ?_
                clear hK K
                refine anyM_ready (rs := [19]) (by kernel_rfl) (by simp) ?_
                refine AllM.cons rfl (fun K hK => ?_) AllM.nil
                go_simp
                refine hK.out _ _ (fun h => absurd rfl h) ?_
                clear hK K
                refine anyM_done (by kernel_rfl) ?_ _
                go_wp2_with fail
                go_roundw
                case rel => exact ⟨k + 1, g2, cp2, insL L ((z : Int), (x : Int)), hid ⟨hlt, by rw [Hnx.out]; rfl⟩, by rw [insL_len], by go_num, HO5, HB5⟩
                case measure => simp [intOf]; omega
              · skip
                go_simp
                refine hK.out _ _ (fun h => absurd rfl h) ?_
                clear hK K
                refine anyM_ready (rs := [18]) (by kernel_rfl) (by simp) ?_
                refine AllM.cons rfl (fun K hK => ?_) AllM.nil
                go_simp
                refine hK.out _ _ (fun _ => HX5.out) ?_
                clear hK K
                refine anyM_done (by kernel_rfl) ?_ _
                go_wp2_with fail
                go_roundw
                case rel => exact ⟨k + 1, g2, cp2, insL L ((z : Int), (x : Int)), hid ⟨hlt, by rw [Hnx.out]; rfl⟩, by rw [insL_len], by go_num, HO5, HB5⟩
                case measure => simp [intOf]; omega
            · skip
              go_simp
              refine hK.out _ _ (fun _ => HX5.out) ?_
              clear hK K
              refine anyM_ready (rs := [17]) (by kernel_rfl) (by simp) ?_
              refine AllM.cons rfl (fun K hK => ?_) AllM.nil
              go_simp
              refine hK.out _ _ (fun _ => HX5.out) ?_
              clear hK K
              refine anyM_ready (rs := [19]) (by kernel_rfl) (by simp) ?_
              refine AllM.cons rfl (fun K hK => ?_) AllM.nil
              go_simp
              refine hK.out _ _ (fun h => absurd rfl h) ?_
              clear hK K
              refine anyM_done (by kernel_rfl) ?_ _
              go_wp2_with fail
              go_roundw
              case rel => exact ⟨k + 1, g2, cp2, insL L ((z : Int), (x : Int)), hid ⟨hlt, by rw [Hnx.out]; rfl⟩, by rw [insL_len], by go_num, HO5, HB5⟩
              case measure => simp [intOf]; omega
      · obtain rfl : k = fs.length := by omega
        have HX : Hid (L = insAll (potL T m fs)) := hid (by rw [hL, List.take_length])
        have hi1 : ¬ ((fs.length : Int) < (fs.length : Int)) := by omega
        clear hL hk HK
        go_wp2_with fail
        go_ret2
        rw [HR.out]
        have hr : ResP w1 wr (.slice (some ⟨g, 0, none⟩) L.length cp) L := ⟨HO.out, HB.out⟩
        refine ⟨_, rfl, ?_⟩
        rw [← HX.out]
        exact hr.later HB1.out
  · have HR : Hid (potR V fs T = ([], c)) := hid (by unfold potR; rw [if_neg (by rw [← hc]; exact h0), ← hc])
    have hcc := codeT_not (by rw [← hc]; exact h0)
    rw [← hc] at hcc HC
    clear hc h0
    rcases hcc with rfl | rfl
    all_goals
      go_enter Tryd.func20, Tryd.ntmps20
      go_wp2_with fail
      refine HC.out.mono ?_
      rintro e w1 ⟨rfl, hB1⟩
      rw [← hW0] at hB1
      have HB1 := hid (HB0.out.trans (hB1.mono HB0.out.size))
      clear hB1
      go_wp2_with fail
      go_ret2
      rw [HR.out]
      exact ⟨_, rfl, World.ownsRow_nil _ _ _ _, HB1.out⟩

end Go.Proofs.YtppnahgiekjbnaaDoor
