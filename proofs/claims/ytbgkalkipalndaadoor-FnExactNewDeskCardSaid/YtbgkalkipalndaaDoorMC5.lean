import Derived.Test.YtbgkalkipalndaaDoorRows
import Derived.ProofKit
import Derived.OpenShut
import Derived.ShutString
import Derived.ChangeOld
import Derived.Below
import Derived.Lib.SmallJoins
import Derived.Test.YtbgkalkipalndaaDoorTie
import Derived.Test.YtbgkalkipalndaaDoorCards
import Derived.OpenVars
import Derived.LaidMore
import Derived.MakeChecks
import Derived.Stop.LaidErr
import Derived.SevenTiedAt
import Derived.HandedShaped
import Derived.Shelf.Vars
import Derived.Lay
import Derived.ChangeMaps5
import Derived.Test.YtbgkalkipalndaaDoorMC1
import Derived.Test.YtbgkalkipalndaaDoorMC2
import Derived.Test.YtbgkalkipalndaaDoorMC4
/-! The laws' helpers for lists of pairs: a list of n pairs is read as 2 * n integers. -/
namespace Go.Proofs.YtbgkalkipalndaaDoor
open Go.RowKit



set_option maxRecDepth 100000 in
set_option maxHeartbeats 400000 in
theorem eqPair_any (x y x' y' : Int) (w : World) :
    Calls Tryd.prog 43 #[.agg #[.int .i64 x, .int .i64 y], .agg #[.int .i64 x', .int .i64 y']] w fun e w' => e = .returned (.bool (decide (x = x' ∧ y = y'))) ∧ Below w.heap.size w w' := by
  go_enter Tryd.func43, Tryd.ntmps43
  go_wp2
  refine wp_loop_rounds 3 ?_; rw [rounds_succ]
  go_wp2
  go_quiet (fail)
  have hB : ∀ n, Below w.heap.size w (((w.alloc (.cells #[.int .i64 x, .int .i64 y] 62)).alloc (.cells #[.int .i64 x', .int .i64 y'] 62)).drewN n) := fun n => Below.trans (((Below.refl _ w).alloc (Nat.le_refl _) _).alloc (by simp) _) ⟨rfl, rfl, rfl, Nat.le_refl _, fun _ _ => rfl⟩
  have HB := hid hB
  clear hB
  by_cases hx : x = x'
  · have hd : (x != x') = false := by simp [hx]
    have Hx := hid hx
    clear hx
    go_wp2_with fail
    rw [rounds_succ]
    go_wp2_with fail
    go_quiet (fail)
    by_cases hy : y = y'
    · have hd2 : (y != y') = false := by simp [hy]
      have Hy := hid hy
      clear hy
      go_wp2_with fail
      rw [rounds_succ]
      go_wp2_with fail
      go_ret
      exact ⟨ret_bool (decide_eq_true ⟨Hx.out, Hy.out⟩).symm, HB.out _⟩
    · have hd2 : (y != y') = true := by simp [hy]
      have Hy := hid hy
      clear hy
      go_wp2_with fail
      go_ret
      refine ⟨ret_bool (decide_eq_false (fun h => Hy.out h.2)).symm, ?_⟩
      first | exact HB.out _ | exact (HB.out 0).trans ⟨rfl, rfl, rfl, Nat.le_refl _, fun _ _ => rfl⟩
  · have hd : (x != x') = true := by simp [hx]
    have Hx := hid hx
    clear hx
    go_wp2_with fail
    go_ret
    exact ⟨ret_bool (decide_eq_false (fun h => Hx.out h.1)).symm, HB.out _⟩

theorem info_pair : (Tryd.prog.info? 62).map (fun i => (i.zero, i.size, i.bytes)) = some (some (.agg #[.int .i64 0, .int .i64 0]), 2, 16) := by kernel_rfl

theorem made_two (m : Nat) : (madeCells #[Value.int .i64 0, Value.int .i64 0] m).toList = (List.replicate m (0 : Int)).map (Value.int .i64) := by
  refine List.ext_getElem (by simp [madeCells]) (fun i h1 h2 => ?_)
  have : i % 2 = 0 ∨ i % 2 = 1 := Nat.mod_two_eq_zero_or_one i
  rcases this with h | h <;> simp [madeCells, h]

/-- 'make([]Pair, n)'. -/
theorem make_pair {w : World} {ops : Array Oper} {rest : List Oper} {o : Oper} {a : Act} {Q : Exit → Act → World → Prop} (hgd : o.guard = none) {l c : Operand} (hop : o.op = Op.makeSlice 25 l c)
    {n : Nat} (hl : a.eval l = .int .i64 (n : Int)) (hc : a.eval c = .int .i64 (n : Int)) (hn : n ≤ 1048576)
    (hK : ∀ w', w'.ownsRow w.heap.size 62 2 (.slice (some ⟨w.heap.size, 0, none⟩) n n) n ((List.replicate (2 * n) (0 : Int)).map (Value.int .i64)) → Below w.heap.size w w' →
      wpList Tryd.prog ops Q rest (a.put o.dst (.slice (some ⟨w.heap.size, 0, none⟩) n n)) w') :
    wpList Tryd.prog ops Q (o :: rest) a w := by
  obtain ⟨i0, hi, hz0, hz1, hz2⟩ := info_parts info_pair
  refine wpList_make_full w hgd l c 25 hop w.heap.size 62 i0 (.agg #[.int .i64 0, .int .i64 0]) 2 Tryd.underlying25 hi hz0 hz1 .i64 .i64 _ _ n hl hc rfl rfl (by rw [hz2]; omega) (by unfold maxLen; omega) (Nat.le_refl _) ?_
  intro w' hown hg
  rw [show (Value.agg #[Value.int .i64 0, Value.int .i64 0]).cells = #[Value.int .i64 0, Value.int .i64 0] by kernel_rfl, made_two, Nat.mul_comm] at hown
  exact hK w' hown ((Below.refl _ w).grown hg (Nat.le_refl _) (fun k hk => by cases hk))


set_option maxRecDepth 100000 in
set_option maxHeartbeats 400000 in
theorem eqPairs_yes (a1 a2 : Option Addr) (n c1 c2 : Nat) (ps : List Int) (w : World) (hx : SlI w w.heap.size a1 ps) (hy : SlI w w.heap.size a2 ps) (hp : ps.length = 2 * n) (hl : n ≤ 1048576) :
    Calls Tryd.prog 24 #[.slice a1 n c1, .slice a2 n c2] w fun e w' => e = .returned (.bool true) ∧ Below w.heap.size w w' := by
  by_cases h0 : n = 0
  · subst h0
    clear hx hy
    go_enter Tryd.func24, Tryd.ntmps24
    go_wp2
    refine wp_loop_rounds 1 ?_; rw [rounds_succ]
    go_wp2
    go_ret
    exact ⟨rfl, Below.refl _ _⟩
  · obtain ⟨b, off, hb, rfl, hc⟩ : ∃ b off, b < w.heap.size ∧ a1 = some ⟨b, off, none⟩ ∧ ∀ i, i < ps.length → w.cell? ⟨b, off + i, none⟩ = some (.int .i64 (ps[i]?.getD 0)) := by
      rcases hx with rfl | h
      · simp at hp; omega
      · exact h
    obtain ⟨b2, off2, hb2, rfl, hc2⟩ : ∃ b off, b < w.heap.size ∧ a2 = some ⟨b, off, none⟩ ∧ ∀ i, i < ps.length → w.cell? ⟨b, off + i, none⟩ = some (.int .i64 (ps[i]?.getD 0)) := by
      rcases hy with rfl | h
      · simp at hp; omega
      · exact h
    have Hc := hid hc
    have Hc2 := hid hc2
    have hne : ((n : Int) != (n : Int)) = false := by simp
    clear hc hc2 hx hy h0
    go_enter Tryd.func24, Tryd.ntmps24
    go_wp2
    go_loopw [5] (fun i wr => ∃ k : Nat, k ≤ n ∧ i = .int .i64 k ∧ Below w.heap.size w wr) (fun i _ => n - (intOf i).toNat)
    case atStart => exact ⟨0, Nat.zero_le _, rfl, Below.refl _ _⟩
    case round =>
      obtain ⟨k, hk, rfl, hB⟩ := hrel
      by_cases hlt : k < n
      · obtain ⟨x, hx⟩ : ∃ x, x = ps[k * 2]?.getD 0 := ⟨_, rfl⟩
        obtain ⟨y, hy⟩ : ∃ y, y = ps[k * 2 + 1]?.getD 0 := ⟨_, rfl⟩
        have hck : wr.cell? ⟨b, off + k * 2, none⟩ = some (.int .i64 x) := by rw [hx]; exact (hB.cell (p := ⟨b, off + k * 2, none⟩) hb).trans (Hc.out (k * 2) (by omega))
        have hck2 : wr.cell? ⟨b, off + k * 2 + 1, none⟩ = some (.int .i64 y) := by rw [hy]; exact (hB.cell (p := ⟨b, off + (k * 2 + 1), none⟩) hb).trans (Hc.out (k * 2 + 1) (by omega))
        have hdk : wr.cell? ⟨b2, off2 + k * 2, none⟩ = some (.int .i64 x) := by rw [hx]; exact (hB.cell (p := ⟨b2, off2 + k * 2, none⟩) hb2).trans (Hc2.out (k * 2) (by omega))
        have hdk2 : wr.cell? ⟨b2, off2 + k * 2 + 1, none⟩ = some (.int .i64 y) := by rw [hy]; exact (hB.cell (p := ⟨b2, off2 + (k * 2 + 1), none⟩) hb2).trans (Hc2.out (k * 2 + 1) (by omega))
        have hi0 : (0 : Int) ≤ (k : Int) := by omega
        have hi1 : (k : Int) < (n : Int) := by omega
        have HB := hid hB
        clear hx hy hB
        go_wp2_with fail
        go_region_with (go_at_call 43; refine (eqPair_any x y x y _).mono ?_; rintro e w2 ⟨rfl, hB2⟩; rw [decide_eq_true (And.intro rfl rfl)])
        all_goals
          have HB2 := hid (HB.out.trans (Below.mono (w := wr) ⟨hB2.os, hB2.tape, hB2.output, hB2.size, hB2.block⟩ HB.out.size))
          clear hB2
          go_wp2_with fail
          go_roundw
          case rel => exact ⟨k + 1, by omega, by go_num, HB2.out⟩
          case measure => simp [intOf]; omega
      · go_wp2
        go_ret
        exact ⟨rfl, hB⟩

set_option maxRecDepth 100000 in
set_option maxHeartbeats 1000000 in
theorem markPairs (base : Nat) (a : Option Addr) (n cap : Nat) (ps : List Int) (k : Int) (w : World) (hown : w.ownsRow base 62 2 (.slice a n cap) n (ps.map (Value.int .i64))) (hl : n ≤ 1048576) (h0 : 0 ≤ k) (h1 : k ≤ 1099511627776) :
    Calls Tryd.prog 25 #[.slice a n cap, .int .i64 k] w fun e w' => e = .returned (.int .i64 (k + 2 * n)) ∧
      w'.ownsRow base 62 2 (.slice a n cap) n ((count k (n * 2)).map (Value.int .i64)) ∧ w.grownBy w' (Value.ownBlock (.slice a n cap)) := by
  have hp : ps.length = n * 2 := by simpa using hown.1
  rcases hown.2 with ⟨hv, hn⟩ | ⟨g, cap', cur, hv, hb, hg, rest⟩
  · subst hn
    obtain rfl : ps = [] := List.eq_nil_of_length_eq_zero (by omega)
    have Hown := hid hown
    clear hown hv
    go_enter Tryd.func25, Tryd.ntmps25
    go_wp2
    refine wp_loop_rounds 1 ?_; rw [rounds_succ]
    go_wp2
    go_ret
    exact ⟨ret_int (by simp), Hown.out, ⟨rfl, rfl, rfl, Nat.le_refl _, fun _ _ _ => rfl⟩⟩
  · cases hv
    clear hb hg rest
    go_enter Tryd.func25, Tryd.ntmps25
    go_wp2
    go_loopw [1, 5] (fun m i wr => ∃ j : Nat, j ≤ n ∧ i = .int .i64 j ∧ m = .int .i64 (k + 2 * j) ∧ wr.ownsRow base 62 2 (.slice (some ⟨g, 0, none⟩) n cap) n ((count k (j * 2) ++ ps.drop (j * 2)).map (Value.int .i64)) ∧ w.grownBy wr (some g)) (fun _ i _ => n - (intOf i).toNat)
    case atStart => exact ⟨0, Nat.zero_le _, rfl, by simp, by simpa [count] using hown, ⟨rfl, rfl, rfl, Nat.le_refl _, fun _ _ _ => rfl⟩⟩
    case round =>
      obtain ⟨j, hj, rfl, rfl, hown, hgr⟩ := hrel
      by_cases hlt : j < n
      · have hcg : ∃ u, wr.cell? ⟨g, j * 2, none⟩ = some (.int .i64 u) := by
          rw [hown.cellAt (j * 2) (by omega)]
          refine ⟨ps[j * 2]?.getD 0, ?_⟩
          rw [List.getElem?_map, List.getElem?_append_right (by rw [count_len]; exact Nat.le_refl _), count_len, Nat.sub_self]
          simp [show j * 2 < ps.length by omega]
        have hcg2 : ∃ u, wr.cell? ⟨g, j * 2 + 1, none⟩ = some (.int .i64 u) := by
          rw [hown.cellAt (j * 2 + 1) (by omega)]
          refine ⟨ps[j * 2 + 1]?.getD 0, ?_⟩
          rw [List.getElem?_map, List.getElem?_append_right (by rw [count_len]; omega), count_len]
          simp [show j * 2 + 1 < ps.length by omega]
        obtain ⟨u, hcu⟩ := hcg
        obtain ⟨u2, hcu2⟩ := hcg2
        have hfg := hown.frozenAt (j * 2)
        have hfg2 := hown.frozenAt (j * 2 + 1)
        have hst := hown.stored (j * 2) (.int .i64 (k + 2 * j))
        have hst2 := hst.1.stored (j * 2 + 1) (.int .i64 (k + 2 * j + 1))
        have hm1 := mark_step (k := k) (xs := ps) (j := j * 2) (by omega)
        have hm2 := mark_step (k := k) (xs := ps) (j := j * 2 + 1) (by omega)
        rw [show k + ((j * 2 : Nat) : Int) = k + 2 * j by omega] at hm1
        rw [show k + ((j * 2 + 1 : Nat) : Int) = k + 2 * j + 1 by omega] at hm2
        rw [hm1, hm2] at hst2
        have Hst := hid hst2
        have Hst1 := hid hst.2
        have Hgr := hid hgr
        have hi0 : (0 : Int) ≤ (j : Int) := by omega
        have hi1 : (j : Int) < (n : Int) := by omega
        clear hst hst2 hown hgr hm1 hm2
        go_wp2
        refine wp_loop_rounds 3 ?_; rw [rounds_succ]
        go_wp2
        rw [rounds_succ]
        go_wp2
        rw [rounds_succ]
        go_wp2
        go_roundw
        case rel =>
          exact ⟨j + 1, by omega, by go_num, by go_num, by rw [show (j + 1) * 2 = j * 2 + 1 + 1 by omega]; exact Hst.out.1, (Hgr.out.trans Hst1.out).trans Hst.out.2⟩
        case measure => simp [intOf]; omega
      · go_wp2
        go_ret
        obtain rfl : j = n := by omega
        exact ⟨rfl, by simpa [hp, List.drop_of_length_le] using hown, hgr⟩

set_option maxRecDepth 100000 in
set_option maxHeartbeats 1000000 in
theorem heldPairs (a : Option Addr) (cap : Nat) (n : Nat) (ps : List Int) (k : Int) (w : World) (hps : ps = count k (n * 2)) (hx : SlI w w.heap.size a ps) (hl : n ≤ 1048576) (h0 : 0 ≤ k) (h1 : k ≤ 1099511627776) :
    Calls Tryd.prog 26 #[.slice a n cap, .int .i64 k] w fun e w' => e = .returned (.int .i64 (k + 2 * n)) ∧ Below w.heap.size w w' := by
  have hlen : ps.length = n * 2 := by rw [hps, count_len]
  rcases hx with rfl | ⟨b, off, hb, rfl, hc⟩
  · obtain rfl : n = 0 := by simp at hlen; omega
    clear hps hlen
    go_enter Tryd.func26, Tryd.ntmps26
    go_wp2
    refine wp_loop_rounds 1 ?_; rw [rounds_succ]
    go_wp2
    go_ret
    exact ⟨ret_int (by simp), Below.refl _ _⟩
  · have Hc := hid hc
    have Hps := hid hps
    have Hlen := hid hlen
    clear hc hps hlen
    go_enter Tryd.func26, Tryd.ntmps26
    go_wp2
    go_loop [1, 5] (fun m i => ∃ j : Nat, j ≤ n ∧ i = .int .i64 j ∧ m = .int .i64 (k + 2 * j)) (fun _ i => n - (intOf i).toNat)
    case atStart => exact ⟨0, Nat.zero_le _, rfl, by simp⟩
    case round =>
      obtain ⟨j, hj, rfl, rfl⟩ := hrel
      by_cases hlt : j < n
      · have hck : w.cell? ⟨b, off + j * 2, none⟩ = some (.int .i64 (k + 2 * j)) := by
          have := Hc.out (j * 2) (by rw [Hlen.out]; omega)
          rw [Hps.out, count_get _ _ _ (by omega), show k + ((j * 2 : Nat) : Int) = k + 2 * j by omega] at this
          exact this
        have hck2 : w.cell? ⟨b, off + j * 2 + 1, none⟩ = some (.int .i64 (k + 2 * j + 1)) := by
          have := Hc.out (j * 2 + 1) (by rw [Hlen.out]; omega)
          rw [Hps.out, count_get _ _ _ (by omega), show k + ((j * 2 + 1 : Nat) : Int) = k + 2 * j + 1 by omega] at this
          exact this
        have hi0 : (0 : Int) ≤ (j : Int) := by omega
        have hi1 : (j : Int) < (n : Int) := by omega
        go_wp2
        refine wp_loop_rounds 3 ?_; rw [rounds_succ]
        go_wp2
        rw [rounds_succ]
        go_wp2
        rw [rounds_succ]
        go_wp2
        go_round
        case rel => exact ⟨j + 1, by omega, by go_num, by go_num⟩
        case measure => simp [intOf]; omega
      · go_wp2
        go_ret
        obtain rfl : j = n := by omega
        exact ⟨rfl, Below.refl _ _⟩

end Go.Proofs.YtbgkalkipalndaaDoor

/-! Desks in the laws: sizes, copies, comparisons. -/
namespace Go.Proofs.YtbgkalkipalndaaDoor
open Go.RowKit

theorem three_of {w : World} {b : Nat} {x y z : Value} {t : Nat} (h : w.heap[b]? = some (.cells #[x, y, z] t (0, 0))) : w.cell? ⟨b, 0, none⟩ = some x ∧ w.cell? ⟨b, 1, none⟩ = some y ∧ w.cell? ⟨b, 2, none⟩ = some z ∧
    w.frozen? ⟨b, 0, none⟩ = false ∧ w.frozen? ⟨b, 1, none⟩ = false ∧ w.frozen? ⟨b, 2, none⟩ = false := by
  refine ⟨?_, ?_, ?_, ?_, ?_, ?_⟩ <;> simp [World.cell?, World.frozen?, h]

theorem three_set2 {w : World} {b : Nat} {x y z : Value} {t : Nat} (h : w.heap[b]? = some (.cells #[x, y, z] t (0, 0))) (u v : Value) : ((w.setCell ⟨b, 0, none⟩ u).setCell ⟨b, 1, none⟩ v).heap[b]? = some (.cells #[u, v, z] t (0, 0)) := by
  simp only [World.setCell, Array.getElem?_modify, h]
  simp

theorem three_set1 {w : World} {b : Nat} {x y z : Value} {t : Nat} (h : w.heap[b]? = some (.cells #[x, y, z] t (0, 0))) (u : Value) : (w.setCell ⟨b, 2, none⟩ u).heap[b]? = some (.cells #[x, y, u] t (0, 0)) := by
  simp only [World.setCell, Array.getElem?_modify, h]
  simp

theorem three_set {w : World} {b : Nat} {x y z : Value} {t : Nat} (h : w.heap[b]? = some (.cells #[x, y, z] t (0, 0))) (u v q : Value) : (((w.setCell ⟨b, 0, none⟩ u).setCell ⟨b, 1, none⟩ v).setCell ⟨b, 2, none⟩ q).heap[b]? = some (.cells #[u, v, q] t (0, 0)) := three_set1 (three_set2 h u v) q

set_option maxRecDepth 100000 in
theorem load_dk {w : World} {b : Nat} {x y z : Value} (h0 : w.cell? ⟨b, 0, none⟩ = some x) (h1 : w.cell? ⟨b, 1, none⟩ = some y) (h2 : w.cell? ⟨b, 2, none⟩ = some z) :
    (loadVar 27 ⟨b, 0, none⟩).run Tryd.prog w = .ok (.agg #[x, y, z]) w := by
  go_simp

set_option maxRecDepth 100000 in
theorem done_dk {fn : Func} {R : Ending → World → Prop} {a : Act} {w : World} {p : Tmp} (hr : fn.results = #[.cell p 27]) (hd : a.defers = []) {b : Nat} {x y z : Value}
    (hp : a.tmps.getD p undef = .pointer (some ⟨b, 0, none⟩)) (h0 : w.cell? ⟨b, 0, none⟩ = some x) (h1 : w.cell? ⟨b, 1, none⟩ = some y) (h2 : w.cell? ⟨b, 2, none⟩ = some z) (hR : R (.returned (.agg #[x, y, z])) w) : bodyPost Tryd.prog fn R .ret a w := by
  refine bodyPost_ret (v := .agg #[x, y, z]) ?_ hd hR
  have hp' : a.tmps[p]?.getD undef = .pointer (some ⟨b, 0, none⟩) := by simpa using hp
  simp [results, hr, hp', asAddr, load_dk h0 h1 h2]

theorem szR_neg (n : Nat) : szR (-1) n = -1 := szR_big (by omega)



set_option maxRecDepth 100000 in
set_option maxHeartbeats 1000000 in
theorem eqDk_yes (V : Int) (a0 b0 : Option Addr) (c0 d0 : Nat) (xs ys : List Int) (a1 b1 : Option Addr) (n1 c1 d1 : Nat) (ps : List Int) (w : World) (hx : SlI w w.heap.size a0 xs) (hy : SlI w w.heap.size b0 ys) (hx1 : SlI w w.heap.size a1 ps) (hy1 : SlI w w.heap.size b1 ps) (hl : xs.length ≤ 1048576) (hl2 : ys.length ≤ 1048576) (h : xs = ys) (hp : ps.length = 2 * n1) (hl1 : n1 ≤ 1048576) :
    Calls Tryd.prog 9 #[.agg #[.int .i64 V, .slice a0 xs.length c0, .slice a1 n1 c1], .agg #[.int .i64 V, .slice b0 ys.length d0, .slice b1 n1 d1]] w fun e w' => e = .returned (.bool true) ∧ Below w.heap.size w w' := by
  obtain ⟨W, hW⟩ : ∃ W, W = (w.alloc (.cells #[.int .i64 V, .slice a0 xs.length c0, .slice a1 n1 c1] 27)).alloc (.cells #[.int .i64 V, .slice b0 ys.length d0, .slice b1 n1 d1] 27) := ⟨_, rfl⟩
  have hBW : Hid (Below w.heap.size w W) := hid (by rw [hW]; exact ((Below.refl _ w).alloc (Nat.le_refl _) _).alloc (by simp) _)
  have hb : Hid (W.heap[w.heap.size]? = some (.cells #[.int .i64 V, .slice a0 xs.length c0, .slice a1 n1 c1] 27 (0, 0))) := hid (by rw [hW]; exact (Below.heap_alloc _ _ _ (by simp)).trans (heap_alloc_new _ _))
  have hc : Hid (W.heap[w.heap.size + 1]? = some (.cells #[.int .i64 V, .slice b0 ys.length d0, .slice b1 n1 d1] 27 (0, 0))) := hid (by rw [hW]; exact new2 _ _ _)
  have HW := hid hW
  clear hW
  obtain ⟨q0, q1, _, _, _, _⟩ := three_of hb.out
  obtain ⟨p0, p1, _, _, _, _⟩ := three_of hc.out
  have HC := hid (eqCx_yes V a0 b0 c0 d0 xs ys W (hx.later hBW.out hBW.out.size) (hy.later hBW.out hBW.out.size) hl hl2 h)
  have Hx1 := hid hx1
  have Hy1 := hid hy1
  clear hx hy hx1 hy1 h
  go_enter Tryd.func9, Tryd.ntmps9
  go_wp2_with fail
  rw [← HW.out]
  go_wp2_with fail
  refine HC.out.mono ?_
  rintro e w1 ⟨rfl, hB1⟩
  obtain ⟨_, _, k2, _, _, _⟩ := three_of ((hB1.block _ (lt_get hb.out)).trans hb.out)
  obtain ⟨_, _, j2, _, _, _⟩ := three_of ((hB1.block _ (lt_get hc.out)).trans hc.out)
  have HB1 := hid (hBW.out.trans (hB1.mono hBW.out.size))
  clear hB1 q0 q1 p0 p1
  go_wp2_with fail
  refine (eqPairs_yes a1 b1 n1 c1 d1 ps _ (Hx1.out.later HB1.out HB1.out.size) (Hy1.out.later HB1.out HB1.out.size) hp hl1).mono ?_
  rintro e w2 ⟨rfl, hB2⟩
  have HB2 := hid (HB1.out.trans (hB2.mono HB1.out.size))
  clear hB2
  go_wp2_with fail
  go_ret
  exact ⟨rfl, HB2.out⟩

end Go.Proofs.YtbgkalkipalndaaDoor

/-! NewDesk, on both sides; desks without pairs in the laws. -/
namespace Go.Proofs.YtbgkalkipalndaaDoor
open Go.RowKit

def circN : List UInt8 := [99, 105, 114, 99, 108, 101]
theorem circ_ok : (namedR circN).2.2 = 0 := by decide +kernel

theorem Res.set3 {w W : World} {sv : Value} {xs : List Int} (h : Res w W sv xs) {b : Nat} {cs : Array Value} {t : Nat} {fz : Nat × Nat} (hb : W.heap[b]? = some (.cells cs t fz)) (hne : 2 ≠ t) (hw : w.heap.size ≤ b) (u v x : Value) :
    Res w (((W.setCell ⟨b, 0, none⟩ u).setCell ⟨b, 1, none⟩ v).setCell ⟨b, 2, none⟩ x) sv xs := by
  have hn := row_ne h.1 hb hne
  exact ⟨ownsRow_set (ownsRow_set (ownsRow_set h.1 (fun e => hn e.symm) _) (fun e => hn e.symm) _) (fun e => hn e.symm) _, ((h.2.setCell (p := ⟨b, 0, none⟩) hw _).setCell (p := ⟨b, 1, none⟩) hw _).setCell (p := ⟨b, 2, none⟩) hw _⟩

/-- A desk without pairs, in new memory. -/
def DkW (w w' : World) (e : Ending) : Prop := ∃ v p c, e = .returned (.agg #[.int .i64 (namedR circN).1, v, .slice p 0 c]) ∧ Res w w' v (namedR circN).2.1

set_option maxRecDepth 100000 in
theorem eqP0 (a b : Option Addr) (c d : Nat) (w : World) : Calls Tryd.prog 24 #[.slice a 0 c, .slice b 0 d] w fun e w' => e = .returned (.bool true) ∧ w = w' := by
  go_enter Tryd.func24, Tryd.ntmps24
  go_wp2
  refine wp_loop_rounds 1 ?_; rw [rounds_succ]
  go_wp2
  go_ret
  exact ⟨rfl, rfl⟩
set_option maxRecDepth 100000 in
theorem markP0 (a : Option Addr) (c : Nat) (k : Int) (w : World) : Calls Tryd.prog 25 #[.slice a 0 c, .int .i64 k] w fun e w' => e = .returned (.int .i64 k) ∧ w = w' := by
  go_enter Tryd.func25, Tryd.ntmps25
  go_wp2
  refine wp_loop_rounds 1 ?_; rw [rounds_succ]
  go_wp2
  go_ret
  exact ⟨rfl, rfl⟩
set_option maxRecDepth 100000 in
theorem heldP0 (a : Option Addr) (c : Nat) (k : Int) (w : World) : Calls Tryd.prog 26 #[.slice a 0 c, .int .i64 k] w fun e w' => e = .returned (.int .i64 k) ∧ w = w' := by
  go_enter Tryd.func26, Tryd.ntmps26
  go_wp2
  refine wp_loop_rounds 1 ?_; rw [rounds_succ]
  go_wp2
  go_ret
  exact ⟨rfl, rfl⟩

set_option maxRecDepth 100000 in
set_option maxHeartbeats 1000000 in
theorem eqDk0 (V : Int) (a0 b0 : Option Addr) (c0 d0 : Nat) (xs : List Int) (a1 b1 : Option Addr) (c1 d1 : Nat) (w : World) (hx : SlI w w.heap.size a0 xs) (hy : SlI w w.heap.size b0 xs) (hl : xs.length ≤ 1048576) :
    Calls Tryd.prog 9 #[.agg #[.int .i64 V, .slice a0 xs.length c0, .slice a1 0 c1], .agg #[.int .i64 V, .slice b0 xs.length d0, .slice b1 0 d1]] w fun e w' => e = .returned (.bool true) ∧ Below w.heap.size w w' := by
  obtain ⟨W, hW⟩ : ∃ W, W = (w.alloc (.cells #[.int .i64 V, .slice a0 xs.length c0, .slice a1 0 c1] 27)).alloc (.cells #[.int .i64 V, .slice b0 xs.length d0, .slice b1 0 d1] 27) := ⟨_, rfl⟩
  have hBW : Hid (Below w.heap.size w W) := hid (by rw [hW]; exact ((Below.refl _ w).alloc (Nat.le_refl _) _).alloc (by simp) _)
  have hb : Hid (W.heap[w.heap.size]? = some (.cells #[.int .i64 V, .slice a0 xs.length c0, .slice a1 0 c1] 27 (0, 0))) := hid (by rw [hW]; exact (Below.heap_alloc _ _ _ (by simp)).trans (heap_alloc_new _ _))
  have hc : Hid (W.heap[w.heap.size + 1]? = some (.cells #[.int .i64 V, .slice b0 xs.length d0, .slice b1 0 d1] 27 (0, 0))) := hid (by rw [hW]; exact new2 _ _ _)
  have HW := hid hW
  clear hW
  obtain ⟨q0, q1, _, _, _, _⟩ := three_of hb.out
  obtain ⟨p0, p1, _, _, _, _⟩ := three_of hc.out
  have HC := hid (eqCx_yes V a0 b0 c0 d0 xs xs W (hx.later hBW.out hBW.out.size) (hy.later hBW.out hBW.out.size) hl hl rfl)
  clear hx hy
  go_enter Tryd.func9, Tryd.ntmps9
  go_wp2_with fail
  rw [← HW.out]
  go_wp2_with fail
  refine HC.out.mono ?_
  rintro e w1 ⟨rfl, hB1⟩
  obtain ⟨_, _, k2, _, _, _⟩ := three_of ((hB1.block _ (lt_get hb.out)).trans hb.out)
  obtain ⟨_, _, j2, _, _, _⟩ := three_of ((hB1.block _ (lt_get hc.out)).trans hc.out)
  have HB1 := hid (hBW.out.trans (hB1.mono hBW.out.size))
  clear hB1 q0 q1 p0 p1
  go_wp2_with fail
  refine (eqP0 _ _ _ _ _).mono ?_
  rintro e w2 ⟨rfl, rfl⟩
  go_wp2_with fail
  go_ret
  exact ⟨rfl, HB1.out⟩

set_option maxRecDepth 100000 in
set_option maxHeartbeats 1000000 in
theorem markDk0 (V : Int) (base : Nat) (a : Option Addr) (cap : Nat) (xs : List Int) (p : Option Addr) (c : Nat) (k : Int) (w : World) (hown : w.ownsRow base 2 1 (.slice a xs.length cap) xs.length (xs.map (Value.int .i64))) (hl : xs.length ≤ 1048576) (h0 : 0 ≤ k) (h1 : k ≤ 1099511627776) :
    Calls Tryd.prog 10 #[.agg #[.int .i64 V, .slice a xs.length cap, .slice p 0 c], .int .i64 k] w fun e w' => e = .returned (.int .i64 (k + xs.length)) ∧
      w'.ownsRow base 2 1 (.slice a xs.length cap) xs.length ((count k xs.length).map (Value.int .i64)) ∧ w.grownBy w' (Value.ownBlock (.slice a xs.length cap)) := by
  obtain ⟨W, hW⟩ : ∃ W, W = w.alloc (.cells #[.int .i64 V, .slice a xs.length cap, .slice p 0 c] 27) := ⟨_, rfl⟩
  have Hown : Hid (W.ownsRow base 2 1 (.slice a xs.length cap) xs.length (xs.map (Value.int .i64))) := hid (by rw [hW]; exact hown.alloc _)
  have hb : W.heap[w.heap.size]? = some (.cells #[.int .i64 V, .slice a xs.length cap, .slice p 0 c] 27 (0, 0)) := by rw [hW]; exact heap_alloc_new _ _
  have Hb := hid hb
  have Hlt := hid (fun g (hg : Value.ownBlock (.slice a xs.length cap) = some g) => (hown.lt g hg).2)
  have HG : Hid (w.grownBy W none) := hid (by rw [hW]; exact World.grownBy_alloc w _ _)
  have HW := hid hW
  obtain ⟨q0, q1, _, _, _, _⟩ := three_of hb
  clear hW hown hb
  go_enter Tryd.func10, Tryd.ntmps10
  go_wp2_with fail
  rw [← HW.out]
  go_wp2_with fail
  refine (markCx V base a cap xs k _ Hown.out hl h0 h1).mono ?_
  rintro e w1 ⟨rfl, hown1, hgr⟩
  have hk1 := (hgr.block w.heap.size (lt_get Hb.out) (fun e => by have := Hlt.out w.heap.size e.symm; omega)).trans Hb.out
  obtain ⟨k0, k1, k2, _, _, _⟩ := three_of hk1
  have Hown1 := hid hown1
  have Hgr : Hid (w.grownBy w1 (Value.ownBlock (.slice a xs.length cap))) := hid (by
    have h := HG.out
    rw [HW.out]at hgr
    exact (World.grownBy_alloc w _ _).trans hgr)
  clear hown1 hgr hk1
  go_wp2_with fail
  refine (markP0 _ _ _ _).mono ?_
  rintro e w2 ⟨rfl, rfl⟩
  go_wp2_with fail
  go_ret
  exact ⟨rfl, Hown1.out, Hgr.out⟩

set_option maxRecDepth 100000 in
set_option maxHeartbeats 1000000 in
theorem heldDk0 (V : Int) (a : Option Addr) (cap n : Nat) (xs : List Int) (p : Option Addr) (c : Nat) (k : Int) (w : World) (hxs : xs = count k n) (hx : SlI w w.heap.size a xs) (hl : n ≤ 1048576) (h0 : 0 ≤ k) (h1 : k ≤ 1099511627776) :
    Calls Tryd.prog 11 #[.agg #[.int .i64 V, .slice a n cap, .slice p 0 c], .int .i64 k] w fun e w' => e = .returned (.int .i64 (k + n)) ∧ Below w.heap.size w w' := by
  obtain ⟨W, hW⟩ : ∃ W, W = w.alloc (.cells #[.int .i64 V, .slice a n cap, .slice p 0 c] 27) := ⟨_, rfl⟩
  have HB : Hid (Below w.heap.size w W) := hid (by rw [hW]; exact (Below.refl _ w).alloc (Nat.le_refl _) _)
  have Hb : Hid (W.heap[w.heap.size]? = some (.cells #[.int .i64 V, .slice a n cap, .slice p 0 c] 27 (0, 0))) := hid (by rw [hW]; exact heap_alloc_new _ _)
  have HC := hid (heldCx V a cap n xs k W hxs (hx.later HB.out HB.out.size) hl h0 h1)
  have HW := hid hW
  obtain ⟨q0, q1, _, _, _, _⟩ := three_of Hb.out
  clear hW hx hxs
  go_enter Tryd.func11, Tryd.ntmps11
  go_wp2_with fail
  rw [← HW.out]
  go_wp2_with fail
  refine HC.out.mono ?_
  rintro e w1 ⟨rfl, hB1⟩
  obtain ⟨k0, k1, k2, _, _, _⟩ := three_of ((hB1.block _ (lt_get Hb.out)).trans Hb.out)
  have HB1 := hid (HB.out.trans (hB1.mono HB.out.size))
  have hge : 0 ≤ k + (n : Int) := by omega
  clear hB1 q0 q1
  go_wp2_with fail
  refine (heldP0 _ _ _ _).mono ?_
  rintro e w2 ⟨rfl, rfl⟩
  go_wp2_with fail
  go_ret
  exact ⟨rfl, HB1.out⟩

set_option maxRecDepth 100000 in
set_option maxHeartbeats 1000000 in
theorem fresh_any (V : Int) (a : Option Addr) (cap n : Nat) (w : World) :
    Calls Tryd.prog 42 #[.agg #[.int .i64 V, .slice a n cap]] w fun e w' => ∃ p c, e = .returned (.agg #[.int .i64 V, .slice a n cap, .slice p 0 c]) ∧ Below w.heap.size w w' := by
  go_enter Tryd.func42, Tryd.ntmps42
  go_wp2_with fail
  (try simp only [Exit.inBlock, Exit.then])
  have h := three_of ((Below.heap_alloc _ (.cells #[] 62) _ (by simp)).trans (new2 w (.cells #[.int .i64 V, .slice a n cap] 24) (.cells #[.int .i64 V, .slice a n cap, .slice (some ⟨w.heap.size + 1 + 1, 0, none⟩) 0 0] 27)))
  exact done_dk (p := 2) (by kernel_rfl) rfl rfl h.1 h.2.1 h.2.2.1 ⟨_, _, rfl, by repeat (first | exact Below.refl _ _ | refine Below.alloc ?_ (by simp <;> omega) _)⟩

set_option maxRecDepth 100000 in
set_option maxHeartbeats 2000000 in
theorem new_any (w : World) : Calls Tryd.prog 23 #[] w fun e w' => DkW w w' e := by
  obtain ⟨W0, hW0⟩ : ∃ W0, W0 = w.alloc (.cells #[.int .i64 0, .slice none 0 0, .slice none 0 0] 27) := ⟨_, rfl⟩
  have HB0 : Hid (Below w.heap.size w W0) := hid (by rw [hW0]; exact (Below.refl _ w).alloc (Nat.le_refl _) _)
  have HK : Hid (W0.heap[w.heap.size]? = some (.cells #[.int .i64 0, .slice none 0 0, .slice none 0 0] 27 (0, 0))) := hid (by rw [hW0]; exact heap_alloc_new _ _)
  have HW0 := hid hW0
  have HC := hid (namedS_any circN W0)
  have HN : Hid (namedR circN = ((rcC (nameT circN)).1, (rcC (nameT circN)).2.1, if (rcC (nameT circN)).2.2 then 0 else 4)) := hid rfl
  clear hW0
  unfold DkW
  rw [HN.out]
  obtain ⟨R, hR⟩ : ∃ R, R = rcC (nameT circN) := ⟨_, rfl⟩
  rw [← hR] at HC ⊢
  obtain ⟨V, xs, ok⟩ := R
  clear HN hR
  go_enter Tryd.func23, Tryd.ntmps23
  go_wp2_with fail
  rw [← HW0.out]
  refine HC.out.mono ?_
  rintro e w1 ⟨v, rfl, hr⟩
  obtain ⟨_, av, cv, rfl, _⟩ := ownsRow_slI hr.1
  have HK1 := hid ((hr.2.block _ (lt_get HK.out)).trans HK.out)
  have HR := hid (hr.later HB0.out)
  clear hr
  go_wp2_with fail
  refine (fresh_any V av cv xs.length _).mono ?_
  rintro e w2 ⟨p, c, rfl, hB2⟩
  have hB12 : Below w1.heap.size w1 w2 := ((Below.refl w1.heap.size w1).alloc (Nat.le_refl _) _).trans (hB2.mono (by simp))
  have hk2 := (hB12.block _ (lt_get HK1.out)).trans HK1.out
  obtain ⟨k0, k1, k2, g0, g1, g2⟩ := three_of hk2
  have HK2 := hid hk2
  have HR2 := hid (HR.out.after hB12)
  clear hB2 hB12 hk2
  go_wp2_with fail
  (try simp only [Exit.inBlock, Exit.then])
  have h := three_of (three_set HK2.out (.int .i64 V) (.slice av xs.length cv) (.slice p 0 c))
  refine done_dk (p := 0) (by kernel_rfl) rfl rfl h.1 h.2.1 h.2.2.1 ⟨_, _, _, rfl, ?_⟩
  exact HR2.out.set3 HK2.out (by decide) (Nat.le_refl _) _ _ _

set_option maxRecDepth 100000 in
set_option maxHeartbeats 2000000 in
theorem specNewDesk (w : World) : Calls Tryd.prog 7 #[] w fun e w' => DkW w w' e := by
  obtain ⟨W0, hW0⟩ : ∃ W0, W0 = w.alloc (.cells #[.int .i64 0, .slice none 0 0, .slice none 0 0] 27) := ⟨_, rfl⟩
  have HB0 : Hid (Below w.heap.size w W0) := hid (by rw [hW0]; exact (Below.refl _ w).alloc (Nat.le_refl _) _)
  have HK : Hid (W0.heap[w.heap.size]? = some (.cells #[.int .i64 0, .slice none 0 0, .slice none 0 0] 27 (0, 0))) := hid (by rw [hW0]; exact heap_alloc_new _ _)
  have HW0 := hid hW0
  have HC := hid (new_any W0)
  clear hW0
  unfold DkW at HC ⊢
  obtain ⟨R, hR⟩ : ∃ R, R = namedR circN := ⟨_, rfl⟩
  rw [← hR] at HC ⊢
  obtain ⟨V, xs, ok⟩ := R
  clear hR
  go_enter Tryd.func7, Tryd.ntmps7
  go_wp2_with fail
  rw [← HW0.out]
  refine HC.out.mono ?_
  rintro e w2 ⟨v, p, c, rfl, hr⟩
  obtain ⟨_, av, cv, rfl, _⟩ := ownsRow_slI hr.1
  have hk2 := (hr.2.block _ (lt_get HK.out)).trans HK.out
  obtain ⟨k0, k1, k2, g0, g1, g2⟩ := three_of hk2
  have HK2 := hid hk2
  have HR2 := hid (hr.later HB0.out)
  clear hr hk2
  go_wp2_with fail
  (try simp only [Exit.inBlock, Exit.then])
  have h := three_of (three_set HK2.out (.int .i64 V) (.slice av xs.length cv) (.slice p 0 c))
  refine done_dk (p := 0) (by kernel_rfl) rfl rfl h.1 h.2.1 h.2.2.1 ⟨_, _, _, rfl, ?_⟩
  exact HR2.out.set3 HK2.out (by decide) (Nat.le_refl _) _ _ _

set_option maxRecDepth 100000 in
set_option maxHeartbeats 2000000 in
theorem implNewDesk (w : World) (m : Int) (hm : w.cell? ⟨1, 0, none⟩ = some (.int .i64 m)) : Calls Tryd.prog 8 #[] w fun e w' => DkW w w' e := by
  obtain ⟨W0, hW0⟩ : ∃ W0, W0 = w.alloc (.cells #[.int .i64 0, .slice none 0 0, .slice none 0 0] 27) := ⟨_, rfl⟩
  have HB0 : Hid (Below w.heap.size w W0) := hid (by rw [hW0]; exact (Below.refl _ w).alloc (Nat.le_refl _) _)
  have HK : Hid (W0.heap[w.heap.size]? = some (.cells #[.int .i64 0, .slice none 0 0, .slice none 0 0] 27 (0, 0))) := hid (by rw [hW0]; exact heap_alloc_new _ _)
  have HW0 := hid hW0
  have HC := hid (implNamedComplex circN W0 m ((HB0.out.cell (p := ⟨1, 0, none⟩) (World.block_lt_of_cell? w _ hm)).trans hm))
  clear hW0 hm
  unfold DkW
  obtain ⟨R, hR⟩ : ∃ R, R = namedR circN := ⟨_, rfl⟩
  rw [← hR] at HC ⊢
  obtain ⟨V, xs, c⟩ := R
  clear hR
  go_enter Tryd.func8, Tryd.ntmps8
  go_wp2_with fail
  rw [← HW0.out]
  refine HC.out.mono ?_
  rintro e w1 ⟨v, rfl, hr⟩
  obtain ⟨_, av, cv, rfl, _⟩ := ownsRow_slI hr.1
  have hk1 := (hr.2.block _ (lt_get HK.out)).trans HK.out
  have HR := hid ((hr.later HB0.out).after ((Below.refl w1.heap.size w1).alloc (Nat.le_refl _) (.cells #[.int .i64 V, .slice av xs.length cv] 24)))
  have hk2 := (Below.heap_alloc w1 (.cells #[.int .i64 V, .slice av xs.length cv] 24) _ (lt_get hk1)).trans hk1
  obtain ⟨k0, k1, k2, g0, g1, g2⟩ := three_of hk2
  have HK2 := hid hk2
  clear hr hk2 hk1
  go_wp2_with fail
  (try simp only [Exit.inBlock, Exit.then])
  have h := three_of (three_set HK2.out (.int .i64 V) (.slice av xs.length cv) (.slice none 0 0))
  refine done_dk (p := 0) (by kernel_rfl) rfl rfl h.1 h.2.1 h.2.2.1 ⟨_, _, _, rfl, ?_⟩
  exact HR.out.set3 HK2.out (by decide) (Nat.le_refl _) _ _ _

end Go.Proofs.YtbgkalkipalndaaDoor

/-! What a complex that comes in is told as, for the rows of all laws. -/
namespace Go.Proofs.YtbgkalkipalndaaDoor
open Go.ChangeShapes Go.WideShapes Go.ChangeAt Go.RowKit Go.Joins

theorem own : ownKnob Tryd.prog.godebug = none := by kernel_rfl
theorem laidOut : laidOutB Tryd.prog = true := by kernel_rfl

variable {H : Type} {enc : TypeId × Value → H}

/-- A slice of int64 that came in. -/
theorem slI_of_trod {W : World} {n : Nat} {v : Value} {y : DataW H × List MemPlace} (hf : DataW.trod enc Tryd.prog W 0 (fun _ => true) true n 22 [v] = some y) :
    ∃ a len cap xs, v = .slice a len cap ∧ xs.length = len ∧ len ≤ 9223372036854775807 ∧ SlI W W.heap.size a xs ∧ ∀ x ∈ xs, (Lit.int .i64 x).wf = true := by
  rcases open_ints Tryd.underlying22 Tryd.underlying2 (by kernel_rfl) hf with ⟨hcs, _⟩ | ⟨x, l, c, zs, hcs, _, hl, hm, hz, _, hcell, hwf⟩
  · simp at hcs
    subst hcs
    exact ⟨none, 0, 0, [], rfl, rfl, by omega, .inl rfl, by simp⟩
  · simp at hcs
    subst hcs
    simp at hz
    have hlen : (zs.take l).length = l := by simp; omega
    unfold maxLen at hm
    refine ⟨some x, l, c, zs.take l, rfl, hlen, by omega, ?_, fun y hy => hwf y (List.mem_of_mem_take hy)⟩
    by_cases h0 : l = 0
    · subst h0; exact .inl (by simp)
    · right
      obtain ⟨b, off, spot⟩ := x
      have hc0 := hcell 0 (by omega)
      have hspot : spot = none := by simpa [Addr.add] using World.cell?_spot hc0
      subst hspot
      refine ⟨b, off, ?_, rfl, fun i hi => ?_⟩
      · have := World.block_lt_of_cell? W _ hc0
        simpa [Addr.add] using this
      · rw [hlen] at hi
        have := hcell i (by omega)
        have hadd : (⟨b, off, none⟩ : Addr).add i = ⟨b, off + i, none⟩ := by unfold Addr.add; split <;> simp_all
        rw [hadd] at this
        rw [List.getElem?_take, if_pos hi]
        simpa using this

end Go.Proofs.YtbgkalkipalndaaDoor

/-! Tied cards whose proofs want a library's variable of a known shape. -/
namespace Go.Proofs.YtbgkalkipalndaaDoor
open Go.ChangeShapes Go.WideShapes Go.ChangeAt Go.RowKit Go.Joins

theorem handed_both {H : Type} {enc : TypeId × Value → H} {a : Assume} {C : Checked} {os : Os} {f : FuncId} {fn : Func} {s : ChangeSpec} {conds : List PathCond} {apart fresh handsOn again : Bool} {X : World → Array Value → Prop}
    (hX : ∀ (w w' : World) (args : Array Value), w.heap = w'.heap → X w args → X w' args)
    (own : ownKnob C.prog.godebug = none) (started : os.Started) (noInit : C.prog.inits.idxOf? f = none) (hfn : C.prog.funcs[f]? = some fn)
    (witness : ∃ (w : World) (tape : Tape) (i : Input), w.os = os ∧ (w.forCall tape i).Shaped C.prog ∧ i.vars = [] ∧ Input.okWide C.prog (w.forCall tape i) .any w.heap.size f i ∧
      ((s.pre enc C.prog fn conds apart (w.forCall tape i).memory i.args ∧ X (w.forCall tape i).memory i.args) ∧ sizedMet enc C.prog fn (OpenSpec.ofChange s) apart (w.forCall tape i).memory i.args) ∧ a.holds C.prog (lone (Frame.enter C.prog f i.args .normal) [] (w.forCall tape i)))
    (contract : ∀ (W : World) (base : Nat) (args : Array Value) (ds gs : List (DataW H)) (before : List MemPlace),
      (∀ (j : Nat) t v, fn.params[j]? = some t → args[j]? = some v → Value.okWide C.prog W .any base t v) →
      DataW.Whole enc C.prog fn.params.toList s.vars apart W args.toList ds gs before → X W args → W.ShapedOpen C.prog →
      Calls C.prog f args W fun e W' => ∃ v, e = .returned v ∧ s.post enc C.prog fn apart fresh handsOn again W args v W') :
    ReturnsInHanded a C os f .any (fun w args => (s.pre enc C.prog fn conds apart w args ∧ X w args) ∧ sizedMet enc C.prog fn (OpenSpec.ofChange s) apart w args) (s.post enc C.prog fn apart fresh handsOn again) := by
  refine returnsInHanded_of_calls own started noInit witness ?_
  intro w tape i _ hsh _ hok hpre _
  obtain ⟨_, _, _, fn', hfn', _, _, _, _, hval⟩ := hok
  have e : fn' = fn := Option.some.inj (hfn'.symm.trans hfn)
  subst e
  obtain ⟨⟨⟨ds, gs, before, hw, _⟩, hx⟩, _⟩ := hpre
  have hw' := DataW.Whole.of_heap (w' := w.forCall tape i) (by rfl) hw
  refine (contract (w.forCall tape i) w.heap.size i.args ds gs before hval hw' (hX _ _ _ (by rfl) hx) hsh).mono fun e W' ⟨v, he, hp⟩ => ?_
  subst he
  exact ChangeSpec.post_blind hp

theorem maxLen_of {w : World} (h : w.ShapedOpen Tryd.prog) : ∃ m, w.cell? ⟨1, 0, none⟩ = some (.int .i64 m) :=
  Go.Proofs.cell_of_shapedOpen_int (zero := #[.int .i64 0]) (t := 3) h (of_decide_eq_true (by kernel_rfl)) (by kernel_rfl) rfl (by kernel_rfl) (by kernel_rfl) Tryd.underlying3

end Go.Proofs.YtbgkalkipalndaaDoor

/-! What a law keeps of the world, for rows of any type that are read as integers (a list of n pairs: 2 * n integers). -/
namespace Go.Proofs.YtbgkalkipalndaaDoor
open Go.RowKit

/-- A row that lies in blocks from lo to hi: n elements of a type and size, read as integers. -/
structure Bk where
  lo : Nat
  hi : Nat
  ty : TypeId
  sz : Nat
  n : Nat
  v : Value
  xs : List Int

structure OwnB (w : World) (p : Bk) : Prop where
  own : w.ownsRow p.lo p.ty p.sz p.v p.n (p.xs.map (Value.int .i64))
  lt : ∀ g, p.v.ownBlock = some g → g < p.hi
  le : p.hi ≤ w.heap.size

/-- What is owned reads as integers. -/
theorem flat_slI {w : World} {base e sz : Nat} {a : Option Addr} {n m cap : Nat} {xs : List Int} (h : w.ownsRow base e sz (.slice a m cap) n (xs.map (Value.int .i64))) : SlI w w.heap.size a xs := by
  have hl := h.1
  rcases h.2 with ⟨hv, hn⟩ | ⟨g, cap', cur, hv, _, hg, _⟩
  · subst hn
    exact .inl (List.eq_nil_of_length_eq_zero (by simpa using hl))
  · cases hv
    refine .inr ⟨g, 0, (Array.getElem?_eq_some_iff.1 hg).1, rfl, fun i hi => ?_⟩
    have := h.cells (g := g) rfl i (.int .i64 (xs[i]?.getD 0)) (by simp [hi])
    have hadd : (⟨g, 0, none⟩ : Addr).add i = ⟨g, i, none⟩ := by unfold Addr.add; split <;> simp_all
    rw [hadd] at this
    simpa using this

structure Book (w0 : World) (w : World) (A : List (Option Addr × List Int)) (bs : List (Nat × Obj)) (L : List Bk) : Prop where
  from0 : Below w0.heap.size w0 w
  args : ∀ q ∈ A, SlI w w0.heap.size q.1 q.2
  blocks : ∀ b ∈ bs, w.heap[b.1]? = some b.2
  rows : ∀ p ∈ L, OwnB w p

section
variable {w0 w w' : World} {A : List (Option Addr × List Int)} {bs : List (Nat × Obj)} {L : List Bk}

theorem Book.ge (h : Book w0 w A bs L) : w0.heap.size ≤ w.heap.size := h.from0.size

theorem Book.below (h : Book w0 w A bs L) (hb : Below w.heap.size w w') : Book w0 w' A bs L where
  from0 := h.from0.trans (hb.mono h.ge)
  args := fun q hq => (h.args q hq).below (hb.mono h.ge)
  blocks := fun b hbm => (hb.block b.1 (Array.getElem?_eq_some_iff.1 (h.blocks b hbm)).1).trans (h.blocks b hbm)
  rows := fun p hp => ⟨ownsRow_below (h.rows p hp).own hb (fun g hg => Nat.lt_of_lt_of_le ((h.rows p hp).lt g hg) (h.rows p hp).le), (h.rows p hp).lt, Nat.le_trans (h.rows p hp).le hb.size⟩

theorem Book.drew (h : Book w0 w A bs L) : Book w0 w.drew A bs L := h.below (Below.refl _ _).drew
theorem Book.drewN (h : Book w0 w A bs L) (n : Nat) : Book w0 (w.drewN n) A bs L := h.below ⟨rfl, rfl, rfl, Nat.le_refl _, fun _ _ => rfl⟩

theorem Book.arg (h : Book w0 w A bs L) {q : Option Addr × List Int} (hq : q ∈ A) : SlI w w.heap.size q.1 q.2 := (h.args q hq).mono h.ge

theorem Book.alloc (h : Book w0 w A bs L) (o : Obj) : Book w0 (w.alloc o) A ((w.heap.size, o) :: bs) L where
  from0 := h.from0.alloc h.ge o
  args := fun q hq => (h.args q hq).below ((Below.refl _ w).alloc h.ge _)
  blocks := fun b hb => by
    rcases List.mem_cons.1 hb with rfl | hb
    · exact heap_alloc_new w o
    · exact (Below.heap_alloc w o _ (Array.getElem?_eq_some_iff.1 (h.blocks b hb)).1).trans (h.blocks b hb)
  rows := fun p hp => ⟨(h.rows p hp).own.alloc o, (h.rows p hp).lt, by have := (h.rows p hp).le; simp; omega⟩

/-- A new row, out of a call. -/
theorem Book.row (h : Book w0 w A bs L) {ty : TypeId} {sz n : Nat} {v : Value} {xs : List Int}
    (hown : w'.ownsRow w.heap.size ty sz v n (xs.map (Value.int .i64))) (hb : Below w.heap.size w w') : Book w0 w' A bs (⟨w.heap.size, w'.heap.size, ty, sz, n, v, xs⟩ :: L) :=
  { h.below hb with
    rows := fun p hp => by
      rcases List.mem_cons.1 hp with rfl | hp
      · exact ⟨hown, fun g hg => (hown.lt g hg).2, Nat.le_refl _⟩
      · exact (h.below hb).rows p hp }

/-- A row is marked: the others stay. -/
theorem Book.mark {L' : List Bk} (h : Book w0 w A bs L) {p : Bk} {ys : List Int} (hp : p ∈ L)
    (hown : w'.ownsRow p.lo p.ty p.sz p.v p.n (ys.map (Value.int .i64))) (hg : w.grownBy w' p.v.ownBlock)
    (hB : w0.heap.size ≤ p.lo) (hbs : ∀ b ∈ bs, b.1 < p.lo ∨ p.hi ≤ b.1) (hL : ∀ q ∈ L', q = { p with xs := ys } ∨ (q ∈ L ∧ (q.hi ≤ p.lo ∨ p.hi ≤ q.lo))) : Book w0 w' A bs L' where
  from0 := h.from0.grown hg h.ge (fun k e => Nat.le_trans hB ((h.rows p hp).own.lt k e).1)
  args := fun q hq => (h.args q hq).below ((Below.refl _ w).grown hg h.ge (fun k e => Nat.le_trans hB ((h.rows p hp).own.lt k e).1))
  blocks := fun b hb => (hg.block b.1 (Array.getElem?_eq_some_iff.1 (h.blocks b hb)).1 (fun e => by
    have h1 := ((h.rows p hp).own.lt _ e.symm).1
    have h2 := (h.rows p hp).lt _ e.symm
    rcases hbs b hb with h3 | h3 <;> omega)).trans (h.blocks b hb)
  rows := fun q hq => by
    rcases hL q hq with rfl | ⟨hqm, hap⟩
    · exact ⟨hown, (h.rows p hp).lt, Nat.le_trans (h.rows p hp).le hg.size⟩
    · refine ⟨(h.rows q hqm).own.kept hg ?_, (h.rows q hqm).lt, Nat.le_trans (h.rows q hqm).le hg.size⟩
      cases hv : q.v.ownBlock with
      | none => exact .inl rfl
      | some g =>
        refine .inr (fun e => ?_)
        have h1 := ((h.rows p hp).own.lt _ e.symm).1
        have h2 := (h.rows p hp).lt _ e.symm
        have h3 := ((h.rows q hqm).own.lt _ hv).1
        have h4 := (h.rows q hqm).lt _ hv
        rcases hap with h5 | h5 <;> omega

/-- Some of it. -/
theorem Book.only {bs' : List (Nat × Obj)} {L' : List Bk} (h : Book w0 w A bs L) (hb : ∀ b ∈ bs', b ∈ bs) (hL : ∀ p ∈ L', p ∈ L) : Book w0 w A bs' L' :=
  ⟨h.from0, h.args, fun b hbm => h.blocks b (hb b hbm), fun p hp => h.rows p (hL p hp)⟩

/-- A block of another type is written. -/
theorem Book.set2 {b t : Nat} {x y u v : Value} (h : Book w0 w A ((b, .cells #[x, y] t (0, 0)) :: bs) L) (hw : w0.heap.size ≤ b) (hb : ∀ q ∈ bs, q.1 ≠ b) (hty : ∀ p ∈ L, p.ty ≠ t) :
    Book w0 ((w.setCell ⟨b, 0, none⟩ u).setCell ⟨b, 1, none⟩ v) A ((b, .cells #[u, v] t (0, 0)) :: bs) L where
  from0 := (h.from0.setCell (p := ⟨b, 0, none⟩) hw _).setCell (p := ⟨b, 1, none⟩) hw _
  args := fun q hq => (h.args q hq).below (((Below.refl _ w).setCell (p := ⟨b, 0, none⟩) hw _).setCell (p := ⟨b, 1, none⟩) hw _)
  blocks := fun q hq => by
    rcases List.mem_cons.1 hq with rfl | hq
    · have hbk := h.blocks _ (List.mem_cons_self ..)
      simp only at hbk
      simp only [World.setCell, Array.getElem?_modify, hbk]
      simp
    · exact (Below.heap_setCell _ _ _ _ (hb q hq)).trans ((Below.heap_setCell _ _ _ _ (hb q hq)).trans (h.blocks q (List.mem_cons_of_mem _ hq)))
  rows := fun p hp => by
    have hbk := h.blocks _ (List.mem_cons_self ..)
    have hn : p.v.ownBlock ≠ some b := by
      intro e
      have ho := (h.rows p hp).own
      rcases ho.2 with ⟨hv, _⟩ | ⟨g, cap, cur, hv, _, hg, _⟩
      · rw [hv] at e; simp [Value.ownBlock] at e
      · rw [hv] at e
        simp [Value.ownBlock] at e
        subst e
        rw [hg] at hbk
        simp at hbk
        exact hty p hp hbk.2
    exact ⟨ownsRow_set (ownsRow_set (h.rows p hp).own hn _) hn _, (h.rows p hp).lt, by have := (h.rows p hp).le; simpa [World.setCell] using this⟩

theorem Book.slI (h : Book w0 w A bs L) {lo hi : Nat} {ty : TypeId} {sz n : Nat} {a : Option Addr} {m cap : Nat} {xs : List Int} (hp : (⟨lo, hi, ty, sz, n, .slice a m cap, xs⟩ : Bk) ∈ L) : SlI w w.heap.size a xs :=
  flat_slI (h.rows _ hp).own

theorem Book.own (h : Book w0 w A bs L) {lo hi : Nat} {ty : TypeId} {sz n : Nat} {v : Value} {xs : List Int} (hp : (⟨lo, hi, ty, sz, n, v, xs⟩ : Bk) ∈ L) : w.ownsRow lo ty sz v n (xs.map (Value.int .i64)) := (h.rows _ hp).own

theorem Book.two (h : Book w0 w A bs L) {b t : Nat} {u v : Value} (hb : (b, Obj.cells #[u, v] t (0, 0)) ∈ bs) : w.cell? ⟨b, 0, none⟩ = some u ∧ w.cell? ⟨b, 1, none⟩ = some v := by
  have := h.blocks _ hb
  constructor <;> simp [World.cell?, this]

end

end Go.Proofs.YtbgkalkipalndaaDoor
