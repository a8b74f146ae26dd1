import Derived.Lib.AppendZeros
import Derived.Lib.SliceRun
import Derived.Laws.OwnMore
import Derived.Deep.CutRange
import Derived.Test.YtplcbiconfpmlaaMB5
import Derived.Test.YtplcbiconfpmlaaMB2
import Derived.Test.YtplcbiconfpmlaaMB4
import Derived.Test.YtplcbiconfpmlaaMB3
import Derived.Test.YtplcbiconfpmlaaMB8
import Derived.Test.YtplcbiconfpmlaaMB6
import Derived.Test.YtplcbiconfpmlaaMB10
/-! slices.Equal at integers; l06Same. -/
namespace Go.Proofs.Ytplcbiconfpmlaa
open Go.RowKit

attribute [local go_sem] Oper.semAt_some

theorem ext_takeJ {L M : List Int} (hl : L.length = M.length) (h : ∀ k, k < L.length → L[k]?.getD 0 = M[k]?.getD 0) : L = M := by
  apply List.ext_getElem hl
  intro i h1 h2
  have := h i h1
  rw [List.getElem?_eq_getElem h1, List.getElem?_eq_getElem h2] at this
  simpa using this

set_option maxRecDepth 100000 in
set_option maxHeartbeats 2000000 in
theorem eqIn_any (a : Option Addr) (c : Nat) (L : List Int) (b : Option Addr) (d : Nat) (M : List Int) (w : World) (ha : SlI w w.heap.size a L) (hb : SlI w w.heap.size b M) (hl : L.length ≤ 1048576) :
    Calls Try.prog 66 #[.slice a L.length c, .slice b M.length d] w fun e w' => e = .returned (.bool (decide (L = M))) ∧ Below w.heap.size w w' := by
  have Ha := hid ha
  have Hb := hid hb
  obtain ⟨R, hR⟩ : ∃ R, R = decide (L = M) := ⟨_, rfl⟩
  have HR := hid hR
  rw [← hR]
  clear ha hb hR
  by_cases hlm : L.length = M.length
  · have hd : ((L.length : Int) != (M.length : Int)) = false := by simp; omega
    have Hlm := hid hlm
    clear hlm
    go_enter Try.func66, Try.ntmps66
    go_wp2_with fail
    go_loopw [13] (fun i wr => ∃ k : Nat, k ≤ L.length ∧ i = .int .i64 k ∧ Hid (∀ j, j < k → L[j]?.getD 0 = M[j]?.getD 0) ∧ Hid (Below w.heap.size w wr)) (fun i _ => L.length - (intOf i).toNat)
    case atStart => exact ⟨0, Nat.zero_le _, rfl, hid (by intro j h; omega), hid (Below.refl _ _)⟩
    case round =>
      obtain ⟨k, hk, rfl, Hk, HB⟩ := hrel
      by_cases hlt : k < L.length
      · have hlt2 : k < M.length := by have := Hlm.out; omega
        obtain ⟨ba, oa, hba, rfl, hca⟩ : ∃ b off, b < wr.heap.size ∧ a = some ⟨b, off, none⟩ ∧ ∀ i, i < L.length → wr.cell? ⟨b, off + i, none⟩ = some (.int .i64 (L[i]?.getD 0)) := by
          rcases Ha.out.later HB.out HB.out.size with h | h
          · rw [h] at hlt; simp at hlt
          · exact h
        obtain ⟨bb, ob, hbb, rfl, hcb⟩ : ∃ b' off, b' < wr.heap.size ∧ b = some ⟨b', off, none⟩ ∧ ∀ i, i < M.length → wr.cell? ⟨b', off + i, none⟩ = some (.int .i64 (M[i]?.getD 0)) := by
          rcases Hb.out.later HB.out HB.out.size with h | h
          · rw [h] at hlt2; simp at hlt2
          · exact h
        have c1 := hca k hlt
        have c2 := hcb k hlt2
        obtain ⟨p, hp⟩ : ∃ p, p = L[k]?.getD 0 := ⟨_, rfl⟩
        obtain ⟨q, hq⟩ : ∃ q, q = M[k]?.getD 0 := ⟨_, rfl⟩
        rw [← hp] at c1
        rw [← hq] at c2
        have hi0 : (0 : Int) ≤ (k : Int) := by omega
        have hi1 : (k : Int) < (L.length : Int) := by omega
        have hi2 : (k : Int) < (M.length : Int) := by omega
        have Hp := hid hp
        have Hq := hid hq
        clear hp hq hca hcb
        by_cases he : p = q
        · have hd2 : (p != q) = false := by simp [he]
          have Hn : Hid (∀ j, j < k + 1 → L[j]?.getD 0 = M[j]?.getD 0) := hid (by
            intro j hj
            by_cases e : j < k
            · exact Hk.out j e
            · obtain rfl : j = k := by omega
              rw [← Hp.out, ← Hq.out, he])
          clear he
          go_wp2_with fail
          go_quiet (fail)
          go_wp2_with fail
          go_roundw
          case rel => exact ⟨k + 1, by omega, by go_num, Hn, hid ⟨HB.out.os, HB.out.tape, HB.out.output, HB.out.size, HB.out.block⟩⟩
          case measure => simp [intOf]; omega
        · have hd2 : (p != q) = true := by simpa using he
          have Hn : Hid (R = false) := hid (by
            rw [HR.out]
            exact decide_eq_false fun h => he (by rw [Hp.out, Hq.out, h]))
          clear he
          go_wp2_with fail
          go_quiet (fail)
          go_wp2_with fail
          go_ret
          exact ⟨ret_bool (by rw [Hn.out]), HB.out.os, HB.out.tape, HB.out.output, HB.out.size, HB.out.block⟩
      · have Hn : Hid (R = true) := hid (by
          rw [HR.out]
          exact decide_eq_true (ext_takeJ Hlm.out (fun j hj => Hk.out j (by omega))))
        go_wp2_with fail
        go_ret
        exact ⟨ret_bool (by rw [Hn.out]), HB.out⟩
  · have hd : ((L.length : Int) != (M.length : Int)) = true := by simp; omega
    have Hn : Hid (R = false) := hid (by
      rw [HR.out]
      exact decide_eq_false (fun h => hlm (by rw [h])))
    clear hlm
    go_enter Try.func66, Try.ntmps66
    go_wp2_with fail
    go_ret
    exact ⟨ret_bool (by rw [Hn.out]), Below.refl _ _⟩

set_option maxRecDepth 100000 in
set_option maxHeartbeats 2000000 in
theorem same_any (a : Option Addr) (c : Nat) (L : List Int) (b : Option Addr) (d : Nat) (M : List Int) (w : World) (ha : SlI w w.heap.size a L) (hb : SlI w w.heap.size b M) (hl : L.length ≤ 1048576) :
    Calls Try.prog 63 #[.slice a L.length c, .slice b M.length d] w fun e w' => e = .returned (.bool (decide (L = M))) ∧ Below w.heap.size w w' := by
  have Ha := hid ha
  have Hb := hid hb
  obtain ⟨R, hR⟩ : ∃ R, R = decide (L = M) := ⟨_, rfl⟩
  have HR := hid hR
  rw [← hR]
  clear ha hb hR
  by_cases hlm : L.length = M.length
  · have hd : ((L.length : Int) != (M.length : Int)) = false := by simp; omega
    have Hlm := hid hlm
    clear hlm
    go_enter Try.func63, Try.ntmps63
    go_wp2_with fail
    go_loopw [5] (fun i wr => ∃ k : Nat, k ≤ L.length ∧ i = .int .i64 k ∧ Hid (∀ j, j < k → L[j]?.getD 0 = M[j]?.getD 0) ∧ Hid (Below w.heap.size w wr)) (fun i _ => L.length - (intOf i).toNat)
    case atStart => exact ⟨0, Nat.zero_le _, rfl, hid (by intro j h; omega), hid (Below.refl _ _)⟩
    case round =>
      obtain ⟨k, hk, rfl, Hk, HB⟩ := hrel
      by_cases hlt : k < L.length
      · have hlt2 : k < M.length := by have := Hlm.out; omega
        obtain ⟨ba, oa, hba, rfl, hca⟩ : ∃ b off, b < wr.heap.size ∧ a = some ⟨b, off, none⟩ ∧ ∀ i, i < L.length → wr.cell? ⟨b, off + i, none⟩ = some (.int .i64 (L[i]?.getD 0)) := by
          rcases Ha.out.later HB.out HB.out.size with h | h
          · rw [h] at hlt; simp at hlt
          · exact h
        obtain ⟨bb, ob, hbb, rfl, hcb⟩ : ∃ b' off, b' < wr.heap.size ∧ b = some ⟨b', off, none⟩ ∧ ∀ i, i < M.length → wr.cell? ⟨b', off + i, none⟩ = some (.int .i64 (M[i]?.getD 0)) := by
          rcases Hb.out.later HB.out HB.out.size with h | h
          · rw [h] at hlt2; simp at hlt2
          · exact h
        have c1 := hca k hlt
        have c2 := hcb k hlt2
        obtain ⟨p, hp⟩ : ∃ p, p = L[k]?.getD 0 := ⟨_, rfl⟩
        obtain ⟨q, hq⟩ : ∃ q, q = M[k]?.getD 0 := ⟨_, rfl⟩
        rw [← hp] at c1
        rw [← hq] at c2
        have hi0 : (0 : Int) ≤ (k : Int) := by omega
        have hi1 : (k : Int) < (L.length : Int) := by omega
        have hi2 : (k : Int) < (M.length : Int) := by omega
        have Hp := hid hp
        have Hq := hid hq
        clear hp hq hca hcb
        by_cases he : p = q
        · have hd2 : (p != q) = false := by simp [he]
          have Hn : Hid (∀ j, j < k + 1 → L[j]?.getD 0 = M[j]?.getD 0) := hid (by
            intro j hj
            by_cases e : j < k
            · exact Hk.out j e
            · obtain rfl : j = k := by omega
              rw [← Hp.out, ← Hq.out, he])
          clear he
          go_wp2_with fail
          go_quiet (fail)
          go_wp2_with fail
          go_roundw
          case rel => exact ⟨k + 1, by omega, by go_num, Hn, hid ⟨HB.out.os, HB.out.tape, HB.out.output, HB.out.size, HB.out.block⟩⟩
          case measure => simp [intOf]; omega
        · have hd2 : (p != q) = true := by simpa using he
          have Hn : Hid (R = false) := hid (by
            rw [HR.out]
            exact decide_eq_false fun h => he (by rw [Hp.out, Hq.out, h]))
          clear he
          go_wp2_with fail
          go_quiet (fail)
          go_wp2_with fail
          go_ret
          exact ⟨ret_bool (by rw [Hn.out]), HB.out.os, HB.out.tape, HB.out.output, HB.out.size, HB.out.block⟩
      · have Hn : Hid (R = true) := hid (by
          rw [HR.out]
          exact decide_eq_true (ext_takeJ Hlm.out (fun j hj => Hk.out j (by omega))))
        go_wp2_with fail
        go_ret
        exact ⟨ret_bool (by rw [Hn.out]), HB.out⟩
  · have hd : ((L.length : Int) != (M.length : Int)) = true := by simp; omega
    have Hn : Hid (R = false) := hid (by
      rw [HR.out]
      exact decide_eq_false (fun h => hlm (by rw [h])))
    clear hlm
    go_enter Try.func63, Try.ntmps63
    go_wp2_with fail
    go_ret
    exact ⟨ret_bool (by rw [Hn.out]), Below.refl _ _⟩

end Go.Proofs.Ytplcbiconfpmlaa

/-! slices.Grow at nil and slices.Concat of one list, over pairs. -/
namespace Go.Proofs.Ytplcbiconfpmlaa
open Go.RowKit

set_option maxRecDepth 100000 in
set_option maxHeartbeats 2000000 in
theorem growP_nil (n : Nat) (w : World) (hn : n ≤ 1048576) :
    Calls Try.prog 176 #[.slice none 0 0, .int .i64 n] w fun e w' => ∃ v, e = .returned v ∧ w'.ownsRow w.heap.size 49 2 v 0 [] ∧ Below w.heap.size w w' := by
  by_cases h0 : n = 0
  · subst h0
    go_enter Try.func176, Try.ntmps176
    go_wp2_with fail
    go_ret
    exact ⟨.slice none 0 0, rfl, World.ownsRow_nil _ _ _ _, Below.refl _ _⟩
  · obtain ⟨i0, hi0, hz0, hzs, hzb⟩ := info_parts info_pair
    have hrz := Lib.run_append_nil_zeros (P := Try.prog) w 40 3 40 49 i0 _ .i64 .i64 Try.underlying40 Try.underlying3 hi0 hz0 n (by omega) (by omega) (by omega) (by rw [hzb]; omega)
    obtain ⟨G, hG⟩ : ∃ G, G = grownCap w n 0 49 := ⟨_, rfl⟩
    rw [← hG] at hrz
    have hGn : n ≤ G := by rw [hG]; exact grownCap_ge w _ _ _
    have hG63 : G ≤ maxLen := by rw [hG]; exact grownCap_le_maxLen w n 0 49 (by unfold maxLen; omega)
    obtain ⟨ROW, hROW⟩ : ∃ ROW : Array Value, ROW = Builtin.zeroCells (Value.agg #[.int .i64 0, .int .i64 0]).cells n ++ Builtin.zeroCells (Value.agg #[.int .i64 0, .int .i64 0]).cells (G - n) := ⟨_, rfl⟩
    rw [← hROW] at hrz
    have hRz : ROW.size = G * 2 := by
      rw [hROW]
      simp [Builtin.zeroCells, Value.cells]
      omega
    have HO : Hid ((w.drew.alloc (.cells ROW 49)).ownsRow w.heap.size 49 2 (.slice (some ⟨w.heap.size, 0, none⟩) 0 G) 0 []) := hid (World.ownsRow_made (base := w.heap.size) (e := 49) (size := 2) w.drew ROW G (Nat.le_refl _) hG63 hRz)
    have HB : Hid (Below w.heap.size w (w.drew.alloc (.cells ROW 49))) := hid (by
      have h := (Below.refl _ w).alloc (Nat.le_refl _) (.cells ROW 49)
      exact ⟨h.os, h.tape, h.output, h.size, h.block⟩)
    have hpos : (0 : Int) < (n : Int) := by omega
    have hneg : ¬ ((n : Int) < 0) := by omega
    clear hROW hRz hG hG63 hi0 hz0 hzs hzb
    obtain ⟨W1, hW1⟩ : ∃ W1, W1 = w.drew.alloc (.cells ROW 49) := ⟨_, rfl⟩
    rw [← hW1] at HO HB hrz
    clear hW1
    go_enter Try.func176, Try.ntmps176
    go_wp2_with (at_builtin; refine Lib.wpList_append_run _ rfl _ _ _ _ rfl _ _ rfl rfl _ _ hrz ?_)
    go_ret
    exact ⟨_, rfl, HO.out, HB.out⟩

set_option maxRecDepth 100000 in
set_option maxHeartbeats 4000000 in
theorem concat_one (b g n : Nat) (ps : List Int) (w : World) (hb : w.cell? ⟨b, 0, none⟩ = some (.slice (some ⟨g, 0, none⟩) n n)) (hx : SlI w w.heap.size (some ⟨g, 0, none⟩) ps) (hp : ps.length = 2 * n) (hn : n ≤ 1048576) :
    Calls Try.prog 122 #[.slice (some ⟨b, 0, none⟩) 1 1] w fun e w' => ∃ v, e = .returned v ∧ w'.ownsRow w.heap.size 49 2 v n (ps.map (Value.int .i64)) ∧ Below w.heap.size w w' := by
  have hbl : b < w.heap.size := World.block_lt_of_cell? w _ hb
  have HG := hid (growP_nil n w hn)
  have Hx := hid hx
  have Hp := hid hp
  have Hb := hid hb
  have hneg : ¬ ((n : Int) < 0) := by omega
  clear hx hp
  go_enter Try.func122, Try.ntmps122
  go_wp2_with fail
  refine wp_loop_rounds 2 ?_; rw [rounds_succ]
  go_wp2_with fail
  rw [rounds_succ]
  go_wp2_with fail
  refine HG.out.mono ?_
  rintro e w1 ⟨v1, rfl, hown1, hB1⟩
  have hb1 := (hB1.cell (p := ⟨b, 0, none⟩) hbl).trans hb
  obtain ⟨v2, W2, hr2, hown2, hg2, hb2⟩ := append_run (xs := []) (m := 0) (ad := ⟨g, 0, none⟩) (l := n) (c := n) (ys := ps) hown1 hB1.size (by omega) (by omega) (by have := Hp.out; omega) (fun j hj => by
    rcases Hx.out.later hB1 hB1.size with h | ⟨b', off, hb', h, hc⟩
    · have := Hp.out; rw [h] at this; simp at this; omega
    · injection h with h
      injection h with h1 h2 _
      subst h1; subst h2
      have hadd : (⟨g, 0, none⟩ : Addr).add j = ⟨g, 0 + j, none⟩ := by unfold Addr.add; split <;> simp_all
      rw [hadd]
      exact hc j (by have := Hp.out; omega))
  rw [List.nil_append, Nat.zero_add] at hown2
  have HO2 := hid hown2
  have HB2 := hid (hB1.trans hb2)
  clear hown1 hown2 hg2 hb2 hB1
  go_wp2_with fail
  refine wp_loop_rounds 2 ?_; rw [rounds_succ]
  go_wp2_with (at_builtin; refine wpList_append_run rfl rfl rfl rfl hr2 ?_)
  rw [rounds_succ]
  go_wp2_with fail
  go_ret
  exact ⟨_, rfl, HO2.out, HB2.out⟩

end Go.Proofs.Ytplcbiconfpmlaa

/-! unpairedNumbers of one list. -/
namespace Go.Proofs.Ytplcbiconfpmlaa
open Go.RowKit

/-- The faces that the first k faces leave. -/
theorem critL_snoc (fs ps : List Int) {k : Nat} (hk : k < fs.length) : critL (fs.take (k + 1)) ps = critL (fs.take k) ps ++ (if fs[k]?.getD 0 ∈ ps then [] else [fs[k]?.getD 0]) := by
  unfold critL
  rw [take_snoc hk, List.filter_append]
  congr 1
  by_cases h : fs[k]?.getD 0 ∈ ps <;> simp [h]

set_option maxRecDepth 1000000 in
set_option maxHeartbeats 8000000 in
theorem unp_any (V : Int) (a0 : Option Addr) (cap : Nat) (fs : List Int) (bl g n : Nat) (ps : List Int) (w : World) (hx : SlI w w.heap.size a0 fs) (hb : w.cell? ⟨bl, 0, none⟩ = some (.slice (some ⟨g, 0, none⟩) n n)) (hx1 : SlI w w.heap.size (some ⟨g, 0, none⟩) ps) (hl : fs.length ≤ 1048576) (hp : ps.length = 2 * n) (hn : n ≤ 1048576) (hw : ∀ x ∈ ps, (Lit.int .i64 x).wf = true)
    (hf : ∀ x ∈ fs, 1 ≤ x ∧ x ≤ 63) :
    Calls Try.prog 67 #[.agg #[.int .i64 V, .slice a0 fs.length cap], .slice (some ⟨bl, 0, none⟩) 1 1] w fun e w' => ∃ v, e = .returned v ∧ Res w w' v (countL (critL fs ps) (top fs + 1).toNat) := by
  obtain ⟨T, hT⟩ : ∃ T : Nat, (T : Int) = top fs + 1 := ⟨(top fs + 1).toNat, by have := top_lo fs; omega⟩
  have hT6 : T ≤ 6 := by have := top_hi fs; omega
  have hTn : (top fs + 1).toNat = T := by omega
  rw [hTn]
  have HT := hid (show top fs = (T : Int) - 1 by omega)
  obtain ⟨W0, hW0⟩ : ∃ W0, W0 = (w.alloc (.cells #[.int .i64 V, .slice a0 fs.length cap] 28)).alloc (.map #[] 0) := ⟨_, rfl⟩
  have hB0 : Below w.heap.size w W0 := by rw [hW0]; exact ((Below.refl _ w).alloc (Nat.le_refl _) _).alloc (by simp) _
  have hs0 : W0.heap.size = w.heap.size + 2 := by rw [hW0]; simp
  have q0 : W0.heap[w.heap.size]? = some (.cells #[.int .i64 V, .slice a0 fs.length cap] 28 (0, 0)) := by
    rw [hW0]
    exact ((Below.refl _ (w.alloc (.cells #[.int .i64 V, .slice a0 fs.length cap] 28))).alloc (Nat.le_refl _) (.map #[] 0)).block _ (by simp) |>.trans (heap_alloc_new w _)
  have hM0 : W0.ownsMap Try.prog 2 (plainElem (H := Unit) Try.prog 4) (w.heap.size + 1) 0 (knownD []) := by
    have h := World.ownsMap_made (w.alloc (.cells #[.int .i64 V, .slice a0 fs.length cap] 28)) Try.prog 2 (plainElem (H := Unit) Try.prog 4)
    rw [World.size_alloc] at h
    rw [hW0]
    exact h
  have hmm := @run_makeMap Try.prog
  have Hx := hid hx
  have HCo := hid (concat_one bl g n ps W0 ((hB0.cell (p := ⟨bl, 0, none⟩) (World.block_lt_of_cell? w _ hb)).trans hb) (hx1.later hB0 hB0.size) hp hn)
  have Hp := hid hp
  have Hw := hid hw
  have Hf := hid hf
  have HB0 := hid hB0
  have Q0 := hid q0
  have HM0 := hid hM0
  clear hx hb hx1 hp hw hf hB0 q0 hM0 hT hTn
  go_enter Try.func67, Try.ntmps67
  go_wp2_with fail
  rw [← hW0]
  clear hW0 hmm
  refine HCo.out.mono ?_
  rintro e w1 ⟨v1, rfl, hown1, hB1⟩
  obtain ⟨a1, c1, rfl⟩ : ∃ a c, v1 = .slice a n c := by
    rcases hown1.2 with ⟨h1, h0⟩ | ⟨g, cp, cur, h1, _⟩
    · exact ⟨none, 0, by rw [h1, h0]⟩
    · exact ⟨_, cp, h1⟩
  have HB1 := hid (HB0.out.trans (hB1.mono HB0.out.size))
  have HR1 := hid hown1
  have HM1 := hid (World.ownsMap.kept HM0.out (row := none) ⟨hB1.os, hB1.tape, hB1.output, hB1.size, fun q hq _ => hB1.block q hq⟩ (by simp))
  have Q1 := hid ((hB1.block _ (lt_of_get Q0.out)).trans Q0.out)
  have hz1 : w.heap.size + 2 ≤ w1.heap.size := by have := hB1.size; omega
  have Hz1 := hid hz1
  clear hown1 hB1
  go_wp2_with fail
  go_loopw [15] (fun i wr => ∃ k : Nat, k ≤ n ∧ i = .int .i64 k ∧ Hid (wr.ownsMap Try.prog 2 (plainElem (H := Unit) Try.prog 4) (w.heap.size + 1) (k * 2) (knownD (ps.take (k * 2)))) ∧ Hid (w1.grownBy wr (some (w.heap.size + 1)))) (fun i _ => n - (intOf i).toNat)
  case atStart => exact ⟨0, Nat.zero_le _, rfl, by simpa using HM1, hid ⟨rfl, rfl, rfl, Nat.le_refl _, fun _ _ _ => rfl⟩⟩
  case round =>
    obtain ⟨k, hk, rfl, HM, HG⟩ := hrel
    have hszg := HG.out.size
    by_cases hlt : k < n
    · obtain ⟨b, hbg, hb, rfl, hc⟩ : ∃ b, w.heap.size + 2 ≤ b ∧ b < w1.heap.size ∧ a1 = some ⟨b, 0, none⟩ ∧ ∀ i, i < ps.length → w1.cell? ⟨b, 0 + i, none⟩ = some (.int .i64 (ps[i]?.getD 0)) := by
        rcases HR1.out.2 with ⟨_, h0⟩ | ⟨g', cp, cur, h1, h2, h3, _⟩
        · omega
        · injection h1 with h1 _ _
          subst h1
          exact ⟨g', by omega, lt_of_get h3, rfl, (own_pairs HR1.out).2.2⟩
      have hbm : b ≠ w.heap.size + 1 := by omega
      have hc2 : wr.cell? ⟨b, k * 2, none⟩ = some (.int .i64 (at0 ps (k * 2))) := HG.out.cell (a := ⟨b, k * 2, none⟩) (by have := hc (k * 2) (by have := Hp.out; omega); rwa [Nat.zero_add] at this) (by simpa using hbm)
      have hc3 : wr.cell? ⟨b, k * 2 + 1, none⟩ = some (.int .i64 (at0 ps (k * 2 + 1))) := HG.out.cell (a := ⟨b, k * 2 + 1, none⟩) (by have := hc (k * 2 + 1) (by have := Hp.out; omega); rwa [Nat.zero_add] at this) (by simpa using hbm)
      obtain ⟨x, hx⟩ : ∃ x, x = at0 ps (k * 2) := ⟨_, rfl⟩
      obtain ⟨y, hy⟩ : ∃ y, y = at0 ps (k * 2 + 1) := ⟨_, rfl⟩
      have hlen := Hp.out
      have hwx : (Lit.int .i64 x).wf = true := Hw.out x (by rw [hx]; exact getD_mem (by omega))
      have hwy : (Lit.int .i64 y).wf = true := Hw.out y (by rw [hy]; exact getD_mem (by omega))
      have Hsn : Hid (ps.take ((k + 1) * 2) = ps.take (k * 2) ++ [x] ++ [y]) := hid (by
        rw [show (k + 1) * 2 = k * 2 + 1 + 1 by omega, take_snoc (show k * 2 + 1 < ps.length by omega), take_snoc (show k * 2 < ps.length by omega), hx, hy]; rfl)
      rw [← hx] at hc2
      rw [← hy] at hc3
      have hi0 : (0 : Int) ≤ (k : Int) := by omega
      have hi1 : (k : Int) < (n : Int) := by omega
      obtain ⟨wa, hrun1, hwa, hga⟩ := World.ownsMap.update (w := World.drew (wr.alloc (.cells #[.int .i64 x, .int .i64 y] 49))) (World.ownsMap.alloc HM.out _) (Maps.int_keyed Try.underlying2) Try.underlying117 (show k * 2 < maxLen by unfold maxLen; omega) (Maps.keyOf_int_mk Try.underlying2 hwx) (plainElem_bool Try.underlying4 true)
      obtain ⟨wb, hrun2, hwb, hgb⟩ := World.ownsMap.update hwa (Maps.int_keyed Try.underlying2) Try.underlying117 (show k * 2 + 1 < maxLen by unfold maxLen; omega) (Maps.keyOf_int_mk Try.underlying2 hwy) (plainElem_bool Try.underlying4 true)
      have qa : wa.heap[wr.heap.size]? = some (.cells #[.int .i64 x, .int .i64 y] 49 (0, 0)) := (hga.block _ (by show wr.heap.size < (wr.alloc _).heap.size; simp) (by simp; omega)).trans (heap_alloc_new wr _)
      have qb : wb.heap[wr.heap.size]? = some (.cells #[.int .i64 x, .int .i64 y] 49 (0, 0)) := (hgb.block _ (lt_get qa) (by simp; omega)).trans qa
      obtain ⟨ca0, ca1, _, _⟩ := two_of qa
      obtain ⟨cb0, cb1, _, _⟩ := two_of qb
      have Hwb := hid hwb
      have HGb := hid (show w1.grownBy wb (some (w.heap.size + 1)) from ⟨(hgb.os.trans hga.os).trans HG.out.os, (hgb.tape.trans hga.tape).trans HG.out.tape, (hgb.output.trans hga.output).trans HG.out.output, by have h1 := hga.size; have h2 := hgb.size; have h3 : wr.heap.size + 1 ≤ wa.heap.size := (by simpa using h1); omega, fun q hq hne => by
        have h1 : wr.heap.size + 1 ≤ wa.heap.size := (by simpa using hga.size)
        have e1 := hgb.block q (by omega) hne
        have e2 := hga.block q (by show q < (wr.alloc _).heap.size; simp; omega) hne
        have e3 : (World.drew (wr.alloc (.cells #[.int .i64 x, .int .i64 y] 49))).heap[q]? = wr.heap[q]? := ((Below.refl _ wr).alloc (Nat.le_refl _) (.cells #[.int .i64 x, .int .i64 y] 49)).block q (by omega)
        exact ((e1.trans e2).trans e3).trans (HG.out.block q hq hne)⟩)
      have Hlt := hid hlt
      clear hga hgb hwb hwa qa qb hx hy hc hlen
      go_wp2_with fail
      go_region_held3 (fun w' => w'.cell? ⟨wr.heap.size, 0, none⟩ = some (.int .i64 x) ∧ w'.cell? ⟨wr.heap.size, 1, none⟩ = some (.int .i64 y)) (go_keep) (first
        | (simp only [hrun1])
        | (simp only [hrun2]))
      go_wp2_with fail
      go_roundw
      case rel => exact ⟨k + 1, by have := Hlt.out; omega, by go_num, hid (by rw [Hsn.out, knownD_snoc, knownD_snoc, show (k + 1) * 2 = k * 2 + 1 + 1 by omega]; exact Hwb.out), HGb⟩
      case measure => have := Hlt.out; simp [intOf]; omega
    · obtain rfl : k = n := by omega
      have htk : ps.take (k * 2) = ps := List.take_of_length_le (by have := Hp.out; omega)
      rw [htk] at HM
      have HBr := hid (HB1.out.grown HG.out HB1.out.size (fun r e => by injection e; omega))
      have hq := (HG.out.block _ (lt_of_get Q1.out) (by simp)).trans Q1.out
      have HQ := hid hq
      obtain ⟨k0, k1, _, _⟩ := two_of hq
      have hltr : w.heap.size + 1 < wr.heap.size := by omega
      have HDi := hid (dimT V a0 cap fs T wr (Hx.out.later HBr.out HBr.out.size) hl Hf.out HT.out)
      clear hq htk
      go_wp2_with fail
      refine HDi.out.mono ?_
      rintro e w2 ⟨rfl, hB2⟩
      have HM2 := hid (World.ownsMap.kept HM.out (row := none) ⟨hB2.os, hB2.tape, hB2.output, hB2.size, fun q hq _ => hB2.block q hq⟩ (by simp))
      have HB2 := hid (HBr.out.trans (hB2.mono HBr.out.size))
      have HQ2 := hid ((hB2.block _ (lt_of_get HQ.out)).trans HQ.out)
      have hz2 : w.heap.size + 2 ≤ w2.heap.size := by have := hB2.size; omega
      clear hB2 k0 k1
      go_wp2_with (at_make; refine make_int (n := T) rfl rfl (by first | rfl | (show Value.int .i64 ((T : Int) - 1 + 1) = _; congr 1; omega)) (by first | rfl | (show Value.int .i64 ((T : Int) - 1 + 1) = _; congr 1; omega)) (by omega) ?_; intro w3 hown3 hgr3 hB3; have hown0 : w3.ownsRow w2.heap.size 2 1 (.slice (some ⟨w2.heap.size, 0, none⟩) T T) T ((countL [] T).map (Value.int .i64)) := (by rw [countL_nil]; exact hown3); have Hown0 := hid hown0; have HB3 := hid hB3; obtain ⟨k0, k1, _, _⟩ := two_of ((hB3.block _ (lt_of_get HQ2.out)).trans HQ2.out); clear hown3 hgr3 hown0 hB3)
      go_loopw [33] (fun i wx => ∃ k : Nat, k ≤ fs.length ∧ i = .int .i64 k ∧ Hid (wx.ownsRow w2.heap.size 2 1 (.slice (some ⟨w2.heap.size, 0, none⟩) T T) T ((countL (critL (fs.take k) ps) T).map (Value.int .i64))) ∧ Hid (Below w2.heap.size w2 wx)) (fun i _ => fs.length - (intOf i).toNat)
      case atStart => exact ⟨0, Nat.zero_le _, rfl, hid (by simpa [critL] using Hown0.out), HB3⟩
      case round =>
        obtain ⟨j, hj, rfl, HO, HB⟩ := hrel
        by_cases hlt2 : j < fs.length
        · obtain ⟨b, off, hb, rfl, hc⟩ : ∃ b off, b < w2.heap.size ∧ a0 = some ⟨b, off, none⟩ ∧ ∀ i, i < fs.length → w2.cell? ⟨b, off + i, none⟩ = some (.int .i64 (fs[i]?.getD 0)) := by
            rcases Hx.out.later HB2.out HB2.out.size with h | h
            · rw [h] at hlt2; simp at hlt2
            · exact h
          have hxm := getD_mem hlt2
          obtain ⟨x, hx⟩ : ∃ x : Nat, (x : Int) = fs[j]?.getD 0 := ⟨(fs[j]?.getD 0).toNat, by have := Hf.out _ hxm; omega⟩
          rw [← hx] at hxm
          have hxr := Hf.out _ hxm
          have hx64 : x < 64 := by omega
          have hck : wr.cell? ⟨b, off + j, none⟩ = some (.int .i64 (x : Int)) := by rw [hx]; exact (HB.out.cell (p := ⟨b, off + j, none⟩) hb).trans (hc j hlt2)
          have hlook := lookup_known (World.ownsMap.kept HM2.out (row := none) ⟨HB.out.os, HB.out.tape, HB.out.output, HB.out.size, fun q hq _ => HB.out.block q hq⟩ (by simp)) (p := (x : Int)) (WalkArith.wf_i64 (by omega))
          have hi0 : (0 : Int) ≤ (j : Int) := by omega
          have hi1 : (j : Int) < (fs.length : Int) := by omega
          have Hlt := hid hlt2
          have Hcr := hid (critL_snoc fs ps hlt2)
          rw [← hx] at Hcr
          by_cases hmem : (x : Int) ∈ ps
          · rw [decide_eq_true hmem] at hlook
            have He : Hid (critL (fs.take (j + 1)) ps = critL (fs.take j) ps) := hid (by rw [Hcr.out, if_pos hmem, List.append_nil])
            clear hmem hx hc hxm
            go_wp2_with fail
            go_roundw
            case rel => exact ⟨j + 1, by have := Hlt.out; omega, by go_num, hid (by rw [He.out]; exact HO.out), HB⟩
            case measure => have := Hlt.out; simp [intOf]; omega
          · rw [decide_eq_false hmem] at hlook
            have He : Hid (critL (fs.take (j + 1)) ps = critL (fs.take j) ps ++ [(x : Int)]) := hid (by rw [Hcr.out, if_neg hmem])
            obtain ⟨M, hM⟩ : ∃ M, M = critL (fs.take j) ps := ⟨_, rfl⟩
            have hMl : M.length ≤ 1048576 := by rw [hM]; exact Nat.le_trans (List.length_filter_le _ _) (by simp; omega)
            rw [← hM] at He HO
            have hown := HO.out
            have hop := ones_pos ⟨x, hx64⟩ (by show x ≠ 0; omega)
            have htg := top_ge fs hxm
            rw [HT.out, Int.toNat_natCast] at htg
            obtain ⟨e, he⟩ : ∃ e, ones x = e + 1 := ⟨ones x - 1, by have : 0 < ones x := hop; omega⟩
            have heT : e < T := by omega
            have he0 : (0 : Int) ≤ (e : Int) := by omega
            have he1 : (e : Int) < (T : Int) := by omega
            have hcn := countL_at M T e heT
            obtain ⟨c, hcc⟩ : ∃ c : Nat, c = (ofDim M (e : Int)).length := ⟨_, rfl⟩
            have hc6 : c ≤ 1048576 := by rw [hcc]; exact Nat.le_trans (List.length_filter_le _ _) hMl
            have hce : wr.cell? ⟨w2.heap.size, e, none⟩ = some (.int .i64 (c : Int)) := by
              rw [hown.cellAt e (by omega), hcc, ← hcn]
              simp [countL, heT]
            have hfe := hown.frozenAt e
            have hst := hown.stored e (.int .i64 ((c : Int) + 1))
            have hstep : ((countL M T).map (Value.int .i64)).set e (.int .i64 ((c : Int) + 1)) = (countL (M ++ [(x : Int)]) T).map (Value.int .i64) := by
              rw [countL_face _ _ _ _ he, hcc, List.map_set]
            rw [hstep] at hst
            have Hst := hid hst
            have HEe := hid he
            clear hstep hst hown hx hc hcn hcc htg hop hxm hxr he hM hmem HO
            go_wp2_with (go_at_call 124; refine (dimE x e _ hx64 HEe.out).mono ?_; rintro e w' ⟨rfl, rfl⟩)
            go_roundw
            case rel => exact ⟨j + 1, by have := Hlt.out; omega, by go_num, hid (by rw [He.out]; exact Hst.out.1), hid (HB.out.grown Hst.out.2 HB.out.size (fun r e => by cases e; omega))⟩
            case measure => have := Hlt.out; simp [intOf]; omega
        · obtain rfl : j = fs.length := by omega
          have e1 : fs.take fs.length = fs := List.take_of_length_le (Nat.le_refl _)
          rw [e1] at HO
          go_wp2_with fail
          go_ret
          exact ⟨_, rfl, ownsRow_base (by simpa [countL_len] using HO.out) HB2.out.size, HB2.out.trans (HB.out.mono HB2.out.size)⟩

end Go.Proofs.Ytplcbiconfpmlaa

/-! The numbers of critical faces, the program's. -/
namespace Go.Proofs.Ytplcbiconfpmlaa
open Go.RowKit

noncomputable def criticalNumbersR (V : Int) (fs : List Int) (n : Nat) (ps : List Int) : List Int × Int := if pcodeR V fs n ps = 0 then (countL (critL fs ps) (top fs + 1).toNat, 0) else ([], pcodeR V fs n ps)

theorem criticalNumbersR_len (V : Int) (fs : List Int) (n : Nat) (ps : List Int) (_h : fs.length ≤ 1048576) (_hp : ps.length = 2 * n) (_hn : n ≤ 1048576) : (criticalNumbersR V fs n ps).1.length ≤ 1048576 := by
  unfold criticalNumbersR
  have := top_hi fs
  split
  · rw [countL_len]; omega
  · simp

theorem critL_mem {fs ps : List Int} {x : Int} (h : x ∈ critL fs ps) : x ∈ fs := (List.mem_filter.1 h).1




end Go.Proofs.Ytplcbiconfpmlaa

/-! The numbers of critical faces, the model's. -/
namespace Go.Proofs.Ytplcbiconfpmlaa
open Go.RowKit

/-- 'make([]int64, n)', as an equation. -/
theorem make_run (w : World) (n : Nat) (hn : n ≤ 1099511627776) : ∃ w', (Instr.makeSlice 22 (.int .i64 (n : Int)) (.int .i64 (n : Int))).run Try.prog w = .ok (.slice (some ⟨w.heap.size, 0, none⟩) n n) w' ∧
    w'.ownsRow w.heap.size 2 1 (.slice (some ⟨w.heap.size, 0, none⟩) n n) n ((List.replicate n (0 : Int)).map (Value.int .i64)) ∧ w.grownBy w' none ∧ Below w.heap.size w w' := by
  obtain ⟨i0, hi, hz0, hz1, hz2⟩ := info_parts info_i64
  obtain ⟨w', hrun, hown, hg⟩ := run_make_full (P := Try.prog) w w.heap.size 22 2 i0 (.int .i64 0) 1 Try.underlying22 hi hz0 hz1 .i64 .i64 n (by rw [hz2]; omega) (by unfold maxLen; omega) (Nat.le_refl _)
  have e : (madeCells (Value.int .i64 0).cells (n * 1)).toList = (List.replicate n (0 : Int)).map (Value.int .i64) := by
    rw [Nat.mul_one]
    exact (toList_madeCells_one _ _).trans (by simp)
  rw [e] at hown
  exact ⟨w', hrun, hown, hg, (Below.refl _ w).grown hg (Nat.le_refl _) (fun k hk => by cases hk)⟩

theorem dim2_any (x : Nat) (w : World) (hx : x < 64) : Calls Try.prog 121 #[.int .i64 (x : Int)] w fun e w' => e = .returned (.int .i64 ((ones x : Int) - 1)) ∧ w = w' := by
  have ho := ones_le x
  go_enter Try.func121, Try.ntmps121
  go_wp2_with (go_at_call 130; refine (ones_any x _ hx).mono ?_; rintro e w' ⟨rfl, rfl⟩)
  go_ret
  exact ⟨ret_int rfl, rfl⟩

theorem dim2E (f e : Nat) (w : World) (hf : f < 64) (he : ones f = e + 1) :
    Calls Try.prog 121 #[.int .i64 (f : Int)] w fun r w' => r = .returned (.int .i64 (e : Int)) ∧ w = w' :=
  (dim2_any f w hf).mono fun _ _ ⟨h, hw⟩ => ⟨by rw [h, he]; congr 2; omega, hw⟩

set_option maxRecDepth 100000 in
set_option maxHeartbeats 4000000 in
theorem numS_any (V : Int) (a0 : Option Addr) (cap : Nat) (fs : List Int) (a1 : Option Addr) (n cap1 : Nat) (ps : List Int) (w : World) (hx : SlI w w.heap.size a0 fs) (hx1 : SlI w w.heap.size a1 ps) (hl : fs.length ≤ 1048576) (hp : ps.length = 2 * n) (hn : n ≤ 1048576) (hf : ∀ x ∈ fs, 1 ≤ x ∧ x ≤ 63) :
    Calls Try.prog 64 #[.agg #[.int .i64 V, .slice a0 fs.length cap], .slice a1 n cap1] w fun e w' => ∃ v, e = .returned v ∧ Res w w' v (countL (critL fs ps) (top fs + 1).toNat) := by
  obtain ⟨W, hW⟩ : ∃ W, W = w.alloc (.cells #[.int .i64 V, .slice a0 fs.length cap] 28) := ⟨_, rfl⟩
  have hB0 : Below w.heap.size w W := by rw [hW]; exact (Below.refl _ w).alloc (Nat.le_refl _) _
  have hsW : W.heap.size = w.heap.size + 1 := by rw [hW]; simp
  have q0 : W.heap[w.heap.size]? = some (.cells #[.int .i64 V, .slice a0 fs.length cap] 28 (0, 0)) := by rw [hW]; exact heap_alloc_new _ _
  obtain ⟨k0, k1, _, _⟩ := two_of q0
  obtain ⟨T, hT⟩ : ∃ T : Nat, (T : Int) = top fs + 1 := ⟨(top fs + 1).toNat, by have := top_lo fs; omega⟩
  have hT6 : T ≤ 6 := by have := top_hi fs; omega
  have hTn : (top fs + 1).toNat = T := by omega
  rw [hTn]
  have HT := hid (show top fs = (T : Int) - 1 by omega)
  clear hT hTn
  obtain ⟨L, hL⟩ : ∃ L, L = critL fs ps := ⟨_, rfl⟩
  have Hm : Hid (∀ x ∈ L, x ∈ fs) := hid (fun x hx => critL_mem (by rw [← hL]; exact hx))
  have HLl : Hid (L.length ≤ 1048576) := hid (by rw [hL]; exact Nat.le_trans (List.length_filter_le _ _) hl)
  rw [← hL]
  have HL := hid hL
  clear hL
  have Q0 := hid q0
  have HsW := hid hsW
  have HW := hid hW
  have HB0 := hid hB0
  have Hx0 := hid hx
  have Hy := hid hx1
  have Hf := hid hf
  have Hp := hid hp
  clear hW q0 hsW hx hx1 hf hp hB0
  go_enter Try.func64, Try.ntmps64
  go_wp2_with fail
  rw [← HW.out]
  go_loopw [5, 6] (fun m i wr => ∃ k : Nat, k ≤ fs.length ∧ i = .int .i64 k ∧ m = .int .i64 (top (fs.take k)) ∧ wr = W) (fun _ i _ => fs.length - (intOf i).toNat)
  case atStart => exact ⟨0, Nat.zero_le _, rfl, by simp [top], rfl⟩
  case round =>
    obtain ⟨k, hk, rfl, rfl, rfl⟩ := hrel
    by_cases hlt : k < fs.length
    · obtain ⟨b, off, hb, rfl, hc⟩ : ∃ b off, b < w.heap.size ∧ a0 = some ⟨b, off, none⟩ ∧ ∀ i, i < fs.length → w.cell? ⟨b, off + i, none⟩ = some (.int .i64 (fs[i]?.getD 0)) := by
        rcases Hx0.out with rfl | h
        · simp at hlt
        · exact h
      obtain ⟨x, hx⟩ : ∃ x : Nat, (x : Int) = fs[k]?.getD 0 := ⟨(fs[k]?.getD 0).toNat, by have := Hf.out _ (getD_mem hlt); omega⟩
      have hx64 : x < 64 := by have := Hf.out _ (getD_mem hlt); omega
      have hck : wr.cell? ⟨b, off + k, none⟩ = some (.int .i64 (x : Int)) := (HB0.out.cell (p := ⟨b, off + k, none⟩) hb).trans (by rw [hx]; exact hc k hlt)
      have hi0 : (0 : Int) ≤ (k : Int) := by omega
      have hi1 : (k : Int) < (fs.length : Int) := by omega
      have Ht : Hid (top (fs.take (k + 1)) = more (top (fs.take k)) ((ones x : Int) - 1)) := hid (by rw [take_snoc hlt, ← hx, top_snoc]; simp)
      have ht0 := top_lo (fs.take k)
      have ht1 := top_hi (fs.take k)
      obtain ⟨t, htt⟩ : ∃ t, t = top (fs.take k) := ⟨_, rfl⟩
      rw [← htt] at Ht ht0 ht1 ⊢
      have ho := ones_le x
      clear hx hc htt
      by_cases hm : t < (ones x : Int) - 1
      · have hmm : more t ((ones x : Int) - 1) = (ones x : Int) - 1 := by unfold more; rw [if_pos hm]
        rw [hmm] at Ht
        clear hmm
        go_wp2_with (go_at_call 121; refine (dim2_any x _ hx64).mono ?_; rintro e w' ⟨rfl, rfl⟩)
        go_roundw
        case rel => exact ⟨k + 1, by omega, by go_num, by first | (rw [Ht.out]; done) | (rw [Ht.out]; congr 1; omega), trivial⟩
        case measure => simp [intOf]; omega
      · have hmm : more t ((ones x : Int) - 1) = t := by unfold more; rw [if_neg hm]
        rw [hmm] at Ht
        have hm' : (ones x : Int) - 1 ≤ t := by omega
        clear hmm
        go_wp2_with (go_at_call 121; refine (dim2_any x _ hx64).mono ?_; rintro e w' ⟨rfl, rfl⟩)
        go_roundw
        case rel => exact ⟨k + 1, by omega, by go_num, by first | (rw [Ht.out]; done) | (rw [Ht.out]; congr 1; omega), trivial⟩
        case measure => simp [intOf]; omega
    · obtain rfl : k = fs.length := by omega
      rw [List.take_of_length_le (Nat.le_refl _)]
      rw [HT.out]
      have hw1 : IntKind.i64.wrap ((T : Int) - 1 + 1) = (T : Int) := by rw [IntKind.wrap_i64]; omega
      have hw3 : IntKind.i64.wrap (T : Int) = (T : Int) := by rw [IntKind.wrap_i64]; omega
      have hw2 : wrap64 ((T : Int) - 1 + 1) = (T : Int) := by rw [show (T : Int) - 1 + 1 = T by omega]; exact IntWalk.wrap64_in _ ⟨by omega, by omega⟩
      obtain ⟨wm, hmk, hown, hgm, hBm⟩ := make_run wr.drew T (by omega)
      have m0 := (hBm.cell (p := ⟨w.heap.size, 0, none⟩) (by show w.heap.size < wr.heap.size; rw [HsW.out]; omega)).trans k0
      have m1 := (hBm.cell (p := ⟨w.heap.size, 1, none⟩) (by show w.heap.size < wr.heap.size; rw [HsW.out]; omega)).trans k1
      have HBw : Hid (Below w.heap.size w wr.drew) := hid (HB0.out.trans ⟨rfl, rfl, rfl, Nat.le_refl _, fun _ _ => rfl⟩)
      have HBwm : Hid (Below w.heap.size w wm) := hid (HBw.out.trans (hBm.mono HBw.out.size))
      have HC0 := hid (critS_any V a0 cap fs a1 n cap1 ps wr.drew (Hx0.out.later HBw.out HBw.out.size) (Hy.out.later HBw.out HBw.out.size) hl Hp.out hn)
      have HCm := hid (critS_any V a0 cap fs a1 n cap1 ps wm (Hx0.out.later HBwm.out HBwm.out.size) (Hy.out.later HBwm.out HBwm.out.size) hl Hp.out hn)
      rw [← HL.out] at HC0 HCm
      have Hown := hid hown
      have HBm := hid hBm
      have hsr : wr.heap.size = w.heap.size + 1 := HsW.out
      have Hsr := hid hsr
      have Hltr : Hid (w.heap.size < wr.drew.heap.size) := hid (by show w.heap.size < wr.heap.size; omega)
      have Hltm : Hid (w.heap.size < wm.heap.size) := hid (Nat.lt_of_lt_of_le Hltr.out hBm.size)
      have HNm : Hid (∀ w2, Below wm.heap.size wm w2 → w2.cell? ⟨w.heap.size, 0, none⟩ = some (.int .i64 V) ∧ w2.cell? ⟨w.heap.size, 1, none⟩ = some (.slice a0 fs.length cap)) := hid (fun w2 h => ⟨(h.cell (p := ⟨w.heap.size, 0, none⟩) Hltm.out).trans m0, (h.cell (p := ⟨w.heap.size, 1, none⟩) Hltm.out).trans m1⟩)
      have HNr : Hid (∀ w2, Below wr.drew.heap.size wr.drew w2 → w2.cell? ⟨w.heap.size, 0, none⟩ = some (.int .i64 V) ∧ w2.cell? ⟨w.heap.size, 1, none⟩ = some (.slice a0 fs.length cap)) := hid (fun w2 h => ⟨(h.cell (p := ⟨w.heap.size, 0, none⟩) Hltr.out).trans k0, (h.cell (p := ⟨w.heap.size, 1, none⟩) Hltr.out).trans k1⟩)
      clear hown hgm hBm hsr
      go_wp2_with fail
      go_cut [7, 8] from 25 to 46 (fun p q wx => ∃ bo : Nat, p = .slice (some ⟨bo, 0, none⟩) T T ∧ w.heap.size ≤ bo ∧ wx.ownsRow w.heap.size 2 1 (.slice (some ⟨bo, 0, none⟩) T T) T ((List.replicate T (0 : Int)).map (Value.int .i64)) ∧ wx.ownsRow w.heap.size 2 1 q L.length (L.map (Value.int .i64)) ∧ q.ownBlock ≠ some bo ∧ Below w.heap.size w wx)
      case first =>
        go_region_held3 (fun w' => w'.cell? ⟨w.heap.size, 0, none⟩ = some (.int .i64 V) ∧ w'.cell? ⟨w.heap.size, 1, none⟩ = some (.slice a0 fs.length cap)) (go_keep) (first
          | (go_at_call 92; (with_reducible_and_instances refine HCm.out.mono ?_); rintro e w2 ⟨v, rfl, hr⟩; have hb2 : Below wm.heap.size wm w2 := hr.2; obtain ⟨n0, n1⟩ := HNm.out w2 hb2; have HR := hid hr; clear hr hb2)
          | (go_at_call 92; (with_reducible_and_instances refine HC0.out.mono ?_); rintro e w2 ⟨v, rfl, hr⟩; have hb2 : Below wr.drew.heap.size wr.drew w2 := hr.2; obtain ⟨n0, n1⟩ := HNr.out w2 hb2; obtain ⟨w3, hmk3, hown3, hg3, hB3⟩ := make_run w2 T (by omega); obtain ⟨o0, o1⟩ := HNr.out w3 (hb2.trans (hB3.mono hb2.size)); have HR := hid hr; have Hown3 := hid hown3; have HB3 := hid hB3; clear hr hb2 hown3 hg3 hB3)
          | (simp only [hmk3]))
        · go_wp2_with fail
          go_meet
          case rel =>
            have hlm := (Hown.out.lt wr.heap.size rfl).2
            have hb2 : Below wm.heap.size wm w2 := HR.out.2
            refine ⟨wr.heap.size, rfl, by have := Hsr.out; omega, ownsRow_base (ownsRow_below Hown.out hb2 (fun g hg => (Hown.out.lt g hg).2)) (by show w.heap.size ≤ wr.heap.size; have := Hsr.out; omega), ownsRow_base HR.out.1 HBwm.out.size, fun e => ?_, HBwm.out.trans (hb2.mono HBwm.out.size)⟩
            have := (HR.out.1.lt _ e).1
            omega
        · go_wp2_with fail
          go_meet
          case rel =>
            have hb2 : Below wr.drew.heap.size wr.drew w2 := HR.out.2
            have hs2 := hb2.size
            have hsd : wr.drew.heap.size = wr.heap.size := rfl
            have hsr := Hsr.out
            refine ⟨w2.heap.size, rfl, by omega, ownsRow_base Hown3.out (by omega), ownsRow_base (ownsRow_below HR.out.1 HB3.out (fun g hg => (HR.out.1.lt g hg).2)) (by omega), fun e => ?_, (HBw.out.trans (hb2.mono (by omega))).trans (HB3.out.mono (by omega))⟩
            have := (HR.out.1.lt _ e).2
            omega
      case rest =>
        obtain ⟨bo, rfl, hbo, hnum, hcr, hne, hB⟩ := hcut
        have Hcr := hid hcr
        have Hnum : Hid (wc.ownsRow w.heap.size 2 1 (.slice (some ⟨bo, 0, none⟩) T T) T ((countL [] T).map (Value.int .i64))) := hid (by rw [countL_nil]; exact hnum)
        have HB := hid hB
        clear hcr hnum hB k0 k1 m0 m1 hw1 hw2 hw3 hmk Hown HBm HC0 HCm HNm HNr Hltr Hltm HBw HBwm
        rcases Hcr.out.2 with ⟨rfl, hn0⟩ | ⟨g, cp, _, rfl, _⟩
        · have hLn : L = [] := List.length_eq_zero_iff.1 hn0
          subst hLn
          go_wp2
          refine wp_loop_rounds 1 ?_; rw [rounds_succ]
          go_wp2
          go_ret
          exact ⟨_, rfl, by simpa [countL_len] using Hnum.out, HB.out⟩
        · go_wp2
          go_loopw [9] (fun i wx => ∃ k : Nat, k ≤ L.length ∧ i = .int .i64 k ∧ wx.ownsRow w.heap.size 2 1 (.slice (some ⟨bo, 0, none⟩) T T) T ((countL (L.take k) T).map (Value.int .i64)) ∧ wx.ownsRow w.heap.size 2 1 (.slice (some ⟨g, 0, none⟩) L.length cp) L.length (L.map (Value.int .i64)) ∧ Below w.heap.size w wx) (fun i _ => L.length - (intOf i).toNat)
          case atStart => exact ⟨0, Nat.zero_le _, rfl, by simpa using Hnum.out, Hcr.out, HB.out⟩
          case round =>
            clear Hnum Hcr HB
            obtain ⟨k, hk, rfl, hown, hcr, hB⟩ := hrel
            have hLl := HLl.out
            have hgb : ¬ g = bo := fun e => hne (by simp [Value.ownBlock, e])
            by_cases hlt : k < L.length
            · have hxm := Hm.out _ (getD_mem hlt)
              obtain ⟨x, hx⟩ : ∃ x : Nat, (x : Int) = L[k]?.getD 0 := ⟨(L[k]?.getD 0).toNat, by have := Hf.out _ hxm; omega⟩
              rw [← hx] at hxm
              have hxr := Hf.out _ hxm
              have hx64 : x < 64 := by omega
              have hck : wr.cell? ⟨g, k, none⟩ = some (.int .i64 (x : Int)) := by
                rw [hcr.cellAt k (by omega), hx, List.getElem?_map, List.getElem?_eq_getElem hlt]; rfl
              have hi0 : (0 : Int) ≤ (k : Int) := by omega
              have hi1 : (k : Int) < (L.length : Int) := by omega
              have hop := ones_pos ⟨x, hx64⟩ (by show x ≠ 0; omega)
              have htg := top_ge fs hxm
              rw [HT.out, Int.toNat_natCast] at htg
              obtain ⟨e, he⟩ : ∃ e, ones x = e + 1 := ⟨ones x - 1, by have : 0 < ones x := hop; omega⟩
              have heT : e < T := by omega
              have he0 : (0 : Int) ≤ (e : Int) := by omega
              have he1 : (e : Int) < (T : Int) := by omega
              have hcn := countL_at (L.take k) T e heT
              obtain ⟨c, hn⟩ : ∃ c : Nat, c = (ofDim (L.take k) (e : Int)).length := ⟨_, rfl⟩
              have hn6 : c ≤ 1048576 := by rw [hn]; exact Nat.le_trans (List.length_filter_le _ _) (by simp; omega)
              have hce : wr.cell? ⟨bo, e, none⟩ = some (.int .i64 (c : Int)) := by
                rw [hown.cellAt e (by omega), hn, ← hcn]
                simp [countL, heT]
              have hfe := hown.frozenAt e
              have hst := hown.stored e (.int .i64 ((c : Int) + 1))
              have hstep : ((countL (L.take k) T).map (Value.int .i64)).set e (.int .i64 ((c : Int) + 1)) = (countL (L.take (k + 1)) T).map (Value.int .i64) := by
                rw [take_snoc hlt, ← hx, countL_face _ _ _ _ he, hn, List.map_set]
              rw [hstep] at hst
              have Hst := hid hst
              have HB := hid hB
              have Hcr := hid hcr
              have He := hid he
              have Hbb := hid hbo
              have Hgb := hid hgb
              clear hstep hst hown hB hx hcn hn htg hop hxm hxr he hcr hne hbo hgb
              go_wp2_with (go_at_call 121; refine (dim2E x e _ hx64 He.out).mono ?_; rintro e w' ⟨rfl, rfl⟩)
              go_roundw
              case rel =>
                exact ⟨k + 1, by omega, by go_num, Hst.out.1, Hcr.out.kept Hst.out.2 (Or.inr (fun e => Hgb.out (by simpa [Value.ownBlock] using e))), HB.out.grown Hst.out.2 HB.out.size (fun r e => by cases e; exact Hbb.out)⟩
              case measure => simp [intOf]; omega
            · obtain rfl : k = L.length := by omega
              rw [List.take_of_length_le (Nat.le_refl _)] at hown
              have Hown := hid hown
              have HB := hid hB
              clear hown hcr hB hne
              go_wp2
              go_ret
              exact ⟨_, rfl, by simpa [countL_len] using Hown.out, HB.out⟩


end Go.Proofs.Ytplcbiconfpmlaa

/-! l08Code. -/
namespace Go.Proofs.Ytplcbiconfpmlaa
open Go.RowKit

theorem pcode_zero {V : Int} {fs ps : List Int} {n : Nat} (h : pcodeR V fs n ps = 0) : IsC V fs ∧ OkTo fs ps n := by
  rcases pcode_cases V fs n ps with ⟨hC, ho, _⟩ | ⟨_, _, h2, _⟩ | ⟨_, h2, _⟩
  · exact ⟨hC, ho⟩
  · rw [h2] at h; cases h
  · rw [h2] at h; cases h
theorem acode_zero {V : Int} {fs ps : List Int} {n : Nat} (h : acodeR V fs n ps true = 0) : IsC V fs ∧ OkTo fs ps n ∧ acyB ps n = true := by
  unfold acodeR at h
  by_cases hp : pcodeR V fs n ps = 0
  · rw [if_pos hp, if_pos rfl] at h
    refine ⟨(pcode_zero hp).1, (pcode_zero hp).2, ?_⟩
    cases ha : acyB ps n
    · rw [ha] at h; cases h
    · rfl
  · rw [if_neg hp] at h
    exact absurd h hp

set_option maxRecDepth 1000000 in
set_option maxHeartbeats 2000000 in
theorem code8_any (V : Int) (a0 : Option Addr) (cap : Nat) (fs : List Int) (a1 : Option Addr) (n cap1 : Nat) (ps : List Int) (w : World) (hx : SlI w w.heap.size a0 fs) (hx1 : SlI w w.heap.size a1 ps) (hl : fs.length ≤ 1048576) (hp : ps.length = 2 * n) (hn : n ≤ 1048576) :
    Calls Try.prog 62 #[.agg #[.int .i64 V, .slice a0 fs.length cap], .slice a1 n cap1] w fun e w' => e = .returned (.int .i64 (acodeR V fs n ps true)) ∧ Below w.heap.size w w' := by
  have hB0 : Below w.heap.size w (w.alloc (.cells #[.int .i64 V, .slice a0 fs.length cap] 28)) := (Below.refl _ w).alloc (Nat.le_refl _) _
  have HK := hid (pcode_spec V a0 cap fs a1 n cap1 ps _ (hx.later hB0 hB0.size) (hx1.later hB0 hB0.size) hl hp hn)
  have HB0 := hid hB0
  by_cases hpc : pcodeR V fs n ps = 0
  · obtain ⟨hC, hO⟩ := pcode_zero hpc
    have HA := hid (fun (W : World) (h : Below w.heap.size w W) => acyclicS_any a1 n cap1 ps W (hx1.later h h.size) hp hn (okTo_highs hC hO) (okTo_lows hC hO))
    have HE : Hid (acodeR V fs n ps true = if acyB ps n = true then 0 else 5) := hid (by unfold acodeR; rw [if_pos hpc, if_pos rfl])
    rw [hpc] at HK
    obtain ⟨E, hE⟩ : ∃ E, E = acodeR V fs n ps true := ⟨_, rfl⟩
    rw [← hE] at HE ⊢
    obtain ⟨ab, hab⟩ : ∃ ab, ab = acyB ps n := ⟨_, rfl⟩
    rw [← hab] at HE HA
    clear hx hx1 hB0 hpc hE hab hC hO
    go_enter Try.func62, Try.ntmps62
    go_wp2_with fail
    refine HK.out.mono ?_
    rintro e w1 ⟨rfl, hB1⟩
    have HB1 := hid (HB0.out.trans (hB1.mono (by simp)))
    clear hB1
    cases ab
    · go_wp2_with (go_at_call 77; refine (HA.out _ HB1.out).mono ?_; rintro e w2 ⟨rfl, hB2⟩; have HB2 := hid hB2; clear hB2)
      go_ret
      exact ⟨by rw [HE.out]; rfl, HB1.out.trans (HB2.out.mono HB1.out.size)⟩
    · go_wp2_with (go_at_call 77; refine (HA.out _ HB1.out).mono ?_; rintro e w2 ⟨rfl, hB2⟩; have HB2 := hid hB2; clear hB2)
      go_ret
      exact ⟨by rw [HE.out]; rfl, HB1.out.trans (HB2.out.mono HB1.out.size)⟩
  · have HE : Hid (acodeR V fs n ps true = pcodeR V fs n ps) := hid (by unfold acodeR; rw [if_neg hpc])
    obtain ⟨E, hE⟩ : ∃ E, E = acodeR V fs n ps true := ⟨_, rfl⟩
    rw [← hE] at HE ⊢
    rw [← HE.out] at HK hpc
    have hcn : (E == 0) = false := by simpa using hpc
    clear hx hx1 hB0 hpc hE
    go_enter Try.func62, Try.ntmps62
    go_wp2_with fail
    refine HK.out.mono ?_
    rintro e w1 ⟨rfl, hB1⟩
    have HB1 := hid (HB0.out.trans (hB1.mono (by simp)))
    clear hB1
    go_wp2_with fail
    go_ret
    exact ⟨rfl, HB1.out⟩

end Go.Proofs.Ytplcbiconfpmlaa

/-! IsPerfect, both doors. -/
namespace Go.Proofs.Ytplcbiconfpmlaa
open Go.RowKit

noncomputable def perfR (V : Int) (fs : List Int) (n : Nat) (ps : List Int) : Bool × Int := if acodeR V fs n ps true = 0 then (decide (countL (critL fs ps) (top fs + 1).toNat = bettiL fs 2 (top fs + 1).toNat), 0) else (false, acodeR V fs n ps true)

set_option maxRecDepth 1000000 in
set_option maxHeartbeats 4000000 in
theorem implIsPerfect (V : Int) (a0 : Option Addr) (cap : Nat) (fs : List Int) (g n : Nat) (ps : List Int) (w : World) (hx : SlI w w.heap.size a0 fs) (hx1 : SlI w w.heap.size (some ⟨g, 0, none⟩) ps) (hl : fs.length ≤ 1048576) (hp : ps.length = 2 * n) (hn : n ≤ 1048576) (hw : ∀ x ∈ ps, (Lit.int .i64 x).wf = true) :
    Calls Try.prog 28 #[.agg #[.int .i64 V, .slice a0 fs.length cap], .slice (some ⟨g, 0, none⟩) n n] w fun e w' => e = .returned (.tuple #[.bool (perfR V fs n ps).1, .int .i64 (perfR V fs n ps).2]) ∧ Below w.heap.size w w' := by
  have hB0 : Below w.heap.size w (w.alloc (.cells #[.int .i64 V, .slice a0 fs.length cap] 28)) := (Below.refl _ w).alloc (Nat.le_refl _) _
  have HK := hid (acode_any V a0 cap fs (some ⟨g, 0, none⟩) n n ps true _ (hx.later hB0 hB0.size) (hx1.later hB0 hB0.size) hl hp hn hw)
  by_cases hpc : acodeR V fs n ps true = 0
  · obtain ⟨hC, hO, _⟩ := acode_zero hpc
    refine bool_mono2 (show perfR V fs n ps = (decide (countL (critL fs ps) (top fs + 1).toNat = bettiL fs 2 (top fs + 1).toNat), 0) by unfold perfR; rw [if_pos hpc]) ?_
    rw [hpc] at HK
    have HBt := hid (fun (W : World) (h : Below w.heap.size w W) => implBettiNumbers V a0 cap fs 2 W (hx.later h h.size) hl)
    have HRb : Hid (bettiR V fs 2 = (bettiL fs 2 (top fs + 1).toNat, 0)) := hid (by unfold bettiR; rw [isCB_true hC, if_pos rfl, if_pos (Or.inl rfl)])
    rw [HRb.out] at HBt
    have HUn := hid (fun (W : World) (h : Below w.heap.size w W) (bl : Nat) (hb : W.cell? ⟨bl, 0, none⟩ = some (.slice (some ⟨g, 0, none⟩) n n)) => unp_any V a0 cap fs bl g n ps W (hx.later h h.size) hb (hx1.later h h.size) hl hp hn hw hC.range63)
    have HCl : Hid ((countL (critL fs ps) (top fs + 1).toNat).length ≤ 1048576) := hid (by rw [countL_len]; have := top_hi fs; omega)
    obtain ⟨C, hCC⟩ : ∃ C, C = countL (critL fs ps) (top fs + 1).toNat := ⟨_, rfl⟩
    obtain ⟨H, hHH⟩ : ∃ H, H = bettiL fs 2 (top fs + 1).toNat := ⟨_, rfl⟩
    rw [← hCC] at HUn HCl ⊢
    rw [← hHH] at HBt ⊢
    clear hx hx1 hpc hC hO hp hw hCC hHH HRb
    go_enter Try.func28, Try.ntmps28
    go_wp2_with fail
    refine HK.out.mono ?_
    rintro e w1 ⟨rfl, hB1⟩
    have hB01 := hB0.trans (hB1.mono (by simp))
    have q0 : w1.heap[w.heap.size]? = some (.cells #[.int .i64 V, .slice a0 fs.length cap] 28 (0, 0)) := (hB1.block _ (by simp)).trans (heap_alloc_new _ _)
    obtain ⟨k0, k1, _, _⟩ := two_of q0
    have HB01 := hid hB01
    have Q0 := hid q0
    clear hB0 hB1 hB01 q0
    go_wp2_with fail
    refine (HBt.out w1 HB01.out).mono ?_
    rintro e w2 ⟨v2, rfl, hr2⟩
    obtain ⟨_, a2, c2, rfl, hs2⟩ := ownsRow_slI hr2.1
    have HB2 := hid (HB01.out.trans (hr2.2.mono HB01.out.size))
    have hq2 := (hr2.2.block _ (lt_of_get Q0.out)).trans Q0.out
    obtain ⟨k0, k1, _, _⟩ := two_of hq2
    have Hs2 := hid hs2
    clear hr2 hs2 hq2
    have hBd : Below w2.heap.size w2 (w2.alloc (.cells #[.slice (some ⟨g, 0, none⟩) n n] 40)) := (Below.refl _ w2).alloc (Nat.le_refl _) _
    have HB3 := hid (HB2.out.trans (hBd.mono HB2.out.size))
    have HU2 := hid (HUn.out _ HB3.out w2.heap.size (by simp [go_sem]))
    have HBd := hid hBd
    clear hBd
    go_wp2_with (first
      | (go_at_call 67; refine HU2.out.mono ?_; rintro e w4 ⟨v4, rfl, hr4⟩; obtain ⟨_, a4, c4, rfl, hs4⟩ := ownsRow_slI hr4.1; have HB4 := hid (HB3.out.trans (hr4.2.mono HB3.out.size)); have HEq := hid (eqIn_any a4 c4 C a2 c2 H w4 hs4 (Hs2.out.later (HBd.out.trans (hr4.2.mono HBd.out.size)) (HBd.out.trans (hr4.2.mono HBd.out.size)).size) HCl.out); clear hr4 hs4)
      | (go_at_call 66; refine HEq.out.mono ?_; rintro e w5 ⟨rfl, hB5⟩; have HB5 := hid (HB4.out.trans (hB5.mono HB4.out.size)); clear hB5))
    go_ret2
    exact ⟨rfl, HB5.out⟩
  · obtain ⟨c, hc⟩ : ∃ c, c = acodeR V fs n ps true := ⟨_, rfl⟩
    refine bool_mono2 (show perfR V fs n ps = (false, c) by unfold perfR; rw [if_neg hpc, hc]) ?_
    rw [← hc] at hpc HK
    have hcn : (c != 0) = true := by simpa using hpc
    clear hc hpc hx hx1 hp hw
    go_enter Try.func28, Try.ntmps28
    go_wp2_with fail
    refine HK.out.mono ?_
    rintro e w1 ⟨rfl, hB1⟩
    go_wp2_with fail
    go_ret2
    exact ⟨rfl, hB0.trans (hB1.mono (by simp))⟩

set_option maxRecDepth 1000000 in
set_option maxHeartbeats 4000000 in
theorem specIsPerfect (V : Int) (a0 : Option Addr) (cap : Nat) (fs : List Int) (a1 : Option Addr) (n cap1 : Nat) (ps : List Int) (w : World) (hx : SlI w w.heap.size a0 fs) (hx1 : SlI w w.heap.size a1 ps) (hl : fs.length ≤ 1048576) (hp : ps.length = 2 * n) (hn : n ≤ 1048576) :
    Calls Try.prog 26 #[.agg #[.int .i64 V, .slice a0 fs.length cap], .slice a1 n cap1] w fun e w' => e = .returned (.tuple #[.bool (perfR V fs n ps).1, .int .i64 (perfR V fs n ps).2]) ∧ Below w.heap.size w w' := by
  have hB0 : Below w.heap.size w (w.alloc (.cells #[.int .i64 V, .slice a0 fs.length cap] 28)) := (Below.refl _ w).alloc (Nat.le_refl _) _
  have HK := hid (code8_any V a0 cap fs a1 n cap1 ps _ (hx.later hB0 hB0.size) (hx1.later hB0 hB0.size) hl hp hn)
  by_cases hpc : acodeR V fs n ps true = 0
  · obtain ⟨hC, hO, _⟩ := acode_zero hpc
    refine bool_mono2 (show perfR V fs n ps = (decide (countL (critL fs ps) (top fs + 1).toNat = bettiL fs 2 (top fs + 1).toNat), 0) by unfold perfR; rw [if_pos hpc]) ?_
    rw [hpc] at HK
    have HNu := hid (fun (W : World) (h : Below w.heap.size w W) => numS_any V a0 cap fs a1 n cap1 ps W (hx.later h h.size) (hx1.later h h.size) hl hp hn hC.range63)
    have HBt := hid (fun (W : World) (h : Below w.heap.size w W) => bettiS_any V a0 cap fs 2 W (hx.later h h.size) hl hC (Or.inl rfl))
    have HCl : Hid ((countL (critL fs ps) (top fs + 1).toNat).length ≤ 1048576) := hid (by rw [countL_len]; have := top_hi fs; omega)
    obtain ⟨C, hCC⟩ : ∃ C, C = countL (critL fs ps) (top fs + 1).toNat := ⟨_, rfl⟩
    obtain ⟨H, hHH⟩ : ∃ H, H = bettiL fs 2 (top fs + 1).toNat := ⟨_, rfl⟩
    rw [← hCC] at HNu HCl ⊢
    rw [← hHH] at HBt ⊢
    clear hx hx1 hpc hC hO hp hCC hHH
    go_enter Try.func26, Try.ntmps26
    go_wp2_with fail
    refine HK.out.mono ?_
    rintro e w1 ⟨rfl, hB1⟩
    have hB01 := hB0.trans (hB1.mono (by simp))
    have q0 : w1.heap[w.heap.size]? = some (.cells #[.int .i64 V, .slice a0 fs.length cap] 28 (0, 0)) := (hB1.block _ (by simp)).trans (heap_alloc_new _ _)
    obtain ⟨k0, k1, _, _⟩ := two_of q0
    have HB01 := hid (show Below w.heap.size w w1.drew from ⟨hB01.os, hB01.tape, hB01.output, hB01.size, hB01.block⟩)
    have hlt1 : w.heap.size < w1.heap.size := lt_of_get q0
    have HN1 := hid (HNu.out _ HB01.out)
    clear hB0 hB1 hB01 q0
    go_wp2_with fail
    go_region_held3 (fun w' => w'.cell? ⟨w.heap.size, 0, none⟩ = some (.int .i64 V) ∧ w'.cell? ⟨w.heap.size, 1, none⟩ = some (.slice a0 fs.length cap)) (go_keep) (first
      | (go_at_call 63; refine HEq.out.mono ?_; rintro e w5 ⟨rfl, hB5⟩; have HB5 := hid (HB4.out.trans (hB5.mono HB4.out.size)); have r0 := (hB5.cell (p := ⟨w.heap.size, 0, none⟩) (Nat.lt_of_lt_of_le hlt1 (Nat.le_trans hz2 hz4))).trans m0; have r1 := (hB5.cell (p := ⟨w.heap.size, 1, none⟩) (Nat.lt_of_lt_of_le hlt1 (Nat.le_trans hz2 hz4))).trans m1; clear hB5)
      | (go_at_call 56; refine (HBt.out _ HB2.out).mono ?_; rintro e w4 ⟨v4, rfl, hr4⟩; have hz4 : w2.heap.size ≤ w4.heap.size := hr4.2.size; obtain ⟨_, a4, c4, rfl, hs4⟩ := ownsRow_slI hr4.1; have m0 := (hr4.2.cell (p := ⟨w.heap.size, 0, none⟩) (Nat.lt_of_lt_of_le hlt1 hz2)).trans l0; have m1 := (hr4.2.cell (p := ⟨w.heap.size, 1, none⟩) (Nat.lt_of_lt_of_le hlt1 hz2)).trans l1; have HB4 := hid (HB2.out.trans (hr4.2.mono HB2.out.size)); have HEq := hid (same_any a2 c2 C a4 c4 H w4 (Hs2.out.later hr4.2 hr4.2.size) hs4 HCl.out); clear hr4 hs4)
      | (go_at_call 64; refine HN1.out.mono ?_; rintro e w2 ⟨v2, rfl, hr2⟩; have hz2 : w1.heap.size ≤ w2.heap.size := hr2.2.size; obtain ⟨_, a2, c2, rfl, hs2⟩ := ownsRow_slI hr2.1; have l0 := (hr2.2.cell (p := ⟨w.heap.size, 0, none⟩) hlt1).trans k0; have l1 := (hr2.2.cell (p := ⟨w.heap.size, 1, none⟩) hlt1).trans k1; have HB2 := hid (HB01.out.trans (hr2.2.mono HB01.out.size)); have Hs2 := hid hs2; clear hr2 hs2)
      | fail)
    go_wp2_with fail
    go_ret2
    exact ⟨rfl, HB5.out⟩
  · obtain ⟨c, hc⟩ : ∃ c, c = acodeR V fs n ps true := ⟨_, rfl⟩
    refine bool_mono2 (show perfR V fs n ps = (false, c) by unfold perfR; rw [if_neg hpc, hc]) ?_
    rw [← hc] at hpc HK
    have hcn : (c != 0) = true := by simpa using hpc
    clear hc hpc hx hx1 hp
    go_enter Try.func26, Try.ntmps26
    go_wp2_with fail
    refine HK.out.mono ?_
    rintro e w1 ⟨rfl, hB1⟩
    go_wp2_with fail
    go_ret2
    exact ⟨rfl, hB0.trans (hB1.mono (by simp))⟩

end Go.Proofs.Ytplcbiconfpmlaa

/-! The law on IsPerfect, walked. -/
namespace Go.Proofs.Ytplcbiconfpmlaa
open Go.RowKit

set_option maxRecDepth 100000 in
set_option maxHeartbeats 8000000 in
theorem law_IsPerfect (V0 : Int) (a0 : Option Addr) (cap0 : Nat) (xs0 : List Int) (a1 : Option Addr) (n1 cap1 : Nat) (ps1 : List Int) (w : World) (hx0 : SlI w w.heap.size a0 xs0) (hx1 : SlI w w.heap.size a1 ps1) (hp1 : ps1.length = 2 * n1) (wp1 : ∀ x ∈ ps1, (Lit.int .i64 x).wf = true) (hn0 : xs0.length ≤ 9223372036854775807) (hn1 : n1 ≤ 9223372036854775807)  :
    Calls Try.prog 4 #[.agg #[.int .i64 V0, .slice a0 xs0.length cap0], .slice a1 n1 cap1] w fun e w' => e = .returned (.bool true) ∧ Below w.heap.size w w' := by
  have F0 : Book w w [(a0, xs0), (a1, ps1)] [] [] := ⟨Below.refl _ _, by simp; exact ⟨hx0, hx1⟩, by simp, by simp⟩
  have F0 := F0.alloc (.cells #[.int .i64 V0, .slice a0 xs0.length cap0] 24)
  (try simp only [World.size_alloc] at F0)
  have B0 := hid F0
  clear F0 hx0 hx1
  have Hp1 := hid hp1
  have Wp1 := hid wp1
  clear hp1 wp1
  obtain ⟨r0, hr0⟩ : ∃ r, r = szR 1048576 xs0.length := ⟨_, rfl⟩
  have Hr0 := hid hr0
  obtain ⟨r1, hr1⟩ : ∃ r, r = szR r0 n1 := ⟨_, rfl⟩
  have Hr1 := hid hr1
  by_cases hb0 : 1048576 < xs0.length
  · have hm0 : r0 = -1 := by rw [hr0]; exact szR_big (by omega)
    clear hb0
    clear hr0 hr1
    go_enter Try.func4, Try.ntmps4
    go_wp2_with fail
    refine (szCx V0 a0 xs0.length cap0 1048576 _ (by omega) (by omega) hn0).mono ?_
    rintro e s0 ⟨rfl, hB⟩
    have zs0 := hB.size
    (try simp only [World.size_alloc] at zs0)
    have B0 := hid (B0.out.below hB)
    clear hB
    rw [← Hr0.out]
    go_wp2_with fail
    go_ret
    exact ⟨rfl, B0.out.from0⟩
  · have hv0 : r0 = 1048576 - xs0.length := by rw [hr0, szR_fit (by omega)]
    have hg0 : 0 ≤ r0 := by omega
    have hu0 : r0 ≤ 1048576 := by omega
    have hl0 : xs0.length ≤ 1048576 := by omega
    clear hr0 hb0
    have Hv0 := hid hv0
    clear hv0
    by_cases hb1 : r0 < n1
    · have hm1 : r1 = -1 := by rw [hr1]; exact szR_big (by omega)
      clear hb1
      clear hr1
      go_enter Try.func4, Try.ntmps4
      go_wp2_with fail
      refine (szCx V0 a0 xs0.length cap0 1048576 _ (by omega) (by omega) hn0).mono ?_
      rintro e s0 ⟨rfl, hB⟩
      have zs0 := hB.size
      (try simp only [World.size_alloc] at zs0)
      have B0 := hid (B0.out.below hB)
      clear hB
      rw [← Hr0.out]
      go_wp2_with fail
      refine (szPairs a1 n1 cap1 r0 _ hg0 hu0 hn1).mono ?_
      rintro e s1 ⟨rfl, hs1⟩
      subst hs1
      rw [← Hr1.out]
      go_wp2_with fail
      go_ret
      exact ⟨rfl, B0.out.from0⟩
    · have hv1 : r1 = r0 - n1 := by rw [hr1, szR_fit (by omega)]
      have hg1 : 0 ≤ r1 := by omega
      have hu1 : r1 ≤ 1048576 := by omega
      have hl1 : n1 ≤ 1048576 := by omega
      clear hr1 hb1
      have Hv1 := hid hv1
      clear hv1
      obtain ⟨R, hR⟩ : ∃ R, R = perfR V0 xs0 n1 ps1 := ⟨_, rfl⟩
      obtain ⟨bb, c⟩ := R
      have HS : Hid (∀ a0 cap0 a1 cap1 w', SlI w' w'.heap.size a0 xs0 → SlI w' w'.heap.size a1 ps1 → Calls Try.prog 26 #[.agg #[.int .i64 V0, .slice a0 xs0.length cap0], .slice a1 n1 cap1] w' fun e w'' => e = .returned (.tuple #[.bool bb, .int .i64 c]) ∧ Below w'.heap.size w' w'') :=
        hid (fun a0 cap0 a1 cap1 w' hs0 hs1 => by have := specIsPerfect V0 a0 cap0 xs0 a1 n1 cap1 ps1 w' hs0 hs1 hl0 Hp1.out hl1; rwa [← hR] at this)
      have HI : Hid (∀ a0 cap0 g1 w', SlI w' w'.heap.size a0 xs0 → SlI w' w'.heap.size (some ⟨g1, 0, none⟩) ps1 → Calls Try.prog 28 #[.agg #[.int .i64 V0, .slice a0 xs0.length cap0], .slice (some ⟨g1, 0, none⟩) n1 n1] w' fun e w'' => e = .returned (.tuple #[.bool bb, .int .i64 c]) ∧ Below w'.heap.size w' w'') :=
        hid (fun a0 cap0 g1 w' hs0 hs1 => by have := implIsPerfect V0 a0 cap0 xs0 g1 n1 ps1 w' hs0 hs1 hl0 Hp1.out hl1 Wp1.out; rwa [← hR] at this)
      have hcc : (c != c) = false := by simp
      clear hR
      go_enter Try.func4, Try.ntmps4
      go_wp2_with fail
      refine (szCx V0 a0 xs0.length cap0 1048576 _ (by omega) (by omega) hn0).mono ?_
      rintro e s0 ⟨rfl, hB⟩
      have zs0 := hB.size
      (try simp only [World.size_alloc] at zs0)
      have B0 := hid (B0.out.below hB)
      clear hB
      rw [← Hr0.out]
      go_wp2_with fail
      refine (szPairs a1 n1 cap1 r0 _ hg0 hu0 hn1).mono ?_
      rintro e s1 ⟨rfl, hs1⟩
      subst hs1
      rw [← Hr1.out]
      obtain ⟨q0, q1⟩ := B0.out.two (.head _)
      go_wp2_with fail
      clear q0 q1
      refine (toCx V0 a0 cap0 xs0 _ (B0.out.arg (.head _)) hl0).mono ?_
      rintro e u0 ⟨gu0, rfl, hown, hB⟩
      have zu0 := hB.size
      (try simp only [World.size_alloc] at zu0)
      have B0 := hid (B0.out.row hown hB)
      clear hown hB
      (try simp only [World.size_alloc] at B0)
      go_wp2_with fail
      refine (toPairs a1 n1 cap1 ps1 _ (B0.out.arg (.tail _ (.head _))) Hp1.out hl1).mono ?_
      rintro e u1 ⟨rfl, hown, hB⟩
      have zu1 := hB.size
      (try simp only [World.size_alloc] at zu1)
      have B0 := hid (B0.out.row hown hB)
      clear hown hB
      (try simp only [World.size_alloc] at B0)
      go_wp2_with fail
      refine (HS.out _ _ _ _ _ (B0.out.slI (.tail _ (.head _))) (B0.out.slI (.head _))).mono ?_
      rintro e u9 ⟨rfl, hB⟩
      have zu9 := hB.size
      (try simp only [World.size_alloc] at zu9)
      have B0 := hid (B0.out.below hB)
      clear hB
      obtain ⟨q0, q1⟩ := B0.out.two (.head _)
      go_wp2_with fail
      clear q0 q1
      refine (toCx V0 a0 cap0 xs0 _ (B0.out.arg (.head _)) hl0).mono ?_
      rintro e x0 ⟨gx0, rfl, hown, hB⟩
      have zx0 := hB.size
      (try simp only [World.size_alloc] at zx0)
      have B0 := hid (B0.out.row hown hB)
      clear hown hB
      (try simp only [World.size_alloc] at B0)
      have B0 := hid (B0.out.alloc (.cells #[.int .i64 V0, .slice (some ⟨gx0, 0, none⟩) xs0.length xs0.length] 28))
      go_wp2_with fail
      refine (toPairs a1 n1 cap1 ps1 _ (B0.out.arg (.tail _ (.head _))) Hp1.out hl1).mono ?_
      rintro e x1 ⟨rfl, hown, hB⟩
      have zx1 := hB.size
      (try simp only [World.size_alloc] at zx1)
      have B0 := hid (B0.out.row hown hB)
      clear hown hB
      (try simp only [World.size_alloc] at B0)
      obtain ⟨p00, p01⟩ := B0.out.two (.head _)
      go_wp2_with fail
      clear p00 p01
      refine (HI.out _ _ _ _ (B0.out.slI (.tail _ (.head _))) (B0.out.slI (.head _))).mono ?_
      rintro e v9 ⟨rfl, hB⟩
      have zv9 := hB.size
      (try simp only [World.size_alloc] at zv9)
      have B0 := hid (B0.out.below hB)
      clear hB
      clear HS HI
      cases bb
      all_goals
        obtain ⟨lxb00, lxb01⟩ := B0.out.two (.head _)
        obtain ⟨lk00, lk01⟩ := B0.out.two (.tail _ (.head _))
        go_wp2_with fail
        go_region_with (first
          | (go_at_call 17; refine (toCx V0 a0 cap0 xs0 _ (B0.out.drew.arg (.head _)) hl0).mono ?_; rintro e f0 ⟨gf0, rfl, hown, hB⟩; have zf0 := hB.size; have C0 := hid (B0.out.drew.row hown hB); clear hown hB; obtain ⟨m00, m01⟩ := C0.out.two (.head _))
          | (go_at_call 21; refine (eqCx_yes V0 _ _ _ _ xs0 xs0 _ (C0.out.slI (.tail _ (.tail _ (.head _)))) (C0.out.slI (.head _)) hl0 hl0 rfl).mono ?_; rintro e h0 ⟨rfl, hB⟩))
        all_goals
          have zh0 := hB.size
          have D0 := hid (C0.out.below hB)
          clear hB C0 B0 m00 m01
          clear lxb00 lxb01
          clear lk00 lk01
          have B0 := D0
          clear D0
          skip
          go_wp2_with fail
          refine (toPairs a1 n1 cap1 ps1 _ (B0.out.arg (.tail _ (.head _))) Hp1.out hl1).mono ?_
          rintro e f1 ⟨rfl, hown, hB⟩
          have zf1 := hB.size
          (try simp only [World.size_alloc] at zf1)
          have B0 := hid (B0.out.row hown hB)
          clear hown hB
          (try simp only [World.size_alloc] at B0)
          go_wp2_with fail
          refine (eqPairs_yes _ _ n1 _ _ ps1 _ (B0.out.slI (.tail _ (.tail _ (.head _)))) (B0.out.slI (.head _)) Hp1.out hl1).mono ?_
          rintro e h1 ⟨rfl, hB⟩
          have zh1 := hB.size
          (try simp only [World.size_alloc] at zh1)
          have B0 := hid (B0.out.below hB)
          clear hB
          go_wp2_with fail
          go_ret
          exact ⟨rfl, B0.out.from0⟩

end Go.Proofs.Ytplcbiconfpmlaa
