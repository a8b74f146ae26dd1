import Derived.Test.YtilncaagpcgakaaCritI
import Derived.Test.YtilncaagpcgakaaIsPairS
/-! The critical faces, the model's. -/
namespace Go.Proofs.Ytilncaagpcgakaa
open Go.RowKit Go.Sort

set_option maxRecDepth 100000 in
set_option maxHeartbeats 8000000 in
theorem critS_any (V : Int) (a0 : Option Addr) (cap : Nat) (fs : List Int) (a1 : Option Addr) (n cap1 : Nat) (ps : List Int) (w : World) (hx : SlI w w.heap.size a0 fs) (hx1 : SlI w w.heap.size a1 ps) (hl : fs.length ≤ 1048576) (hp : ps.length = 2 * n) (hn : n ≤ 1048576) :
    Calls Try.prog 53 #[.agg #[.int .i64 V, .slice a0 fs.length cap], .slice a1 n cap1] w fun e w' => ∃ v, e = .returned v ∧ Res w w' v (critL fs ps) := by
  have hB0 : Below w.heap.size w (w.alloc (.cells #[.int .i64 V, .slice a0 fs.length cap] 30)) := (Below.refl _ w).alloc (Nat.le_refl _) _
  have hB00 := (hB0.alloc (by simp) (.cells #[] 2))
  have hown0 := World.ownsRow_made (base := w.heap.size + 1) (e := 2) (size := 1) (w.alloc (.cells #[.int .i64 V, .slice a0 fs.length cap] 30)) #[] 0 (by simp) (by simp [maxLen]) rfl
  rw [World.size_alloc] at hown0
  have Hown0 := hid hown0
  have HB0 := hid hB0
  have HB00 := hid hB00
  clear hown0 hB0 hB00
  rcases hx with rfl | ⟨b, off, hb, rfl, hc⟩
  · go_enter Try.func53, Try.ntmps53
    go_wp2
    refine wp_loop_rounds 1 ?_; rw [rounds_succ]
    go_wp2
    go_ret
    exact ⟨_, rfl, ownsRow_base (by simpa [critL] using Hown0.out) (Nat.le_succ _), HB00.out⟩
  · have Hc := hid hc
    have Hp := hid hp
    have Hy := hid hx1
    clear hc hp hx1
    go_enter Try.func53, Try.ntmps53
    go_wp2
    go_loopw [5, 6] (fun v i wr => ∃ k : Nat, k ≤ fs.length ∧ i = .int .i64 k ∧ wr.ownsRow (w.heap.size + 1) 2 1 v (critL (fs.take k) ps).length ((critL (fs.take k) ps).map (Value.int .i64)) ∧
        Below (w.heap.size + 1) (w.alloc (.cells #[.int .i64 V, .slice (some ⟨b, off, none⟩) fs.length cap] 30)) wr) (fun _ i _ => fs.length - (intOf i).toNat)
    case atStart => exact ⟨0, Nat.zero_le _, rfl, Hown0.out, (Below.refl _ _).alloc (by simp) _⟩
    case round =>
      obtain ⟨k, hk, rfl, hown, hB⟩ := hrel
      have c0 : wr.cell? ⟨w.heap.size, 0, none⟩ = some (.int .i64 V) := (hB.cell (p := ⟨w.heap.size, 0, none⟩) (by simp)).trans (by simp [go_sem])
      have c1 : wr.cell? ⟨w.heap.size, 1, none⟩ = some (.slice (some ⟨b, off, none⟩) fs.length cap) := (hB.cell (p := ⟨w.heap.size, 1, none⟩) (by simp)).trans (by simp [go_sem])
      by_cases hlt : k < fs.length
      · obtain ⟨x, hx⟩ : ∃ x, x = fs[k]?.getD 0 := ⟨_, rfl⟩
        have Hp' : Hid (∀ c, decide (x ∉ ps) = c → critL (fs.take (k + 1)) ps = critL (fs.take k) ps ++ (if c then [x] else [])) := hid (fun c hc => by
          unfold critL
          rw [take_snoc hlt, List.filter_append, ← hx]
          cases c <;> simpa using hc)
        have Hx := hid hx
        have hi0 : (0 : Int) ≤ (k : Int) := by omega
        have hi1 : (k : Int) < (fs.length : Int) := by omega
        have hfl : (critL (fs.take k) ps).length ≤ 1048576 := Nat.le_trans (List.length_filter_le _ _) (by simp; omega)
        have HB := hid hB
        have Hown := hid hown
        clear hx hB hown
        go_wp2
        clear c0 c1
        go_loopw [7, 8] (fun q j wx => ∃ m : Nat, m ≤ n ∧ q = .bool (decide (x ∉ ps.take (m * 2))) ∧ j = .int .i64 m ∧ wx.ownsRow (w.heap.size + 1) 2 1 u5 (critL (fs.take k) ps).length ((critL (fs.take k) ps).map (Value.int .i64)) ∧
            Below (w.heap.size + 1) (w.alloc (.cells #[.int .i64 V, .slice (some ⟨b, off, none⟩) fs.length cap] 30)) wx) (fun _ j _ => n - (intOf j).toNat)
        case atStart => exact ⟨0, Nat.zero_le _, by simp, rfl, Hown.out, HB.out⟩
        case round =>
          clear HB Hown
          obtain ⟨m, hm, rfl, rfl, hown, hBx⟩ := hrel
          have c0 : wr.cell? ⟨w.heap.size, 0, none⟩ = some (.int .i64 V) := (hBx.cell (p := ⟨w.heap.size, 0, none⟩) (by simp)).trans (by simp [go_sem])
          have c1 : wr.cell? ⟨w.heap.size, 1, none⟩ = some (.slice (some ⟨b, off, none⟩) fs.length cap) := (hBx.cell (p := ⟨w.heap.size, 1, none⟩) (by simp)).trans (by simp [go_sem])
          have hBw : Below w.heap.size w wr := HB0.out.trans (hBx.mono (Nat.le_succ _))
          have hck : wr.cell? ⟨b, off + k, none⟩ = some (.int .i64 x) := by rw [Hx.out]; exact (hBw.cell (p := ⟨b, off + k, none⟩) hb).trans (Hc.out k hlt)
          by_cases hltm : m < n
          · obtain ⟨b1, o1, hb1, rfl, hc1⟩ : ∃ b o, b < w.heap.size ∧ a1 = some ⟨b, o, none⟩ ∧ ∀ i, i < ps.length → w.cell? ⟨b, o + i, none⟩ = some (.int .i64 (ps[i]?.getD 0)) := by
              rcases Hy.out with h | h
              · have := Hp.out; rw [h] at this; simp at this; omega
              · exact h
            have hd2 : wr.cell? ⟨b1, o1 + m * 2, none⟩ = some (.int .i64 (at0 ps (m * 2))) := (hBw.cell (p := ⟨b1, o1 + m * 2, none⟩) hb1).trans (hc1 _ (by have := Hp.out; omega))
            have hd3 : wr.cell? ⟨b1, o1 + m * 2 + 1, none⟩ = some (.int .i64 (at0 ps (m * 2 + 1))) := (hBw.cell (p := ⟨b1, o1 + (m * 2 + 1), none⟩) hb1).trans (hc1 _ (by have := Hp.out; omega))
            obtain ⟨u, hu⟩ : ∃ u, u = at0 ps (m * 2) := ⟨_, rfl⟩
            obtain ⟨v, hv⟩ : ∃ v, v = at0 ps (m * 2 + 1) := ⟨_, rfl⟩
            have Hsn : Hid (ps.take ((m + 1) * 2) = ps.take (m * 2) ++ [u] ++ [v]) := hid (by
              have := Hp.out
              rw [show (m + 1) * 2 = m * 2 + 1 + 1 by omega, take_snoc (show m * 2 + 1 < ps.length by omega), take_snoc (show m * 2 < ps.length by omega), hu, hv]; rfl)
            rw [← hu] at hd2
            rw [← hv] at hd3
            have hm0 : (0 : Int) ≤ (m : Int) := by omega
            have hm1 : (m : Int) < (n : Int) := by omega
            have HBx := hid hBx
            have HO := hid hown
            clear hu hv hBx hBw hc1 hown
            by_cases h0 : x ∈ ps.take (m * 2)
            · have hfr : decide (x ∉ ps.take (m * 2)) = false := by simp [h0]
              have He : Hid (decide (x ∉ ps.take ((m + 1) * 2)) = false) := hid (by rw [Hsn.out]; simp [h0])
              rw [hfr]
              clear h0 hfr
              go_wp2_with fail
              refine wp_region_quiet_lit (by kernel_rfl) (by kernel_rfl) ?_
              iterate 28 (with_reducible refine wpQuiet_step (fun K hK => ?_); have HK := hid hK; clear hK; go_simp; (first | with_reducible refine HK.out _ ?_ | (rw [if_neg (by decide)]; with_reducible refine HK.out _ ?_)); clear HK K)
              with_reducible refine wpQuiet_nil ?_
              intro _ hw'
              obtain ⟨nq, hw''⟩ := hw'
              subst hw''
              go_wp2_with fail
              go_roundw
              case rel => exact ⟨m + 1, by omega, by rw [He.out], by go_num, HO.out, HBx.out.trans ⟨rfl, rfl, rfl, Nat.le_refl _, fun _ _ => rfl⟩⟩
              case measure => simp [intOf]; omega
            · have hfr : decide (x ∉ ps.take (m * 2)) = true := by simp [h0]
              by_cases h1 : u = x
              · have g1 : (u != x) = false := by simp [h1]
                have He : Hid (decide (x ∉ ps.take ((m + 1) * 2)) = false) := hid (by rw [Hsn.out]; simp [h1])
                rw [hfr]
                clear h0 h1 hfr
                go_wp2_with fail
                refine wp_region_quiet_lit (by kernel_rfl) (by kernel_rfl) ?_
                iterate 28 (with_reducible refine wpQuiet_step (fun K hK => ?_); have HK := hid hK; clear hK; go_simp; (first | with_reducible refine HK.out _ ?_ | (rw [if_neg (by decide)]; with_reducible refine HK.out _ ?_)); clear HK K)
                with_reducible refine wpQuiet_nil ?_
                intro _ hw'
                obtain ⟨nq, hw''⟩ := hw'
                subst hw''
                go_wp2_with fail
                go_roundw
                case rel => exact ⟨m + 1, by omega, by rw [He.out], by go_num, HO.out, HBx.out.trans ⟨rfl, rfl, rfl, Nat.le_refl _, fun _ _ => rfl⟩⟩
                case measure => simp [intOf]; omega
              · have g1 : (u != x) = true := by simp [h1]
                by_cases h2 : v = x
                · have g2 : (v != x) = false := by simp [h2]
                  have He : Hid (decide (x ∉ ps.take ((m + 1) * 2)) = false) := hid (by rw [Hsn.out]; simp [h2])
                  rw [hfr]
                  clear h0 h1 h2 hfr
                  go_wp2_with fail
                  refine wp_region_quiet_lit (by kernel_rfl) (by kernel_rfl) ?_
                  iterate 28 (with_reducible refine wpQuiet_step (fun K hK => ?_); have HK := hid hK; clear hK; go_simp; (first | with_reducible refine HK.out _ ?_ | (rw [if_neg (by decide)]; with_reducible refine HK.out _ ?_)); clear HK K)
                  with_reducible refine wpQuiet_nil ?_
                  intro _ hw'
                  obtain ⟨nq, hw''⟩ := hw'
                  subst hw''
                  go_wp2_with fail
                  go_roundw
                  case rel => exact ⟨m + 1, by omega, by rw [He.out], by go_num, HO.out, HBx.out.trans ⟨rfl, rfl, rfl, Nat.le_refl _, fun _ _ => rfl⟩⟩
                  case measure => simp [intOf]; omega
                · have g2 : (v != x) = true := by simp [h2]
                  have He : Hid (decide (x ∉ ps.take ((m + 1) * 2)) = true) := hid (by rw [Hsn.out]; simp [h0, Ne.symm h1, Ne.symm h2])
                  rw [hfr]
                  clear h0 h1 h2 hfr
                  go_wp2_with fail
                  refine wp_region_quiet_lit (by kernel_rfl) (by kernel_rfl) ?_
                  iterate 28 (with_reducible refine wpQuiet_step (fun K hK => ?_); have HK := hid hK; clear hK; go_simp; (first | with_reducible refine HK.out _ ?_ | (rw [if_neg (by decide)]; with_reducible refine HK.out _ ?_)); clear HK K)
                  with_reducible refine wpQuiet_nil ?_
                  intro _ hw'
                  obtain ⟨nq, hw''⟩ := hw'
                  subst hw''
                  go_wp2_with fail
                  go_roundw
                  case rel => exact ⟨m + 1, by omega, by rw [He.out], by go_num, HO.out, HBx.out.trans ⟨rfl, rfl, rfl, Nat.le_refl _, fun _ _ => rfl⟩⟩
                  case measure => simp [intOf]; omega
          · obtain rfl : m = n := by omega
            have htk : ps.take (m * 2) = ps := List.take_of_length_le (by have := Hp.out; omega)
            have hsz := hBx.size
            simp only [World.size_alloc] at hsz
            have HBx := hid hBx
            have HO := hid hown
            rw [htk]
            clear htk hBx hBw hown
            by_cases hin : x ∉ ps
            · have HP := hid (Hp'.out true (by simp [hin]))
              have hdx : decide (x ∉ ps) = true := by simp [hin]
              rw [hdx]
              clear hin hdx
              go_wp2_with (at_builtin; refine append_int rfl rfl HO.out hsz (by omega) rfl rfl ?_; intro v' w2 hown2 hgrow2 hB2)
              go_roundw
              case rel => exact ⟨k + 1, by omega, by go_num, by rw [HP.out]; exact hown2, HBx.out.trans hB2⟩
              case measure => simp [intOf]; omega
            · have HP := hid (Hp'.out false (by simpa using hin))
              have hdx : decide (x ∉ ps) = false := by simpa using hin
              rw [hdx]
              clear hin hdx
              go_wp2_with fail
              go_roundw
              case rel => exact ⟨k + 1, by omega, by go_num, by rw [HP.out]; simpa using HO.out, HBx.out⟩
              case measure => simp [intOf]; omega
      · obtain rfl : k = fs.length := by omega
        rw [List.take_of_length_le (Nat.le_refl _)] at hown
        go_wp2
        go_ret
        exact ⟨_, rfl, ownsRow_base hown (Nat.le_succ _), HB0.out.trans (hB.mono (Nat.le_succ _))⟩

set_option maxRecDepth 100000 in
set_option maxHeartbeats 1000000 in
theorem pcode_spec (V : Int) (a0 : Option Addr) (cap : Nat) (fs : List Int) (a1 : Option Addr) (n cap1 : Nat) (ps : List Int) (w : World) (hx : SlI w w.heap.size a0 fs) (hx1 : SlI w w.heap.size a1 ps) (hl : fs.length ≤ 1048576) (hp : ps.length = 2 * n) (hn : n ≤ 1048576) :
    Calls Try.prog 52 #[.agg #[.int .i64 V, .slice a0 fs.length cap], .slice a1 n cap1, .slice none 0 0] w fun e w' => e = .returned (.int .i64 (pcodeR V fs n ps)) ∧ Below w.heap.size w w' := by
  have hB0 : Below w.heap.size w (w.alloc (.cells #[.int .i64 V, .slice a0 fs.length cap] 30)) := (Below.refl _ w).alloc (Nat.le_refl _) _
  have Hx := hid (hx.later hB0 hB0.size)
  have Hx0 := hid hx
  have Hy := hid hx1
  clear hx hx1
  rcases pcode_cases V fs n ps with ⟨hC, _, h0, _, h1⟩ | ⟨hC, _, h0, _, h1⟩ | ⟨hC, h0, _⟩
  · rw [h0]
    have HC := hid hC
    clear hC h0
    go_enter Try.func52, Try.ntmps52
    go_wp2_with fail
    refine (is_yes V a0 cap fs _ Hx.out hl HC.out).mono ?_
    rintro e w1 ⟨rfl, hB1⟩
    have HB1 := hid (hB0.trans (hB1.mono (by simp)))
    have k0 : w1.cell? ⟨w.heap.size, 0, none⟩ = some (.int .i64 V) := (hB1.cell (p := ⟨w.heap.size, 0, none⟩) (by simp)).trans (by simp [go_sem])
    have k1 : w1.cell? ⟨w.heap.size, 1, none⟩ = some (.slice a0 fs.length cap) := (hB1.cell (p := ⟨w.heap.size, 1, none⟩) (by simp)).trans (by simp [go_sem])
    have HI := hid (pis_any V a0 cap fs a1 n cap1 ps w1 (Hx0.out.later HB1.out HB1.out.size) (Hy.out.later HB1.out HB1.out.size) hl HC.out.range63 hp hn)
    rw [h1] at HI
    clear hB0 hB1 h1 hp
    go_wp2_with fail
    refine HI.out.mono ?_
    rintro e w2 ⟨rfl, hB2⟩
    go_wp2_with fail
    refine wp_loop_rounds 1 ?_; rw [rounds_succ]
    go_wp2_with fail
    go_ret
    exact ⟨rfl, HB1.out.trans (hB2.mono HB1.out.size)⟩
  · rw [h0]
    have HC := hid hC
    clear hC h0
    go_enter Try.func52, Try.ntmps52
    go_wp2_with fail
    refine (is_yes V a0 cap fs _ Hx.out hl HC.out).mono ?_
    rintro e w1 ⟨rfl, hB1⟩
    have HB1 := hid (hB0.trans (hB1.mono (by simp)))
    have k0 : w1.cell? ⟨w.heap.size, 0, none⟩ = some (.int .i64 V) := (hB1.cell (p := ⟨w.heap.size, 0, none⟩) (by simp)).trans (by simp [go_sem])
    have k1 : w1.cell? ⟨w.heap.size, 1, none⟩ = some (.slice a0 fs.length cap) := (hB1.cell (p := ⟨w.heap.size, 1, none⟩) (by simp)).trans (by simp [go_sem])
    have HI := hid (pis_any V a0 cap fs a1 n cap1 ps w1 (Hx0.out.later HB1.out HB1.out.size) (Hy.out.later HB1.out HB1.out.size) hl HC.out.range63 hp hn)
    rw [h1] at HI
    clear hB0 hB1 h1 hp
    go_wp2_with fail
    refine HI.out.mono ?_
    rintro e w2 ⟨rfl, hB2⟩
    go_wp2_with fail
    go_ret
    exact ⟨rfl, HB1.out.trans (hB2.mono HB1.out.size)⟩
  · rw [h0]
    clear h0
    go_enter Try.func52, Try.ntmps52
    go_wp2_with fail
    refine (is_no V a0 cap fs _ Hx.out hl hC).mono ?_
    rintro e w1 ⟨rfl, hB1⟩
    go_wp2_with fail
    go_ret
    exact ⟨rfl, hB0.trans (hB1.mono (by simp))⟩

set_option maxRecDepth 100000 in
set_option maxHeartbeats 1000000 in
theorem specCriticalFaces (V : Int) (a0 : Option Addr) (cap : Nat) (fs : List Int) (a1 : Option Addr) (n cap1 : Nat) (ps : List Int) (w : World) (hx : SlI w w.heap.size a0 fs) (hx1 : SlI w w.heap.size a1 ps) (hl : fs.length ≤ 1048576) (hp : ps.length = 2 * n) (hn : n ≤ 1048576) (_hw : ∀ x ∈ ps, (Lit.int .i64 x).wf = true) :
    Calls Try.prog 20 #[.agg #[.int .i64 V, .slice a0 fs.length cap], .slice a1 n cap1] w fun e w' => ∃ v, e = .returned (.tuple #[v, .int .i64 (criticalFacesR V fs n ps).2]) ∧ Res w w' v (criticalFacesR V fs n ps).1 := by
  have hB0 : Below w.heap.size w (w.alloc (.cells #[.int .i64 V, .slice a0 fs.length cap] 30)) := (Below.refl _ w).alloc (Nat.le_refl _) _
  have HI := hid (pcode_spec V a0 cap fs a1 n cap1 ps _ (hx.later hB0 hB0.size) (hx1.later hB0 hB0.size) hl hp hn)
  have Hx0 := hid hx
  have Hy := hid hx1
  clear hx hx1
  rcases pcode_cases V fs n ps with ⟨_, _, h0, _, _⟩ | ⟨_, _, h0, _, _⟩ | ⟨_, h0, _⟩
  · refine res_mono (show criticalFacesR V fs n ps = (critL fs ps, 0) by unfold criticalFacesR; rw [h0, if_pos rfl]) ?_
    rw [h0] at HI
    clear h0
    go_enter Try.func20, Try.ntmps20
    go_wp2_with fail
    refine HI.out.mono ?_
    rintro e w1 ⟨rfl, hB1⟩
    have HB1 := hid (hB0.trans (hB1.mono (by simp)))
    have k0 : w1.cell? ⟨w.heap.size, 0, none⟩ = some (.int .i64 V) := (hB1.cell (p := ⟨w.heap.size, 0, none⟩) (by simp)).trans (by simp [go_sem])
    have k1 : w1.cell? ⟨w.heap.size, 1, none⟩ = some (.slice a0 fs.length cap) := (hB1.cell (p := ⟨w.heap.size, 1, none⟩) (by simp)).trans (by simp [go_sem])
    have HJ := hid (critS_any V a0 cap fs a1 n cap1 ps w1 (Hx0.out.later HB1.out HB1.out.size) (Hy.out.later HB1.out HB1.out.size) hl hp hn)
    clear hB0 hB1 hp HI
    go_wp2_with fail
    refine HJ.out.mono ?_
    rintro e w2 ⟨v, rfl, hr⟩
    go_wp2_with fail
    go_ret2
    exact ⟨v, rfl, hr.later HB1.out⟩
  · refine res_mono (show criticalFacesR V fs n ps = ([], 2) by unfold criticalFacesR; rw [h0, if_neg (by decide)]) ?_
    rw [h0] at HI
    clear h0
    go_enter Try.func20, Try.ntmps20
    go_wp2_with fail
    refine HI.out.mono ?_
    rintro e w1 ⟨rfl, hB1⟩
    go_wp2_with fail
    go_ret2
    exact ⟨_, rfl, res_nil _ _ (hB0.trans (hB1.mono (by simp)))⟩
  · refine res_mono (show criticalFacesR V fs n ps = ([], 1) by unfold criticalFacesR; rw [h0, if_neg (by decide)]) ?_
    rw [h0] at HI
    clear h0
    go_enter Try.func20, Try.ntmps20
    go_wp2_with fail
    refine HI.out.mono ?_
    rintro e w1 ⟨rfl, hB1⟩
    go_wp2_with fail
    go_ret2
    exact ⟨_, rfl, res_nil _ _ (hB0.trans (hB1.mono (by simp)))⟩

theorem criticalFacesR_len (V : Int) (fs : List Int) (n : Nat) (ps : List Int) (h : fs.length ≤ 1048576) (_hp : ps.length = 2 * n) (_hn : n ≤ 1048576) : (criticalFacesR V fs n ps).1.length ≤ 1048576 := by
  unfold criticalFacesR
  split
  · exact Nat.le_trans (List.length_filter_le _ _) h
  · simp

end Go.Proofs.Ytilncaagpcgakaa
