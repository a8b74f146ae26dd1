import Derived.RangeFuncNested
import Derived.Scope
import Derived.Test.YtgefpllmelpahaaMH3
import Derived.Test.YtgefpllmelpahaaMH4
import Derived.Test.YtgefpllmelpahaaMH5
import Derived.Test.YtgefpllmelpahaaMH6
/-! The critical faces, the model's. -/
namespace Go.Proofs.Ytgefpllmelpahaa
open Go.RowKit Go.Sort

set_option maxRecDepth 100000 in
set_option maxHeartbeats 8000000 in
theorem critS_any (V : Int) (a0 : Option Addr) (cap : Nat) (fs : List Int) (a1 : Option Addr) (n cap1 : Nat) (ps : List Int) (w : World) (hx : SlI w w.heap.size a0 fs) (hx1 : SlI w w.heap.size a1 ps) (hl : fs.length ≤ 1048576) (hp : ps.length = 2 * n) (hn : n ≤ 1048576) :
    Calls Try.prog 198 #[.agg #[.int .i64 V, .slice a0 fs.length cap], .slice a1 n cap1] w fun e w' => ∃ v, e = .returned v ∧ Res w w' v (critL fs ps) := by
  have hB0 : Below w.heap.size w (w.alloc (.cells #[.int .i64 V, .slice a0 fs.length cap] 30)) := (Below.refl _ w).alloc (Nat.le_refl _) _
  have hB00 := (hB0.alloc (by simp) (.cells #[] 2))
  have hown0 := World.ownsRow_made (base := w.heap.size + 1) (e := 2) (size := 1) (w.alloc (.cells #[.int .i64 V, .slice a0 fs.length cap] 30)) #[] 0 (by simp) (by simp [maxLen]) rfl
  rw [World.size_alloc] at hown0
  have Hown0 := hid hown0
  have HB0 := hid hB0
  have HB00 := hid hB00
  clear hown0 hB0 hB00
  rcases hx with rfl | ⟨b, off, hb, rfl, hc⟩
  · go_enter Try.func198, Try.ntmps198
    go_wp2
    refine wp_loop_rounds 1 ?_; rw [rounds_succ]
    go_wp2
    go_ret
    exact ⟨_, rfl, ownsRow_base (by simpa [critL] using Hown0.out) (Nat.le_succ _), HB00.out⟩
  · have Hc := hid hc
    have Hp := hid hp
    have Hy := hid hx1
    clear hc hp hx1
    go_enter Try.func198, Try.ntmps198
    go_wp2
    go_loopw [5, 6] (fun v i wr => ∃ k : Nat, k ≤ fs.length ∧ i = .int .i64 k ∧ wr.ownsRow (w.heap.size + 1) 2 1 v (critL (fs.take k) ps).length ((critL (fs.take k) ps).map (Value.int .i64)) ∧
        Below (w.heap.size + 1) (w.alloc (.cells #[.int .i64 V, .slice (some ⟨b, off, none⟩) fs.length cap] 30)) wr) (fun _ i _ => fs.length - (intOf i).toNat)
    case atStart => exact ⟨0, Nat.zero_le _, rfl, Hown0.out, (Below.refl _ _).alloc (by simp) _⟩
    case round =>
      obtain ⟨k, hk, rfl, hown, hB⟩ := hrel
      have c0 : wr.cell? ⟨w.heap.size, 0, none⟩ = some (.int .i64 V) := (hB.cell (p := ⟨w.heap.size, 0, none⟩) (by simp)).trans (by simp [go_sem])
      have c1 : wr.cell? ⟨w.heap.size, 1, none⟩ = some (.slice (some ⟨b, off, none⟩) fs.length cap) := (hB.cell (p := ⟨w.heap.size, 1, none⟩) (by simp)).trans (by simp [go_sem])
      by_cases hlt : k < fs.length
      · obtain ⟨x, hx⟩ : ∃ x, x = fs[k]?.getD 0 := ⟨_, rfl⟩
        have Hp' : Hid (∀ c, decide (x ∉ ps) = c → critL (fs.take (k + 1)) ps = critL (fs.take k) ps ++ (if c then [x] else [])) := hid (fun c hc => by
          unfold critL
          rw [take_snoc hlt, List.filter_append, ← hx]
          cases c <;> simpa using hc)
        have Hx := hid hx
        have hi0 : (0 : Int) ≤ (k : Int) := by omega
        have hi1 : (k : Int) < (fs.length : Int) := by omega
        have hfl : (critL (fs.take k) ps).length ≤ 1048576 := Nat.le_trans (List.length_filter_le _ _) (by simp; omega)
        have HB := hid hB
        have Hown := hid hown
        clear hx hB hown
        go_wp2
        clear c0 c1
        go_loopw [7, 8] (fun q j wx => ∃ m : Nat, m ≤ n ∧ q = .bool (decide (x ∉ ps.take (m * 2))) ∧ j = .int .i64 m ∧ wx.ownsRow (w.heap.size + 1) 2 1 u5 (critL (fs.take k) ps).length ((critL (fs.take k) ps).map (Value.int .i64)) ∧
            Below (w.heap.size + 1) (w.alloc (.cells #[.int .i64 V, .slice (some ⟨b, off, none⟩) fs.length cap] 30)) wx) (fun _ j _ => n - (intOf j).toNat)
        case atStart => exact ⟨0, Nat.zero_le _, by simp, rfl, Hown.out, HB.out⟩
        case round =>
          clear HB Hown
          obtain ⟨m, hm, rfl, rfl, hown, hBx⟩ := hrel
          have c0 : wr.cell? ⟨w.heap.size, 0, none⟩ = some (.int .i64 V) := (hBx.cell (p := ⟨w.heap.size, 0, none⟩) (by simp)).trans (by simp [go_sem])
          have c1 : wr.cell? ⟨w.heap.size, 1, none⟩ = some (.slice (some ⟨b, off, none⟩) fs.length cap) := (hBx.cell (p := ⟨w.heap.size, 1, none⟩) (by simp)).trans (by simp [go_sem])
          have hBw : Below w.heap.size w wr := HB0.out.trans (hBx.mono (Nat.le_succ _))
          have hck : wr.cell? ⟨b, off + k, none⟩ = some (.int .i64 x) := by rw [Hx.out]; exact (hBw.cell (p := ⟨b, off + k, none⟩) hb).trans (Hc.out k hlt)
          by_cases hltm : m < n
          · obtain ⟨b1, o1, hb1, rfl, hc1⟩ : ∃ b o, b < w.heap.size ∧ a1 = some ⟨b, o, none⟩ ∧ ∀ i, i < ps.length → w.cell? ⟨b, o + i, none⟩ = some (.int .i64 (ps[i]?.getD 0)) := by
              rcases Hy.out with h | h
              · have := Hp.out; rw [h] at this; simp at this; omega
              · exact h
            have hd2 : wr.cell? ⟨b1, o1 + m * 2, none⟩ = some (.int .i64 (at0 ps (m * 2))) := (hBw.cell (p := ⟨b1, o1 + m * 2, none⟩) hb1).trans (hc1 _ (by have := Hp.out; omega))
            have hd3 : wr.cell? ⟨b1, o1 + m * 2 + 1, none⟩ = some (.int .i64 (at0 ps (m * 2 + 1))) := (hBw.cell (p := ⟨b1, o1 + (m * 2 + 1), none⟩) hb1).trans (hc1 _ (by have := Hp.out; omega))
            obtain ⟨u, hu⟩ : ∃ u, u = at0 ps (m * 2) := ⟨_, rfl⟩
            obtain ⟨v, hv⟩ : ∃ v, v = at0 ps (m * 2 + 1) := ⟨_, rfl⟩
            have Hsn : Hid (ps.take ((m + 1) * 2) = ps.take (m * 2) ++ [u] ++ [v]) := hid (by
              have := Hp.out
              rw [show (m + 1) * 2 = m * 2 + 1 + 1 by omega, take_snoc (show m * 2 + 1 < ps.length by omega), take_snoc (show m * 2 < ps.length by omega), hu, hv]; rfl)
            rw [← hu] at hd2
            rw [← hv] at hd3
            have hm0 : (0 : Int) ≤ (m : Int) := by omega
            have hm1 : (m : Int) < (n : Int) := by omega
            have HBx := hid hBx
            have HO := hid hown
            clear hu hv hBx hBw hc1 hown
            by_cases h0 : x ∈ ps.take (m * 2)
            · have hfr : decide (x ∉ ps.take (m * 2)) = false := by simp [h0]
              have He : Hid (decide (x ∉ ps.take ((m + 1) * 2)) = false) := hid (by rw [Hsn.out]; simp [h0])
              rw [hfr]
              clear h0 hfr
              go_wp2_with fail
              refine wp_region_quiet_lit (by kernel_rfl) (by kernel_rfl) ?_
              iterate 28 (with_reducible refine wpQuiet_step (fun K hK => ?_); have HK := hid hK; clear hK; go_simp; (first | with_reducible refine HK.out _ ?_ | (rw [if_neg (by decide)]; with_reducible refine HK.out _ ?_)); clear HK K)
              with_reducible refine wpQuiet_nil ?_
              intro _ hw'
              obtain ⟨nq, hw''⟩ := hw'
              subst hw''
              go_wp2_with fail
              go_roundw
              case rel => exact ⟨m + 1, by omega, by rw [He.out], by go_num, HO.out, HBx.out.trans ⟨rfl, rfl, rfl, Nat.le_refl _, fun _ _ => rfl⟩⟩
              case measure => simp [intOf]; omega
            · have hfr : decide (x ∉ ps.take (m * 2)) = true := by simp [h0]
              by_cases h1 : u = x
              · have g1 : (u != x) = false := by simp [h1]
                have He : Hid (decide (x ∉ ps.take ((m + 1) * 2)) = false) := hid (by rw [Hsn.out]; simp [h1])
                rw [hfr]
                clear h0 h1 hfr
                go_wp2_with fail
                refine wp_region_quiet_lit (by kernel_rfl) (by kernel_rfl) ?_
                iterate 28 (with_reducible refine wpQuiet_step (fun K hK => ?_); have HK := hid hK; clear hK; go_simp; (first | with_reducible refine HK.out _ ?_ | (rw [if_neg (by decide)]; with_reducible refine HK.out _ ?_)); clear HK K)
                with_reducible refine wpQuiet_nil ?_
                intro _ hw'
                obtain ⟨nq, hw''⟩ := hw'
                subst hw''
                go_wp2_with fail
                go_roundw
                case rel => exact ⟨m + 1, by omega, by rw [He.out], by go_num, HO.out, HBx.out.trans ⟨rfl, rfl, rfl, Nat.le_refl _, fun _ _ => rfl⟩⟩
                case measure => simp [intOf]; omega
              · have g1 : (u != x) = true := by simp [h1]
                by_cases h2 : v = x
                · have g2 : (v != x) = false := by simp [h2]
                  have He : Hid (decide (x ∉ ps.take ((m + 1) * 2)) = false) := hid (by rw [Hsn.out]; simp [h2])
                  rw [hfr]
                  clear h0 h1 h2 hfr
                  go_wp2_with fail
                  refine wp_region_quiet_lit (by kernel_rfl) (by kernel_rfl) ?_
                  iterate 28 (with_reducible refine wpQuiet_step (fun K hK => ?_); have HK := hid hK; clear hK; go_simp; (first | with_reducible refine HK.out _ ?_ | (rw [if_neg (by decide)]; with_reducible refine HK.out _ ?_)); clear HK K)
                  with_reducible refine wpQuiet_nil ?_
                  intro _ hw'
                  obtain ⟨nq, hw''⟩ := hw'
                  subst hw''
                  go_wp2_with fail
                  go_roundw
                  case rel => exact ⟨m + 1, by omega, by rw [He.out], by go_num, HO.out, HBx.out.trans ⟨rfl, rfl, rfl, Nat.le_refl _, fun _ _ => rfl⟩⟩
                  case measure => simp [intOf]; omega
                · have g2 : (v != x) = true := by simp [h2]
                  have He : Hid (decide (x ∉ ps.take ((m + 1) * 2)) = true) := hid (by rw [Hsn.out]; simp [h0, Ne.symm h1, Ne.symm h2])
                  rw [hfr]
                  clear h0 h1 h2 hfr
                  go_wp2_with fail
                  refine wp_region_quiet_lit (by kernel_rfl) (by kernel_rfl) ?_
                  iterate 28 (with_reducible refine wpQuiet_step (fun K hK => ?_); have HK := hid hK; clear hK; go_simp; (first | with_reducible refine HK.out _ ?_ | (rw [if_neg (by decide)]; with_reducible refine HK.out _ ?_)); clear HK K)
                  with_reducible refine wpQuiet_nil ?_
                  intro _ hw'
                  obtain ⟨nq, hw''⟩ := hw'
                  subst hw''
                  go_wp2_with fail
                  go_roundw
                  case rel => exact ⟨m + 1, by omega, by rw [He.out], by go_num, HO.out, HBx.out.trans ⟨rfl, rfl, rfl, Nat.le_refl _, fun _ _ => rfl⟩⟩
                  case measure => simp [intOf]; omega
          · obtain rfl : m = n := by omega
            have htk : ps.take (m * 2) = ps := List.take_of_length_le (by have := Hp.out; omega)
            have hsz := hBx.size
            simp only [World.size_alloc] at hsz
            have HBx := hid hBx
            have HO := hid hown
            rw [htk]
            clear htk hBx hBw hown
            by_cases hin : x ∉ ps
            · have HP := hid (Hp'.out true (by simp [hin]))
              have hdx : decide (x ∉ ps) = true := by simp [hin]
              rw [hdx]
              clear hin hdx
              go_wp2_with (at_builtin; refine append_int rfl rfl HO.out hsz (by omega) rfl rfl ?_; intro v' w2 hown2 hgrow2 hB2)
              go_roundw
              case rel => exact ⟨k + 1, by omega, by go_num, by rw [HP.out]; exact hown2, HBx.out.trans hB2⟩
              case measure => simp [intOf]; omega
            · have HP := hid (Hp'.out false (by simpa using hin))
              have hdx : decide (x ∉ ps) = false := by simpa using hin
              rw [hdx]
              clear hin hdx
              go_wp2_with fail
              go_roundw
              case rel => exact ⟨k + 1, by omega, by go_num, by rw [HP.out]; simpa using HO.out, HBx.out⟩
              case measure => simp [intOf]; omega
      · obtain rfl : k = fs.length := by omega
        rw [List.take_of_length_le (Nat.le_refl _)] at hown
        go_wp2
        go_ret
        exact ⟨_, rfl, ownsRow_base hown (Nat.le_succ _), HB0.out.trans (hB.mono (Nat.le_succ _))⟩

set_option maxRecDepth 100000 in
set_option maxHeartbeats 1000000 in
theorem pcode_spec (V : Int) (a0 : Option Addr) (cap : Nat) (fs : List Int) (a1 : Option Addr) (n cap1 : Nat) (ps : List Int) (w : World) (hx : SlI w w.heap.size a0 fs) (hx1 : SlI w w.heap.size a1 ps) (hl : fs.length ≤ 1048576) (hp : ps.length = 2 * n) (hn : n ≤ 1048576) :
    Calls Try.prog 48 #[.agg #[.int .i64 V, .slice a0 fs.length cap], .slice a1 n cap1, .slice none 0 0] w fun e w' => e = .returned (.int .i64 (pcodeR V fs n ps)) ∧ Below w.heap.size w w' := by
  have hB0 : Below w.heap.size w (w.alloc (.cells #[.int .i64 V, .slice a0 fs.length cap] 30)) := (Below.refl _ w).alloc (Nat.le_refl _) _
  have Hx := hid (hx.later hB0 hB0.size)
  have Hx0 := hid hx
  have Hy := hid hx1
  clear hx hx1
  rcases pcode_cases V fs n ps with ⟨hC, _, h0, _, h1⟩ | ⟨hC, _, h0, _, h1⟩ | ⟨hC, h0, _⟩
  · rw [h0]
    have HC := hid hC
    clear hC h0
    go_enter Try.func48, Try.ntmps48
    go_wp2_with fail
    refine (is_yes V a0 cap fs _ Hx.out hl HC.out).mono ?_
    rintro e w1 ⟨rfl, hB1⟩
    have HB1 := hid (hB0.trans (hB1.mono (by simp)))
    have k0 : w1.cell? ⟨w.heap.size, 0, none⟩ = some (.int .i64 V) := (hB1.cell (p := ⟨w.heap.size, 0, none⟩) (by simp)).trans (by simp [go_sem])
    have k1 : w1.cell? ⟨w.heap.size, 1, none⟩ = some (.slice a0 fs.length cap) := (hB1.cell (p := ⟨w.heap.size, 1, none⟩) (by simp)).trans (by simp [go_sem])
    have HI := hid (pis_any V a0 cap fs a1 n cap1 ps w1 (Hx0.out.later HB1.out HB1.out.size) (Hy.out.later HB1.out HB1.out.size) hl HC.out.range63 hp hn)
    rw [h1] at HI
    clear hB0 hB1 h1 hp
    go_wp2_with fail
    refine HI.out.mono ?_
    rintro e w2 ⟨rfl, hB2⟩
    go_wp2_with fail
    refine wp_loop_rounds 1 ?_; rw [rounds_succ]
    go_wp2_with fail
    go_ret
    exact ⟨rfl, HB1.out.trans (hB2.mono HB1.out.size)⟩
  · rw [h0]
    have HC := hid hC
    clear hC h0
    go_enter Try.func48, Try.ntmps48
    go_wp2_with fail
    refine (is_yes V a0 cap fs _ Hx.out hl HC.out).mono ?_
    rintro e w1 ⟨rfl, hB1⟩
    have HB1 := hid (hB0.trans (hB1.mono (by simp)))
    have k0 : w1.cell? ⟨w.heap.size, 0, none⟩ = some (.int .i64 V) := (hB1.cell (p := ⟨w.heap.size, 0, none⟩) (by simp)).trans (by simp [go_sem])
    have k1 : w1.cell? ⟨w.heap.size, 1, none⟩ = some (.slice a0 fs.length cap) := (hB1.cell (p := ⟨w.heap.size, 1, none⟩) (by simp)).trans (by simp [go_sem])
    have HI := hid (pis_any V a0 cap fs a1 n cap1 ps w1 (Hx0.out.later HB1.out HB1.out.size) (Hy.out.later HB1.out HB1.out.size) hl HC.out.range63 hp hn)
    rw [h1] at HI
    clear hB0 hB1 h1 hp
    go_wp2_with fail
    refine HI.out.mono ?_
    rintro e w2 ⟨rfl, hB2⟩
    go_wp2_with fail
    go_ret
    exact ⟨rfl, HB1.out.trans (hB2.mono HB1.out.size)⟩
  · rw [h0]
    clear h0
    go_enter Try.func48, Try.ntmps48
    go_wp2_with fail
    refine (is_no V a0 cap fs _ Hx.out hl hC).mono ?_
    rintro e w1 ⟨rfl, hB1⟩
    go_wp2_with fail
    go_ret
    exact ⟨rfl, hB0.trans (hB1.mono (by simp))⟩


theorem criticalFacesR_len (V : Int) (fs : List Int) (n : Nat) (ps : List Int) (h : fs.length ≤ 1048576) (_hp : ps.length = 2 * n) (_hn : n ≤ 1048576) : (criticalFacesR V fs n ps).1.length ≤ 1048576 := by
  unfold criticalFacesR
  split
  · exact Nat.le_trans (List.length_filter_le _ _) h
  · simp

end Go.Proofs.Ytgefpllmelpahaa

/-! FacesReached, the model's. -/
namespace Go.Proofs.Ytgefpllmelpahaa
open Go.RowKit

noncomputable def reachB (ps : List Int) (n : Nat) (a y : Int) : Bool := @decide (y = a ∨ Way ps n a y) (Classical.propDecidable _)
theorem reachB_true {ps : List Int} {n : Nat} {a y : Int} (h : y = a ∨ Way ps n a y) : reachB ps n a y = true := by unfold reachB; exact @decide_eq_true _ (Classical.propDecidable _) h
theorem reachB_false {ps : List Int} {n : Nat} {a y : Int} (h : ¬ (y = a ∨ Way ps n a y)) : reachB ps n a y = false := by unfold reachB; exact @decide_eq_false _ (Classical.propDecidable _) h
/-- The faces reached. -/
noncomputable def reachL (fs ps : List Int) (n : Nat) (a : Int) : List Int := fs.filter fun y => reachB ps n a y
noncomputable def code1R (V : Int) (fs : List Int) (n : Nat) (ps : List Int) (a : Int) : Int := if pcodeR V fs n ps = 0 then (if a ∈ fs then 0 else 2) else pcodeR V fs n ps
noncomputable def facesReachedR (V : Int) (fs : List Int) (n : Nat) (ps : List Int) (a : Int) : List Int × Int := if code1R V fs n ps a = 0 then (reachL fs ps n a, 0) else ([], code1R V fs n ps a)
theorem facesReachedR_len (V : Int) (fs : List Int) (n : Nat) (ps : List Int) (a : Int) (h : fs.length ≤ 1048576) (_hp : ps.length = 2 * n) (_hn : n ≤ 1048576) : (facesReachedR V fs n ps a).1.length ≤ 1048576 := by
  unfold facesReachedR
  split
  · exact Nat.le_trans (List.length_filter_le _ _) h
  · simp

theorem okTo_highs {V : Int} {fs ps : List Int} {n : Nat} (hC : IsC V fs) (h : OkTo fs ps n) : HighsB ps n := by
  intro a
  by_cases hex : ∃ i, i < n ∧ at0 ps (i * 2) = a
  · have hmin : ∃ i, (i < n ∧ at0 ps (i * 2) = a) ∧ ∀ j, j < i → ¬ (j < n ∧ at0 ps (j * 2) = a) := by
      obtain ⟨i, hi⟩ := hex
      induction i using Nat.strongRecOn with
      | _ i ih =>
        by_cases hj : ∃ j, j < i ∧ (j < n ∧ at0 ps (j * 2) = a)
        · obtain ⟨j, h1, h2⟩ := hj
          exact ih j h1 h2
        · exact ⟨i, hi, fun j h1 h2 => hj ⟨j, h1, h2⟩⟩
    obtain ⟨i, ⟨hi, ha⟩, hm⟩ := hmin
    rw [highOf_some hi ha (fun j hj e => hm j hj ⟨by omega, e⟩)]
    have hp := (h i hi).1
    unfold pairB at hp
    simp at hp
    have := hC.range63 _ hp.1.1.2
    omega
  · rw [highOf_none (fun j hj e => hex ⟨j, hj, e⟩)]
    omega

set_option maxRecDepth 1000000 in
set_option maxHeartbeats 2000000 in
theorem code1_spec (V : Int) (a0 : Option Addr) (cap : Nat) (fs : List Int) (a1 : Option Addr) (n cap1 : Nat) (ps : List Int) (a : Int) (bf : Nat) (w : World) (hx : SlI w w.heap.size a0 fs) (hx1 : SlI w w.heap.size a1 ps) (hl : fs.length ≤ 1048576) (hp : ps.length = 2 * n) (hn : n ≤ 1048576)
    (hbf : bf < w.heap.size) (hcf : w.cell? ⟨bf, 0, none⟩ = some (.int .i64 a)) :
    Calls Try.prog 48 #[.agg #[.int .i64 V, .slice a0 fs.length cap], .slice a1 n cap1, .slice (some ⟨bf, 0, none⟩) 1 1] w fun e w' => e = .returned (.int .i64 (code1R V fs n ps a)) ∧ Below w.heap.size w w' := by
  have hB0 : Below w.heap.size w (w.alloc (.cells #[.int .i64 V, .slice a0 fs.length cap] 30)) := (Below.refl _ w).alloc (Nat.le_refl _) _
  have Hx := hid (hx.later hB0 hB0.size)
  have Hx0 := hid hx
  have Hy := hid hx1
  clear hx hx1
  obtain ⟨E, hE⟩ : ∃ E, E = code1R V fs n ps a := ⟨_, rfl⟩
  rw [← hE]
  rcases pcode_cases V fs n ps with ⟨hC, _, h0, _, h1⟩ | ⟨hC, _, h0, _, h1⟩ | ⟨hC, h0, _⟩
  · have HC := hid hC
    have hE1 : E = if a ∈ fs then 0 else 2 := by rw [hE, code1R, if_pos h0]
    clear hC h0 hE
    go_enter Try.func48, Try.ntmps48
    go_wp2_with fail
    refine (is_yes V a0 cap fs _ Hx.out hl HC.out).mono ?_
    rintro e w1 ⟨rfl, hB1⟩
    have HB1 := hid (hB0.trans (hB1.mono (by simp)))
    have k0 : w1.cell? ⟨w.heap.size, 0, none⟩ = some (.int .i64 V) := (hB1.cell (p := ⟨w.heap.size, 0, none⟩) (by simp)).trans (by simp [go_sem])
    have k1 : w1.cell? ⟨w.heap.size, 1, none⟩ = some (.slice a0 fs.length cap) := (hB1.cell (p := ⟨w.heap.size, 1, none⟩) (by simp)).trans (by simp [go_sem])
    have hs1 : w.heap.size < w1.heap.size := by have := hB1.size; simp at this; omega
    have HI := hid (pis_any V a0 cap fs a1 n cap1 ps w1 (Hx0.out.later HB1.out HB1.out.size) (Hy.out.later HB1.out HB1.out.size) hl HC.out.range63 hp hn)
    rw [h1] at HI
    clear hB0 hB1 h1 hp
    go_wp2_with fail
    refine HI.out.mono ?_
    rintro e w2 ⟨rfl, hB2⟩
    have n0 : w2.cell? ⟨w.heap.size, 0, none⟩ = some (.int .i64 V) := (hB2.cell (p := ⟨w.heap.size, 0, none⟩) hs1).trans k0
    have n1 : w2.cell? ⟨w.heap.size, 1, none⟩ = some (.slice a0 fs.length cap) := (hB2.cell (p := ⟨w.heap.size, 1, none⟩) hs1).trans k1
    have HB2 := hid (HB1.out.trans (hB2.mono HB1.out.size))
    have n2 : w2.cell? ⟨bf, 0, none⟩ = some (.int .i64 a) := (HB2.out.cell (p := ⟨bf, 0, none⟩) hbf).trans hcf
    have hs2 : w.heap.size < w2.heap.size := Nat.lt_of_lt_of_le hs1 hB2.size
    have HB2d : Hid (Below w.heap.size w w2.drew) := hid (HB2.out.trans ⟨rfl, rfl, rfl, Nat.le_refl _, fun _ _ => rfl⟩)
    clear hB2 k0 k1 hcf
    by_cases ha : a ∈ fs
    · have He : Hid (E = 0) := hid (by rw [hE1, if_pos ha])
      have HA := hid (has_yes V a a0 cap fs w2.drew (Hx0.out.later HB2d.out HB2d.out.size) hl ha)
      clear hE1 ha
      go_wp2_with fail
      refine wp_loop_rounds 2 ?_
      rw [rounds_succ]
      go_wp2_with fail
      go_region_held3 (fun w' => w'.cell? ⟨w.heap.size, 0, none⟩ = some (.int .i64 V) ∧ w'.cell? ⟨w.heap.size, 1, none⟩ = some (.slice a0 fs.length cap) ∧ w'.cell? ⟨bf, 0, none⟩ = some (.int .i64 a)) (go_keep) (first
        | (go_at_call 72; refine HA.out.mono ?_; rintro e w3 ⟨rfl, hB3⟩; have m0 := (hB3.cell (p := ⟨w.heap.size, 0, none⟩) hs2).trans n0; have m1 := (hB3.cell (p := ⟨w.heap.size, 1, none⟩) hs2).trans n1; have m2 := (hB3.cell (p := ⟨bf, 0, none⟩) (Nat.lt_trans hbf hs2)).trans n2; have HB3 := hid hB3; clear hB3))
      all_goals
        have HB4 := hid (HB2d.out.trans (HB3.out.mono HB2d.out.size))
        go_wp2_with fail
        rw [rounds_succ]
        go_wp2_with fail
        go_ret
        exact ⟨ret_int (by rw [He.out]), HB4.out⟩
    · have He : Hid (E = 2) := hid (by rw [hE1, if_neg ha])
      have HA := hid (has_no V a a0 cap fs w2.drew (Hx0.out.later HB2d.out HB2d.out.size) hl ha)
      clear hE1 ha
      go_wp2_with fail
      refine wp_loop_rounds 2 ?_
      rw [rounds_succ]
      go_wp2_with fail
      go_region_held3 (fun w' => w'.cell? ⟨w.heap.size, 0, none⟩ = some (.int .i64 V) ∧ w'.cell? ⟨w.heap.size, 1, none⟩ = some (.slice a0 fs.length cap) ∧ w'.cell? ⟨bf, 0, none⟩ = some (.int .i64 a)) (go_keep) (first
        | (go_at_call 72; refine HA.out.mono ?_; rintro e w3 ⟨rfl, hB3⟩; have m0 := (hB3.cell (p := ⟨w.heap.size, 0, none⟩) hs2).trans n0; have m1 := (hB3.cell (p := ⟨w.heap.size, 1, none⟩) hs2).trans n1; have m2 := (hB3.cell (p := ⟨bf, 0, none⟩) (Nat.lt_trans hbf hs2)).trans n2; have HB3 := hid hB3; clear hB3))
      all_goals
        have HB4 := hid (HB2d.out.trans (HB3.out.mono HB2d.out.size))
        go_wp2_with fail
        go_ret
        exact ⟨ret_int (by rw [He.out]), HB4.out⟩
  · have He : Hid (E = 2) := hid (by rw [hE, code1R, if_neg (by rw [h0]; decide), h0])
    have HC := hid hC
    clear hC h0 hE
    go_enter Try.func48, Try.ntmps48
    go_wp2_with fail
    refine (is_yes V a0 cap fs _ Hx.out hl HC.out).mono ?_
    rintro e w1 ⟨rfl, hB1⟩
    have HB1 := hid (hB0.trans (hB1.mono (by simp)))
    have k0 : w1.cell? ⟨w.heap.size, 0, none⟩ = some (.int .i64 V) := (hB1.cell (p := ⟨w.heap.size, 0, none⟩) (by simp)).trans (by simp [go_sem])
    have k1 : w1.cell? ⟨w.heap.size, 1, none⟩ = some (.slice a0 fs.length cap) := (hB1.cell (p := ⟨w.heap.size, 1, none⟩) (by simp)).trans (by simp [go_sem])
    have HI := hid (pis_any V a0 cap fs a1 n cap1 ps w1 (Hx0.out.later HB1.out HB1.out.size) (Hy.out.later HB1.out HB1.out.size) hl HC.out.range63 hp hn)
    rw [h1] at HI
    clear hB0 hB1 h1 hp
    go_wp2_with fail
    refine HI.out.mono ?_
    rintro e w2 ⟨rfl, hB2⟩
    go_wp2_with fail
    go_ret
    exact ⟨ret_int (by rw [He.out]), HB1.out.trans (hB2.mono HB1.out.size)⟩
  · have He : Hid (E = 1) := hid (by rw [hE, code1R, if_neg (by rw [h0]; decide), h0])
    clear h0 hE
    go_enter Try.func48, Try.ntmps48
    go_wp2_with fail
    refine (is_no V a0 cap fs _ Hx.out hl hC).mono ?_
    rintro e w1 ⟨rfl, hB1⟩
    go_wp2_with fail
    go_ret
    exact ⟨ret_int (by rw [He.out]), hB0.trans (hB1.mono (by simp))⟩

end Go.Proofs.Ytgefpllmelpahaa

/-! l02Ways: the model's number of ways. -/
namespace Go.Proofs.Ytgefpllmelpahaa
open Go.RowKit

/-- The first k steps' ways, and the one without steps. -/
def gwPart (ps : List Int) (n : Nat) (b a : Int) (k : Nat) : Int := (if a = b then 1 else 0) + (((nextL ps n a).take k).map (gw ps n b)).sum
theorem gwPart_zero (ps : List Int) (n : Nat) (b a : Int) : gwPart ps n b a 0 = if a = b then 1 else 0 := by simp [gwPart]
theorem gwPart_succ {ps : List Int} {n : Nat} {b a : Int} {k : Nat} (hk : k < (nextL ps n a).length) : gwPart ps n b a (k + 1) = gwPart ps n b a k + gw ps n b ((nextL ps n a)[k]?.getD 0) := by
  unfold gwPart
  rw [List.take_add_one, List.getElem?_eq_getElem hk]
  simp only [Option.toList_some, List.map_append, List.map_cons, List.map_nil, List.sum_append, List.sum_cons, List.sum_nil, Option.getD_some, Int.add_zero, Int.add_assoc]
theorem gwPart_all {ps : List Int} {n : Nat} (hc : NoCycle ps n) (b a : Int) : gwPart ps n b a (nextL ps n a).length = gw ps n b a := by
  rw [gw_step hc, gwPart, List.take_length]

set_option maxRecDepth 1000000 in
set_option maxHeartbeats 2000000 in
theorem ways_round (a1 : Option Addr) (n cap : Nat) (ps : List Int) (b a : Int) (w : World) (hx : SlI w w.heap.size a1 ps) (hp : ps.length = 2 * n) (hl : n ≤ 1048576) (hh : HighsB ps n) (hc : NoCycle ps n)
    (H : ∀ y ∈ nextL ps n a, ∀ w', Below w.heap.size w w' → Calls Try.prog 61 #[.slice a1 n cap, .int .i64 y, .int .i64 b] w' fun e w'' => e = .returned (.int .i64 (wrap64 (gw ps n b y))) ∧ Below w'.heap.size w' w'') :
    Calls Try.prog 61 #[.slice a1 n cap, .int .i64 a, .int .i64 b] w fun e w' => e = .returned (.int .i64 (wrap64 (gw ps n b a))) ∧ Below w.heap.size w w' := by
  have HN := hid (next_any a1 n cap ps a w hx hp hl (hh a))
  obtain ⟨E, hE⟩ : ∃ E, E = gw ps n b a := ⟨_, rfl⟩
  rw [← hE]
  have HE := hid (hE.trans (gwPart_all hc b a).symm)
  obtain ⟨d, hd⟩ : ∃ d, (a == b) = d := ⟨_, rfl⟩
  have hst : Hid ((if d then 1 else 0 : Int) = wrap64 (gwPart ps n b a 0)) := hid (by
    rw [gwPart_zero, ← hd]
    by_cases e : a = b
    · simp [e, wrap64]
    · simp [e, wrap64])
  obtain ⟨m, hm⟩ : ∃ m, m = (nextL ps n a).length := ⟨_, rfl⟩
  have hml : m ≤ 63 := by rw [hm]; exact nextL_len ps n a
  have HH := hid H
  have Hm := hid hm
  rw [← hm] at HN HE
  clear hx hp hh hc H hE hm
  cases d
  · go_enter Try.func61, Try.ntmps61
    go_wp2_with fail
    refine HN.out.mono ?_
    rintro e w1 ⟨g, c, rfl, hR⟩
    obtain ⟨hgb, av, cv, hve, hs⟩ := ownsRow_slI hR.1
    injection hve with hve1 hve2 hve3
    clear hve2 hve3
    subst hve1
    have HS := hid hs
    have HB1 := hid hR.2
    clear hR hs hgb
    go_wp2_with fail
    go_loopw [7, 9] (fun t i wr => ∃ k : Nat, k ≤ m ∧ i = .int .i64 k ∧ t = .int .i64 (wrap64 (gwPart ps n b a k)) ∧ Below w1.heap.size w1 wr) (fun _ i _ => m - (intOf i).toNat)
    case atStart => exact ⟨0, Nat.zero_le _, rfl, by rw [← hst.out]; rfl, Below.refl _ _⟩
    case round =>
      obtain ⟨k, hk, rfl, rfl, hB⟩ := hrel
      by_cases hlt : k < m
      · obtain ⟨y, hy⟩ : ∃ y, y = (nextL ps n a)[k]?.getD 0 := ⟨_, rfl⟩
        obtain ⟨hgb, hcell⟩ : g < w1.heap.size ∧ wr.cell? ⟨g, k, none⟩ = some (.int .i64 y) := by
          rw [show k = 0 + k by omega]
          rcases HS.out with h | ⟨b', o', hb', e', h'⟩
          · have := Hm.out; rw [h] at this; simp at this; omega
          · injection e' with e'
            injection e' with e1 e2
            subst e1
            subst e2
            have h2 := h' k (by have := Hm.out; omega)
            rw [← hy] at h2
            exact ⟨hb', (hB.cell (p := ⟨g, 0 + k, none⟩) hb').trans h2⟩
        have hym : y ∈ nextL ps n a := by rw [hy]; exact getD_mem (by have := Hm.out; omega)
        have HC := hid (HH.out y hym wr (HB1.out.trans (hB.mono HB1.out.size)))
        have hsum : Hid (wrap64 (wrap64 (gwPart ps n b a k) + wrap64 (gw ps n b y)) = wrap64 (gwPart ps n b a (k + 1))) := hid (by rw [wrap64_add, gwPart_succ (by have := Hm.out; omega), ← hy])
        have hi0 : (0 : Int) ≤ (k : Int) := by omega
        have hi1 : (k : Int) < (m : Int) := by omega
        have HB := hid hB
        clear hy hym hB
        go_wp2_with fail
        refine HC.out.mono ?_
        rintro e w2 ⟨rfl, hB2⟩
        have HB2 := hid (HB.out.trans (hB2.mono HB.out.size))
        clear hB2
        go_wp2_with fail
        go_roundw
        case rel => exact ⟨k + 1, by omega, by go_num, by first | exact congrArg (Value.int .i64) hsum.out | (rw [← hsum.out]; done), HB2.out⟩
        case measure => simp [intOf]; omega
      · obtain rfl : k = m := by omega
        go_wp2_with fail
        go_ret
        exact ⟨ret_int (by rw [HE.out]), HB1.out.trans (hB.mono HB1.out.size)⟩
  · go_enter Try.func61, Try.ntmps61
    go_wp2_with fail
    refine HN.out.mono ?_
    rintro e w1 ⟨g, c, rfl, hR⟩
    obtain ⟨hgb, av, cv, hve, hs⟩ := ownsRow_slI hR.1
    injection hve with hve1 hve2 hve3
    clear hve2 hve3
    subst hve1
    have HS := hid hs
    have HB1 := hid hR.2
    clear hR hs hgb
    go_wp2_with fail
    go_loopw [7, 9] (fun t i wr => ∃ k : Nat, k ≤ m ∧ i = .int .i64 k ∧ t = .int .i64 (wrap64 (gwPart ps n b a k)) ∧ Below w1.heap.size w1 wr) (fun _ i _ => m - (intOf i).toNat)
    case atStart => exact ⟨0, Nat.zero_le _, rfl, by rw [← hst.out]; rfl, Below.refl _ _⟩
    case round =>
      obtain ⟨k, hk, rfl, rfl, hB⟩ := hrel
      by_cases hlt : k < m
      · obtain ⟨y, hy⟩ : ∃ y, y = (nextL ps n a)[k]?.getD 0 := ⟨_, rfl⟩
        obtain ⟨hgb, hcell⟩ : g < w1.heap.size ∧ wr.cell? ⟨g, k, none⟩ = some (.int .i64 y) := by
          rw [show k = 0 + k by omega]
          rcases HS.out with h | ⟨b', o', hb', e', h'⟩
          · have := Hm.out; rw [h] at this; simp at this; omega
          · injection e' with e'
            injection e' with e1 e2
            subst e1
            subst e2
            have h2 := h' k (by have := Hm.out; omega)
            rw [← hy] at h2
            exact ⟨hb', (hB.cell (p := ⟨g, 0 + k, none⟩) hb').trans h2⟩
        have hym : y ∈ nextL ps n a := by rw [hy]; exact getD_mem (by have := Hm.out; omega)
        have HC := hid (HH.out y hym wr (HB1.out.trans (hB.mono HB1.out.size)))
        have hsum : Hid (wrap64 (wrap64 (gwPart ps n b a k) + wrap64 (gw ps n b y)) = wrap64 (gwPart ps n b a (k + 1))) := hid (by rw [wrap64_add, gwPart_succ (by have := Hm.out; omega), ← hy])
        have hi0 : (0 : Int) ≤ (k : Int) := by omega
        have hi1 : (k : Int) < (m : Int) := by omega
        have HB := hid hB
        clear hy hym hB
        go_wp2_with fail
        refine HC.out.mono ?_
        rintro e w2 ⟨rfl, hB2⟩
        have HB2 := hid (HB.out.trans (hB2.mono HB.out.size))
        clear hB2
        go_wp2_with fail
        go_roundw
        case rel => exact ⟨k + 1, by omega, by go_num, by first | exact congrArg (Value.int .i64) hsum.out | (rw [← hsum.out]; done), HB2.out⟩
        case measure => simp [intOf]; omega
      · obtain rfl : k = m := by omega
        go_wp2_with fail
        go_ret
        exact ⟨ret_int (by rw [HE.out]), HB1.out.trans (hB.mono HB1.out.size)⟩

theorem ways_upto (a1 : Option Addr) (n cap : Nat) (ps : List Int) (b : Int) (hp : ps.length = 2 * n) (hl : n ≤ 1048576) (hh : HighsB ps n) (hc : NoCycle ps n) : ∀ (m : Nat) (a : Int) (w : World), SlI w w.heap.size a1 ps → (∀ i, i < n → at0 ps (i * 2) = a → rkP ps n i < m) →
    Calls Try.prog 61 #[.slice a1 n cap, .int .i64 a, .int .i64 b] w fun e w' => e = .returned (.int .i64 (wrap64 (gw ps n b a))) ∧ Below w.heap.size w w'
  | 0, a, w, hx, hr => ways_round a1 n cap ps b a w hx hp hl hh hc (fun y hy => by
    obtain ⟨i, hi, e⟩ := next_low hy
    exact absurd (hr i hi e) (Nat.not_lt_zero _))
  | m + 1, a, w, hx, hr => ways_round a1 n cap ps b a w hx hp hl hh hc (fun y hy w' hb => ways_upto a1 n cap ps b hp hl hh hc m y w' (hx.later hb hb.size) (fun j hj e => by
    obtain ⟨i, hi, e2⟩ := next_low hy
    have h1 := hr i hi e2
    have h2 := rkP_lt hc hj (show StepP ps n i j by unfold StepP; rw [e, e2]; exact hy)
    omega))
/-- The model's number of ways. -/
theorem ways_any (a1 : Option Addr) (n cap : Nat) (ps : List Int) (b a : Int) (w : World) (hx : SlI w w.heap.size a1 ps) (hp : ps.length = 2 * n) (hl : n ≤ 1048576) (hh : HighsB ps n) (hc : NoCycle ps n) :
    Calls Try.prog 61 #[.slice a1 n cap, .int .i64 a, .int .i64 b] w fun e w' => e = .returned (.int .i64 (wrap64 (gw ps n b a))) ∧ Below w.heap.size w w' :=
  ways_upto a1 n cap ps b hp hl hh hc (n + 1) a w hx (fun i _ _ => by have := rkP_le ps n i; omega)

end Go.Proofs.Ytgefpllmelpahaa

/-! IsAcyclicPairing, the model's door. -/
namespace Go.Proofs.Ytgefpllmelpahaa
open Go.RowKit

noncomputable def isAcyclicR (V : Int) (fs : List Int) (n : Nat) (ps : List Int) : Bool × Int := if pcodeR V fs n ps = 0 then (acyB ps n, 0) else (false, pcodeR V fs n ps)
theorem okTo_lows {V : Int} {fs ps : List Int} {n : Nat} (hC : IsC V fs) (h : OkTo fs ps n) : ∀ i, i < n → 0 ≤ at0 ps (i * 2) ∧ at0 ps (i * 2) < 64 := by
  intro i hi
  have hp := (h i hi).1
  unfold pairB at hp
  simp at hp
  have := hC.range63 _ hp.1.1.1
  omega
theorem bool_mono2 {fn : FuncId} {args : Array Value} {w : World} {B : Nat} {P : Program} {R : Bool × Int} {b : Bool} {c : Int} (hR : R = (b, c))
    (h : Calls P fn args w fun e w' => e = .returned (.tuple #[.bool b, .int .i64 c]) ∧ Below B w w') :
    Calls P fn args w fun e w' => e = .returned (.tuple #[.bool R.1, .int .i64 R.2]) ∧ Below B w w' := by
  subst hR
  exact h


end Go.Proofs.Ytgefpllmelpahaa

/-! CountGradientWays: the model's doors. -/
namespace Go.Proofs.Ytgefpllmelpahaa
open Go.RowKit

noncomputable def code2R (V : Int) (fs : List Int) (n : Nat) (ps : List Int) (a b : Int) : Int := if pcodeR V fs n ps = 0 then (if a ∈ fs ∧ b ∈ fs then 0 else 2) else pcodeR V fs n ps
noncomputable def countWaysR (V : Int) (fs : List Int) (n : Nat) (ps : List Int) (a b : Int) : Int × Int := if code2R V fs n ps a b = 0 then (if acyB ps n then (wrap64 (gw ps n b a), 0) else (0, 5)) else (0, code2R V fs n ps a b)

set_option maxRecDepth 1000000 in
set_option maxHeartbeats 2000000 in
theorem code2_spec (V : Int) (a0 : Option Addr) (cap : Nat) (fs : List Int) (a1 : Option Addr) (n cap1 : Nat) (ps : List Int) (a b : Int) (bf : Nat) (w : World) (hx : SlI w w.heap.size a0 fs) (hx1 : SlI w w.heap.size a1 ps) (hl : fs.length ≤ 1048576) (hp : ps.length = 2 * n) (hn : n ≤ 1048576)
    (hbf : bf < w.heap.size) (hcf : w.cell? ⟨bf, 0, none⟩ = some (.int .i64 a)) (hcg : w.cell? ⟨bf, 1, none⟩ = some (.int .i64 b)) :
    Calls Try.prog 48 #[.agg #[.int .i64 V, .slice a0 fs.length cap], .slice a1 n cap1, .slice (some ⟨bf, 0, none⟩) 2 2] w fun e w' => e = .returned (.int .i64 (code2R V fs n ps a b)) ∧ Below w.heap.size w w' := by
  have hB0 : Below w.heap.size w (w.alloc (.cells #[.int .i64 V, .slice a0 fs.length cap] 30)) := (Below.refl _ w).alloc (Nat.le_refl _) _
  have Hx := hid (hx.later hB0 hB0.size)
  have Hx0 := hid hx
  have Hy := hid hx1
  clear hx hx1
  obtain ⟨E, hE⟩ : ∃ E, E = code2R V fs n ps a b := ⟨_, rfl⟩
  rw [← hE]
  rcases pcode_cases V fs n ps with ⟨hC, _, h0, _, h1⟩ | ⟨hC, _, h0, _, h1⟩ | ⟨hC, h0, _⟩
  · have HC := hid hC
    have hE1 : E = if a ∈ fs ∧ b ∈ fs then 0 else 2 := by rw [hE, code2R, if_pos h0]
    clear hC h0 hE
    go_enter Try.func48, Try.ntmps48
    go_wp2_with fail
    refine (is_yes V a0 cap fs _ Hx.out hl HC.out).mono ?_
    rintro e w1 ⟨rfl, hB1⟩
    have HB1 := hid (hB0.trans (hB1.mono (by simp)))
    have k0 : w1.cell? ⟨w.heap.size, 0, none⟩ = some (.int .i64 V) := (hB1.cell (p := ⟨w.heap.size, 0, none⟩) (by simp)).trans (by simp [go_sem])
    have k1 : w1.cell? ⟨w.heap.size, 1, none⟩ = some (.slice a0 fs.length cap) := (hB1.cell (p := ⟨w.heap.size, 1, none⟩) (by simp)).trans (by simp [go_sem])
    have hs1 : w.heap.size < w1.heap.size := by have := hB1.size; simp at this; omega
    have HI := hid (pis_any V a0 cap fs a1 n cap1 ps w1 (Hx0.out.later HB1.out HB1.out.size) (Hy.out.later HB1.out HB1.out.size) hl HC.out.range63 hp hn)
    rw [h1] at HI
    clear hB0 hB1 h1 hp
    go_wp2_with fail
    refine HI.out.mono ?_
    rintro e w2 ⟨rfl, hB2⟩
    have n0 : w2.cell? ⟨w.heap.size, 0, none⟩ = some (.int .i64 V) := (hB2.cell (p := ⟨w.heap.size, 0, none⟩) hs1).trans k0
    have n1 : w2.cell? ⟨w.heap.size, 1, none⟩ = some (.slice a0 fs.length cap) := (hB2.cell (p := ⟨w.heap.size, 1, none⟩) hs1).trans k1
    have HB2 := hid (HB1.out.trans (hB2.mono HB1.out.size))
    have n2 : w2.cell? ⟨bf, 0, none⟩ = some (.int .i64 a) := (HB2.out.cell (p := ⟨bf, 0, none⟩) hbf).trans hcf
    have n3 : w2.cell? ⟨bf, 1, none⟩ = some (.int .i64 b) := (HB2.out.cell (p := ⟨bf, 1, none⟩) hbf).trans hcg
    have hs2 : w.heap.size < w2.heap.size := Nat.lt_of_lt_of_le hs1 hB2.size
    have HB2d : Hid (Below w.heap.size w w2.drew) := hid (HB2.out.trans ⟨rfl, rfl, rfl, Nat.le_refl _, fun _ _ => rfl⟩)
    clear hB2 k0 k1 hcf hcg
    have hbf2 := hbf
    by_cases ha : a ∈ fs
    · have HA := hid (has_yes V a a0 cap fs w2.drew (Hx0.out.later HB2d.out HB2d.out.size) hl ha)
      by_cases hb : b ∈ fs
      · have He : Hid (E = 0) := hid (by rw [hE1, if_pos ⟨ha, hb⟩])
        have HBb := hid (fun w' (h : Below w.heap.size w w') => has_yes V b a0 cap fs w' (Hx0.out.later h h.size) hl hb)
        clear hE1 ha hb
        go_wp2_with fail
        refine wp_loop_rounds 3 ?_
        rw [rounds_succ]
        go_wp2_with fail
        go_region_held3 (fun w' => w'.cell? ⟨w.heap.size, 0, none⟩ = some (.int .i64 V) ∧ w'.cell? ⟨w.heap.size, 1, none⟩ = some (.slice a0 fs.length cap) ∧ w'.cell? ⟨bf, 0, none⟩ = some (.int .i64 a) ∧ w'.cell? ⟨bf, 1, none⟩ = some (.int .i64 b)) (go_keep) (first
          | (go_at_call 72; refine HA.out.mono ?_; rintro e w3 ⟨rfl, hBw3⟩; have mw30 := (hBw3.cell (p := ⟨w.heap.size, 0, none⟩) hs2).trans n0; have mw31 := (hBw3.cell (p := ⟨w.heap.size, 1, none⟩) hs2).trans n1; have mw32 := (hBw3.cell (p := ⟨bf, 0, none⟩) (Nat.lt_trans hbf2 hs2)).trans n2; have mw33 := (hBw3.cell (p := ⟨bf, 1, none⟩) (Nat.lt_trans hbf2 hs2)).trans n3; have HBw3 := hid hBw3; clear hBw3))
        all_goals
          have HB4 := hid (HB2d.out.trans (HBw3.out.mono HB2d.out.size))
          have HA4 := hid (HBb.out w3.drew (HB4.out.trans ⟨rfl, rfl, rfl, Nat.le_refl _, fun _ _ => rfl⟩))
          have HB4d : Hid (Below w.heap.size w w3.drew) := hid (HB4.out.trans ⟨rfl, rfl, rfl, Nat.le_refl _, fun _ _ => rfl⟩)
          have hs3 : w.heap.size < w3.heap.size := Nat.lt_of_lt_of_le hs2 HBw3.out.size
          clear HBw3 HBb HA
          go_wp2_with fail
          rw [rounds_succ]
          go_wp2_with fail
          go_region_held3 (fun w' => w'.cell? ⟨w.heap.size, 0, none⟩ = some (.int .i64 V) ∧ w'.cell? ⟨w.heap.size, 1, none⟩ = some (.slice a0 fs.length cap) ∧ w'.cell? ⟨bf, 0, none⟩ = some (.int .i64 a) ∧ w'.cell? ⟨bf, 1, none⟩ = some (.int .i64 b)) (go_keep) (first
            | (go_at_call 72; refine HA4.out.mono ?_; rintro e w4 ⟨rfl, hBw4⟩; have mw40 := (hBw4.cell (p := ⟨w.heap.size, 0, none⟩) hs3).trans mw30; have mw41 := (hBw4.cell (p := ⟨w.heap.size, 1, none⟩) hs3).trans mw31; have mw42 := (hBw4.cell (p := ⟨bf, 0, none⟩) (Nat.lt_trans hbf2 hs3)).trans mw32; have mw43 := (hBw4.cell (p := ⟨bf, 1, none⟩) (Nat.lt_trans hbf2 hs3)).trans mw33; have HBw4 := hid hBw4; clear hBw4))
          all_goals
            have HB5 := hid (HB4d.out.trans (HBw4.out.mono HB4d.out.size))
            go_wp2_with fail
            rw [rounds_succ]
            go_wp2_with fail
            go_ret
            exact ⟨ret_int (by rw [He.out]), HB5.out⟩
      · have He : Hid (E = 2) := hid (by rw [hE1, if_neg (fun h => hb h.2)])
        have HBb := hid (fun w' (h : Below w.heap.size w w') => has_no V b a0 cap fs w' (Hx0.out.later h h.size) hl hb)
        clear hE1 ha hb
        go_wp2_with fail
        refine wp_loop_rounds 3 ?_
        rw [rounds_succ]
        go_wp2_with fail
        go_region_held3 (fun w' => w'.cell? ⟨w.heap.size, 0, none⟩ = some (.int .i64 V) ∧ w'.cell? ⟨w.heap.size, 1, none⟩ = some (.slice a0 fs.length cap) ∧ w'.cell? ⟨bf, 0, none⟩ = some (.int .i64 a) ∧ w'.cell? ⟨bf, 1, none⟩ = some (.int .i64 b)) (go_keep) (first
          | (go_at_call 72; refine HA.out.mono ?_; rintro e w3 ⟨rfl, hBw3⟩; have mw30 := (hBw3.cell (p := ⟨w.heap.size, 0, none⟩) hs2).trans n0; have mw31 := (hBw3.cell (p := ⟨w.heap.size, 1, none⟩) hs2).trans n1; have mw32 := (hBw3.cell (p := ⟨bf, 0, none⟩) (Nat.lt_trans hbf2 hs2)).trans n2; have mw33 := (hBw3.cell (p := ⟨bf, 1, none⟩) (Nat.lt_trans hbf2 hs2)).trans n3; have HBw3 := hid hBw3; clear hBw3))
        all_goals
          have HB4 := hid (HB2d.out.trans (HBw3.out.mono HB2d.out.size))
          have HA4 := hid (HBb.out w3.drew (HB4.out.trans ⟨rfl, rfl, rfl, Nat.le_refl _, fun _ _ => rfl⟩))
          have HB4d : Hid (Below w.heap.size w w3.drew) := hid (HB4.out.trans ⟨rfl, rfl, rfl, Nat.le_refl _, fun _ _ => rfl⟩)
          have hs3 : w.heap.size < w3.heap.size := Nat.lt_of_lt_of_le hs2 HBw3.out.size
          clear HBw3 HBb HA
          go_wp2_with fail
          rw [rounds_succ]
          go_wp2_with fail
          go_region_held3 (fun w' => w'.cell? ⟨w.heap.size, 0, none⟩ = some (.int .i64 V) ∧ w'.cell? ⟨w.heap.size, 1, none⟩ = some (.slice a0 fs.length cap) ∧ w'.cell? ⟨bf, 0, none⟩ = some (.int .i64 a) ∧ w'.cell? ⟨bf, 1, none⟩ = some (.int .i64 b)) (go_keep) (first
            | (go_at_call 72; refine HA4.out.mono ?_; rintro e w4 ⟨rfl, hBw4⟩; have mw40 := (hBw4.cell (p := ⟨w.heap.size, 0, none⟩) hs3).trans mw30; have mw41 := (hBw4.cell (p := ⟨w.heap.size, 1, none⟩) hs3).trans mw31; have mw42 := (hBw4.cell (p := ⟨bf, 0, none⟩) (Nat.lt_trans hbf2 hs3)).trans mw32; have mw43 := (hBw4.cell (p := ⟨bf, 1, none⟩) (Nat.lt_trans hbf2 hs3)).trans mw33; have HBw4 := hid hBw4; clear hBw4))
          all_goals
            have HB5 := hid (HB4d.out.trans (HBw4.out.mono HB4d.out.size))
            go_wp2_with fail
            go_ret
            exact ⟨ret_int (by rw [He.out]), HB5.out⟩
    · have He : Hid (E = 2) := hid (by rw [hE1, if_neg (fun h => ha h.1)])
      have HA := hid (has_no V a a0 cap fs w2.drew (Hx0.out.later HB2d.out HB2d.out.size) hl ha)
      clear hE1 ha
      go_wp2_with fail
      refine wp_loop_rounds 3 ?_
      rw [rounds_succ]
      go_wp2_with fail
      go_region_held3 (fun w' => w'.cell? ⟨w.heap.size, 0, none⟩ = some (.int .i64 V) ∧ w'.cell? ⟨w.heap.size, 1, none⟩ = some (.slice a0 fs.length cap) ∧ w'.cell? ⟨bf, 0, none⟩ = some (.int .i64 a) ∧ w'.cell? ⟨bf, 1, none⟩ = some (.int .i64 b)) (go_keep) (first
        | (go_at_call 72; refine HA.out.mono ?_; rintro e w3 ⟨rfl, hBw3⟩; have mw30 := (hBw3.cell (p := ⟨w.heap.size, 0, none⟩) hs2).trans n0; have mw31 := (hBw3.cell (p := ⟨w.heap.size, 1, none⟩) hs2).trans n1; have mw32 := (hBw3.cell (p := ⟨bf, 0, none⟩) (Nat.lt_trans hbf2 hs2)).trans n2; have mw33 := (hBw3.cell (p := ⟨bf, 1, none⟩) (Nat.lt_trans hbf2 hs2)).trans n3; have HBw3 := hid hBw3; clear hBw3))
      all_goals
        have HB4 := hid (HB2d.out.trans (HBw3.out.mono HB2d.out.size))
        go_wp2_with fail
        go_ret
        exact ⟨ret_int (by rw [He.out]), HB4.out⟩
  · have He : Hid (E = 2) := hid (by rw [hE, code2R, if_neg (by rw [h0]; decide), h0])
    have HC := hid hC
    clear hC h0 hE
    go_enter Try.func48, Try.ntmps48
    go_wp2_with fail
    refine (is_yes V a0 cap fs _ Hx.out hl HC.out).mono ?_
    rintro e w1 ⟨rfl, hB1⟩
    have HB1 := hid (hB0.trans (hB1.mono (by simp)))
    have k0 : w1.cell? ⟨w.heap.size, 0, none⟩ = some (.int .i64 V) := (hB1.cell (p := ⟨w.heap.size, 0, none⟩) (by simp)).trans (by simp [go_sem])
    have k1 : w1.cell? ⟨w.heap.size, 1, none⟩ = some (.slice a0 fs.length cap) := (hB1.cell (p := ⟨w.heap.size, 1, none⟩) (by simp)).trans (by simp [go_sem])
    have HI := hid (pis_any V a0 cap fs a1 n cap1 ps w1 (Hx0.out.later HB1.out HB1.out.size) (Hy.out.later HB1.out HB1.out.size) hl HC.out.range63 hp hn)
    rw [h1] at HI
    clear hB0 hB1 h1 hp
    go_wp2_with fail
    refine HI.out.mono ?_
    rintro e w2 ⟨rfl, hB2⟩
    go_wp2_with fail
    go_ret
    exact ⟨ret_int (by rw [He.out]), HB1.out.trans (hB2.mono HB1.out.size)⟩
  · have He : Hid (E = 1) := hid (by rw [hE, code2R, if_neg (by rw [h0]; decide), h0])
    clear h0 hE
    go_enter Try.func48, Try.ntmps48
    go_wp2_with fail
    refine (is_no V a0 cap fs _ Hx.out hl hC).mono ?_
    rintro e w1 ⟨rfl, hB1⟩
    go_wp2_with fail
    go_ret
    exact ⟨ret_int (by rw [He.out]), hB0.trans (hB1.mono (by simp))⟩

theorem num_mono3 {fn : FuncId} {args : Array Value} {w : World} {B : Nat} {P : Program} {R : Int × Int} {b c : Int} (hR : R = (b, c))
    (h : Calls P fn args w fun e w' => e = .returned (.tuple #[.int .i64 b, .int .i64 c]) ∧ Below B w w') :
    Calls P fn args w fun e w' => e = .returned (.tuple #[.int .i64 R.1, .int .i64 R.2]) ∧ Below B w w' := by
  rw [hR]; exact h


end Go.Proofs.Ytgefpllmelpahaa

/-! Loops over iterators that keep cells of their own: boxed variables, and loops within a round. -/
namespace Go.Proofs.Ytgefpllmelpahaa
open Go.RowKit Go.Shelf

attribute [local go_sem] Oper.semAt_some

/-- A loop over such an iterator whose variable is boxed; the body is told of its own record. -/
theorem wpIn_rangeFunc_PH {α : Type} {F : Fence} {n : Nat} {P : Program} {w : World} {g : Operand} {ps : Array Tmp} {assign body : Code} {Q : Exit → Act → World → Prop} {a : Act}
    (hro : F.round = none) (h1 : 1 ≤ n) {gf : Nat} {lb : Array Value} (hg : a.eval g = .func (.func gf) #[] lb) (hFg : F.fn gf) (eg : ∀ args w, (callFunc gf args).run P w = .ok (.enter gf args) w)
    {encs : α → Array Value} {Bs : List Nat} {k : Nat} {L : List α} {w0 : World} (hseq : SeqStopsP F (n - 1) P gf lb encs Bs k L w0) (hBs : ∀ b ∈ Bs, b < w.heap.size)
    (hb0 : Below w0.heap.size w0 w) (hps : ∀ x, (encs x).size = ps.size)
    (I : List α → World → Prop) (Ix : Code → List α → World → Prop) (hI : OwnIn w.heap.size (2 + k) I) (hIx : ∀ c, OwnIn w.heap.size (2 + k) (Ix c)) (h0 : I [] w) (ob : α → Obj) (a₁ : α → Nat → Act)
    (hassign : ∀ (l : Nat) (x : α) (W : World) (K : Act → World → Prop), K (a₁ x W.heap.size) (W.alloc (ob x)) →
      assign.wpIn (F.inRound l) (n - 1 - 1) P (Exit.then K (fun _ _ _ => False)) { tmps := (ps.zip (encs x)).foldl (fun t (p, v) => t.setIfInBounds p v) a.tmps, defers := [] } W)
    (hbody : ∀ (pre : List α) (x : α) (bx : Nat) (W : World), pre ++ [x] <+: L → w.heap.size + (2 + k) ≤ bx → W.heap.size = bx + 1 → W.heap[bx]? = some (ob x) → (∃ r, W.heap[w.heap.size + 1]? = some (.loop r)) → I pre W → body.wpIn (F.inRound (w.heap.size + 1)) (n - 1 - 1) P (postP Bs w.heap.size (2 + k) I Ix (pre ++ [x]) W) (a₁ x bx) W)
    (hdone : ∀ (W : World), I L W → W.heap[w.heap.size]? = some (.deferred (some [])) → Q .normal { a with defers := { target := .collected w.heap.size, args := #[] } :: a.defers } W)
    (hstop : ∀ (c : Code) (pre : List α) (W : World), pre <+: L → Ix c pre W → W.heap[w.heap.size]? = some (.deferred (some [])) → c.wpIn F n P Q { a with defers := { target := .collected w.heap.size, args := #[] } :: a.defers } W) :
    (Code.rangeFunc g ps assign body).wpIn F n P Q a w := by
  refine wpIn_rangeFunc ?_
  intro fn hfn
  rw [hro]
  let rec_ : LoopState → Option Code → Loop := fun st pe => { state := st, pending := pe, fn, tmps := a.tmps, params := ps, assign, body, defers := w.heap.size }
  obtain ⟨rec, hrec⟩ : ∃ rec, rec = rec_ := ⟨_, rfl⟩
  obtain ⟨W1, hW1⟩ : ∃ W1, (w.alloc (.deferred (some []))).alloc (.loop (rec .ready none)) = W1 := ⟨_, rfl⟩
  have hs1 : W1.heap.size = w.heap.size + 2 := by rw [← hW1]; simp
  have hL1 : W1.heap[w.heap.size + 1]? = some (.loop (rec .ready none)) := by
    rw [← hW1]; have := World.alloc_heap_new (w.alloc (.deferred (some []))) (.loop (rec .ready none)); rwa [World.size_alloc] at this
  have hK1 : W1.heap[w.heap.size]? = some (.deferred (some [])) := by
    rw [← hW1]; exact (Below.heap_alloc _ _ _ (by simp)).trans (World.alloc_heap_new w _)
  have hI1 : I [] W1 := by rw [← hW1]; exact hI.alloc _ (hI.alloc _ h0)
  have hb1 : Below w0.heap.size w0 W1 := by
    rw [← hW1]; exact hb0.trans ((((Below.refl _ w).alloc (Nat.le_refl _) _).alloc (by simp) _).mono hb0.size)
  have hIk : ∀ {I' : List α → World → Prop}, OwnIn w.heap.size (2 + k) I' → OwnIn W1.heap.size k I' := fun h => h.less (by omega) (by omega)
  refine ⟨w.heap.size + 1, [{ target := .collected w.heap.size, args := #[] }], W1, { target := .fn (.func gf) lb, args := #[.func (.yield (w.heap.size + 1)) #[] #[]] }, W1, gf,
    #[.func (.yield (w.heap.size + 1)) #[] #[]] ++ lb, W1, ?_, ?_, ?_, ?_, fun _ => h1, ?_⟩
  · rw [← hW1, hrec]; exact run_enterLoop_outer _ _ _ _ _
  · simp only [resolve, hg]
    simp [go_sem]
  · intro f' hf'; simp [Target.leads] at hf'; subst hf'; exact hFg
  · simp [invoke, go_sem, eg]
  · have hrow : ∀ {A B : World} {row : Option Nat} {b : Nat} {o : Obj}, A.grownBy B row → (∀ r, row = some r → W1.heap.size ≤ r ∧ (r < W1.heap.size + k ∨ ∃ o : Obj, A.heap[r]? = some o ∧ o.isCells = false)) → b < W1.heap.size → A.heap[b]? = some o → B.heap[b]? = some o :=
      fun hg' hr hb ho => (hg'.block _ (Array.getElem?_eq_some_iff.1 ho).1 (fun e => by have := (hr _ e.symm).1; omega)).trans ho
    refine (hseq (w.heap.size + 1)
      (fun pre W => I pre W ∧ W.heap[w.heap.size + 1]? = some (.loop (rec .ready none)) ∧ W.heap[w.heap.size]? = some (.deferred (some [])))
      (fun pre W => ∃ c, Ix c pre W ∧ W.heap[w.heap.size + 1]? = some (.loop (rec .done (some c))) ∧ W.heap[w.heap.size]? = some (.deferred (some [])))
      W1 hb1
      (fun s A B row hs hg' hr => ⟨hIk hI s A B row hs.1 hg' hr, hrow hg' hr (by omega) hs.2.1, hrow hg' hr (by omega) hs.2.2⟩)
      (fun s A B row hs hg' hr => by
        obtain ⟨c, hc, hl, hk⟩ := hs
        exact ⟨c, hIk (hIx c) s A B row hc hg' hr, hrow hg' hr (by omega) hl, hrow hg' hr (by omega) hk⟩)
      ?_ ⟨hI1, hL1, hK1⟩).mono ?_
    · rintro pre x W hpre hsk ⟨hi, hl, hk⟩
      have hlt : w.heap.size + 1 < W.heap.size := (Array.getElem?_eq_some_iff.1 hl).1
      have hy := run_yield (P := P) (args := encs x) hl (by rw [hrec]; exact hps x)
      rw [hrec] at hy
      refine ⟨fn, _, assign, body, hy, roundIn_of_wpIn hfn (hassign _ x W _ ?_)⟩
      clear hy
      obtain ⟨Wa, hWa⟩ : ∃ Wa, Wa = W.alloc (ob x) := ⟨_, rfl⟩
      have hsa : Wa.heap.size = W.heap.size + 1 := by rw [hWa]; simp
      have hla : Wa.heap[w.heap.size + 1]? = some (.loop (rec .ready none)) := by rw [hWa]; exact (Below.heap_alloc _ _ _ hlt).trans hl
      have hka : Wa.heap[w.heap.size]? = some (.deferred (some [])) := by rw [hWa]; exact (Below.heap_alloc _ _ _ (by omega)).trans hk
      have hia : I pre Wa := by rw [hWa]; exact hI.alloc _ hi
      have hoa : Wa.heap[W.heap.size]? = some (ob x) := by rw [hWa]; exact World.alloc_heap_new _ _
      have hkpa : KeepP Bs W1.heap.size k W Wa := by
        rw [hWa]
        refine ⟨by simp, fun r hr => Below.heap_alloc _ _ _ ?_⟩
        rcases hr with h | h
        · have := hBs r h; omega
        · omega
      rw [← hWa]
      refine ⟨_, run_beginRound hla (by rw [hrec]), ?_⟩
      obtain ⟨W2, hW2⟩ : ∃ W2, W2 = Wa.putObj (w.heap.size + 1) (.loop { rec .ready none with state := .busy }) := ⟨_, rfl⟩
      have hl2 : W2.heap[w.heap.size + 1]? = some (.loop { rec .ready none with state := .busy }) := by rw [hW2]; exact World.putObj_heap_same (by omega)
      have hk2 : W2.heap[w.heap.size]? = some (.deferred (some [])) := by rw [hW2]; exact (World.putObj_heap_other (by omega)).trans hka
      have ho2 : W2.heap[W.heap.size]? = some (ob x) := by rw [hW2]; exact (World.putObj_heap_other (by omega)).trans hoa
      have hi2 : I pre W2 := by rw [hW2]; exact hI.putObj _ hia (by omega) (by omega)
      have hkp : ∀ {X Y : World} {o : Obj}, X = Y.putObj (w.heap.size + 1) o → KeepP Bs W1.heap.size k Y X := fun e => ⟨by rw [e, World.putObj_size]; exact Nat.le_refl _, fun r hr => by
        rw [e]
        refine World.putObj_heap_other ?_
        rcases hr with h | h
        · have := hBs r h; omega
        · omega⟩
      refine wpIn_mono (hbody pre x W.heap.size _ hpre (by omega) (by rw [World.putObj_size]; exact hsa) (by rw [← hW2]; exact ho2) ⟨_, by rw [← hW2]; exact hl2⟩ (by rw [← hW2]; exact hi2)) ?_
      rw [← hW2]
      have fin : ∀ (jump : Option Code) (W3 : World), KeepP Bs w.heap.size (2 + k) W2 W3 →
          (Instr.endRound (w.heap.size + 1) jump).run P W3 = .ok (.bool jump.isNone) (W3.putObj (w.heap.size + 1) (.loop (rec (if jump.isNone then .ready else .done) jump))) ∧
          (W3.putObj (w.heap.size + 1) (.loop (rec (if jump.isNone then .ready else .done) jump))).heap[w.heap.size + 1]? = some (.loop (rec (if jump.isNone then .ready else .done) jump)) ∧
          (W3.putObj (w.heap.size + 1) (.loop (rec (if jump.isNone then .ready else .done) jump))).heap[w.heap.size]? = some (.deferred (some [])) ∧
          KeepP Bs W1.heap.size k W (W3.putObj (w.heap.size + 1) (.loop (rec (if jump.isNone then .ready else .done) jump))) := fun jump W3 hk3 => by
        have hl3 := (hk3.same (w.heap.size + 1) (.inr ⟨by omega, by omega⟩)).trans hl2
        have hd3 := (hk3.same w.heap.size (.inr ⟨by omega, by omega⟩)).trans hk2
        have := run_endRound (P := P) jump hl3
        rw [hrec] at this ⊢
        exact ⟨this, World.putObj_heap_same (Array.getElem?_eq_some_iff.1 hl3).1, (World.putObj_heap_other (by omega)).trans hd3,
          hkpa.trans ((hkp hW2).trans ((hk3.less (fun b hb => .inl hb) (by omega) (by omega)).trans (hkp rfl)))⟩
      rintro e a3 W3 hp
      cases e with
      | normal =>
        obtain ⟨hr, hl4, hk4, hkk⟩ := fin none W3 hp.1
        exact ⟨_, _, hr, hkk, .inl ⟨rfl, hI.putObj _ hp.2 (by omega) (by omega), hl4, hk4⟩⟩
      | ret =>
        obtain ⟨hr, hl4, hk4, hkk⟩ := fin (some .ret) W3 hp.1
        exact ⟨_, _, hr, hkk, .inr ⟨rfl, .ret, (hIx _).putObj _ hp.2 (by omega) (by omega), hl4, hk4⟩⟩
      | exit id =>
        obtain ⟨hr, hl4, hk4, hkk⟩ := fin (some (.exit id)) W3 hp.1
        exact ⟨_, _, hr, hkk, .inr ⟨rfl, .exit id, (hIx _).putObj _ hp.2 (by omega) (by omega), hl4, hk4⟩⟩
      | goto t =>
        obtain ⟨hr, hl4, hk4, hkk⟩ := fin (some (.goto t)) W3 hp.1
        exact ⟨_, _, hr, hkk, .inr ⟨rfl, .goto t, (hIx _).putObj _ hp.2 (by omega) (by omega), hl4, hk4⟩⟩
      | panic ch => exact hp.elim
      | outgrown => exact hp.elim
    · rintro e W2 ⟨⟨v, rfl⟩, (⟨hi, hl, hk⟩ | ⟨pre, hSp, c, hi, hl, hk⟩)⟩
      · exact ⟨none, _, by have := run_endLoop (P := P) hl (by rw [hrec]; simp [rec_]); rw [hrec] at this; exact this, hdone _ (hI.putObj _ hi (by omega) (by omega)) ((World.putObj_heap_other (by omega)).trans hk)⟩
      · exact ⟨some c, _, by have := run_endLoop (P := P) hl (by rw [hrec]; simp [rec_]); rw [hrec] at this; exact this, hstop c pre _ hSp ((hIx c).putObj _ hi (by omega) (by omega)) ((World.putObj_heap_other (by omega)).trans hk)⟩


/-- A loop over such an iterator within a round of loop l₀. -/
theorem wpIn_rangeFunc_PN {α : Type} {F : Fence} {n : Nat} {P : Program} {w : World} {g : Operand} {ps : Array Tmp} {assign body : Code} {Q : Exit → Act → World → Prop} {a : Act}
    {l₀ : Nat} {r₀ : Loop} (hro : F.round = some l₀) (hl₀ : w.heap[l₀]? = some (.loop r₀)) (h1 : 1 ≤ n) {gf : Nat} {lb : Array Value} (hg : a.eval g = .func (.func gf) #[] lb) (hFg : F.fn gf) (eg : ∀ args w, (callFunc gf args).run P w = .ok (.enter gf args) w)
    {encs : α → Array Value} {Bs : List Nat} {k : Nat} {L : List α} {w0 : World} (hseq : SeqStopsP F (n - 1) P gf lb encs Bs k L w0) (hBs : ∀ b ∈ Bs, b < w.heap.size)
    (hb0 : Below w0.heap.size w0 w) (hps : ∀ x, (encs x).size = ps.size)
    (I : List α → World → Prop) (Ix : Code → List α → World → Prop) (hI : OwnIn w.heap.size (1 + k) I) (hIx : ∀ c, OwnIn w.heap.size (1 + k) (Ix c)) (h0 : I [] w) (a₁ : α → Act)
    (hassign : ∀ (l : Nat) (x : α) (W : World) (K : Act → World → Prop), K (a₁ x) W →
      assign.wpIn (F.inRound l) (n - 1 - 1) P (Exit.then K (fun _ _ _ => False)) { tmps := (ps.zip (encs x)).foldl (fun t (p, v) => t.setIfInBounds p v) a.tmps, defers := [] } W)
    (hbody : ∀ (l : Nat) (pre : List α) (x : α) (W : World), pre ++ [x] <+: L → w.heap.size + (1 + k) ≤ W.heap.size → I pre W → body.wpIn (F.inRound l) (n - 1 - 1) P (postP Bs w.heap.size (1 + k) I Ix (pre ++ [x]) W) (a₁ x) W)
    (hdone : ∀ (W : World), I L W → Q .normal a W)
    (hstop : ∀ (c : Code) (pre : List α) (W : World), pre <+: L → Ix c pre W → c.wpIn F n P Q a W) :
    (Code.rangeFunc g ps assign body).wpIn F n P Q a w := by
  refine wpIn_rangeFunc ?_
  intro fn hfn
  rw [hro]
  let rec_ : LoopState → Option Code → Loop := fun st pe => { state := st, pending := pe, fn, tmps := a.tmps, params := ps, assign, body, defers := r₀.defers }
  obtain ⟨rec, hrec⟩ : ∃ rec, rec = rec_ := ⟨_, rfl⟩
  obtain ⟨W1, hW1⟩ : ∃ W1, w.alloc (.loop (rec .ready none)) = W1 := ⟨_, rfl⟩
  have hs1 : W1.heap.size = w.heap.size + 1 := by rw [← hW1]; simp
  have hL1 : W1.heap[w.heap.size]? = some (.loop (rec .ready none)) := by rw [← hW1]; exact World.alloc_heap_new w _
  have hI1 : I [] W1 := by rw [← hW1]; exact hI.alloc _ h0
  have hb1 : Below w0.heap.size w0 W1 := by
    rw [← hW1]; exact hb0.trans (((Below.refl _ w).alloc (Nat.le_refl _) _).mono hb0.size)
  have hIk : ∀ {I' : List α → World → Prop}, OwnIn w.heap.size (1 + k) I' → OwnIn W1.heap.size k I' := fun h => h.less (by omega) (by omega)
  refine ⟨w.heap.size, [], W1, { target := .fn (.func gf) lb, args := #[.func (.yield (w.heap.size)) #[] #[]] }, W1, gf,
    #[.func (.yield (w.heap.size)) #[] #[]] ++ lb, W1, ?_, ?_, ?_, ?_, fun _ => h1, ?_⟩
  · rw [← hW1, hrec]; exact run_enterLoop_inner hl₀ _ _ _ _ _
  · simp only [resolve, hg]
    simp [go_sem]
  · intro f' hf'; simp [Target.leads] at hf'; subst hf'; exact hFg
  · simp [invoke, go_sem, eg]
  · have hrow : ∀ {A B : World} {row : Option Nat} {b : Nat} {o : Obj}, A.grownBy B row → (∀ r, row = some r → W1.heap.size ≤ r ∧ (r < W1.heap.size + k ∨ ∃ o : Obj, A.heap[r]? = some o ∧ o.isCells = false)) → b < W1.heap.size → A.heap[b]? = some o → B.heap[b]? = some o :=
      fun hg' hr hb ho => (hg'.block _ (Array.getElem?_eq_some_iff.1 ho).1 (fun e => by have := (hr _ e.symm).1; omega)).trans ho
    refine (hseq (w.heap.size)
      (fun pre W => I pre W ∧ W.heap[w.heap.size]? = some (.loop (rec .ready none)))
      (fun pre W => ∃ c, Ix c pre W ∧ W.heap[w.heap.size]? = some (.loop (rec .done (some c))))
      W1 hb1
      (fun s A B row hs hg' hr => ⟨hIk hI s A B row hs.1 hg' hr, hrow hg' hr (by omega) hs.2⟩)
      (fun s A B row hs hg' hr => by
        obtain ⟨c, hc, hl⟩ := hs
        exact ⟨c, hIk (hIx c) s A B row hc hg' hr, hrow hg' hr (by omega) hl⟩)
      ?_ ⟨hI1, hL1⟩).mono ?_
    · rintro pre x W hpre hsk ⟨hi, hl⟩
      have hlt : w.heap.size < W.heap.size := (Array.getElem?_eq_some_iff.1 hl).1
      have hy := run_yield (P := P) (args := encs x) hl (by rw [hrec]; exact hps x)
      rw [hrec] at hy
      refine ⟨fn, _, assign, body, hy, roundIn_of_wpIn hfn (hassign _ x W _ ?_)⟩
      clear hy
      refine ⟨_, run_beginRound hl (by rw [hrec]), ?_⟩
      obtain ⟨W2, hW2⟩ : ∃ W2, W2 = W.putObj (w.heap.size) (.loop { rec .ready none with state := .busy }) := ⟨_, rfl⟩
      have hl2 : W2.heap[w.heap.size]? = some (.loop { rec .ready none with state := .busy }) := by rw [hW2]; exact World.putObj_heap_same hlt
      have hi2 : I pre W2 := by rw [hW2]; exact hI.putObj _ hi (by omega) (by omega)
      have hkp : ∀ {X Y : World} {o : Obj}, X = Y.putObj (w.heap.size) o → KeepP Bs W1.heap.size k Y X := fun e => ⟨by rw [e, World.putObj_size]; exact Nat.le_refl _, fun r hr => by
        rw [e]
        refine World.putObj_heap_other ?_
        rcases hr with h | h
        · have := hBs r h; omega
        · omega⟩
      refine wpIn_mono (hbody _ pre x _ hpre (by rw [World.putObj_size]; omega) (by rw [← hW2]; exact hi2)) ?_
      rw [← hW2]
      have fin : ∀ (jump : Option Code) (W3 : World), KeepP Bs w.heap.size (1 + k) W2 W3 →
          (Instr.endRound (w.heap.size) jump).run P W3 = .ok (.bool jump.isNone) (W3.putObj (w.heap.size) (.loop (rec (if jump.isNone then .ready else .done) jump))) ∧
          (W3.putObj (w.heap.size) (.loop (rec (if jump.isNone then .ready else .done) jump))).heap[w.heap.size]? = some (.loop (rec (if jump.isNone then .ready else .done) jump)) ∧
          KeepP Bs W1.heap.size k W (W3.putObj (w.heap.size) (.loop (rec (if jump.isNone then .ready else .done) jump))) := fun jump W3 hk3 => by
        have hl3 := (hk3.same (w.heap.size) (.inr ⟨by omega, by omega⟩)).trans hl2
        have := run_endRound (P := P) jump hl3
        rw [hrec] at this ⊢
        exact ⟨this, World.putObj_heap_same (Array.getElem?_eq_some_iff.1 hl3).1,
          (hkp hW2).trans ((hk3.less (fun b hb => .inl hb) (by omega) (by omega)).trans (hkp rfl))⟩
      rintro e a3 W3 hp
      cases e with
      | normal =>
        obtain ⟨hr, hl4, hkk⟩ := fin none W3 hp.1
        exact ⟨_, _, hr, hkk, .inl ⟨rfl, hI.putObj _ hp.2 (by omega) (by omega), hl4⟩⟩
      | ret =>
        obtain ⟨hr, hl4, hkk⟩ := fin (some .ret) W3 hp.1
        exact ⟨_, _, hr, hkk, .inr ⟨rfl, .ret, (hIx _).putObj _ hp.2 (by omega) (by omega), hl4⟩⟩
      | exit id =>
        obtain ⟨hr, hl4, hkk⟩ := fin (some (.exit id)) W3 hp.1
        exact ⟨_, _, hr, hkk, .inr ⟨rfl, .exit id, (hIx _).putObj _ hp.2 (by omega) (by omega), hl4⟩⟩
      | goto t =>
        obtain ⟨hr, hl4, hkk⟩ := fin (some (.goto t)) W3 hp.1
        exact ⟨_, _, hr, hkk, .inr ⟨rfl, .goto t, (hIx _).putObj _ hp.2 (by omega) (by omega), hl4⟩⟩
      | panic ch => exact hp.elim
      | outgrown => exact hp.elim
    · rintro e W2 ⟨⟨v, rfl⟩, (⟨hi, hl⟩ | ⟨pre, hSp, c, hi, hl⟩)⟩
      · exact ⟨none, _, by have := run_endLoop (P := P) hl (by rw [hrec]; simp [rec_]); rw [hrec] at this; exact this, hdone _ (hI.putObj _ hi (by omega) (by omega))⟩
      · exact ⟨some c, _, by have := run_endLoop (P := P) hl (by rw [hrec]; simp [rec_]); rw [hrec] at this; exact this, hstop c pre _ hSp ((hIx c).putObj _ hi (by omega) (by omega))⟩


end Go.Proofs.Ytgefpllmelpahaa

/-! slices.Backward over a list of pairs. -/
namespace Go.Proofs.Ytgefpllmelpahaa
open Go.RowKit Go.Shelf

attribute [local go_sem] Oper.semAt_some

set_option maxHeartbeats 1000000 in
/-- Its argument is boxed; the function value captures the box. -/
theorem backward_in (n : Nat) (a : Option Addr) (m cap : Nat) (w : World) :
    CallsIn Fence.wide n Try.prog 140 #[.slice a m cap] w fun e w' => e = .returned (.func (.func 210) #[] #[.pointer (some ⟨w.heap.size, 0, none⟩)]) ∧ w' = w.alloc (.cells #[.slice a m cap] 32) := by
  refine callsIn_of_wp Try.func140 rfl trivial ?_ rfl
  simp only [Try.ntmps140, List.size_toArray, List.length_cons, List.length_nil, Nat.reduceAdd, Nat.reduceSub, Array.replicate_succ, Array.replicate_zero, List.push_toArray, List.append_toArray, List.nil_append, List.cons_append]
  gi_wp2
  go_ret
  exact ⟨rfl, rfl⟩

theorem cell_same {W W' : World} {b o : Nat} (h : W'.heap[b]? = W.heap[b]?) : W'.cell? ⟨b, o, none⟩ = W.cell? ⟨b, o, none⟩ := by
  unfold World.cell?
  simp only [h]

/-- The numbers of the pairs, from the last one to the first. -/
def downL (n : Nat) : List Nat := (List.range n).reverse
theorem downL_take {n k : Nat} (hk : k < n) : (downL n).take (k + 1) = (downL n).take k ++ [n - 1 - k] := by
  unfold downL
  rw [List.take_add_one, List.getElem?_reverse (by simpa using hk)]
  simp [List.getElem?_range (show n - 1 - k < n by omega)]
theorem downL_len (n : Nat) : (downL n).length = n := by simp [downL]

set_option maxRecDepth 100000 in
set_option maxHeartbeats 2000000 in
theorem backward_P (m : Nat) (hm : 1 ≤ m) (B0 b off n cap : Nat) (a : Option Addr) (qs : List Int) (w : World)
    (hc : w.heap[B0]? = some (.cells #[.slice a n cap] 32 (0, 0))) (hb : b < w.heap.size) (hn : n ≤ 1048576)
    (ha : n = 0 ∨ (a = some ⟨b, off, none⟩ ∧ ∀ i, i < 2 * n → w.cell? ⟨b, off + i, none⟩ = some (.int .i64 (at0 qs i)))) :
    SeqStopsP Fence.wide m Try.prog 210 #[.pointer (some ⟨B0, 0, none⟩)] (fun i : Nat => #[Value.int .i64 (i : Int), .agg #[.int .i64 (at0 qs (i * 2)), .int .i64 (at0 qs (i * 2 + 1))]]) [B0, b] 0 (downL n) w := by
  intro l J Jx W hW hJ hJx hY h0
  have hcW := (hW.block B0 (lt_of_get hc)).trans hc
  have hbW : b < W.heap.size := Nat.lt_of_lt_of_le hb hW.size
  have Ha : Hid (n = 0 ∨ (a = some ⟨b, off, none⟩ ∧ ∀ i, i < 2 * n → W.cell? ⟨b, off + i, none⟩ = some (.int .i64 (at0 qs i)))) := hid (ha.imp id (fun h => ⟨h.1, fun i hi => (hW.cell (p := ⟨b, off + i, none⟩) hb).trans (h.2 i hi)⟩))
  have HY := hid hY
  have c0 := (box_cell hcW).1
  have Hc := hid hcW
  clear hY ha hc hcW hb
  show CallsIn Fence.wide m Try.prog 210 #[.func (.yield l) #[] #[], .pointer (some ⟨B0, 0, none⟩)] W _
  refine callsIn_of_wp Try.func210 rfl trivial ?_ rfl
  simp only [Try.ntmps210, List.size_toArray, List.length_cons, List.length_nil, Nat.reduceAdd, Nat.reduceSub, Array.replicate_succ, Array.replicate_zero, List.push_toArray, List.append_toArray, List.nil_append, List.cons_append]
  gi_wp2
  gi_loopw [3] (fun p wr => ∃ (k : Nat), p = .int .i64 ((n : Int) - 1 - (k : Int)) ∧ k ≤ n ∧ J ((downL n).take k) wr ∧ wr.heap[B0]? = W.heap[B0]? ∧ wr.heap[b]? = W.heap[b]? ∧ W.heap.size ≤ wr.heap.size)
    (fun p _ => (intOf p + 1).toNat)
  case atStart =>
    exact ⟨0, by simp, by omega, h0, rfl, rfl, Nat.le_refl _⟩
  case round =>
    obtain ⟨k, rfl, hk, hJs, hB0, hBb, hsz⟩ := hrel
    by_cases hlt : k < n
    · obtain ⟨i, hi⟩ : ∃ i : Nat, i = n - 1 - k := ⟨_, rfl⟩
      have hpi : (n : Int) - 1 - (k : Int) = (i : Int) := by omega
      rw [hpi]
      obtain ⟨rfl, hcl⟩ := Ha.out.resolve_left (by omega)
      have hc2 : wr.cell? ⟨b, off + i * 2, none⟩ = some (.int .i64 (at0 qs (i * 2))) := (cell_same hBb).trans (hcl (i * 2) (by omega))
      have hc3 : wr.cell? ⟨b, off + i * 2 + 1, none⟩ = some (.int .i64 (at0 qs (i * 2 + 1))) := (cell_same hBb).trans (hcl (i * 2 + 1) (by omega))
      have c0r : wr.cell? ⟨B0, 0, none⟩ = some (.slice (some ⟨b, off, none⟩) n cap) := (box_cell (hB0.trans Hc.out)).1
      have htk : (downL n).take (k + 1) = (downL n).take k ++ [i] := by rw [downL_take hlt, hi]
      have hpre : (downL n).take k ++ [i] <+: downL n := by rw [← htk]; exact List.take_prefix _ _
      have hys := HY.out _ i wr hpre (by omega) hJs
      rw [← htk] at hys
      obtain ⟨fn, tmps, assign, body, hy, hR⟩ := hys
      have hi0 : (0 : Int) ≤ (i : Int) := by omega
      have hi1 : (i : Int) < (n : Int) := by omega
      have Hpre := hid hpre
      have Htk := hid htk
      have Hi := hid hi
      have HB0 := hid hB0
      have HBb := hid hBb
      have Hpi := hid hpi
      clear hcl hpre htk hi hB0 hBb hJs hpi
      gi_wp2
      refine hR.mono ?_
      rintro e W3 ⟨hk3, (⟨rfl, hJ3⟩ | ⟨rfl, hJx3⟩)⟩
      · have Hk3 := hid hk3
        have HJ3 := hid hJ3
        clear hk3 hJ3
        gi_wp2
        go_roundw
        case rel => exact ⟨k + 1, by rw [show ((i : Int) - 1) = (n : Int) - 1 - ((k + 1 : Nat) : Int) by have := Hpi.out; omega], by omega, HJ3.out, (Hk3.out.same B0 (.inl (by simp))).trans HB0.out, (Hk3.out.same b (.inl (by simp))).trans HBb.out, Nat.le_trans hsz Hk3.out.size⟩
        case measure => simp [intOf]
      · gi_wp2
        refine bodyPost_ret (results_none rfl _ _ _) rfl ?_
        exact ⟨⟨_, rfl⟩, .inr ⟨_, by rw [Htk.out]; exact Hpre.out, hJx3⟩⟩
    · obtain rfl : k = n := by omega
      have hpi : (k : Int) - 1 - (k : Int) = -1 := by omega
      rw [hpi]
      rw [List.take_of_length_le (by rw [downL_len]; exact Nat.le_refl _)] at hJs
      gi_wp2
      go_end0
      exact ⟨⟨_, rfl⟩, .inl hJs⟩

end Go.Proofs.Ytgefpllmelpahaa

/-! settledPairs, walked. -/
namespace Go.Proofs.Ytgefpllmelpahaa
open Go.RowKit Go.Shelf

attribute [local go_sem] Oper.semAt_some

/-- Ahead of a pass. -/
def StOut (w : World) (M B n cap1 : Nat) (a1 : Option Addr) (ps : List Int) (a' : Act) (W : World) : Prop :=
  ∃ (L : List Nat) (av : Option Addr) (cp : Nat) (b : Int) (Ds : List Nat) (us : Nat → Value), a' = { tmps := List.toArray ((.slice a1 n cap1) :: us 1 :: (.slice none 0 0) :: (.pointer (some ⟨B, 0, none⟩)) :: (.pointer (some ⟨B + 1 + 1, 0, none⟩)) :: (.slice av L.length cp) :: (.int .i64 b) :: us 7 :: us 8 :: us 9 :: us 10 :: us 11 :: (.slice a1 n cap1) :: (.map (some M)) :: (.map (some (B + 1))) :: us 15 :: us 16 :: us 17 :: us 18 :: us 19 :: us 20 :: us 21 :: us 22 :: us 23 :: us 24 :: us 25 :: us 26 :: us 27 :: us 28 :: us 29 :: us 30 :: us 31 :: us 32 :: us 33 :: us 34 :: us 35 :: us 36 :: us 37 :: us 38 :: us 39 :: us 40 :: us 41 :: us 42 :: us 43 :: us 44 :: us 45 :: us 46 :: us 47 :: us 48 :: us 49 :: us 50 :: us 51 :: us 52 :: us 53 :: us 54 :: us 55 :: []), defers := marks Ds } ∧
    Hid (SetW w W M B n ps L (.slice av L.length cp) Ds) ∧ Hid (Stl ps n L) ∧ -1 ≤ b ∧ b ≤ (L.length : Int) ∧ Hid (b = (L.length : Int) → SatTo ps n n L)
theorem stOut_of {w W : World} {M B n cap1 : Nat} {a1 : Option Addr} {ps : List Int} {L : List Nat} {av : Option Addr} {cp : Nat} {b : Int} {Ds : List Nat} (tm : Array Value) (ds : List Deferred) (hds : ds = marks Ds)
    (h : tm = List.toArray ((.slice a1 n cap1) :: tm.getD 1 undef :: (.slice none 0 0) :: (.pointer (some ⟨B, 0, none⟩)) :: (.pointer (some ⟨B + 1 + 1, 0, none⟩)) :: (.slice av L.length cp) :: (.int .i64 b) :: tm.getD 7 undef :: tm.getD 8 undef :: tm.getD 9 undef :: tm.getD 10 undef :: tm.getD 11 undef :: (.slice a1 n cap1) :: (.map (some M)) :: (.map (some (B + 1))) :: tm.getD 15 undef :: tm.getD 16 undef :: tm.getD 17 undef :: tm.getD 18 undef :: tm.getD 19 undef :: tm.getD 20 undef :: tm.getD 21 undef :: tm.getD 22 undef :: tm.getD 23 undef :: tm.getD 24 undef :: tm.getD 25 undef :: tm.getD 26 undef :: tm.getD 27 undef :: tm.getD 28 undef :: tm.getD 29 undef :: tm.getD 30 undef :: tm.getD 31 undef :: tm.getD 32 undef :: tm.getD 33 undef :: tm.getD 34 undef :: tm.getD 35 undef :: tm.getD 36 undef :: tm.getD 37 undef :: tm.getD 38 undef :: tm.getD 39 undef :: tm.getD 40 undef :: tm.getD 41 undef :: tm.getD 42 undef :: tm.getD 43 undef :: tm.getD 44 undef :: tm.getD 45 undef :: tm.getD 46 undef :: tm.getD 47 undef :: tm.getD 48 undef :: tm.getD 49 undef :: tm.getD 50 undef :: tm.getD 51 undef :: tm.getD 52 undef :: tm.getD 53 undef :: tm.getD 54 undef :: tm.getD 55 undef :: [])) (HW : Hid (SetW w W M B n ps L (.slice av L.length cp) Ds)) (HS : Hid (Stl ps n L)) (h1 : -1 ≤ b) (h2 : b ≤ (L.length : Int)) (h3 : Hid (b = (L.length : Int) → SatTo ps n n L)) :
    StOut w M B n cap1 a1 ps { tmps := tm, defers := ds } W :=
  ⟨L, av, cp, b, Ds, fun i => tm.getD i undef, by rw [hds]; exact congrArg (fun t => ({ tmps := t, defers := marks Ds } : Act)) h, HW, HS, h1, h2, h3⟩
/-- Within a pass, ahead of pair k. -/
def StIn (w : World) (M B n cap1 : Nat) (a1 : Option Addr) (ps : List Int) (b : Nat) (a' : Act) (W : World) : Prop :=
  ∃ (k : Nat) (L : List Nat) (av : Option Addr) (cp : Nat) (Ds : List Nat) (us : Nat → Value), a' = { tmps := List.toArray ((.slice a1 n cap1) :: us 1 :: (.slice none 0 0) :: (.pointer (some ⟨B, 0, none⟩)) :: (.pointer (some ⟨B + 1 + 1, 0, none⟩)) :: (.slice av L.length cp) :: (.int .i64 (b : Int)) :: us 7 :: us 8 :: us 9 :: us 10 :: us 11 :: (.slice a1 n cap1) :: (.map (some M)) :: (.map (some (B + 1))) :: us 15 :: us 16 :: us 17 :: us 18 :: us 19 :: us 20 :: (.slice a1 n cap1) :: (.int .i64 (n : Int)) :: (.int .i64 (k : Int)) :: us 24 :: us 25 :: us 26 :: us 27 :: us 28 :: us 29 :: us 30 :: us 31 :: us 32 :: us 33 :: us 34 :: us 35 :: us 36 :: us 37 :: us 38 :: us 39 :: us 40 :: us 41 :: us 42 :: us 43 :: us 44 :: us 45 :: us 46 :: us 47 :: us 48 :: us 49 :: us 50 :: us 51 :: us 52 :: us 53 :: us 54 :: us 55 :: []), defers := marks Ds } ∧
    Hid (SetW w W M B n ps L (.slice av L.length cp) Ds) ∧ Hid (Stl ps n L) ∧ k ≤ n ∧ b ≤ L.length ∧ Hid (b = L.length → SatTo ps n k L)
theorem stIn_of {w W : World} {M B n cap1 : Nat} {a1 : Option Addr} {ps : List Int} {L : List Nat} {av : Option Addr} {cp b k : Nat} {Ds : List Nat} (tm : Array Value) (ds : List Deferred) (hds : ds = marks Ds)
    (h : tm = List.toArray ((.slice a1 n cap1) :: tm.getD 1 undef :: (.slice none 0 0) :: (.pointer (some ⟨B, 0, none⟩)) :: (.pointer (some ⟨B + 1 + 1, 0, none⟩)) :: (.slice av L.length cp) :: (.int .i64 (b : Int)) :: tm.getD 7 undef :: tm.getD 8 undef :: tm.getD 9 undef :: tm.getD 10 undef :: tm.getD 11 undef :: (.slice a1 n cap1) :: (.map (some M)) :: (.map (some (B + 1))) :: tm.getD 15 undef :: tm.getD 16 undef :: tm.getD 17 undef :: tm.getD 18 undef :: tm.getD 19 undef :: tm.getD 20 undef :: (.slice a1 n cap1) :: (.int .i64 (n : Int)) :: (.int .i64 (k : Int)) :: tm.getD 24 undef :: tm.getD 25 undef :: tm.getD 26 undef :: tm.getD 27 undef :: tm.getD 28 undef :: tm.getD 29 undef :: tm.getD 30 undef :: tm.getD 31 undef :: tm.getD 32 undef :: tm.getD 33 undef :: tm.getD 34 undef :: tm.getD 35 undef :: tm.getD 36 undef :: tm.getD 37 undef :: tm.getD 38 undef :: tm.getD 39 undef :: tm.getD 40 undef :: tm.getD 41 undef :: tm.getD 42 undef :: tm.getD 43 undef :: tm.getD 44 undef :: tm.getD 45 undef :: tm.getD 46 undef :: tm.getD 47 undef :: tm.getD 48 undef :: tm.getD 49 undef :: tm.getD 50 undef :: tm.getD 51 undef :: tm.getD 52 undef :: tm.getD 53 undef :: tm.getD 54 undef :: tm.getD 55 undef :: [])) (HW : Hid (SetW w W M B n ps L (.slice av L.length cp) Ds)) (HS : Hid (Stl ps n L)) (h1 : k ≤ n) (h2 : b ≤ L.length) (h3 : Hid (b = L.length → SatTo ps n k L)) :
    StIn w M B n cap1 a1 ps b { tmps := tm, defers := ds } W :=
  ⟨k, L, av, cp, Ds, fun i => tm.getD i undef, by rw [hds]; exact congrArg (fun t => ({ tmps := t, defers := marks Ds } : Act)) h, HW, HS, h1, h2, h3⟩

theorem wpIn_scope_wide {n : Nat} {P : Program} {c : Code} {Q : Exit → Act → World → Prop} {a : Act} {w : World} (h : c.wpIn Fence.wide n P (Exit.noGoto Q) a w) : (Code.scope c).wpIn Fence.wide n P Q a w :=
  wpIn_wide.2 (wp_scope_straight (wpIn_wide.1 h))

set_option maxRecDepth 1000000 in
set_option maxHeartbeats 4000000 in
theorem settled_in (a1 : Option Addr) (n cap1 : Nat) (ps : List Int) (w : World) (hx1 : SlI w w.heap.size a1 ps) (hp : ps.length = 2 * n) (hn : n ≤ 1048576) (hw : ∀ x ∈ ps, (Lit.int .i64 x).wf = true) (hd : LowsApart ps n) (hh : HighsB ps n) :
    CallsIn Fence.wide 14 Try.prog 67 #[.slice a1 n cap1] w fun e w' => ∃ L v, e = .returned v ∧ Stl ps n L ∧ SatTo ps n n L ∧ ResP w w' v (setP ps L) := by
  have HLw := hid (lows_any a1 n cap1 ps w hx1 hp hn hw)
  have Hy := hid hx1
  have Hp := hid hp
  have Hw := hid hw
  have HD := hid hd
  have HH := hid hh
  have hmm := @run_makeMap Try.prog
  clear hx1 hp hw hd hh
  refine callsIn_of_wp_marks Try.func67 rfl trivial ?_ rfl
  simp only [Try.ntmps67, List.size_toArray, List.length_cons, List.length_nil, Nat.reduceAdd, Nat.reduceSub, Array.replicate_succ, Array.replicate_zero, List.push_toArray, List.append_toArray, List.nil_append, List.cons_append]
  gi_wp2_with (first
    | (refine ⟨trivial, ?_⟩; gi_at_call 139; refine (callsIn_wide.2 HLw.out).mono ?_; rintro e w1 ⟨rfl, hown, hB1⟩))
  clear hmm
  have hMB : w.heap.size < w1.heap.size := hown.lt
  have H0 : Hid (SetW w (((w1.alloc (.cells #[.map (some w.heap.size)] 151)).alloc (.map #[] 0)).alloc (.cells #[.map (some (w1.heap.size + 1))] 157)) w.heap.size w1.heap.size n ps [] (.slice none 0 0) []) := by
    have e3 := heap_alloc_new ((w1.alloc (.cells #[.map (some w.heap.size)] 151)).alloc (.map #[] 0)) (.cells #[.map (some (w1.heap.size + 1))] 157)
    rw [World.size_alloc, World.size_alloc] at e3
    have m0 := World.ownsMap_made (H := Unit) (w1.alloc (.cells #[.map (some w.heap.size)] 151)) Try.prog 62 (plainElem (H := Unit) Try.prog 4)
    rw [World.size_alloc] at m0
    exact hid {
      below := ((hB1.alloc (by omega) _).alloc (by simp; omega) _).alloc (by simp; omega) _
      lo := Nat.le_refl _
      mb := hMB
      lows := ((hown.alloc _).alloc _).alloc _
      b3 := (Below.heap_alloc _ _ _ (by simp; omega)).trans ((Below.heap_alloc _ _ _ (by simp)).trans (heap_alloc_new _ _))
      own := World.ownsMap.alloc m0 _
      b4 := e3
      row := World.ownsRow_nil _ _ _ _
      off := by simp
      nodup := by simp
      marks := by simp }
  obtain ⟨M, hM⟩ : ∃ M, M = w.heap.size := ⟨_, rfl⟩
  obtain ⟨B, hBd⟩ : ∃ B, B = w1.heap.size := ⟨_, rfl⟩
  have HMw := hid hM
  rw [← hM, ← hBd] at H0 ⊢
  clear hMB hown hB1 HLw hM hBd
  refine wpIn_loop (StOut w M B n cap1 a1 ps) (fun a' _ => ((n : Int) - intOf (a'.tmps.getD 6 undef)).toNat) ?start ?round
  case start => exact stOut_of (L := []) (Ds := []) _ _ rfl rfl H0 (hid (Stl.nil ps n)) (by decide) (by decide) (hid (fun h => by simp at h))
  case round =>
    rintro a' W ⟨L, av, cp, b, Ds, us, rfl, HW, HS, hb0, hb1, HSat⟩
    clear H0
    by_cases hlt : b < (L.length : Int)
    · clear HSat
      have hsz := HW.out.size
      have hLn := HS.out.len
      gi_wp2
      refine wpIn_scope_wide ?_
      gi_wp2
      refine wpIn_label ?_
      gi_wp2
      refine wpIn_loop (StIn w M B n cap1 a1 ps L.length) (fun a' _ => n - (intOf (a'.tmps.getD 23 undef)).toNat) ?start2 ?round2
      case start2 => exact stIn_of (k := 0) (L := L) (Ds := Ds) _ _ rfl rfl HW HS (Nat.zero_le _) (Nat.le_refl _) (hid (fun _ => SatTo.zero _ _ _))
      case round2 =>
        clear HW hsz
        rintro a' W ⟨k, L2, av, cp, Ds, us, rfl, HW, HS2, hk, hb, HSat⟩
        by_cases hlt2 : k < n
        · obtain ⟨lb, off, hlb, rfl, hc⟩ : ∃ b off, b < w.heap.size ∧ a1 = some ⟨b, off, none⟩ ∧ ∀ i, i < ps.length → w.cell? ⟨b, off + i, none⟩ = some (.int .i64 (ps[i]?.getD 0)) := by
            rcases Hy.out with h | h
            · have := Hp.out; rw [h] at this; simp at this; omega
            · exact h
          have hB := HW.out.below
          have hc2 : W.cell? ⟨lb, off + k * 2, none⟩ = some (.int .i64 (at0 ps (k * 2))) := (hB.cell (p := ⟨lb, off + k * 2, none⟩) hlb).trans (hc _ (by have := Hp.out; omega))
          have hc3 : W.cell? ⟨lb, off + k * 2 + 1, none⟩ = some (.int .i64 (at0 ps (k * 2 + 1))) := (hB.cell (p := ⟨lb, off + (k * 2 + 1), none⟩) hlb).trans (hc _ (by have := Hp.out; omega))
          have hwk := wf_pairAt Hp.out Hw.out hlt2
          have hlk := lookup_pair (HW.out.alloc (.cells #[.int .i64 (at0 ps (k * 2)), .int .i64 (at0 ps (k * 2 + 1))] 62)).own (wf_setP Hp.out Hw.out HS2.out.lt) hwk
          have hmem := mem_setP HD.out HS2.out.lt hlt2
          obtain ⟨x, hx⟩ : ∃ x, x = at0 ps (k * 2) := ⟨_, rfl⟩
          obtain ⟨y, hy⟩ : ∃ y, y = at0 ps (k * 2 + 1) := ⟨_, rfl⟩
          have Hxy : Hid (pairAt ps k = (x, y)) := hid (by rw [hx, hy]; rfl)
          have Hx := hid hx
          rw [show (pairAt ps k).1 = x by rw [Hxy.out], show (pairAt ps k).2 = y by rw [Hxy.out]] at hlk
          rw [← hx, ← hy] at hlk
          rw [← hx] at hc2
          rw [← hy] at hc3
          have c4 : ∀ o : Obj, (W.alloc o).cell? ⟨B + 1 + 1, 0, none⟩ = some (.map (some (B + 1))) := fun o => cell_alloc0 (box_cell HW.out.b4).1 o
          have c3 : ∀ o : Obj, (W.alloc o).cell? ⟨B, 0, none⟩ = some (.map (some M)) := fun o => cell_alloc0 (box_cell HW.out.b3).1 o
          have hi0 : (0 : Int) ≤ (k : Int) := by omega
          have hi1 : (k : Int) < (n : Int) := by omega
          have Hwx : Hid ((Lit.int .i64 x).wf = true) := hid (by rw [hx]; exact hwk.1)
          have Hwk : Hid (wfP (x, y)) := hid (by rw [← Hxy.out]; exact hwk)
          clear hx hy hc hB hwk
          by_cases hm : k ∈ L2
          · rw [decide_eq_true (hmem.2 hm)] at hlk
            have Hm := hid hm
            clear hm hmem
            gi_wp2
            exact ⟨stIn_of (k := k + 1) (L := L2) (Ds := Ds) _ _ rfl rfl (hid (HW.out.alloc _)) HS2 (by omega) hb (hid (fun h => (HSat.out h).skip (.inl Hm.out))), by simp [intOf]; omega⟩
          · rw [decide_eq_false (fun h => hm (hmem.1 h))] at hlk
            have Hm := hid hm
            clear hm hmem
            gi_wp2_with (first
              | (refine ⟨trivial, ?_⟩; gi_at_call 142; refine (stepsFrom_in _ M x _).mono ?_; rintro e w' ⟨rfl, rfl⟩))
            obtain ⟨W3, hW3⟩ : ∃ W3, W3 = ((W.alloc (.cells #[.int .i64 x, .int .i64 y] 62)).alloc (.cells #[.map (some M)] 151)).alloc (.cells #[.int .i64 x] 2) := ⟨_, rfl⟩
            have hs3 : W3.heap.size = W.heap.size + 3 := by rw [hW3]; simp
            have hpb : W3.heap[W.heap.size]? = some (.cells #[.int .i64 x, .int .i64 y] 62 (0, 0)) := by rw [hW3]; exact (Below.heap_alloc _ _ _ (by simp <;> omega)).trans ((Below.heap_alloc _ _ _ (by simp)).trans (heap_alloc_new _ _))
            have hbm : W3.heap[W.heap.size + 1]? = some (.cells #[.map (some M)] 151 (0, 0)) := by
              have := heap_alloc_new (W.alloc (.cells #[.int .i64 x, .int .i64 y] 62)) (.cells #[.map (some M)] 151)
              rw [World.size_alloc] at this
              rw [hW3]
              exact (Below.heap_alloc _ _ _ (by simp)).trans this
            have hbx : W3.heap[W.heap.size + 1 + 1]? = some (.cells #[.int .i64 x] 2 (0, 0)) := by
              have := heap_alloc_new ((W.alloc (.cells #[.int .i64 x, .int .i64 y] 62)).alloc (.cells #[.map (some M)] 151)) (.cells #[.int .i64 x] 2)
              rw [World.size_alloc, World.size_alloc] at this
              rw [hW3]
              exact this
            have HS3 : Hid (SetW w W3 M B n ps L2 (.slice av L2.length cp) Ds) := hid (by rw [hW3]; exact ((HW.out.alloc _).alloc _).alloc _)
            have HDs : Hid (∀ D ∈ Ds, D < W3.heap.size) := hid (fun D hD => by have := lt_of_get (HW.out.marks D hD).2; omega)
            have Hvb : Hid (∀ g, (Value.slice av L2.length cp).ownBlock = some g → g < W3.heap.size) := hid (fun g hg => by have := (HW.out.row.lt g hg).2; omega)
            have hsz := HW.out.size
            rw [← hW3]
            clear hW3 hlk c4 c3 hc2 hc3
            refine wpIn_rangeFunc_P rfl (by decide) (gf := 211) (lb := #[.pointer (some ⟨W.heap.size + 1, 0, none⟩), .pointer (some ⟨W.heap.size + 1 + 1, 0, none⟩)]) rfl trivial (enters_of Try.func211 (by kernel_rfl) rfl)
              (steps_P 13 (by decide) (W.heap.size + 1) (W.heap.size + 1 + 1) M n n ps x W3 hbm hbx HS3.out.lows HD.out HH.out Hwx.out) (by simp) (Below.refl _ _) (fun _ => rfl)
              (fun pre W' => SetW w W' M B n ps L2 (.slice av L2.length cp) Ds ∧ W'.heap[W.heap.size]? = some (.cells #[.int .i64 x, .int .i64 y] 62 (0, 0)) ∧ ∀ z ∈ pre, ∀ j, j < n → at0 ps (j * 2) = ((z : Fin 64).val : Int) → j ∈ L2)
              (fun c _ W' => c = .exit 3 ∧ SetW w W' M B n ps L2 (.slice av L2.length cp) Ds ∧ ∃ j, j < n ∧ StepP ps n k j ∧ j ∉ L2)
              (OwnIn.and (set_ownIn (by omega) HDs.out Hvb.out) (OwnIn.and (ownIn_block (β := List (Fin 64)) (fun _ => _) (by omega)) (ownIn_pure _ _ (fun (pre : List (Fin 64)) => ∀ z ∈ pre, ∀ j, j < n → at0 ps (j * 2) = (z.val : Int) → j ∈ L2))))
              (fun c => OwnIn.and (ownIn_pure _ _ (fun (_ : List (Fin 64)) => c = .exit 3)) (OwnIn.and (set_ownIn (by omega) HDs.out Hvb.out) (ownIn_pure _ _ (fun (_ : List (Fin 64)) => ∃ j, j < n ∧ StepP ps n k j ∧ j ∉ L2))))
              ⟨HS3.out, hpb, by simp⟩
              (fun z => { tmps := List.toArray ((.slice (some ⟨lb, off, none⟩) n cap1) :: us 1 :: (.slice none 0 0) :: (.pointer (some ⟨B, 0, none⟩)) :: (.pointer (some ⟨B + 1 + 1, 0, none⟩)) :: (.slice av L2.length cp) :: (.int .i64 (L.length : Int)) :: us 7 :: (.pointer (some ⟨W.heap.size, 0, none⟩)) :: (.int .i64 (z.val : Int)) :: us 10 :: us 11 :: (.slice (some ⟨lb, off, none⟩) n cap1) :: (.map (some M)) :: (.map (some (B + 1))) :: us 15 :: us 16 :: us 17 :: us 18 :: us 19 :: us 20 :: (.slice (some ⟨lb, off, none⟩) n cap1) :: (.int .i64 (n : Int)) :: (.int .i64 (k : Int)) :: (.bool true) :: (.pointer (some ⟨lb, off + k * 2, none⟩)) :: (.agg #[.int .i64 x, .int .i64 y]) :: (.map (some (B + 1))) :: (.agg #[.int .i64 x, .int .i64 y]) :: (.bool false) :: (.map (some M)) :: (.pointer (some ⟨W.heap.size, 0, none⟩)) :: (.int .i64 x) :: (.func (.func 211) #[] #[.pointer (some ⟨W.heap.size + 1, 0, none⟩), .pointer (some ⟨W.heap.size + 1 + 1, 0, none⟩)]) :: (.int .i64 (z.val : Int)) :: us 35 :: us 36 :: us 37 :: us 38 :: us 39 :: us 40 :: us 41 :: us 42 :: us 43 :: us 44 :: us 45 :: us 46 :: us 47 :: us 48 :: us 49 :: us 50 :: us 51 :: us 52 :: us 53 :: us 54 :: us 55 :: []), defers := [] }) ?assign ?body ?done ?stop
            case assign =>
              intro l z W4 K hK
              gi_wp2
              exact hK
            case body =>
              rintro l pre z W4 hpre hsz4 ⟨hS, hpb4, hok⟩
              clear HW HSat hpb hbm hbx HS3
              have hzw : (Lit.int .i64 (z.val : Int)).wf = true := WalkArith.wf_i64 (by have := z.isLt; omega)
              obtain ⟨q3, _⟩ := box_cell hS.b3
              have q4 : ∀ o : Obj, (W4.alloc o).cell? ⟨B + 1 + 1, 0, none⟩ = some (.map (some (B + 1))) := fun o => cell_alloc0 (box_cell hS.b4).1 o
              have Hstep : Hid (∀ j, at0 ps (j * 2) = (z.val : Int) → StepP ps n k j) := hid (fun j hj => by
                unfold StepP
                rw [← Hx.out, hj]
                exact (mem_stepsF HH.out x _).1 ⟨z, hpre.subset (by simp), rfl⟩)
              have Hok := hid hok
              have HSa := hid hS
              have Hpb4 := hid hpb4
              rcases lows_look2 hS.lows HD.out hzw with ⟨j, hj, hjz, hrun⟩ | ⟨hno, hrun⟩
              · obtain ⟨u, hu⟩ : ∃ u, u = at0 ps (j * 2 + 1) := ⟨_, rfl⟩
                have hpj : pairAt ps j = ((z.val : Int), u) := by unfold pairAt; rw [hjz, hu]
                have hlk := lookup_pair (hS.alloc (.cells #[.int .i64 (z.val : Int), .int .i64 u] 62)).own (wf_setP Hp.out Hw.out HS2.out.lt) (wf_pairAt Hp.out Hw.out hj)
                have hmem := mem_setP HD.out HS2.out.lt hj
                rw [hpj] at hlk hmem
                simp only at hlk
                rw [← hu] at hrun
                have Hjz := hid hjz
                have Hj := hid hj
                clear hS hpb4 hok hjz hu hpj hj
                by_cases hm : j ∈ L2
                · rw [decide_eq_true (hmem.2 hm)] at hlk
                  have Hmj := hid hm
                  clear hm hmem
                  gi_wp2
                  refine ⟨KeepP.new _ (by simp) (by omega), HSa.out.alloc _, (Below.heap_alloc _ _ _ (lt_of_get Hpb4.out)).trans Hpb4.out, fun z' hz' j' hj' he => ?_⟩
                  rcases List.mem_append.1 hz' with h | h
                  · exact Hok.out z' h j' hj' he
                  · simp at h
                    subst h
                    exact (lows_inj HD.out hj' Hj.out (he.trans Hjz.out.symm)) ▸ Hmj.out
                · rw [decide_eq_false (fun h => hm (hmem.1 h))] at hlk
                  have Hmj := hid hm
                  clear hm hmem
                  gi_wp2
                  exact ⟨KeepP.new _ (by simp) (by omega), rfl, HSa.out.alloc _, j, Hj.out, Hstep.out j Hjz.out, Hmj.out⟩
              · have Hno := hid hno
                clear hS hpb4 hok hno
                gi_wp2
                refine ⟨KeepP.new _ (by simp) (by omega), HSa.out.alloc _, (Below.heap_alloc _ _ _ (lt_of_get Hpb4.out)).trans Hpb4.out, fun z' hz' j' hj' he => ?_⟩
                rcases List.mem_append.1 hz' with h | h
                · exact Hok.out z' h j' hj' he
                · simp at h
                  subst h
                  exact absurd he (Hno.out j' hj')
            case done =>
              rintro W4 ⟨hS, hpb4, hok⟩ hD4
              have hS4 := hS.mark hD4 (by omega) (fun hm => by have := HDs.out _ hm; omega) (fun e => by have := Hvb.out _ e; omega)
              obtain ⟨L3, hL3⟩ : ∃ L3, L3 = L2 ++ [k] := ⟨_, rfl⟩
              have Hst : Hid (Stl ps n L3) := hid (by
                rw [hL3]
                refine HS2.out.snoc hlt2 Hm.out (fun j hj hs => ?_)
                unfold StepP at hs
                rw [← Hx.out] at hs
                obtain ⟨z, hz, he⟩ := (mem_stepsF HH.out x _).2 hs
                exact hok z hz j hj he)
              have hl2 := HS2.out.len
              have hl3 : L3.length = L2.length + 1 := by rw [hL3]; simp
              have he3 : (setP ps L2 ++ [(x, y)]).length = L3.length := by rw [hL3]; simp [setP]
              obtain ⟨W5, hrun5, hown5, hg5⟩ := World.ownsMap.update hS4.own keyedP Try.underlying157 (show L2.length < maxLen by unfold maxLen; omega) (keyOfP Hwk.out) (plainElem_bool Try.underlying4 true)
              have hpb5 : W5.heap[W.heap.size]? = some (.cells #[.int .i64 x, .int .i64 y] 62 (0, 0)) := (hg5.block _ (lt_of_get hpb4) (fun e => by injection e with e; omega)).trans hpb4
              have hrow5 := hS4.row.kept hg5 (by
                cases hv : (Value.slice av L2.length cp).ownBlock with
                | none => exact .inl rfl
                | some g => exact .inr (fun e => by have := (hS4.row.lt g hv).1; injection e with e; omega))
              obtain ⟨p40, p41, _, _⟩ := two_of hpb4
              obtain ⟨p50, p51, _, _⟩ := two_of hpb5
              obtain ⟨q4, _⟩ := box_cell hS4.b4
              have q4' : W4.cell? ⟨B + 1 + 1, 0, none⟩ = some (.map (some (B + 1))) := q4
              have hsz5 : B + 3 ≤ W5.heap.size := Nat.le_trans hS4.size hg5.size
              have Hr5 := hid hrow5
              have HS4 := hid hS4
              have Ho5 := hid hown5
              have Hg5 := hid hg5
              have hsl : (setP ps L2).length = L2.length := setP_len ps L2
              have He3 := hid he3
              have HL3 := hid hL3
              have Hl3 := hid hl3
              clear hl3 hS hS4 hok hD4 hpb4 hpb5 hrow5 hown5 hg5 he3 hL3 q4
              gi_wp2_with (first
                | (gi_at_builtin; refine append_pairIn rfl rfl Hr5.out (by omega) (by omega) (by first | rfl | (simp only [hsl]; rfl)) rfl ?_; intro v' w6 hr6 hg6 hat6; obtain ⟨_, av', cp', rfl, _⟩ := pairs_form hr6; rw [He3.out] at hr6 hat6 ⊢; have Hr6 := hid hr6; have Hg6 := hid hg6; have Hat6 := hid hat6; clear hr6 hg6 hat6))
              have h6 := HS4.out.put (i := k) (by rw [Hxy.out]; exact Ho5.out) Hg5.out (by rw [Hxy.out, He3.out]; exact Hr6.out) Hg6.out Hat6.out
              rw [← HL3.out, hs3] at h6
              exact ⟨stIn_of (k := k + 1) (L := L3) (Ds := (W.heap.size + 3) :: Ds) _ _ rfl rfl (hid h6) Hst (by omega) (by rw [Hl3.out]; omega) (hid (fun h => by rw [Hl3.out] at h; omega)), by simp [intOf]; omega⟩
            case stop =>
              rintro c pre W4 hpre ⟨rfl, hS, hj⟩ hD4
              have HS4 := hid (hS.mark hD4 (by omega) (fun hm => by have := HDs.out _ hm; omega) (fun e => by have := Hvb.out _ e; omega))
              have Hj := hid hj
              clear hS hj hD4
              gi_wp2
              exact ⟨stIn_of (k := k + 1) (L := L2) (Ds := W3.heap.size :: Ds) _ _ rfl rfl HS4 HS2 (by omega) hb (hid (fun h => (HSat.out h).skip (.inr Hj.out))), by simp [intOf]; omega⟩
        · obtain rfl : k = n := by omega
          clear hlt2
          gi_wp2
          simp only [Exit.noGoto]
          gi_wp2
          exact ⟨stOut_of (L := L2) (Ds := Ds) _ _ rfl rfl HW HS2 (by omega) (by omega) (hid (fun h => HSat.out (by omega))), by simp [intOf]; omega⟩
    · have hbL : b = (L.length : Int) := by omega
      have Hsat := hid (HSat.out hbL)
      clear HSat
      gi_wp2
      refine leaves_marks (by simp) Ds _ HW.out.nodup (fun D hD => (HW.out.marks D hD).2) (fun w' hw' => ?_)
      exact ⟨_, results_tmp rfl _ _ _, L, .slice av L.length cp, rfl, HS.out, Hsat.out, HW.out.leaves hw'⟩

end Go.Proofs.Ytgefpllmelpahaa

/-! isAcyclic, and IsAcyclicPairing's door, the program's. -/
namespace Go.Proofs.Ytgefpllmelpahaa
open Go.RowKit

theorem sub_len : ∀ (A B : List Nat), A.Nodup → (∀ x ∈ A, x ∈ B) → A.length ≤ B.length
  | [], _, _, _ => by simp
  | x :: A, B, hn, h => by
    obtain ⟨h1, h2⟩ := List.nodup_cons.1 hn
    have ih := sub_len A (B.erase x) h2 (fun y hy => (List.mem_erase_of_ne (fun e => h1 (by rw [← e]; exact hy))).2 (h y (List.mem_cons_of_mem _ hy)))
    have hx : x ∈ B := h x (by simp)
    have hl := List.length_erase_of_mem hx
    have hp : 0 < B.length := List.length_pos_of_mem hx
    simp only [List.length_cons]
    omega
/-- All pairs have settled exactly if there is no cycle. -/
theorem stl_all {ps : List Int} {n : Nat} {L : List Nat} (h : Stl ps n L) (hs : SatTo ps n n L) : NoCycle ps n ↔ L.length = n := by
  constructor
  · intro hc
    have hall := acyclic_settled hc hs
    have h1 := sub_len (List.range n) L List.nodup_range (fun x hx => hall x (by simpa using hx))
    rw [List.length_range] at h1
    have := h.len
    omega
  · intro hl
    refine settled_acyclic h.ord (fun i hi => Classical.byContradiction fun hn => ?_)
    have := nodup_le n (L ++ [i]) (by
      rw [List.nodup_append]
      exact ⟨h.nodup, by simp, fun a ha b hb => by simp at hb; subst hb; exact fun e => hn (e ▸ ha)⟩) (fun j hj => by
      rcases List.mem_append.1 hj with h1 | h1
      · exact h.lt j h1
      · simp at h1; omega)
    simp at this
    omega
theorem stl_acyB {ps : List Int} {n : Nat} {L : List Nat} (h : Stl ps n L) (hs : SatTo ps n n L) : ((L.length : Int) == (n : Int)) = acyB ps n := by
  by_cases hc : NoCycle ps n
  · rw [acyB_true hc]
    rw [(stl_all h hs).1 hc]
    simp
  · rw [acyB_false hc]
    have : L.length ≠ n := fun e => hc ((stl_all h hs).2 e)
    simp
    omega

set_option maxRecDepth 1000000 in
set_option maxHeartbeats 2000000 in
theorem isAcy_any (a1 : Option Addr) (n cap1 : Nat) (ps : List Int) (w : World) (hx1 : SlI w w.heap.size a1 ps) (hp : ps.length = 2 * n) (hn : n ≤ 1048576) (hw : ∀ x ∈ ps, (Lit.int .i64 x).wf = true) (hd : LowsApart ps n) (hh : HighsB ps n) :
    Calls Try.prog 122 #[.slice a1 n cap1] w fun e w' => e = .returned (.bool (acyB ps n)) ∧ Below w.heap.size w w' := by
  have HS := hid (callsIn_wide.1 (settled_in a1 n cap1 ps w hx1 hp hn hw hd hh))
  clear hx1 hp hw hd hh
  go_enter Try.func122, Try.ntmps122
  go_wp2_with (go_at_call 67; refine HS.out.mono ?_; rintro e w1 ⟨L, v, rfl, hS, hsat, hr⟩; obtain ⟨_, av, cp, rfl, _⟩ := pairs_form hr.1; rw [setP_len]; have he := stl_acyB hS hsat; have hB := hid hr.2; clear hS hsat hr)
  go_ret
  exact ⟨rfl, hB.out⟩


end Go.Proofs.Ytgefpllmelpahaa

/-! CountGradientWays, the program's. -/
namespace Go.Proofs.Ytgefpllmelpahaa
open Go.RowKit Go.Shelf

attribute [local go_sem] Oper.semAt_some

theorem pairs_slI {w : World} {base e n : Nat} {v : Value} {L : List (Int × Int)} (h : w.ownsRow base e 2 v n ((flatP L).map (Value.int .i64))) :
    n = L.length ∧ ∃ a cap, v = .slice a L.length cap ∧ SlI w w.heap.size a (flatP L) := by
  have hl := h.1
  simp [flatP_len] at hl
  have hn : n = L.length := by omega
  refine ⟨hn, ?_⟩
  rcases h.2 with ⟨rfl, hn0⟩ | ⟨g, cap, cur, rfl, _, hg, _⟩
  · have : L = [] := List.eq_nil_of_length_eq_zero (by omega)
    subst this
    exact ⟨none, 0, rfl, .inl rfl⟩
  · refine ⟨_, cap, by rw [hn], .inr ⟨g, 0, (Array.getElem?_eq_some_iff.1 hg).1, rfl, fun i hi => ?_⟩⟩
    have := h.cells (g := g) rfl i (.int .i64 ((flatP L)[i]?.getD 0)) (by simp [hi])
    have hadd : (⟨g, 0, none⟩ : Addr).add i = ⟨g, i, none⟩ := by unfold Addr.add; split <;> simp_all
    rw [hadd] at this
    simpa using this

/-- Ahead of settled pair k. -/
def GwIn (w3 : World) (M C n c2 : Nat) (a2 : Option Addr) (a b : Int) (ps : List Int) (L : List Nat) (a' : Act) (W : World) : Prop :=
  ∃ (k : Nat) (Ds : List Nat) (us : Nat → Value), a' = { tmps := List.toArray (us 0 :: us 1 :: (.int .i64 a) :: us 3 :: us 4 :: us 5 :: us 6 :: us 7 :: us 8 :: us 9 :: us 10 :: us 11 :: (.map (some M)) :: (.pointer (some ⟨C + 1, 0, none⟩)) :: us 14 :: us 15 :: us 16 :: us 17 :: us 18 :: us 19 :: us 20 :: us 21 :: us 22 :: us 23 :: us 24 :: us 25 :: us 26 :: us 27 :: us 28 :: us 29 :: us 30 :: us 31 :: us 32 :: us 33 :: us 34 :: us 35 :: us 36 :: us 37 :: us 38 :: us 39 :: us 40 :: us 41 :: us 42 :: us 43 :: us 44 :: us 45 :: us 46 :: (.slice a2 n c2) :: (.int .i64 (n : Int)) :: (.int .i64 (k : Int)) :: us 50 :: us 51 :: us 52 :: us 53 :: us 54 :: us 55 :: us 56 :: us 57 :: us 58 :: us 59 :: us 60 :: us 61 :: us 62 :: us 63 :: us 64 :: us 65 :: us 66 :: us 67 :: us 68 :: us 69 :: []), defers := marks Ds } ∧ Hid (GwW w3 W (1 + 64 * k) (gwV ps n b L k) Ds) ∧ k ≤ n
theorem gwIn_of {w3 W : World} {M C n c2 : Nat} {a2 : Option Addr} {a b : Int} {ps : List Int} {L : List Nat} {k : Nat} {Ds : List Nat} (tm : Array Value) (ds : List Deferred) (hds : ds = marks Ds)
    (h : tm = List.toArray (tm.getD 0 undef :: tm.getD 1 undef :: (.int .i64 a) :: tm.getD 3 undef :: tm.getD 4 undef :: tm.getD 5 undef :: tm.getD 6 undef :: tm.getD 7 undef :: tm.getD 8 undef :: tm.getD 9 undef :: tm.getD 10 undef :: tm.getD 11 undef :: (.map (some M)) :: (.pointer (some ⟨C + 1, 0, none⟩)) :: tm.getD 14 undef :: tm.getD 15 undef :: tm.getD 16 undef :: tm.getD 17 undef :: tm.getD 18 undef :: tm.getD 19 undef :: tm.getD 20 undef :: tm.getD 21 undef :: tm.getD 22 undef :: tm.getD 23 undef :: tm.getD 24 undef :: tm.getD 25 undef :: tm.getD 26 undef :: tm.getD 27 undef :: tm.getD 28 undef :: tm.getD 29 undef :: tm.getD 30 undef :: tm.getD 31 undef :: tm.getD 32 undef :: tm.getD 33 undef :: tm.getD 34 undef :: tm.getD 35 undef :: tm.getD 36 undef :: tm.getD 37 undef :: tm.getD 38 undef :: tm.getD 39 undef :: tm.getD 40 undef :: tm.getD 41 undef :: tm.getD 42 undef :: tm.getD 43 undef :: tm.getD 44 undef :: tm.getD 45 undef :: tm.getD 46 undef :: (.slice a2 n c2) :: (.int .i64 (n : Int)) :: (.int .i64 (k : Int)) :: tm.getD 50 undef :: tm.getD 51 undef :: tm.getD 52 undef :: tm.getD 53 undef :: tm.getD 54 undef :: tm.getD 55 undef :: tm.getD 56 undef :: tm.getD 57 undef :: tm.getD 58 undef :: tm.getD 59 undef :: tm.getD 60 undef :: tm.getD 61 undef :: tm.getD 62 undef :: tm.getD 63 undef :: tm.getD 64 undef :: tm.getD 65 undef :: tm.getD 66 undef :: tm.getD 67 undef :: tm.getD 68 undef :: tm.getD 69 undef :: [])) (HW : Hid (GwW w3 W (1 + 64 * k) (gwV ps n b L k) Ds)) (h1 : k ≤ n) : GwIn w3 M C n c2 a2 a b ps L { tmps := tm, defers := ds } W :=
  ⟨k, Ds, fun i => tm.getD i undef, by rw [hds]; exact congrArg (fun t => ({ tmps := t, defers := marks Ds } : Act)) h, HW, h1⟩


end Go.Proofs.Ytgefpllmelpahaa
