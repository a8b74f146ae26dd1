import Derived.BigQuiet
import Derived.Scope
import Derived.Test.YtbhdipljhelddaaMCF2
import Derived.Test.YtbhdipljhelddaaMCF3
import Derived.Test.YtbhdipljhelddaaMCF4
import Derived.Test.YtbhdipljhelddaaMCF5
/-! The critical faces, the model's. -/
namespace Go.Proofs.Ytbhdipljhelddaa
open Go.RowKit Go.Sort

set_option maxRecDepth 100000 in
set_option maxHeartbeats 8000000 in
theorem critS_any (V : Int) (a0 : Option Addr) (cap : Nat) (fs : List Int) (a1 : Option Addr) (n cap1 : Nat) (ps : List Int) (w : World) (hx : SlI w w.heap.size a0 fs) (hx1 : SlI w w.heap.size a1 ps) (hl : fs.length ≤ 1048576) (hp : ps.length = 2 * n) (hn : n ≤ 1048576) :
    Calls Try.prog 168 #[.agg #[.int .i64 V, .slice a0 fs.length cap], .slice a1 n cap1] w fun e w' => ∃ v, e = .returned v ∧ Res w w' v (critL fs ps) := by
  have hB0 : Below w.heap.size w (w.alloc (.cells #[.int .i64 V, .slice a0 fs.length cap] 28)) := (Below.refl _ w).alloc (Nat.le_refl _) _
  have hB00 := (hB0.alloc (by simp) (.cells #[] 2))
  have hown0 := World.ownsRow_made (base := w.heap.size + 1) (e := 2) (size := 1) (w.alloc (.cells #[.int .i64 V, .slice a0 fs.length cap] 28)) #[] 0 (by simp) (by simp [maxLen]) rfl
  rw [World.size_alloc] at hown0
  have Hown0 := hid hown0
  have HB0 := hid hB0
  have HB00 := hid hB00
  clear hown0 hB0 hB00
  rcases hx with rfl | ⟨b, off, hb, rfl, hc⟩
  · go_enter Try.func168, Try.ntmps168
    go_wp2
    refine wp_loop_rounds 1 ?_; rw [rounds_succ]
    go_wp2
    go_ret
    exact ⟨_, rfl, ownsRow_base (by simpa [critL] using Hown0.out) (Nat.le_succ _), HB00.out⟩
  · have Hc := hid hc
    have Hp := hid hp
    have Hy := hid hx1
    clear hc hp hx1
    go_enter Try.func168, Try.ntmps168
    go_wp2
    go_loopw [5, 6] (fun v i wr => ∃ k : Nat, k ≤ fs.length ∧ i = .int .i64 k ∧ wr.ownsRow (w.heap.size + 1) 2 1 v (critL (fs.take k) ps).length ((critL (fs.take k) ps).map (Value.int .i64)) ∧
        Below (w.heap.size + 1) (w.alloc (.cells #[.int .i64 V, .slice (some ⟨b, off, none⟩) fs.length cap] 28)) wr) (fun _ i _ => fs.length - (intOf i).toNat)
    case atStart => exact ⟨0, Nat.zero_le _, rfl, Hown0.out, (Below.refl _ _).alloc (by simp) _⟩
    case round =>
      obtain ⟨k, hk, rfl, hown, hB⟩ := hrel
      have c0 : wr.cell? ⟨w.heap.size, 0, none⟩ = some (.int .i64 V) := (hB.cell (p := ⟨w.heap.size, 0, none⟩) (by simp)).trans (by simp [go_sem])
      have c1 : wr.cell? ⟨w.heap.size, 1, none⟩ = some (.slice (some ⟨b, off, none⟩) fs.length cap) := (hB.cell (p := ⟨w.heap.size, 1, none⟩) (by simp)).trans (by simp [go_sem])
      by_cases hlt : k < fs.length
      · obtain ⟨x, hx⟩ : ∃ x, x = fs[k]?.getD 0 := ⟨_, rfl⟩
        have Hp' : Hid (∀ c, decide (x ∉ ps) = c → critL (fs.take (k + 1)) ps = critL (fs.take k) ps ++ (if c then [x] else [])) := hid (fun c hc => by
          unfold critL
          rw [take_snoc hlt, List.filter_append, ← hx]
          cases c <;> simpa using hc)
        have Hx := hid hx
        have hi0 : (0 : Int) ≤ (k : Int) := by omega
        have hi1 : (k : Int) < (fs.length : Int) := by omega
        have hfl : (critL (fs.take k) ps).length ≤ 1048576 := Nat.le_trans (List.length_filter_le _ _) (by simp; omega)
        have HB := hid hB
        have Hown := hid hown
        clear hx hB hown
        go_wp2
        clear c0 c1
        go_loopw [7, 8] (fun q j wx => ∃ m : Nat, m ≤ n ∧ q = .bool (decide (x ∉ ps.take (m * 2))) ∧ j = .int .i64 m ∧ wx.ownsRow (w.heap.size + 1) 2 1 u5 (critL (fs.take k) ps).length ((critL (fs.take k) ps).map (Value.int .i64)) ∧
            Below (w.heap.size + 1) (w.alloc (.cells #[.int .i64 V, .slice (some ⟨b, off, none⟩) fs.length cap] 28)) wx) (fun _ j _ => n - (intOf j).toNat)
        case atStart => exact ⟨0, Nat.zero_le _, by simp, rfl, Hown.out, HB.out⟩
        case round =>
          clear HB Hown
          obtain ⟨m, hm, rfl, rfl, hown, hBx⟩ := hrel
          have c0 : wr.cell? ⟨w.heap.size, 0, none⟩ = some (.int .i64 V) := (hBx.cell (p := ⟨w.heap.size, 0, none⟩) (by simp)).trans (by simp [go_sem])
          have c1 : wr.cell? ⟨w.heap.size, 1, none⟩ = some (.slice (some ⟨b, off, none⟩) fs.length cap) := (hBx.cell (p := ⟨w.heap.size, 1, none⟩) (by simp)).trans (by simp [go_sem])
          have hBw : Below w.heap.size w wr := HB0.out.trans (hBx.mono (Nat.le_succ _))
          have hck : wr.cell? ⟨b, off + k, none⟩ = some (.int .i64 x) := by rw [Hx.out]; exact (hBw.cell (p := ⟨b, off + k, none⟩) hb).trans (Hc.out k hlt)
          by_cases hltm : m < n
          · obtain ⟨b1, o1, hb1, rfl, hc1⟩ : ∃ b o, b < w.heap.size ∧ a1 = some ⟨b, o, none⟩ ∧ ∀ i, i < ps.length → w.cell? ⟨b, o + i, none⟩ = some (.int .i64 (ps[i]?.getD 0)) := by
              rcases Hy.out with h | h
              · have := Hp.out; rw [h] at this; simp at this; omega
              · exact h
            have hd2 : wr.cell? ⟨b1, o1 + m * 2, none⟩ = some (.int .i64 (at0 ps (m * 2))) := (hBw.cell (p := ⟨b1, o1 + m * 2, none⟩) hb1).trans (hc1 _ (by have := Hp.out; omega))
            have hd3 : wr.cell? ⟨b1, o1 + m * 2 + 1, none⟩ = some (.int .i64 (at0 ps (m * 2 + 1))) := (hBw.cell (p := ⟨b1, o1 + (m * 2 + 1), none⟩) hb1).trans (hc1 _ (by have := Hp.out; omega))
            obtain ⟨u, hu⟩ : ∃ u, u = at0 ps (m * 2) := ⟨_, rfl⟩
            obtain ⟨v, hv⟩ : ∃ v, v = at0 ps (m * 2 + 1) := ⟨_, rfl⟩
            have Hsn : Hid (ps.take ((m + 1) * 2) = ps.take (m * 2) ++ [u] ++ [v]) := hid (by
              have := Hp.out
              rw [show (m + 1) * 2 = m * 2 + 1 + 1 by omega, take_snoc (show m * 2 + 1 < ps.length by omega), take_snoc (show m * 2 < ps.length by omega), hu, hv]; rfl)
            rw [← hu] at hd2
            rw [← hv] at hd3
            have hm0 : (0 : Int) ≤ (m : Int) := by omega
            have hm1 : (m : Int) < (n : Int) := by omega
            have HBx := hid hBx
            have HO := hid hown
            clear hu hv hBx hBw hc1 hown
            by_cases h0 : x ∈ ps.take (m * 2)
            · have hfr : decide (x ∉ ps.take (m * 2)) = false := by simp [h0]
              have He : Hid (decide (x ∉ ps.take ((m + 1) * 2)) = false) := hid (by rw [Hsn.out]; simp [h0])
              rw [hfr]
              clear h0 hfr
              go_wp2_with fail
              refine wp_region_quiet_lit (by kernel_rfl) (by kernel_rfl) ?_
              iterate 28 (with_reducible refine wpQuiet_step (fun K hK => ?_); have HK := hid hK; clear hK; go_simp; (first | with_reducible refine HK.out _ ?_ | (rw [if_neg (by decide)]; with_reducible refine HK.out _ ?_)); clear HK K)
              with_reducible refine wpQuiet_nil ?_
              intro _ hw'
              obtain ⟨nq, hw''⟩ := hw'
              subst hw''
              go_wp2_with fail
              go_roundw
              case rel => exact ⟨m + 1, by omega, by rw [He.out], by go_num, HO.out, HBx.out.trans ⟨rfl, rfl, rfl, Nat.le_refl _, fun _ _ => rfl⟩⟩
              case measure => simp [intOf]; omega
            · have hfr : decide (x ∉ ps.take (m * 2)) = true := by simp [h0]
              by_cases h1 : u = x
              · have g1 : (u != x) = false := by simp [h1]
                have He : Hid (decide (x ∉ ps.take ((m + 1) * 2)) = false) := hid (by rw [Hsn.out]; simp [h1])
                rw [hfr]
                clear h0 h1 hfr
                go_wp2_with fail
                refine wp_region_quiet_lit (by kernel_rfl) (by kernel_rfl) ?_
                iterate 28 (with_reducible refine wpQuiet_step (fun K hK => ?_); have HK := hid hK; clear hK; go_simp; (first | with_reducible refine HK.out _ ?_ | (rw [if_neg (by decide)]; with_reducible refine HK.out _ ?_)); clear HK K)
                with_reducible refine wpQuiet_nil ?_
                intro _ hw'
                obtain ⟨nq, hw''⟩ := hw'
                subst hw''
                go_wp2_with fail
                go_roundw
                case rel => exact ⟨m + 1, by omega, by rw [He.out], by go_num, HO.out, HBx.out.trans ⟨rfl, rfl, rfl, Nat.le_refl _, fun _ _ => rfl⟩⟩
                case measure => simp [intOf]; omega
              · have g1 : (u != x) = true := by simp [h1]
                by_cases h2 : v = x
                · have g2 : (v != x) = false := by simp [h2]
                  have He : Hid (decide (x ∉ ps.take ((m + 1) * 2)) = false) := hid (by rw [Hsn.out]; simp [h2])
                  rw [hfr]
                  clear h0 h1 h2 hfr
                  go_wp2_with fail
                  refine wp_region_quiet_lit (by kernel_rfl) (by kernel_rfl) ?_
                  iterate 28 (with_reducible refine wpQuiet_step (fun K hK => ?_); have HK := hid hK; clear hK; go_simp; (first | with_reducible refine HK.out _ ?_ | (rw [if_neg (by decide)]; with_reducible refine HK.out _ ?_)); clear HK K)
                  with_reducible refine wpQuiet_nil ?_
                  intro _ hw'
                  obtain ⟨nq, hw''⟩ := hw'
                  subst hw''
                  go_wp2_with fail
                  go_roundw
                  case rel => exact ⟨m + 1, by omega, by rw [He.out], by go_num, HO.out, HBx.out.trans ⟨rfl, rfl, rfl, Nat.le_refl _, fun _ _ => rfl⟩⟩
                  case measure => simp [intOf]; omega
                · have g2 : (v != x) = true := by simp [h2]
                  have He : Hid (decide (x ∉ ps.take ((m + 1) * 2)) = true) := hid (by rw [Hsn.out]; simp [h0, Ne.symm h1, Ne.symm h2])
                  rw [hfr]
                  clear h0 h1 h2 hfr
                  go_wp2_with fail
                  refine wp_region_quiet_lit (by kernel_rfl) (by kernel_rfl) ?_
                  iterate 28 (with_reducible refine wpQuiet_step (fun K hK => ?_); have HK := hid hK; clear hK; go_simp; (first | with_reducible refine HK.out _ ?_ | (rw [if_neg (by decide)]; with_reducible refine HK.out _ ?_)); clear HK K)
                  with_reducible refine wpQuiet_nil ?_
                  intro _ hw'
                  obtain ⟨nq, hw''⟩ := hw'
                  subst hw''
                  go_wp2_with fail
                  go_roundw
                  case rel => exact ⟨m + 1, by omega, by rw [He.out], by go_num, HO.out, HBx.out.trans ⟨rfl, rfl, rfl, Nat.le_refl _, fun _ _ => rfl⟩⟩
                  case measure => simp [intOf]; omega
          · obtain rfl : m = n := by omega
            have htk : ps.take (m * 2) = ps := List.take_of_length_le (by have := Hp.out; omega)
            have hsz := hBx.size
            simp only [World.size_alloc] at hsz
            have HBx := hid hBx
            have HO := hid hown
            rw [htk]
            clear htk hBx hBw hown
            by_cases hin : x ∉ ps
            · have HP := hid (Hp'.out true (by simp [hin]))
              have hdx : decide (x ∉ ps) = true := by simp [hin]
              rw [hdx]
              clear hin hdx
              go_wp2_with (at_builtin; refine append_int rfl rfl HO.out hsz (by omega) rfl rfl ?_; intro v' w2 hown2 hgrow2 hB2)
              go_roundw
              case rel => exact ⟨k + 1, by omega, by go_num, by rw [HP.out]; exact hown2, HBx.out.trans hB2⟩
              case measure => simp [intOf]; omega
            · have HP := hid (Hp'.out false (by simpa using hin))
              have hdx : decide (x ∉ ps) = false := by simpa using hin
              rw [hdx]
              clear hin hdx
              go_wp2_with fail
              go_roundw
              case rel => exact ⟨k + 1, by omega, by go_num, by rw [HP.out]; simpa using HO.out, HBx.out⟩
              case measure => simp [intOf]; omega
      · obtain rfl : k = fs.length := by omega
        rw [List.take_of_length_le (Nat.le_refl _)] at hown
        go_wp2
        go_ret
        exact ⟨_, rfl, ownsRow_base hown (Nat.le_succ _), HB0.out.trans (hB.mono (Nat.le_succ _))⟩

set_option maxRecDepth 100000 in
set_option maxHeartbeats 1000000 in
theorem pcode_spec (V : Int) (a0 : Option Addr) (cap : Nat) (fs : List Int) (a1 : Option Addr) (n cap1 : Nat) (ps : List Int) (w : World) (hx : SlI w w.heap.size a0 fs) (hx1 : SlI w w.heap.size a1 ps) (hl : fs.length ≤ 1048576) (hp : ps.length = 2 * n) (hn : n ≤ 1048576) :
    Calls Try.prog 110 #[.agg #[.int .i64 V, .slice a0 fs.length cap], .slice a1 n cap1, .slice none 0 0] w fun e w' => e = .returned (.int .i64 (pcodeR V fs n ps)) ∧ Below w.heap.size w w' := by
  have hB0 : Below w.heap.size w (w.alloc (.cells #[.int .i64 V, .slice a0 fs.length cap] 28)) := (Below.refl _ w).alloc (Nat.le_refl _) _
  have Hx := hid (hx.later hB0 hB0.size)
  have Hx0 := hid hx
  have Hy := hid hx1
  clear hx hx1
  rcases pcode_cases V fs n ps with ⟨hC, _, h0, _, h1⟩ | ⟨hC, _, h0, _, h1⟩ | ⟨hC, h0, _⟩
  · rw [h0]
    have HC := hid hC
    clear hC h0
    go_enter Try.func110, Try.ntmps110
    go_wp2_with fail
    refine (is_yes V a0 cap fs _ Hx.out hl HC.out).mono ?_
    rintro e w1 ⟨rfl, hB1⟩
    have HB1 := hid (hB0.trans (hB1.mono (by simp)))
    have k0 : w1.cell? ⟨w.heap.size, 0, none⟩ = some (.int .i64 V) := (hB1.cell (p := ⟨w.heap.size, 0, none⟩) (by simp)).trans (by simp [go_sem])
    have k1 : w1.cell? ⟨w.heap.size, 1, none⟩ = some (.slice a0 fs.length cap) := (hB1.cell (p := ⟨w.heap.size, 1, none⟩) (by simp)).trans (by simp [go_sem])
    have HI := hid (pis_any V a0 cap fs a1 n cap1 ps w1 (Hx0.out.later HB1.out HB1.out.size) (Hy.out.later HB1.out HB1.out.size) hl HC.out.range63 hp hn)
    rw [h1] at HI
    clear hB0 hB1 h1 hp
    go_wp2_with fail
    refine HI.out.mono ?_
    rintro e w2 ⟨rfl, hB2⟩
    go_wp2_with fail
    refine wp_loop_rounds 1 ?_; rw [rounds_succ]
    go_wp2_with fail
    go_ret
    exact ⟨rfl, HB1.out.trans (hB2.mono HB1.out.size)⟩
  · rw [h0]
    have HC := hid hC
    clear hC h0
    go_enter Try.func110, Try.ntmps110
    go_wp2_with fail
    refine (is_yes V a0 cap fs _ Hx.out hl HC.out).mono ?_
    rintro e w1 ⟨rfl, hB1⟩
    have HB1 := hid (hB0.trans (hB1.mono (by simp)))
    have k0 : w1.cell? ⟨w.heap.size, 0, none⟩ = some (.int .i64 V) := (hB1.cell (p := ⟨w.heap.size, 0, none⟩) (by simp)).trans (by simp [go_sem])
    have k1 : w1.cell? ⟨w.heap.size, 1, none⟩ = some (.slice a0 fs.length cap) := (hB1.cell (p := ⟨w.heap.size, 1, none⟩) (by simp)).trans (by simp [go_sem])
    have HI := hid (pis_any V a0 cap fs a1 n cap1 ps w1 (Hx0.out.later HB1.out HB1.out.size) (Hy.out.later HB1.out HB1.out.size) hl HC.out.range63 hp hn)
    rw [h1] at HI
    clear hB0 hB1 h1 hp
    go_wp2_with fail
    refine HI.out.mono ?_
    rintro e w2 ⟨rfl, hB2⟩
    go_wp2_with fail
    go_ret
    exact ⟨rfl, HB1.out.trans (hB2.mono HB1.out.size)⟩
  · rw [h0]
    clear h0
    go_enter Try.func110, Try.ntmps110
    go_wp2_with fail
    refine (is_no V a0 cap fs _ Hx.out hl hC).mono ?_
    rintro e w1 ⟨rfl, hB1⟩
    go_wp2_with fail
    go_ret
    exact ⟨rfl, hB0.trans (hB1.mono (by simp))⟩


theorem criticalFacesR_len (V : Int) (fs : List Int) (n : Nat) (ps : List Int) (h : fs.length ≤ 1048576) (_hp : ps.length = 2 * n) (_hn : n ≤ 1048576) : (criticalFacesR V fs n ps).1.length ≤ 1048576 := by
  unfold criticalFacesR
  split
  · exact Nat.le_trans (List.length_filter_le _ _) h
  · simp

end Go.Proofs.Ytbhdipljhelddaa

/-! FacesReached, the model's. -/
namespace Go.Proofs.Ytbhdipljhelddaa
open Go.RowKit

noncomputable def reachB (ps : List Int) (n : Nat) (a y : Int) : Bool := @decide (y = a ∨ Way ps n a y) (Classical.propDecidable _)
theorem reachB_true {ps : List Int} {n : Nat} {a y : Int} (h : y = a ∨ Way ps n a y) : reachB ps n a y = true := by unfold reachB; exact @decide_eq_true _ (Classical.propDecidable _) h
theorem reachB_false {ps : List Int} {n : Nat} {a y : Int} (h : ¬ (y = a ∨ Way ps n a y)) : reachB ps n a y = false := by unfold reachB; exact @decide_eq_false _ (Classical.propDecidable _) h
/-- The faces reached. -/
noncomputable def reachL (fs ps : List Int) (n : Nat) (a : Int) : List Int := fs.filter fun y => reachB ps n a y
noncomputable def code1R (V : Int) (fs : List Int) (n : Nat) (ps : List Int) (a : Int) : Int := if pcodeR V fs n ps = 0 then (if a ∈ fs then 0 else 2) else pcodeR V fs n ps
noncomputable def facesReachedR (V : Int) (fs : List Int) (n : Nat) (ps : List Int) (a : Int) : List Int × Int := if code1R V fs n ps a = 0 then (reachL fs ps n a, 0) else ([], code1R V fs n ps a)
theorem facesReachedR_len (V : Int) (fs : List Int) (n : Nat) (ps : List Int) (a : Int) (h : fs.length ≤ 1048576) (_hp : ps.length = 2 * n) (_hn : n ≤ 1048576) : (facesReachedR V fs n ps a).1.length ≤ 1048576 := by
  unfold facesReachedR
  split
  · exact Nat.le_trans (List.length_filter_le _ _) h
  · simp

theorem okTo_highs {V : Int} {fs ps : List Int} {n : Nat} (hC : IsC V fs) (h : OkTo fs ps n) : HighsB ps n := by
  intro a
  by_cases hex : ∃ i, i < n ∧ at0 ps (i * 2) = a
  · have hmin : ∃ i, (i < n ∧ at0 ps (i * 2) = a) ∧ ∀ j, j < i → ¬ (j < n ∧ at0 ps (j * 2) = a) := by
      obtain ⟨i, hi⟩ := hex
      induction i using Nat.strongRecOn with
      | _ i ih =>
        by_cases hj : ∃ j, j < i ∧ (j < n ∧ at0 ps (j * 2) = a)
        · obtain ⟨j, h1, h2⟩ := hj
          exact ih j h1 h2
        · exact ⟨i, hi, fun j h1 h2 => hj ⟨j, h1, h2⟩⟩
    obtain ⟨i, ⟨hi, ha⟩, hm⟩ := hmin
    rw [highOf_some hi ha (fun j hj e => hm j hj ⟨by omega, e⟩)]
    have hp := (h i hi).1
    unfold pairB at hp
    simp at hp
    have := hC.range63 _ hp.1.1.2
    omega
  · rw [highOf_none (fun j hj e => hex ⟨j, hj, e⟩)]
    omega

set_option maxRecDepth 1000000 in
set_option maxHeartbeats 2000000 in
theorem code1_spec (V : Int) (a0 : Option Addr) (cap : Nat) (fs : List Int) (a1 : Option Addr) (n cap1 : Nat) (ps : List Int) (a : Int) (bf : Nat) (w : World) (hx : SlI w w.heap.size a0 fs) (hx1 : SlI w w.heap.size a1 ps) (hl : fs.length ≤ 1048576) (hp : ps.length = 2 * n) (hn : n ≤ 1048576)
    (hbf : bf < w.heap.size) (hcf : w.cell? ⟨bf, 0, none⟩ = some (.int .i64 a)) :
    Calls Try.prog 110 #[.agg #[.int .i64 V, .slice a0 fs.length cap], .slice a1 n cap1, .slice (some ⟨bf, 0, none⟩) 1 1] w fun e w' => e = .returned (.int .i64 (code1R V fs n ps a)) ∧ Below w.heap.size w w' := by
  have hB0 : Below w.heap.size w (w.alloc (.cells #[.int .i64 V, .slice a0 fs.length cap] 28)) := (Below.refl _ w).alloc (Nat.le_refl _) _
  have Hx := hid (hx.later hB0 hB0.size)
  have Hx0 := hid hx
  have Hy := hid hx1
  clear hx hx1
  obtain ⟨E, hE⟩ : ∃ E, E = code1R V fs n ps a := ⟨_, rfl⟩
  rw [← hE]
  rcases pcode_cases V fs n ps with ⟨hC, _, h0, _, h1⟩ | ⟨hC, _, h0, _, h1⟩ | ⟨hC, h0, _⟩
  · have HC := hid hC
    have hE1 : E = if a ∈ fs then 0 else 2 := by rw [hE, code1R, if_pos h0]
    clear hC h0 hE
    go_enter Try.func110, Try.ntmps110
    go_wp2_with fail
    refine (is_yes V a0 cap fs _ Hx.out hl HC.out).mono ?_
    rintro e w1 ⟨rfl, hB1⟩
    have HB1 := hid (hB0.trans (hB1.mono (by simp)))
    have k0 : w1.cell? ⟨w.heap.size, 0, none⟩ = some (.int .i64 V) := (hB1.cell (p := ⟨w.heap.size, 0, none⟩) (by simp)).trans (by simp [go_sem])
    have k1 : w1.cell? ⟨w.heap.size, 1, none⟩ = some (.slice a0 fs.length cap) := (hB1.cell (p := ⟨w.heap.size, 1, none⟩) (by simp)).trans (by simp [go_sem])
    have hs1 : w.heap.size < w1.heap.size := by have := hB1.size; simp at this; omega
    have HI := hid (pis_any V a0 cap fs a1 n cap1 ps w1 (Hx0.out.later HB1.out HB1.out.size) (Hy.out.later HB1.out HB1.out.size) hl HC.out.range63 hp hn)
    rw [h1] at HI
    clear hB0 hB1 h1 hp
    go_wp2_with fail
    refine HI.out.mono ?_
    rintro e w2 ⟨rfl, hB2⟩
    have n0 : w2.cell? ⟨w.heap.size, 0, none⟩ = some (.int .i64 V) := (hB2.cell (p := ⟨w.heap.size, 0, none⟩) hs1).trans k0
    have n1 : w2.cell? ⟨w.heap.size, 1, none⟩ = some (.slice a0 fs.length cap) := (hB2.cell (p := ⟨w.heap.size, 1, none⟩) hs1).trans k1
    have HB2 := hid (HB1.out.trans (hB2.mono HB1.out.size))
    have n2 : w2.cell? ⟨bf, 0, none⟩ = some (.int .i64 a) := (HB2.out.cell (p := ⟨bf, 0, none⟩) hbf).trans hcf
    have hs2 : w.heap.size < w2.heap.size := Nat.lt_of_lt_of_le hs1 hB2.size
    have HB2d : Hid (Below w.heap.size w w2.drew) := hid (HB2.out.trans ⟨rfl, rfl, rfl, Nat.le_refl _, fun _ _ => rfl⟩)
    clear hB2 k0 k1 hcf
    by_cases ha : a ∈ fs
    · have He : Hid (E = 0) := hid (by rw [hE1, if_pos ha])
      have HA := hid (has_yes V a a0 cap fs w2.drew (Hx0.out.later HB2d.out HB2d.out.size) hl ha)
      clear hE1 ha
      go_wp2_with fail
      refine wp_loop_rounds 2 ?_
      rw [rounds_succ]
      go_wp2_with fail
      go_region_held3 (fun w' => w'.cell? ⟨w.heap.size, 0, none⟩ = some (.int .i64 V) ∧ w'.cell? ⟨w.heap.size, 1, none⟩ = some (.slice a0 fs.length cap) ∧ w'.cell? ⟨bf, 0, none⟩ = some (.int .i64 a)) (go_keep) (first
        | (go_at_call 94; refine HA.out.mono ?_; rintro e w3 ⟨rfl, hB3⟩; have m0 := (hB3.cell (p := ⟨w.heap.size, 0, none⟩) hs2).trans n0; have m1 := (hB3.cell (p := ⟨w.heap.size, 1, none⟩) hs2).trans n1; have m2 := (hB3.cell (p := ⟨bf, 0, none⟩) (Nat.lt_trans hbf hs2)).trans n2; have HB3 := hid hB3; clear hB3))
      all_goals
        have HB4 := hid (HB2d.out.trans (HB3.out.mono HB2d.out.size))
        go_wp2_with fail
        rw [rounds_succ]
        go_wp2_with fail
        go_ret
        exact ⟨ret_int (by rw [He.out]), HB4.out⟩
    · have He : Hid (E = 2) := hid (by rw [hE1, if_neg ha])
      have HA := hid (has_no V a a0 cap fs w2.drew (Hx0.out.later HB2d.out HB2d.out.size) hl ha)
      clear hE1 ha
      go_wp2_with fail
      refine wp_loop_rounds 2 ?_
      rw [rounds_succ]
      go_wp2_with fail
      go_region_held3 (fun w' => w'.cell? ⟨w.heap.size, 0, none⟩ = some (.int .i64 V) ∧ w'.cell? ⟨w.heap.size, 1, none⟩ = some (.slice a0 fs.length cap) ∧ w'.cell? ⟨bf, 0, none⟩ = some (.int .i64 a)) (go_keep) (first
        | (go_at_call 94; refine HA.out.mono ?_; rintro e w3 ⟨rfl, hB3⟩; have m0 := (hB3.cell (p := ⟨w.heap.size, 0, none⟩) hs2).trans n0; have m1 := (hB3.cell (p := ⟨w.heap.size, 1, none⟩) hs2).trans n1; have m2 := (hB3.cell (p := ⟨bf, 0, none⟩) (Nat.lt_trans hbf hs2)).trans n2; have HB3 := hid hB3; clear hB3))
      all_goals
        have HB4 := hid (HB2d.out.trans (HB3.out.mono HB2d.out.size))
        go_wp2_with fail
        go_ret
        exact ⟨ret_int (by rw [He.out]), HB4.out⟩
  · have He : Hid (E = 2) := hid (by rw [hE, code1R, if_neg (by rw [h0]; decide), h0])
    have HC := hid hC
    clear hC h0 hE
    go_enter Try.func110, Try.ntmps110
    go_wp2_with fail
    refine (is_yes V a0 cap fs _ Hx.out hl HC.out).mono ?_
    rintro e w1 ⟨rfl, hB1⟩
    have HB1 := hid (hB0.trans (hB1.mono (by simp)))
    have k0 : w1.cell? ⟨w.heap.size, 0, none⟩ = some (.int .i64 V) := (hB1.cell (p := ⟨w.heap.size, 0, none⟩) (by simp)).trans (by simp [go_sem])
    have k1 : w1.cell? ⟨w.heap.size, 1, none⟩ = some (.slice a0 fs.length cap) := (hB1.cell (p := ⟨w.heap.size, 1, none⟩) (by simp)).trans (by simp [go_sem])
    have HI := hid (pis_any V a0 cap fs a1 n cap1 ps w1 (Hx0.out.later HB1.out HB1.out.size) (Hy.out.later HB1.out HB1.out.size) hl HC.out.range63 hp hn)
    rw [h1] at HI
    clear hB0 hB1 h1 hp
    go_wp2_with fail
    refine HI.out.mono ?_
    rintro e w2 ⟨rfl, hB2⟩
    go_wp2_with fail
    go_ret
    exact ⟨ret_int (by rw [He.out]), HB1.out.trans (hB2.mono HB1.out.size)⟩
  · have He : Hid (E = 1) := hid (by rw [hE, code1R, if_neg (by rw [h0]; decide), h0])
    clear h0 hE
    go_enter Try.func110, Try.ntmps110
    go_wp2_with fail
    refine (is_no V a0 cap fs _ Hx.out hl hC).mono ?_
    rintro e w1 ⟨rfl, hB1⟩
    go_wp2_with fail
    go_ret
    exact ⟨ret_int (by rw [He.out]), hB0.trans (hB1.mono (by simp))⟩

end Go.Proofs.Ytbhdipljhelddaa

/-! Cancelling two faces, the mathematics: with just one way between them, the pairs along it. -/
namespace Go.Proofs.Ytbhdipljhelddaa
open Go.RowKit

theorem way_head {ps : List Int} {n : Nat} {a b : Int} (h : Way ps n a b) : ∃ z ∈ nextL ps n a, b = z ∨ Way ps n z b := by
  induction h with
  | one h => exact ⟨_, h, .inl rfl⟩
  | more h1 h2 ih =>
    obtain ⟨z, hz, e | e⟩ := ih
    · subst e; exact ⟨_, hz, .inr (.one h2)⟩
    · exact ⟨z, hz, .inr (.more e h2)⟩
theorem sum_pos_ex : ∀ {l : List Int} {g : Int → Int}, (∀ x ∈ l, 0 ≤ g x) → 0 < (l.map g).sum → ∃ x ∈ l, 0 < g x
  | [], g, _, h => by simp at h
  | x :: l, g, h0, h => by
    rw [List.map_cons, List.sum_cons] at h
    by_cases e : 0 < g x
    · exact ⟨x, by simp, e⟩
    · obtain ⟨y, hy, h2⟩ := sum_pos_ex (l := l) (g := g) (fun y hy => h0 y (List.mem_cons_of_mem _ hy)) (by have := h0 x (by simp); omega)
      exact ⟨y, List.mem_cons_of_mem _ hy, h2⟩
theorem sum_ge_of_mem : ∀ {l : List Int} {g : Int → Int}, (∀ x ∈ l, 0 ≤ g x) → ∀ {y : Int}, y ∈ l → g y ≤ (l.map g).sum
  | [], _, _, _, h => by simp at h
  | x :: l, g, h0, y, h => by
    rw [List.map_cons, List.sum_cons]
    have hs : 0 ≤ (l.map g).sum := sum_nonneg (fun z hz => by
      obtain ⟨u, hu, rfl⟩ := List.mem_map.1 hz
      exact h0 u (List.mem_cons_of_mem _ hu))
    rcases List.mem_cons.1 h with e | e
    · subst e; omega
    · have := sum_ge_of_mem (l := l) (g := g) (fun z hz => h0 z (List.mem_cons_of_mem _ hz)) e
      have := h0 x (by simp)
      omega
/-- A sum of one: just one summand, and that is 1. -/
theorem one_of_sum {g : Int → Int} : ∀ {l : List Int}, l.Nodup → (∀ x ∈ l, 0 ≤ g x) → (l.map g).sum = 1 → ∃ f ∈ l, g f = 1 ∧ l.filter (fun y => decide (g y = 1)) = [f] ∧ ∀ y ∈ l, 0 < g y → y = f
  | [], _, _, h => by simp at h
  | x :: l, hn, h0, h => by
    obtain ⟨hn1, hn2⟩ := List.nodup_cons.1 hn
    rw [List.map_cons, List.sum_cons] at h
    have h0' : ∀ y ∈ l, 0 ≤ g y := fun y hy => h0 y (List.mem_cons_of_mem _ hy)
    have hx := h0 x (by simp)
    have hs : 0 ≤ (l.map g).sum := sum_nonneg (fun z hz => by
      obtain ⟨u, hu, rfl⟩ := List.mem_map.1 hz
      exact h0' u hu)
    by_cases e : g x = 1
    · have hz : ∀ y ∈ l, g y = 0 := fun y hy => by
        have := sum_ge_of_mem h0' hy
        have := h0' y hy
        omega
      refine ⟨x, by simp, e, ?_, fun y hy hp => ?_⟩
      · rw [List.filter_cons_of_pos (by simp [e])]
        congr 1
        exact List.filter_eq_nil_iff.2 (fun y hy => by simp [hz y hy])
      · rcases List.mem_cons.1 hy with e2 | e2
        · exact e2
        · have := hz y e2; omega
    · have e0 : g x = 0 := by omega
      obtain ⟨f, hf, h1, h2, h3⟩ := one_of_sum hn2 h0' (by omega)
      refine ⟨f, List.mem_cons_of_mem _ hf, h1, ?_, fun y hy hp => ?_⟩
      · rw [List.filter_cons_of_neg (by simp [e0]), h2]
      · rcases List.mem_cons.1 hy with e2 | e2
        · subst e2; omega
        · exact h3 y e2 hp

theorem gw_self_pos {ps : List Int} {n : Nat} (hc : NoCycle ps n) (c : Int) : 0 < gw ps n c c := by
  rw [gw_step hc, if_pos rfl]
  have : 0 ≤ ((nextL ps n c).map (gw ps n c)).sum := sum_nonneg (fun z hz => by
    obtain ⟨u, _, rfl⟩ := List.mem_map.1 hz
    exact gw_nonneg ps n c u)
  omega
theorem gw_pos_next {ps : List Int} {n : Nat} (hc : NoCycle ps n) {c x y : Int} (hy : y ∈ nextL ps n x) (h : 0 < gw ps n c y) : 0 < gw ps n c x := by
  rw [gw_step hc]
  have h2 := sum_ge_of_mem (l := nextL ps n x) (g := gw ps n c) (fun z _ => gw_nonneg ps n c z) hy
  split <;> omega
theorem gw_pos_way {ps : List Int} {n : Nat} (hc : NoCycle ps n) {x y : Int} (h : Way ps n x y) : ∀ c, 0 < gw ps n c y → 0 < gw ps n c x := by
  induction h with
  | one h => exact fun c hp => gw_pos_next hc h hp
  | more h1 h2 ih => exact fun c hp => ih c (gw_pos_next hc h2 hp)
theorem gwN_pos {ps : List Int} {n : Nat} {c : Int} : ∀ (f : Nat) (x : Int), 0 < gwN ps n c f x → x = c ∨ Way ps n x c
  | 0, x, h => by simp [gwN] at h
  | f + 1, x, h => by
    rw [gwN] at h
    by_cases e : x = c
    · exact .inl e
    · rw [if_neg e, Int.zero_add] at h
      obtain ⟨y, hy, hp⟩ := sum_pos_ex (fun z _ => gwN_nonneg ps n c f z) h
      rcases gwN_pos f y hp with e2 | e2
      · subst e2; exact .inr (.one hy)
      · exact .inr (way_trans (.one hy) e2)
theorem gw_pos {ps : List Int} {n : Nat} (hc : NoCycle ps n) {c x : Int} : 0 < gw ps n c x ↔ x = c ∨ Way ps n x c := by
  refine ⟨fun h => gwN_pos _ _ h, fun h => ?_⟩
  rcases h with e | e
  · subst e; exact gw_self_pos hc _
  · exact gw_pos_way hc e c (gw_self_pos hc c)

/-- What stands under a face, but for its own low face. -/
def underL (ps : List Int) (n : Nat) (h : Int) : List Int := (belowR h.toNat 63).filter fun y => decide (highOf ps n y ≠ h)
/-- The only one of them from which there is a way to a. -/
def faceOf (ps : List Int) (n : Nat) (a h : Int) : Int := (((underL ps n h).filter fun y => decide (gw ps n a y = 1)).getLast?).getD 0
/-- The way, as the model takes it: each face with the high face ahead of it. -/
def MWay (ps : List Int) (n : Nat) (a : Int) : Int → List (Int × Int) → Prop
  | h, [] => h = 0
  | h, p :: rs => p.2 = h ∧ 0 < h ∧ h < 64 ∧ faceOf ps n a h = p.1 ∧ MWay ps n a (highOf ps n p.1) rs

/-- Whether a pair lies on a way from b to a. -/
noncomputable def keepW (qs : List Int) (n : Nat) (b a : Int) (i : Nat) : Bool := decide (0 < wsum qs n b (at0 qs (i * 2))) && reachB qs n (at0 qs (i * 2)) a
noncomputable def rt (qs : List Int) (n : Nat) (b a : Int) : Nat → Int → List (Int × Int)
  | 0, h => [(a, h)]
  | m + 1, h => if keepW qs n b a m then (at0 qs (m * 2), h) :: rt qs n b a m (at0 qs (m * 2 + 1)) else rt qs n b a m h

theorem rt_succ (qs : List Int) (n : Nat) (b a : Int) (m : Nat) (h : Int) : rt qs n b a (m + 1) h = if keepW qs n b a m then (at0 qs (m * 2), h) :: rt qs n b a m (at0 qs (m * 2 + 1)) else rt qs n b a m h := rfl
/-- What is known of a pairing in the order in which it settles, and of two critical faces. -/
structure CncH (qs : List Int) (n : Nat) (b a : Int) : Prop where
  ord : OrdQ qs n
  highs : HighsB qs n
  lows : LowsApart qs n
  hinj : ∀ i j, i < n → j < n → at0 qs (i * 2 + 1) = at0 qs (j * 2 + 1) → i = j
  hne : ∀ i, i < n → at0 qs (i * 2 + 1) ≠ 0
  acrit : ∀ i, i < n → at0 qs (i * 2) ≠ a
  bcrit : ∀ i, i < n → at0 qs (i * 2 + 1) ≠ b
  b0 : 0 < b ∧ b < 64
  one : ((belowR b.toNat 63).map (gw qs n a)).sum = 1
  wsb : ∀ x, wsum qs n b x = ((belowR b.toNat 63).map (gw qs n x)).sum

namespace CncH
variable {qs : List Int} {n : Nat} {b a : Int}
theorem nc (H : CncH qs n b a) : NoCycle qs n := ordQ_acyclic H.ord
theorem high (H : CncH qs n b a) {i : Nat} (hi : i < n) : highOf qs n (at0 qs (i * 2)) = at0 qs (i * 2 + 1) :=
  highOf_some hi rfl (fun j hj e => H.lows j i hj hi e)
theorem low (_ : CncH qs n b a) {x : Int} (h : highOf qs n x ≠ 0) : ∃ i, i < n ∧ at0 qs (i * 2) = x :=
  Classical.byContradiction fun hn => h (highOf_none (fun j hj e => hn ⟨j, hj, e⟩))
theorem ws_pos (H : CncH qs n b a) {x : Int} : 0 < wsum qs n b x ↔ ∃ y ∈ belowR b.toNat 63, x = y ∨ Way qs n y x := by
  rw [H.wsb]
  constructor
  · intro h
    obtain ⟨y, hy, hp⟩ := sum_pos_ex (fun z _ => gw_nonneg qs n x z) h
    exact ⟨y, hy, ((gw_pos H.nc).1 hp).imp Eq.symm id⟩
  · rintro ⟨y, hy, h⟩
    have h1 := (gw_pos H.nc (c := x) (x := y)).2 (h.imp Eq.symm id)
    have h2 := sum_ge_of_mem (l := belowR b.toNat 63) (g := gw qs n x) (fun z _ => gw_nonneg qs n x z) hy
    omega
theorem under_b (H : CncH qs n b a) : underL qs n b = belowR b.toNat 63 := by
  unfold underL
  refine List.filter_eq_self.2 fun y _ => ?_
  simp only [decide_eq_true_eq]
  intro e
  obtain ⟨i, hi, rfl⟩ := H.low (x := y) (by have := H.b0; omega)
  rw [H.high hi] at e
  exact H.bcrit i hi e
theorem under_high (H : CncH qs n b a) {m : Nat} (hm : m < n) : underL qs n (at0 qs (m * 2 + 1)) = nextL qs n (at0 qs (m * 2)) := by
  unfold underL nextL
  rw [H.high hm, if_neg (H.hne m hm)]
  refine List.filter_congr fun y _ => ?_
  rw [Bool.eq_iff_iff]
  simp only [decide_eq_true_eq]
  constructor
  · intro h e
    subst e
    exact h (H.high hm)
  · intro h e
    obtain ⟨i, hi, rfl⟩ := H.low (x := y) (by rw [e]; exact H.hne m hm)
    rw [H.high hi] at e
    rw [H.hinj i m hi hm e] at h
    exact h rfl
theorem way_ord (H : CncH qs n b a) {x y : Int} (h : Way qs n x y) : ∀ i j, i < n → j < n → at0 qs (i * 2) = x → at0 qs (j * 2) = y → j < i := by
  induction h with
  | one h =>
    intro i j hi hj e1 e2
    exact H.ord i j hi hj (by unfold StepP; rw [e1, e2]; exact h)
  | more h1 h2 ih =>
    rename_i u v
    intro i j hi hj e1 e2
    obtain ⟨k, hk, e3⟩ : ∃ k, k < n ∧ at0 qs (k * 2) = u := Classical.byContradiction fun hn => by
      rw [nextL_nil (fun k hk e => hn ⟨k, hk, e⟩)] at h2
      simp at h2
    have := ih i k hi hk e1 e3
    have := H.ord k j hk hj (by unfold StepP; rw [e3, e2]; exact h2)
    omega
theorem low_of_pos (_ : CncH qs n b a) {y : Int} (h : 0 < gw qs n a y) (hne : y ≠ a) : ∃ i, i < n ∧ at0 qs (i * 2) = y :=
  Classical.byContradiction fun hn => by
    rw [gw_none (fun i hi e => hn ⟨i, hi, e⟩), if_neg hne] at h
    omega
theorem under_nodup (_ : CncH qs n b a) {h : Int} (h0 : 0 < h ∧ h < 64) : (underL qs n h).Nodup := by
  have := below_nodup ⟨h.toNat, by omega⟩
  exact List.Pairwise.filter _ this

/-- What holds ahead of the pairs m - 1 to 0, h the high face reached. -/
structure St (qs : List Int) (n : Nat) (b a : Int) (m : Nat) (h : Int) : Prop where
  h0 : 0 < h ∧ h < 64
  one : ((underL qs n h).map (gw qs n a)).sum = 1
  left : ∀ i, i < m → keepW qs n b a i = true → ∃ y ∈ underL qs n h, at0 qs (i * 2) = y ∨ Way qs n y (at0 qs (i * 2))
  here : ∀ y ∈ underL qs n h, 0 < gw qs n a y → y ≠ a → ∃ i, i < m ∧ at0 qs (i * 2) = y ∧ keepW qs n b a i = true

theorem keep_iff (H : CncH qs n b a) {i : Nat} : keepW qs n b a i = true ↔ 0 < wsum qs n b (at0 qs (i * 2)) ∧ 0 < gw qs n a (at0 qs (i * 2)) := by
  unfold keepW
  rw [Bool.and_eq_true, decide_eq_true_eq, gw_pos H.nc]
  refine and_congr Iff.rfl ?_
  by_cases h : a = at0 qs (i * 2) ∨ Way qs n (at0 qs (i * 2)) a
  · rw [reachB_true h]
    exact ⟨fun _ => h.imp Eq.symm id, fun _ => rfl⟩
  · rw [reachB_false h]
    exact ⟨fun e => (by cases e), fun e => absurd (e.imp Eq.symm id) h⟩
theorem start (H : CncH qs n b a) : St qs n b a n b := by
  refine ⟨H.b0, by rw [H.under_b]; exact H.one, fun i _ hk => ?_, fun y hy hp hne => ?_⟩
  · rw [H.under_b]
    exact H.ws_pos.1 (H.keep_iff.1 hk).1
  · rw [H.under_b] at hy
    obtain ⟨i, hi, e⟩ := H.low_of_pos hp hne
    exact ⟨i, hi, e, H.keep_iff.2 ⟨by rw [e]; exact H.ws_pos.2 ⟨y, hy, .inl rfl⟩, by rw [e]; exact hp⟩⟩
theorem high_rng (H : CncH qs n b a) {m : Nat} (hm : m < n) : 0 < at0 qs (m * 2 + 1) ∧ at0 qs (m * 2 + 1) < 64 := by
  have := H.highs (at0 qs (m * 2))
  rw [H.high hm] at this
  have := H.hne m hm
  omega
/-- The face that the model takes. -/
theorem St.face (H : CncH qs n b a) {m : Nat} {h : Int} (S : St qs n b a m h) : ∃ f ∈ underL qs n h, gw qs n a f = 1 ∧ faceOf qs n a h = f ∧ ∀ y ∈ underL qs n h, 0 < gw qs n a y → y = f := by
  obtain ⟨f, h1, h2, h3, h4⟩ := one_of_sum (H.under_nodup S.h0) (fun x _ => gw_nonneg qs n a x) S.one
  refine ⟨f, h1, h2, ?_, h4⟩
  unfold faceOf
  rw [h3]
  rfl
theorem mway (H : CncH qs n b a) : ∀ (m : Nat) (h : Int), m ≤ n → St qs n b a m h → MWay qs n a h (rt qs n b a m h)
  | 0, h, _, S => by
    obtain ⟨f, hf, h1, h2, _⟩ := S.face H
    have hfa : f = a := Classical.byContradiction fun hne => by
      obtain ⟨i, hi, _⟩ := S.here f hf (by omega) hne
      omega
    subst hfa
    refine ⟨rfl, S.h0.1, S.h0.2, h2, ?_⟩
    show highOf qs n f = 0
    exact highOf_none (fun j hj => H.acrit j hj)
  | m + 1, h, hm, S => by
    have hmn : m < n := by omega
    rw [rt_succ]
    obtain ⟨f, hf, h1, h2, h3⟩ := S.face H
    by_cases hk : keepW qs n b a m = true
    · rw [if_pos hk]
      have hkk := H.keep_iff.1 hk
      have hxf : at0 qs (m * 2) = f := by
        obtain ⟨y, hy, e⟩ := S.left m (by omega) hk
        have hyf : y = f := h3 y hy (by
          rcases e with e | e
          · rw [← e]; exact hkk.2
          · exact gw_pos_way H.nc e a hkk.2)
        subst hyf
        rcases e with e | e
        · exact e
        · by_cases hya : y = a
          · subst hya
            obtain ⟨z, hz, _⟩ := way_head e
            rw [nextL_nil (fun i hi => H.acrit i hi)] at hz
            simp at hz
          · obtain ⟨i, hi, e2, _⟩ := S.here y hy (by omega) hya
            by_cases eim : i = m
            · subst eim; exact e2
            · have := H.way_ord e i m (by omega) hmn e2 rfl
              omega
      refine ⟨rfl, S.h0.1, S.h0.2, by rw [h2, hxf], ?_⟩
      simp only
      rw [H.high hmn]
      refine H.mway m _ (by omega) ⟨H.high_rng hmn, ?_, fun i hi hki => ?_, fun y hy hp hne => ?_⟩
      · rw [H.under_high hmn]
        have := gw_step H.nc a (at0 qs (m * 2))
        rw [if_neg (H.acrit m hmn), hxf, h1] at this
        rw [hxf]
        omega
      · rw [H.under_high hmn]
        have hkj := H.keep_iff.1 hki
        obtain ⟨y, hy, e⟩ := S.left i (by omega) hki
        have hyf : y = f := h3 y hy (by
          rcases e with e | e
          · rw [← e]; exact hkj.2
          · exact gw_pos_way H.nc e a hkj.2)
        rw [hyf, ← hxf] at e
        rcases e with e | e
        · exact absurd e (H.lows i m hi hmn)
        · exact way_head e
      · rw [H.under_high hmn] at hy
        obtain ⟨i, hi, e⟩ := H.low_of_pos hp hne
        refine ⟨i, H.ord m i hmn hi (by unfold StepP; rw [e]; exact hy), e, H.keep_iff.2 ⟨?_, by rw [e]; exact hp⟩⟩
        obtain ⟨s, hs, e3⟩ := H.ws_pos.1 hkk.1
        refine H.ws_pos.2 ⟨s, hs, .inr ?_⟩
        rw [e]
        rcases e3 with e3 | e3
        · rw [e3] at hy; exact .one hy
        · exact .more e3 hy
    · rw [if_neg hk]
      refine H.mway m h (by omega) ⟨S.h0, S.one, fun i hi hki => S.left i (by omega) hki, fun y hy hp hne => ?_⟩
      obtain ⟨i, hi, e, hki⟩ := S.here y hy hp hne
      refine ⟨i, ?_, e, hki⟩
      by_cases eim : i = m
      · subst eim; exact absurd hki hk
      · omega
theorem route (H : CncH qs n b a) : MWay qs n a b (rt qs n b a n b) := H.mway n b (Nat.le_refl _) H.start
end CncH

/-! What is exchanged, as the program lists it. -/
noncomputable def excStep (qs : List Int) (n : Nat) (b a : Int) (st : List (Int × Int) × Int) (i : Nat) : List (Int × Int) × Int :=
  if keepW qs n b a i then (st.1 ++ [pairAt qs i, (at0 qs (i * 2), st.2)], at0 qs (i * 2 + 1)) else st
noncomputable def excTo (qs : List Int) (n : Nat) (b a : Int) (l : List Nat) : List (Int × Int) × Int := l.foldl (excStep qs n b a) ([], b)
theorem excTo_snoc (qs : List Int) (n : Nat) (b a : Int) (l : List Nat) (i : Nat) : excTo qs n b a (l ++ [i]) = excStep qs n b a (excTo qs n b a l) i := by
  unfold excTo; rw [List.foldl_append]; rfl
theorem excTo_len (qs : List Int) (n : Nat) (b a : Int) (l : List Nat) : (excTo qs n b a l).1.length ≤ 2 * l.length := by
  have key : ∀ (l : List Nat) (st : List (Int × Int) × Int), (l.foldl (excStep qs n b a) st).1.length ≤ st.1.length + 2 * l.length := by
    intro l
    induction l with
    | nil => intro st; simp
    | cons i l ih =>
      intro st
      rw [List.foldl_cons]
      refine Nat.le_trans (ih _) ?_
      unfold excStep
      split
      · simp; omega
      · simp; omega
  have := key l ([], b)
  simpa [excTo] using this
noncomputable def excL (qs : List Int) (n : Nat) (b a : Int) (l : List Nat) : List (Int × Int) := (excTo qs n b a l).1 ++ [(a, (excTo qs n b a l).2)]
/-- The pairs on the way that go. -/
noncomputable def goneL (qs : List Int) (n : Nat) (b a : Int) (m : Nat) : List (Int × Int) := (((List.range m).reverse).filter (keepW qs n b a)).map (pairAt qs)
theorem exc_count (qs : List Int) (n : Nat) (b a : Int) (p : Int × Int) : ∀ (m : Nat) (st : List (Int × Int) × Int),
    ((((List.range m).reverse).foldl (excStep qs n b a) st).1 ++ [(a, (((List.range m).reverse).foldl (excStep qs n b a) st).2)]).count p = st.1.count p + (rt qs n b a m st.2).count p + (goneL qs n b a m).count p
  | 0, st => by simp [rt, goneL]
  | m + 1, st => by
    have hr : (List.range (m + 1)).reverse = m :: (List.range m).reverse := by rw [List.range_succ, List.reverse_append]; rfl
    rw [hr, List.foldl_cons, exc_count qs n b a p m, rt_succ]
    unfold goneL excStep
    rw [hr]
    by_cases hk : keepW qs n b a m = true
    · rw [if_pos hk, if_pos hk, List.filter_cons_of_pos hk, List.map_cons, List.count_append, List.count_cons, List.count_cons, List.count_cons, List.count_cons, List.count_nil]
      simp only
      omega
    · rw [if_neg hk, if_neg hk, List.filter_cons_of_neg hk]

/-! The lists. -/
/-- The pairs with a pair's low face go, and the pair is put in. -/
def takeIn (out : List (Int × Int)) (p : Int × Int) : List (Int × Int) := insL (out.filter fun q => decide (q.1 ≠ p.1)) p
def cancL (L rs : List (Int × Int)) : List (Int × Int) := rs.foldl takeIn L
theorem mem_takeIn {out : List (Int × Int)} {p q : Int × Int} : q ∈ takeIn out p ↔ q = p ∨ (q ∈ out ∧ q.1 ≠ p.1) := by
  unfold takeIn
  rw [(insL_perm _ _).mem_iff, List.mem_cons, List.mem_filter]
  simp
theorem takeIn_nodup {out : List (Int × Int)} {p : Int × Int} (h : out.Nodup) : (takeIn out p).Nodup := by
  unfold takeIn
  refine ((insL_perm _ _).nodup_iff).2 (List.nodup_cons.2 ⟨fun hm => ?_, h.filter _⟩)
  have := (List.mem_filter.1 hm).2
  simp at this
theorem takeIn_asc {out : List (Int × Int)} {p : Int × Int} (h : out.Pairwise leP) : (takeIn out p).Pairwise leP := insL_asc _ (h.filter _)
theorem takeIn_len (out : List (Int × Int)) (p : Int × Int) : (takeIn out p).length ≤ out.length + 1 := by
  unfold takeIn
  rw [(insL_perm _ _).length_eq, List.length_cons]
  have := List.length_filter_le (fun q : Int × Int => decide (q.1 ≠ p.1)) out
  omega
theorem cancL_asc : ∀ (rs L : List (Int × Int)), L.Pairwise leP → (cancL L rs).Pairwise leP
  | [], _, h => h
  | _ :: rs, _, h => cancL_asc rs _ (takeIn_asc h)
theorem cancL_nodup : ∀ (rs L : List (Int × Int)), L.Nodup → (cancL L rs).Nodup
  | [], _, h => h
  | _ :: rs, _, h => cancL_nodup rs _ (takeIn_nodup h)
theorem cancL_len : ∀ (rs L : List (Int × Int)), (cancL L rs).length ≤ L.length + rs.length
  | [], _ => by simp [cancL]
  | p :: rs, L => by
    have h1 := cancL_len rs (takeIn L p)
    have h2 := takeIn_len L p
    unfold cancL at h1 ⊢
    rw [List.foldl_cons, List.length_cons]
    omega
theorem mem_cancL {q : Int × Int} : ∀ (rs L : List (Int × Int)), (rs.map Prod.fst).Nodup → (q ∈ cancL L rs ↔ q ∈ rs ∨ (q ∈ L ∧ q.1 ∉ rs.map Prod.fst))
  | [], L, _ => by simp [cancL]
  | p :: rs, L, hn => by
    rw [List.map_cons] at hn
    obtain ⟨h1, h2⟩ := List.nodup_cons.1 hn
    show q ∈ cancL (takeIn L p) rs ↔ _
    rw [mem_cancL rs (takeIn L p) h2, mem_takeIn, List.map_cons, List.mem_cons, List.mem_cons]
    constructor
    · rintro (h | ⟨h | ⟨h, h'⟩, h3⟩)
      · exact .inl (.inr h)
      · exact .inl (.inl h)
      · exact .inr ⟨h, fun e => e.elim h' h3⟩
    · rintro ((h | h) | ⟨h, h3⟩)
      · subst h; exact .inr ⟨.inl rfl, h1⟩
      · exact .inl h
      · exact .inr ⟨.inr ⟨h, fun e => h3 (.inl e)⟩, fun e => h3 (.inr e)⟩

namespace CncH
variable {qs : List Int} {n : Nat} {b a : Int}
theorem rt_fst : ∀ {m : Nat} {h : Int} {p : Int × Int}, p ∈ rt qs n b a m h → (p.1 = a ∨ ∃ i, i < m ∧ keepW qs n b a i = true ∧ at0 qs (i * 2) = p.1) ∧ (p.2 = h ∨ ∃ j, j < m ∧ p.2 = at0 qs (j * 2 + 1) ∧ (p.1 = a ∨ ∃ i, i < j ∧ at0 qs (i * 2) = p.1))
  | 0, h, p, hp => by
    simp [rt] at hp
    subst hp
    exact ⟨.inl rfl, .inl rfl⟩
  | m + 1, h, p, hp => by
    rw [rt_succ] at hp
    split at hp
    · rename_i hk
      rcases List.mem_cons.1 hp with e | e
      · subst e
        exact ⟨.inr ⟨m, by omega, hk, rfl⟩, .inl rfl⟩
      · obtain ⟨h1, h2⟩ := rt_fst e
        refine ⟨h1.imp id (fun ⟨i, hi, hh⟩ => ⟨i, by omega, hh⟩), .inr ?_⟩
        rcases h2 with h2 | ⟨j, hj, h3⟩
        · exact ⟨m, by omega, h2, h1.imp id (fun ⟨i, hi, hh⟩ => ⟨i, hi, hh.2⟩)⟩
        · exact ⟨j, by omega, h3⟩
    · obtain ⟨h1, h2⟩ := rt_fst hp
      refine ⟨h1.imp id (fun ⟨i, hi, hh⟩ => ⟨i, by omega, hh⟩), h2.imp id (fun ⟨j, hj, hh⟩ => ⟨j, by omega, hh⟩)⟩
theorem rt_fst_has : ∀ {m : Nat} {h : Int} {i : Nat}, i < m → keepW qs n b a i = true → at0 qs (i * 2) ∈ (rt qs n b a m h).map Prod.fst
  | 0, _, _, hi, _ => absurd hi (Nat.not_lt_zero _)
  | m + 1, h, i, hi, hk => by
    rw [rt_succ]
    by_cases e : i = m
    · subst e
      rw [if_pos hk]
      simp
    · have ih : ∀ h', at0 qs (i * 2) ∈ (rt qs n b a m h').map Prod.fst := fun h' => rt_fst_has (by omega) hk
      split
      · rw [List.map_cons]; exact List.mem_cons_of_mem _ (ih _)
      · exact ih _
theorem rt_nodup (H : CncH qs n b a) : ∀ (m : Nat) (h : Int), m ≤ n → ((rt qs n b a m h).map Prod.fst).Nodup
  | 0, h, _ => by simp [rt]
  | m + 1, h, hm => by
    rw [rt_succ]
    split
    · rw [List.map_cons]
      refine List.nodup_cons.2 ⟨fun hx => ?_, rt_nodup H m _ (by omega)⟩
      obtain ⟨p, hp, e⟩ := List.mem_map.1 hx
      rcases (rt_fst hp).1 with e2 | ⟨i, hi, _, e2⟩
      · exact H.acrit m (by omega) (e.symm.trans e2)
      · exact H.lows i m hi (by omega) (e2.trans e)
    · exact rt_nodup H m _ (by omega)
theorem rt_len : ∀ (m : Nat) (h : Int), (rt qs n b a m h).length ≤ m + 1
  | 0, h => by simp [rt]
  | m + 1, h => by
    rw [rt_succ]
    split
    · have := rt_len m (at0 qs (m * 2 + 1))
      simp; omega
    · have := rt_len m h
      omega
/-- What is put in is not in the pairing. -/
theorem rt_new (H : CncH qs n b a) {p : Int × Int} (hp : p ∈ rt qs n b a n b) {i : Nat} (hi : i < n) : p ≠ pairAt qs i := by
  intro e
  obtain ⟨h1, h2⟩ := rt_fst hp
  have e1 : p.1 = at0 qs (i * 2) := by rw [e]; rfl
  have e2 : p.2 = at0 qs (i * 2 + 1) := by rw [e]; rfl
  have hna : p.1 ≠ a := fun h => H.acrit i hi (e1 ▸ h)
  rcases h2 with h2 | ⟨j, hj, h3, h4⟩
  · exact H.bcrit i hi (by rw [← e2, h2])
  · have hij : i = j := H.hinj i j hi hj (by rw [← e2, h3])
    obtain ⟨k, hk, h5⟩ := h4.resolve_left hna
    exact H.lows k i (by omega) hi (by rw [h5, e1])
theorem gone_mem {m : Nat} {p : Int × Int} : p ∈ goneL qs n b a m ↔ ∃ i, i < m ∧ keepW qs n b a i = true ∧ pairAt qs i = p := by
  unfold goneL
  simp only [List.mem_map, List.mem_filter, List.mem_reverse, List.mem_range]
  exact ⟨fun ⟨i, ⟨h1, h2⟩, h3⟩ => ⟨i, h1, h2, h3⟩, fun ⟨i, h1, h2, h3⟩ => ⟨i, ⟨h1, h2⟩, h3⟩⟩
theorem gone_nodup (H : CncH qs n b a) : (goneL qs n b a n).Nodup := by
  unfold goneL
  refine List.pairwise_map.2 ?_
  have h0 : ((List.range n).reverse.filter (keepW qs n b a)).Pairwise (fun i j => j < i) := by
    refine List.Pairwise.filter _ ?_
    rw [List.pairwise_reverse]
    exact List.pairwise_lt_range
  refine List.Pairwise.imp_of_mem ?_ h0
  intro i j hi hj hij e
  have hin : i < n := by have := (List.mem_filter.1 hi).1; simpa using this
  have hp := congrArg Prod.fst e
  exact H.lows j i hij hin hp.symm
end CncH

/-- A list without pairs twice: how often a pair is in it. -/
theorem count01 {l : List (Int × Int)} (h : l.Nodup) (p : Int × Int) : l.count p = if p ∈ l then 1 else 0 := by
  by_cases hp : p ∈ l
  · rw [if_pos hp]
    have h1 := List.count_pos_iff.2 hp
    have h2 := List.nodup_iff_count.1 h p
    omega
  · rw [if_neg hp, List.count_eq_zero.2 hp]
/-- s: ascending, and in it the pairs that are in l an odd number of times. -/
structure OddP (l s : List (Int × Int)) : Prop where
  asc : s.Pairwise leP
  nodup : s.Nodup
  odd : ∀ p, p ∈ s ↔ l.count p % 2 = 1
theorem nodup_perm {s t : List (Int × Int)} (hs : s.Nodup) (ht : t.Nodup) (h : ∀ p, p ∈ s ↔ p ∈ t) : s.Perm t :=
  List.perm_iff_count.2 fun p => by rw [count01 hs, count01 ht]; simp [h p]
theorem oddP_one {l s t : List (Int × Int)} (hs : OddP l s) (ha : t.Pairwise leP) (hn : t.Nodup) (h : ∀ p, p ∈ t ↔ l.count p % 2 = 1) : s = t :=
  asc_one (nodup_perm hs.nodup hn (fun p => by rw [hs.odd, h])) hs.asc ha
/-- The sum is what the model makes. -/
theorem canc_sum {qs : List Int} {n : Nat} {b a : Int} (H : CncH qs n b a) {L s : List (Int × Int)} (hL : L.Nodup) (hLa : L.Pairwise leP) (hm : ∀ p, p ∈ L ↔ ∃ i, i < n ∧ pairAt qs i = p)
    (hs : OddP (L ++ excL qs n b a (downL n)) s) : s = cancL L (rt qs n b a n b) := by
  refine oddP_one hs (cancL_asc _ _ hLa) (cancL_nodup _ _ hL) (fun p => ?_)
  have hrn := H.rt_nodup n b (Nat.le_refl _)
  have hrn2 : (rt qs n b a n b).Nodup := List.Pairwise.of_map Prod.fst (fun _ _ h e => h (congrArg Prod.fst e)) hrn
  rw [mem_cancL _ _ hrn]
  have hc := exc_count qs n b a p n ([], b)
  have hcc : (excL qs n b a (downL n)).count p = (rt qs n b a n b).count p + (goneL qs n b a n).count p := by
    unfold excL excTo downL
    rw [hc]
    simp
  rw [List.count_append, hcc, count01 hL, count01 hrn2, count01 H.gone_nodup]
  by_cases hp : p ∈ rt qs n b a n b
  · have h1 : p ∉ L := fun h => by
      obtain ⟨i, hi, e⟩ := (hm p).1 h
      exact H.rt_new hp hi e.symm
    have h2 : p ∉ goneL qs n b a n := fun h => by
      obtain ⟨i, hi, _, e⟩ := CncH.gone_mem.1 h
      exact H.rt_new hp hi e.symm
    simp [hp, h1, h2]
  · by_cases hl : p ∈ L
    · obtain ⟨i, hi, rfl⟩ := (hm p).1 hl
      have hk : pairAt qs i ∈ goneL qs n b a n ↔ (pairAt qs i).1 ∈ (rt qs n b a n b).map Prod.fst := by
        rw [CncH.gone_mem]
        constructor
        · rintro ⟨j, hj, hk, e⟩
          have := CncH.rt_fst_has (qs := qs) (n := n) (b := b) (a := a) (h := b) hj hk
          rw [← e]
          exact this
        · intro h
          obtain ⟨q, hq, e⟩ := List.mem_map.1 h
          have e' : q.1 = at0 qs (i * 2) := e
          rcases (CncH.rt_fst hq).1 with e2 | ⟨j, hj, hk, e2⟩
          · exact absurd (e'.symm.trans e2) (H.acrit i hi)
          · refine ⟨j, hj, hk, ?_⟩
            have : i = j := by
              rcases Nat.lt_trichotomy i j with h1 | h1 | h1
              · exact absurd (e'.symm.trans e2.symm) (H.lows i j h1 hj)
              · exact h1
              · exact absurd (e2.trans e') (H.lows j i h1 hi)
            rw [this]
      by_cases hg : pairAt qs i ∈ goneL qs n b a n
      · have := hk.1 hg
        simp [hp, hl, hg, this]
      · have : ¬ (pairAt qs i).1 ∈ (rt qs n b a n b).map Prod.fst := fun h => hg (hk.2 h)
        simp [hp, hl, hg, this]
    · have h2 : p ∉ goneL qs n b a n := fun h => by
        obtain ⟨i, hi, _, e⟩ := CncH.gone_mem.1 h
        exact hl ((hm p).2 ⟨i, hi, e⟩)
      simp [hp, hl, h2]

end Go.Proofs.Ytbhdipljhelddaa

/-! l02Ways: the model's number of ways. -/
namespace Go.Proofs.Ytbhdipljhelddaa
open Go.RowKit

/-- The first k steps' ways, and the one without steps. -/
def gwPart (ps : List Int) (n : Nat) (b a : Int) (k : Nat) : Int := (if a = b then 1 else 0) + (((nextL ps n a).take k).map (gw ps n b)).sum
theorem gwPart_zero (ps : List Int) (n : Nat) (b a : Int) : gwPart ps n b a 0 = if a = b then 1 else 0 := by simp [gwPart]
theorem gwPart_succ {ps : List Int} {n : Nat} {b a : Int} {k : Nat} (hk : k < (nextL ps n a).length) : gwPart ps n b a (k + 1) = gwPart ps n b a k + gw ps n b ((nextL ps n a)[k]?.getD 0) := by
  unfold gwPart
  rw [List.take_add_one, List.getElem?_eq_getElem hk]
  simp only [Option.toList_some, List.map_append, List.map_cons, List.map_nil, List.sum_append, List.sum_cons, List.sum_nil, Option.getD_some, Int.add_zero, Int.add_assoc]
theorem gwPart_all {ps : List Int} {n : Nat} (hc : NoCycle ps n) (b a : Int) : gwPart ps n b a (nextL ps n a).length = gw ps n b a := by
  rw [gw_step hc, gwPart, List.take_length]

set_option maxRecDepth 1000000 in
set_option maxHeartbeats 2000000 in
theorem ways_round (a1 : Option Addr) (n cap : Nat) (ps : List Int) (b a : Int) (w : World) (hx : SlI w w.heap.size a1 ps) (hp : ps.length = 2 * n) (hl : n ≤ 1048576) (hh : HighsB ps n) (hc : NoCycle ps n)
    (H : ∀ y ∈ nextL ps n a, ∀ w', Below w.heap.size w w' → Calls Try.prog 54 #[.slice a1 n cap, .int .i64 y, .int .i64 b] w' fun e w'' => e = .returned (.int .i64 (wrap64 (gw ps n b y))) ∧ Below w'.heap.size w' w'') :
    Calls Try.prog 54 #[.slice a1 n cap, .int .i64 a, .int .i64 b] w fun e w' => e = .returned (.int .i64 (wrap64 (gw ps n b a))) ∧ Below w.heap.size w w' := by
  have HN := hid (next_any a1 n cap ps a w hx hp hl (hh a))
  obtain ⟨E, hE⟩ : ∃ E, E = gw ps n b a := ⟨_, rfl⟩
  rw [← hE]
  have HE := hid (hE.trans (gwPart_all hc b a).symm)
  obtain ⟨d, hd⟩ : ∃ d, (a == b) = d := ⟨_, rfl⟩
  have hst : Hid ((if d then 1 else 0 : Int) = wrap64 (gwPart ps n b a 0)) := hid (by
    rw [gwPart_zero, ← hd]
    by_cases e : a = b
    · simp [e, wrap64]
    · simp [e, wrap64])
  obtain ⟨m, hm⟩ : ∃ m, m = (nextL ps n a).length := ⟨_, rfl⟩
  have hml : m ≤ 63 := by rw [hm]; exact nextL_len ps n a
  have HH := hid H
  have Hm := hid hm
  rw [← hm] at HN HE
  clear hx hp hh hc H hE hm
  cases d
  · go_enter Try.func54, Try.ntmps54
    go_wp2_with fail
    refine HN.out.mono ?_
    rintro e w1 ⟨g, c, rfl, hR⟩
    obtain ⟨hgb, av, cv, hve, hs⟩ := ownsRow_slI hR.1
    injection hve with hve1 hve2 hve3
    clear hve2 hve3
    subst hve1
    have HS := hid hs
    have HB1 := hid hR.2
    clear hR hs hgb
    go_wp2_with fail
    go_loopw [7, 9] (fun t i wr => ∃ k : Nat, k ≤ m ∧ i = .int .i64 k ∧ t = .int .i64 (wrap64 (gwPart ps n b a k)) ∧ Below w1.heap.size w1 wr) (fun _ i _ => m - (intOf i).toNat)
    case atStart => exact ⟨0, Nat.zero_le _, rfl, by rw [← hst.out]; rfl, Below.refl _ _⟩
    case round =>
      obtain ⟨k, hk, rfl, rfl, hB⟩ := hrel
      by_cases hlt : k < m
      · obtain ⟨y, hy⟩ : ∃ y, y = (nextL ps n a)[k]?.getD 0 := ⟨_, rfl⟩
        obtain ⟨hgb, hcell⟩ : g < w1.heap.size ∧ wr.cell? ⟨g, k, none⟩ = some (.int .i64 y) := by
          rw [show k = 0 + k by omega]
          rcases HS.out with h | ⟨b', o', hb', e', h'⟩
          · have := Hm.out; rw [h] at this; simp at this; omega
          · injection e' with e'
            injection e' with e1 e2
            subst e1
            subst e2
            have h2 := h' k (by have := Hm.out; omega)
            rw [← hy] at h2
            exact ⟨hb', (hB.cell (p := ⟨g, 0 + k, none⟩) hb').trans h2⟩
        have hym : y ∈ nextL ps n a := by rw [hy]; exact getD_mem (by have := Hm.out; omega)
        have HC := hid (HH.out y hym wr (HB1.out.trans (hB.mono HB1.out.size)))
        have hsum : Hid (wrap64 (wrap64 (gwPart ps n b a k) + wrap64 (gw ps n b y)) = wrap64 (gwPart ps n b a (k + 1))) := hid (by rw [wrap64_add, gwPart_succ (by have := Hm.out; omega), ← hy])
        have hi0 : (0 : Int) ≤ (k : Int) := by omega
        have hi1 : (k : Int) < (m : Int) := by omega
        have HB := hid hB
        clear hy hym hB
        go_wp2_with fail
        refine HC.out.mono ?_
        rintro e w2 ⟨rfl, hB2⟩
        have HB2 := hid (HB.out.trans (hB2.mono HB.out.size))
        clear hB2
        go_wp2_with fail
        go_roundw
        case rel => exact ⟨k + 1, by omega, by go_num, by first | exact congrArg (Value.int .i64) hsum.out | (rw [← hsum.out]; done), HB2.out⟩
        case measure => simp [intOf]; omega
      · obtain rfl : k = m := by omega
        go_wp2_with fail
        go_ret
        exact ⟨ret_int (by rw [HE.out]), HB1.out.trans (hB.mono HB1.out.size)⟩
  · go_enter Try.func54, Try.ntmps54
    go_wp2_with fail
    refine HN.out.mono ?_
    rintro e w1 ⟨g, c, rfl, hR⟩
    obtain ⟨hgb, av, cv, hve, hs⟩ := ownsRow_slI hR.1
    injection hve with hve1 hve2 hve3
    clear hve2 hve3
    subst hve1
    have HS := hid hs
    have HB1 := hid hR.2
    clear hR hs hgb
    go_wp2_with fail
    go_loopw [7, 9] (fun t i wr => ∃ k : Nat, k ≤ m ∧ i = .int .i64 k ∧ t = .int .i64 (wrap64 (gwPart ps n b a k)) ∧ Below w1.heap.size w1 wr) (fun _ i _ => m - (intOf i).toNat)
    case atStart => exact ⟨0, Nat.zero_le _, rfl, by rw [← hst.out]; rfl, Below.refl _ _⟩
    case round =>
      obtain ⟨k, hk, rfl, rfl, hB⟩ := hrel
      by_cases hlt : k < m
      · obtain ⟨y, hy⟩ : ∃ y, y = (nextL ps n a)[k]?.getD 0 := ⟨_, rfl⟩
        obtain ⟨hgb, hcell⟩ : g < w1.heap.size ∧ wr.cell? ⟨g, k, none⟩ = some (.int .i64 y) := by
          rw [show k = 0 + k by omega]
          rcases HS.out with h | ⟨b', o', hb', e', h'⟩
          · have := Hm.out; rw [h] at this; simp at this; omega
          · injection e' with e'
            injection e' with e1 e2
            subst e1
            subst e2
            have h2 := h' k (by have := Hm.out; omega)
            rw [← hy] at h2
            exact ⟨hb', (hB.cell (p := ⟨g, 0 + k, none⟩) hb').trans h2⟩
        have hym : y ∈ nextL ps n a := by rw [hy]; exact getD_mem (by have := Hm.out; omega)
        have HC := hid (HH.out y hym wr (HB1.out.trans (hB.mono HB1.out.size)))
        have hsum : Hid (wrap64 (wrap64 (gwPart ps n b a k) + wrap64 (gw ps n b y)) = wrap64 (gwPart ps n b a (k + 1))) := hid (by rw [wrap64_add, gwPart_succ (by have := Hm.out; omega), ← hy])
        have hi0 : (0 : Int) ≤ (k : Int) := by omega
        have hi1 : (k : Int) < (m : Int) := by omega
        have HB := hid hB
        clear hy hym hB
        go_wp2_with fail
        refine HC.out.mono ?_
        rintro e w2 ⟨rfl, hB2⟩
        have HB2 := hid (HB.out.trans (hB2.mono HB.out.size))
        clear hB2
        go_wp2_with fail
        go_roundw
        case rel => exact ⟨k + 1, by omega, by go_num, by first | exact congrArg (Value.int .i64) hsum.out | (rw [← hsum.out]; done), HB2.out⟩
        case measure => simp [intOf]; omega
      · obtain rfl : k = m := by omega
        go_wp2_with fail
        go_ret
        exact ⟨ret_int (by rw [HE.out]), HB1.out.trans (hB.mono HB1.out.size)⟩

theorem ways_upto (a1 : Option Addr) (n cap : Nat) (ps : List Int) (b : Int) (hp : ps.length = 2 * n) (hl : n ≤ 1048576) (hh : HighsB ps n) (hc : NoCycle ps n) : ∀ (m : Nat) (a : Int) (w : World), SlI w w.heap.size a1 ps → (∀ i, i < n → at0 ps (i * 2) = a → rkP ps n i < m) →
    Calls Try.prog 54 #[.slice a1 n cap, .int .i64 a, .int .i64 b] w fun e w' => e = .returned (.int .i64 (wrap64 (gw ps n b a))) ∧ Below w.heap.size w w'
  | 0, a, w, hx, hr => ways_round a1 n cap ps b a w hx hp hl hh hc (fun y hy => by
    obtain ⟨i, hi, e⟩ := next_low hy
    exact absurd (hr i hi e) (Nat.not_lt_zero _))
  | m + 1, a, w, hx, hr => ways_round a1 n cap ps b a w hx hp hl hh hc (fun y hy w' hb => ways_upto a1 n cap ps b hp hl hh hc m y w' (hx.later hb hb.size) (fun j hj e => by
    obtain ⟨i, hi, e2⟩ := next_low hy
    have h1 := hr i hi e2
    have h2 := rkP_lt hc hj (show StepP ps n i j by unfold StepP; rw [e, e2]; exact hy)
    omega))
/-- The model's number of ways. -/
theorem ways_any (a1 : Option Addr) (n cap : Nat) (ps : List Int) (b a : Int) (w : World) (hx : SlI w w.heap.size a1 ps) (hp : ps.length = 2 * n) (hl : n ≤ 1048576) (hh : HighsB ps n) (hc : NoCycle ps n) :
    Calls Try.prog 54 #[.slice a1 n cap, .int .i64 a, .int .i64 b] w fun e w' => e = .returned (.int .i64 (wrap64 (gw ps n b a))) ∧ Below w.heap.size w w' :=
  ways_upto a1 n cap ps b hp hl hh hc (n + 1) a w hx (fun i _ _ => by have := rkP_le ps n i; omega)

end Go.Proofs.Ytbhdipljhelddaa

/-! IsAcyclicPairing, the model's door. -/
namespace Go.Proofs.Ytbhdipljhelddaa
open Go.RowKit

noncomputable def isAcyclicR (V : Int) (fs : List Int) (n : Nat) (ps : List Int) : Bool × Int := if pcodeR V fs n ps = 0 then (acyB ps n, 0) else (false, pcodeR V fs n ps)
theorem okTo_lows {V : Int} {fs ps : List Int} {n : Nat} (hC : IsC V fs) (h : OkTo fs ps n) : ∀ i, i < n → 0 ≤ at0 ps (i * 2) ∧ at0 ps (i * 2) < 64 := by
  intro i hi
  have hp := (h i hi).1
  unfold pairB at hp
  simp at hp
  have := hC.range63 _ hp.1.1.1
  omega
theorem bool_mono2 {fn : FuncId} {args : Array Value} {w : World} {B : Nat} {P : Program} {R : Bool × Int} {b : Bool} {c : Int} (hR : R = (b, c))
    (h : Calls P fn args w fun e w' => e = .returned (.tuple #[.bool b, .int .i64 c]) ∧ Below B w w') :
    Calls P fn args w fun e w' => e = .returned (.tuple #[.bool R.1, .int .i64 R.2]) ∧ Below B w w' := by
  subst hR
  exact h


end Go.Proofs.Ytbhdipljhelddaa

/-! CountGradientWays: the model's doors. -/
namespace Go.Proofs.Ytbhdipljhelddaa
open Go.RowKit

noncomputable def code2R (V : Int) (fs : List Int) (n : Nat) (ps : List Int) (a b : Int) : Int := if pcodeR V fs n ps = 0 then (if a ∈ fs ∧ b ∈ fs then 0 else 2) else pcodeR V fs n ps
noncomputable def countWaysR (V : Int) (fs : List Int) (n : Nat) (ps : List Int) (a b : Int) : Int × Int := if code2R V fs n ps a b = 0 then (if acyB ps n then (wrap64 (gw ps n b a), 0) else (0, 5)) else (0, code2R V fs n ps a b)

set_option maxRecDepth 1000000 in
set_option maxHeartbeats 2000000 in
theorem code2_spec (V : Int) (a0 : Option Addr) (cap : Nat) (fs : List Int) (a1 : Option Addr) (n cap1 : Nat) (ps : List Int) (a b : Int) (bf : Nat) (w : World) (hx : SlI w w.heap.size a0 fs) (hx1 : SlI w w.heap.size a1 ps) (hl : fs.length ≤ 1048576) (hp : ps.length = 2 * n) (hn : n ≤ 1048576)
    (hbf : bf < w.heap.size) (hcf : w.cell? ⟨bf, 0, none⟩ = some (.int .i64 a)) (hcg : w.cell? ⟨bf, 1, none⟩ = some (.int .i64 b)) :
    Calls Try.prog 110 #[.agg #[.int .i64 V, .slice a0 fs.length cap], .slice a1 n cap1, .slice (some ⟨bf, 0, none⟩) 2 2] w fun e w' => e = .returned (.int .i64 (code2R V fs n ps a b)) ∧ Below w.heap.size w w' := by
  have hB0 : Below w.heap.size w (w.alloc (.cells #[.int .i64 V, .slice a0 fs.length cap] 28)) := (Below.refl _ w).alloc (Nat.le_refl _) _
  have Hx := hid (hx.later hB0 hB0.size)
  have Hx0 := hid hx
  have Hy := hid hx1
  clear hx hx1
  obtain ⟨E, hE⟩ : ∃ E, E = code2R V fs n ps a b := ⟨_, rfl⟩
  rw [← hE]
  rcases pcode_cases V fs n ps with ⟨hC, _, h0, _, h1⟩ | ⟨hC, _, h0, _, h1⟩ | ⟨hC, h0, _⟩
  · have HC := hid hC
    have hE1 : E = if a ∈ fs ∧ b ∈ fs then 0 else 2 := by rw [hE, code2R, if_pos h0]
    clear hC h0 hE
    go_enter Try.func110, Try.ntmps110
    go_wp2_with fail
    refine (is_yes V a0 cap fs _ Hx.out hl HC.out).mono ?_
    rintro e w1 ⟨rfl, hB1⟩
    have HB1 := hid (hB0.trans (hB1.mono (by simp)))
    have k0 : w1.cell? ⟨w.heap.size, 0, none⟩ = some (.int .i64 V) := (hB1.cell (p := ⟨w.heap.size, 0, none⟩) (by simp)).trans (by simp [go_sem])
    have k1 : w1.cell? ⟨w.heap.size, 1, none⟩ = some (.slice a0 fs.length cap) := (hB1.cell (p := ⟨w.heap.size, 1, none⟩) (by simp)).trans (by simp [go_sem])
    have hs1 : w.heap.size < w1.heap.size := by have := hB1.size; simp at this; omega
    have HI := hid (pis_any V a0 cap fs a1 n cap1 ps w1 (Hx0.out.later HB1.out HB1.out.size) (Hy.out.later HB1.out HB1.out.size) hl HC.out.range63 hp hn)
    rw [h1] at HI
    clear hB0 hB1 h1 hp
    go_wp2_with fail
    refine HI.out.mono ?_
    rintro e w2 ⟨rfl, hB2⟩
    have n0 : w2.cell? ⟨w.heap.size, 0, none⟩ = some (.int .i64 V) := (hB2.cell (p := ⟨w.heap.size, 0, none⟩) hs1).trans k0
    have n1 : w2.cell? ⟨w.heap.size, 1, none⟩ = some (.slice a0 fs.length cap) := (hB2.cell (p := ⟨w.heap.size, 1, none⟩) hs1).trans k1
    have HB2 := hid (HB1.out.trans (hB2.mono HB1.out.size))
    have n2 : w2.cell? ⟨bf, 0, none⟩ = some (.int .i64 a) := (HB2.out.cell (p := ⟨bf, 0, none⟩) hbf).trans hcf
    have n3 : w2.cell? ⟨bf, 1, none⟩ = some (.int .i64 b) := (HB2.out.cell (p := ⟨bf, 1, none⟩) hbf).trans hcg
    have hs2 : w.heap.size < w2.heap.size := Nat.lt_of_lt_of_le hs1 hB2.size
    have HB2d : Hid (Below w.heap.size w w2.drew) := hid (HB2.out.trans ⟨rfl, rfl, rfl, Nat.le_refl _, fun _ _ => rfl⟩)
    clear hB2 k0 k1 hcf hcg
    have hbf2 := hbf
    by_cases ha : a ∈ fs
    · have HA := hid (has_yes V a a0 cap fs w2.drew (Hx0.out.later HB2d.out HB2d.out.size) hl ha)
      by_cases hb : b ∈ fs
      · have He : Hid (E = 0) := hid (by rw [hE1, if_pos ⟨ha, hb⟩])
        have HBb := hid (fun w' (h : Below w.heap.size w w') => has_yes V b a0 cap fs w' (Hx0.out.later h h.size) hl hb)
        clear hE1 ha hb
        go_wp2_with fail
        refine wp_loop_rounds 3 ?_
        rw [rounds_succ]
        go_wp2_with fail
        go_region_held3 (fun w' => w'.cell? ⟨w.heap.size, 0, none⟩ = some (.int .i64 V) ∧ w'.cell? ⟨w.heap.size, 1, none⟩ = some (.slice a0 fs.length cap) ∧ w'.cell? ⟨bf, 0, none⟩ = some (.int .i64 a) ∧ w'.cell? ⟨bf, 1, none⟩ = some (.int .i64 b)) (go_keep) (first
          | (go_at_call 94; refine HA.out.mono ?_; rintro e w3 ⟨rfl, hBw3⟩; have mw30 := (hBw3.cell (p := ⟨w.heap.size, 0, none⟩) hs2).trans n0; have mw31 := (hBw3.cell (p := ⟨w.heap.size, 1, none⟩) hs2).trans n1; have mw32 := (hBw3.cell (p := ⟨bf, 0, none⟩) (Nat.lt_trans hbf2 hs2)).trans n2; have mw33 := (hBw3.cell (p := ⟨bf, 1, none⟩) (Nat.lt_trans hbf2 hs2)).trans n3; have HBw3 := hid hBw3; clear hBw3))
        all_goals
          have HB4 := hid (HB2d.out.trans (HBw3.out.mono HB2d.out.size))
          have HA4 := hid (HBb.out w3.drew (HB4.out.trans ⟨rfl, rfl, rfl, Nat.le_refl _, fun _ _ => rfl⟩))
          have HB4d : Hid (Below w.heap.size w w3.drew) := hid (HB4.out.trans ⟨rfl, rfl, rfl, Nat.le_refl _, fun _ _ => rfl⟩)
          have hs3 : w.heap.size < w3.heap.size := Nat.lt_of_lt_of_le hs2 HBw3.out.size
          clear HBw3 HBb HA
          go_wp2_with fail
          rw [rounds_succ]
          go_wp2_with fail
          go_region_held3 (fun w' => w'.cell? ⟨w.heap.size, 0, none⟩ = some (.int .i64 V) ∧ w'.cell? ⟨w.heap.size, 1, none⟩ = some (.slice a0 fs.length cap) ∧ w'.cell? ⟨bf, 0, none⟩ = some (.int .i64 a) ∧ w'.cell? ⟨bf, 1, none⟩ = some (.int .i64 b)) (go_keep) (first
            | (go_at_call 94; refine HA4.out.mono ?_; rintro e w4 ⟨rfl, hBw4⟩; have mw40 := (hBw4.cell (p := ⟨w.heap.size, 0, none⟩) hs3).trans mw30; have mw41 := (hBw4.cell (p := ⟨w.heap.size, 1, none⟩) hs3).trans mw31; have mw42 := (hBw4.cell (p := ⟨bf, 0, none⟩) (Nat.lt_trans hbf2 hs3)).trans mw32; have mw43 := (hBw4.cell (p := ⟨bf, 1, none⟩) (Nat.lt_trans hbf2 hs3)).trans mw33; have HBw4 := hid hBw4; clear hBw4))
          all_goals
            have HB5 := hid (HB4d.out.trans (HBw4.out.mono HB4d.out.size))
            go_wp2_with fail
            rw [rounds_succ]
            go_wp2_with fail
            go_ret
            exact ⟨ret_int (by rw [He.out]), HB5.out⟩
      · have He : Hid (E = 2) := hid (by rw [hE1, if_neg (fun h => hb h.2)])
        have HBb := hid (fun w' (h : Below w.heap.size w w') => has_no V b a0 cap fs w' (Hx0.out.later h h.size) hl hb)
        clear hE1 ha hb
        go_wp2_with fail
        refine wp_loop_rounds 3 ?_
        rw [rounds_succ]
        go_wp2_with fail
        go_region_held3 (fun w' => w'.cell? ⟨w.heap.size, 0, none⟩ = some (.int .i64 V) ∧ w'.cell? ⟨w.heap.size, 1, none⟩ = some (.slice a0 fs.length cap) ∧ w'.cell? ⟨bf, 0, none⟩ = some (.int .i64 a) ∧ w'.cell? ⟨bf, 1, none⟩ = some (.int .i64 b)) (go_keep) (first
          | (go_at_call 94; refine HA.out.mono ?_; rintro e w3 ⟨rfl, hBw3⟩; have mw30 := (hBw3.cell (p := ⟨w.heap.size, 0, none⟩) hs2).trans n0; have mw31 := (hBw3.cell (p := ⟨w.heap.size, 1, none⟩) hs2).trans n1; have mw32 := (hBw3.cell (p := ⟨bf, 0, none⟩) (Nat.lt_trans hbf2 hs2)).trans n2; have mw33 := (hBw3.cell (p := ⟨bf, 1, none⟩) (Nat.lt_trans hbf2 hs2)).trans n3; have HBw3 := hid hBw3; clear hBw3))
        all_goals
          have HB4 := hid (HB2d.out.trans (HBw3.out.mono HB2d.out.size))
          have HA4 := hid (HBb.out w3.drew (HB4.out.trans ⟨rfl, rfl, rfl, Nat.le_refl _, fun _ _ => rfl⟩))
          have HB4d : Hid (Below w.heap.size w w3.drew) := hid (HB4.out.trans ⟨rfl, rfl, rfl, Nat.le_refl _, fun _ _ => rfl⟩)
          have hs3 : w.heap.size < w3.heap.size := Nat.lt_of_lt_of_le hs2 HBw3.out.size
          clear HBw3 HBb HA
          go_wp2_with fail
          rw [rounds_succ]
          go_wp2_with fail
          go_region_held3 (fun w' => w'.cell? ⟨w.heap.size, 0, none⟩ = some (.int .i64 V) ∧ w'.cell? ⟨w.heap.size, 1, none⟩ = some (.slice a0 fs.length cap) ∧ w'.cell? ⟨bf, 0, none⟩ = some (.int .i64 a) ∧ w'.cell? ⟨bf, 1, none⟩ = some (.int .i64 b)) (go_keep) (first
            | (go_at_call 94; refine HA4.out.mono ?_; rintro e w4 ⟨rfl, hBw4⟩; have mw40 := (hBw4.cell (p := ⟨w.heap.size, 0, none⟩) hs3).trans mw30; have mw41 := (hBw4.cell (p := ⟨w.heap.size, 1, none⟩) hs3).trans mw31; have mw42 := (hBw4.cell (p := ⟨bf, 0, none⟩) (Nat.lt_trans hbf2 hs3)).trans mw32; have mw43 := (hBw4.cell (p := ⟨bf, 1, none⟩) (Nat.lt_trans hbf2 hs3)).trans mw33; have HBw4 := hid hBw4; clear hBw4))
          all_goals
            have HB5 := hid (HB4d.out.trans (HBw4.out.mono HB4d.out.size))
            go_wp2_with fail
            go_ret
            exact ⟨ret_int (by rw [He.out]), HB5.out⟩
    · have He : Hid (E = 2) := hid (by rw [hE1, if_neg (fun h => ha h.1)])
      have HA := hid (has_no V a a0 cap fs w2.drew (Hx0.out.later HB2d.out HB2d.out.size) hl ha)
      clear hE1 ha
      go_wp2_with fail
      refine wp_loop_rounds 3 ?_
      rw [rounds_succ]
      go_wp2_with fail
      go_region_held3 (fun w' => w'.cell? ⟨w.heap.size, 0, none⟩ = some (.int .i64 V) ∧ w'.cell? ⟨w.heap.size, 1, none⟩ = some (.slice a0 fs.length cap) ∧ w'.cell? ⟨bf, 0, none⟩ = some (.int .i64 a) ∧ w'.cell? ⟨bf, 1, none⟩ = some (.int .i64 b)) (go_keep) (first
        | (go_at_call 94; refine HA.out.mono ?_; rintro e w3 ⟨rfl, hBw3⟩; have mw30 := (hBw3.cell (p := ⟨w.heap.size, 0, none⟩) hs2).trans n0; have mw31 := (hBw3.cell (p := ⟨w.heap.size, 1, none⟩) hs2).trans n1; have mw32 := (hBw3.cell (p := ⟨bf, 0, none⟩) (Nat.lt_trans hbf2 hs2)).trans n2; have mw33 := (hBw3.cell (p := ⟨bf, 1, none⟩) (Nat.lt_trans hbf2 hs2)).trans n3; have HBw3 := hid hBw3; clear hBw3))
      all_goals
        have HB4 := hid (HB2d.out.trans (HBw3.out.mono HB2d.out.size))
        go_wp2_with fail
        go_ret
        exact ⟨ret_int (by rw [He.out]), HB4.out⟩
  · have He : Hid (E = 2) := hid (by rw [hE, code2R, if_neg (by rw [h0]; decide), h0])
    have HC := hid hC
    clear hC h0 hE
    go_enter Try.func110, Try.ntmps110
    go_wp2_with fail
    refine (is_yes V a0 cap fs _ Hx.out hl HC.out).mono ?_
    rintro e w1 ⟨rfl, hB1⟩
    have HB1 := hid (hB0.trans (hB1.mono (by simp)))
    have k0 : w1.cell? ⟨w.heap.size, 0, none⟩ = some (.int .i64 V) := (hB1.cell (p := ⟨w.heap.size, 0, none⟩) (by simp)).trans (by simp [go_sem])
    have k1 : w1.cell? ⟨w.heap.size, 1, none⟩ = some (.slice a0 fs.length cap) := (hB1.cell (p := ⟨w.heap.size, 1, none⟩) (by simp)).trans (by simp [go_sem])
    have HI := hid (pis_any V a0 cap fs a1 n cap1 ps w1 (Hx0.out.later HB1.out HB1.out.size) (Hy.out.later HB1.out HB1.out.size) hl HC.out.range63 hp hn)
    rw [h1] at HI
    clear hB0 hB1 h1 hp
    go_wp2_with fail
    refine HI.out.mono ?_
    rintro e w2 ⟨rfl, hB2⟩
    go_wp2_with fail
    go_ret
    exact ⟨ret_int (by rw [He.out]), HB1.out.trans (hB2.mono HB1.out.size)⟩
  · have He : Hid (E = 1) := hid (by rw [hE, code2R, if_neg (by rw [h0]; decide), h0])
    clear h0 hE
    go_enter Try.func110, Try.ntmps110
    go_wp2_with fail
    refine (is_no V a0 cap fs _ Hx.out hl hC).mono ?_
    rintro e w1 ⟨rfl, hB1⟩
    go_wp2_with fail
    go_ret
    exact ⟨ret_int (by rw [He.out]), hB0.trans (hB1.mono (by simp))⟩

theorem num_mono3 {fn : FuncId} {args : Array Value} {w : World} {B : Nat} {P : Program} {R : Int × Int} {b c : Int} (hR : R = (b, c))
    (h : Calls P fn args w fun e w' => e = .returned (.tuple #[.int .i64 b, .int .i64 c]) ∧ Below B w w') :
    Calls P fn args w fun e w' => e = .returned (.tuple #[.int .i64 R.1, .int .i64 R.2]) ∧ Below B w w' := by
  rw [hR]; exact h


end Go.Proofs.Ytbhdipljhelddaa

/-! isCritical, the program's. -/
namespace Go.Proofs.Ytbhdipljhelddaa
open Go.RowKit Go.Shelf

attribute [local go_sem] Oper.semAt_some

set_option maxRecDepth 100000 in
set_option maxHeartbeats 1000000 in
/-- The condition: the number is one of the pair's. -/
theorem isCr1_any (x y f : Int) (bf : Nat) (w : World) (hc : w.heap[bf]? = some (.cells #[.int .i64 f] 2 (0, 0))) :
    Calls Try.prog 172 #[.agg #[.int .i64 x, .int .i64 y], .pointer (some ⟨bf, 0, none⟩)] w fun e w' => e = .returned (.bool (decide (f ∈ [x, y]))) ∧ Below w.heap.size w w' := by
  have cf : ∀ o : Obj, (w.alloc o).cell? ⟨bf, 0, none⟩ = some (.int .i64 f) := fun o => cell_alloc0 (box_cell hc).1 o
  have hB0 : Below w.heap.size w (w.alloc (.cells #[.int .i64 x, .int .i64 y] 65)) := (Below.refl _ w).alloc (Nat.le_refl _) _
  have hS : SlI (w.alloc (.cells #[.int .i64 x, .int .i64 y] 65)).drew (w.alloc (.cells #[.int .i64 x, .int .i64 y] 65)).drew.heap.size (some ⟨w.heap.size, 0, none⟩) [x, y] := by
    refine .inr ⟨w.heap.size, 0, by show w.heap.size < (w.alloc _).heap.size; simp, rfl, fun i hi => ?_⟩
    have h2 := two_of (heap_alloc_new w (.cells #[.int .i64 x, .int .i64 y] 65))
    match i, hi with
    | 0, _ => exact h2.1
    | 1, _ => exact h2.2.1
  have HC := hid (contains_any (some ⟨w.heap.size, 0, none⟩) 2 [x, y] f _ hS (by simp))
  have HB := hid (hB0.trans (below_drewN (Below.refl _ _) 1))
  clear hc hS hB0
  go_enter Try.func172, Try.ntmps172
  go_wp2_with fail
  go_region_with (go_at_call 153; refine HC.out.mono ?_; rintro e w' ⟨rfl, rfl⟩)
  all_goals
    go_wp2_with fail
    go_ret
    exact ⟨ret_bool (by simp), HB.out⟩

/-- The pairs ahead of pair k that hold f. -/
def holdsTo (ps : List Int) (f : Int) (k : Nat) : Prop := ∃ i, i < k ∧ (f = at0 ps (i * 2) ∨ f = at0 ps (i * 2 + 1))
theorem holds_mem {ps : List Int} {n : Nat} (hp : ps.length = 2 * n) (f : Int) : holdsTo ps f n ↔ f ∈ ps := by
  constructor
  · rintro ⟨i, hi, h | h⟩
    · rw [h]; exact getD_mem (by omega)
    · rw [h]; exact getD_mem (by omega)
  · intro h
    obtain ⟨j, hj, e⟩ := List.getElem_of_mem h
    have hat : at0 ps j = f := by
      show ps[j]?.getD 0 = f
      rw [List.getElem?_eq_getElem hj]
      exact e
    rcases Nat.mod_two_eq_zero_or_one j with h2 | h2
    · exact ⟨j / 2, by omega, .inl (by rw [show j / 2 * 2 = j by omega, hat])⟩
    · exact ⟨j / 2, by omega, .inr (by rw [show j / 2 * 2 + 1 = j by omega, hat])⟩

set_option maxRecDepth 100000 in
set_option maxHeartbeats 2000000 in
theorem idxP_any (a1 : Option Addr) (n cap1 : Nat) (ps : List Int) (f : Int) (bf : Nat) (w : World) (hx : SlI w w.heap.size a1 ps) (hp : ps.length = 2 * n) (hn : n ≤ 1048576) (hc : w.heap[bf]? = some (.cells #[.int .i64 f] 2 (0, 0))) :
    Calls Try.prog 205 #[.slice a1 n cap1, .func (.func 172) #[] #[.pointer (some ⟨bf, 0, none⟩)]] w fun e w' => ∃ i : Int, e = .returned (.int .i64 i) ∧ -1 ≤ i ∧ (0 ≤ i ↔ f ∈ ps) ∧ Below w.heap.size w w' := by
  have hent : ∀ args w, (callFunc 172 args).run Try.prog w = .ok (.enter 172 args) w := enters_of Try.func172 (by kernel_rfl) rfl
  have HC := hid (fun x y w1 (h : Below w.heap.size w w1) => isCr1_any x y f bf w1 ((h.block bf (lt_of_get hc)).trans hc))
  have Hx := hid hx
  have Hp := hid hp
  have Hm := hid (holds_mem hp f)
  clear hx hp hc
  go_enter Try.func205, Try.ntmps205
  go_wp2
  go_loopw [8] (fun i wr => ∃ k : Nat, k ≤ n ∧ i = .int .i64 k ∧ Hid (¬ holdsTo ps f k) ∧ Below w.heap.size w wr) (fun i _ => n - (intOf i).toNat)
  case atStart => exact ⟨0, Nat.zero_le _, rfl, hid (fun ⟨i, hi, _⟩ => absurd hi (Nat.not_lt_zero _)), Below.refl _ _⟩
  case round =>
    obtain ⟨k, hk, rfl, Hk, hB⟩ := hrel
    by_cases hlt : k < n
    · obtain ⟨b, off, hb, rfl, hcl⟩ : ∃ b off, b < w.heap.size ∧ a1 = some ⟨b, off, none⟩ ∧ ∀ i, i < ps.length → w.cell? ⟨b, off + i, none⟩ = some (.int .i64 (ps[i]?.getD 0)) := by
        rcases Hx.out with h | h
        · have := Hp.out; rw [h] at this; simp at this; omega
        · exact h
      have hc2 : wr.cell? ⟨b, off + k * 2, none⟩ = some (.int .i64 (at0 ps (k * 2))) := (hB.cell (p := ⟨b, off + k * 2, none⟩) hb).trans (hcl _ (by have := Hp.out; omega))
      have hc3 : wr.cell? ⟨b, off + k * 2 + 1, none⟩ = some (.int .i64 (at0 ps (k * 2 + 1))) := (hB.cell (p := ⟨b, off + (k * 2 + 1), none⟩) hb).trans (hcl _ (by have := Hp.out; omega))
      obtain ⟨x, hx⟩ : ∃ x, x = at0 ps (k * 2) := ⟨_, rfl⟩
      obtain ⟨y, hy⟩ : ∃ y, y = at0 ps (k * 2 + 1) := ⟨_, rfl⟩
      rw [← hx] at hc2
      rw [← hy] at hc3
      have HC2 := hid (HC.out x y wr hB)
      have hi0 : (0 : Int) ≤ (k : Int) := by omega
      have hi1 : (k : Int) < (n : Int) := by omega
      have HB := hid hB
      have Hxy : Hid (f ∈ [x, y] ↔ (f = at0 ps (k * 2) ∨ f = at0 ps (k * 2 + 1))) := hid (by rw [hx, hy]; simp)
      clear hcl hx hy hB
      by_cases hf : f ∈ [x, y]
      · rw [decide_eq_true hf] at HC2
        have He : Hid (f ∈ ps) := hid (Hm.out.1 ⟨k, hlt, Hxy.out.1 hf⟩)
        clear hf
        go_wp2_with fail
        refine HC2.out.mono ?_
        rintro e w2 ⟨rfl, hB2⟩
        have HB2 := hid (HB.out.trans (hB2.mono HB.out.size))
        clear hB2
        go_wp2_with fail
        go_ret
        exact ⟨k, rfl, by omega, ⟨fun _ => He.out, fun _ => by omega⟩, HB2.out⟩
      · rw [decide_eq_false hf] at HC2
        have He : Hid (¬ holdsTo ps f (k + 1)) := hid (by
          rintro ⟨i, hi, h⟩
          by_cases e : i = k
          · subst e
            exact hf (Hxy.out.2 h)
          · exact Hk.out ⟨i, by omega, h⟩)
        clear hf
        go_wp2_with fail
        refine HC2.out.mono ?_
        rintro e w2 ⟨rfl, hB2⟩
        have HB2 := hid (HB.out.trans (hB2.mono HB.out.size))
        clear hB2
        go_wp2_with fail
        go_roundw
        case rel => exact ⟨k + 1, by omega, by go_num, He, HB2.out⟩
        case measure => simp [intOf]; omega
    · obtain rfl : k = n := by omega
      have He : Hid (f ∉ ps) := hid (fun h => Hk.out (Hm.out.2 h))
      go_wp2_with fail
      go_ret
      exact ⟨-1, rfl, by decide, ⟨fun h => absurd h (by decide), fun h => absurd h He.out⟩, hB⟩

set_option maxRecDepth 100000 in
set_option maxHeartbeats 1000000 in
theorem containsP_any (a1 : Option Addr) (n cap1 : Nat) (ps : List Int) (f : Int) (bf : Nat) (w : World) (hx : SlI w w.heap.size a1 ps) (hp : ps.length = 2 * n) (hn : n ≤ 1048576) (hc : w.heap[bf]? = some (.cells #[.int .i64 f] 2 (0, 0))) :
    Calls Try.prog 171 #[.slice a1 n cap1, .func (.func 172) #[] #[.pointer (some ⟨bf, 0, none⟩)]] w fun e w' => e = .returned (.bool (decide (f ∈ ps))) ∧ Below w.heap.size w w' := by
  have HI := hid (idxP_any a1 n cap1 ps f bf w hx hp hn hc)
  obtain ⟨c, hcc⟩ : ∃ c, c = decide (f ∈ ps) := ⟨_, rfl⟩
  have Hc := hid hcc
  rw [← hcc]
  clear hc hx hcc
  go_enter Try.func171, Try.ntmps171
  go_wp2_with fail
  refine HI.out.mono ?_
  rintro e w' ⟨i, rfl, h1, h2, hB⟩
  have Hi := hid h2
  have HB := hid hB
  clear h2 hB
  by_cases h0 : 0 ≤ i
  · have He : Hid (c = true) := hid (by rw [Hc.out]; exact decide_eq_true (Hi.out.1 h0))
    go_wp2_with fail
    go_ret
    exact ⟨ret_bool (by rw [He.out]), HB.out⟩
  · have He : Hid (c = false) := hid (by rw [Hc.out]; exact decide_eq_false (fun h => h0 (Hi.out.2 h)))
    have hlt : i < 0 := by omega
    go_wp2_with fail
    go_ret
    exact ⟨ret_bool (by rw [He.out]; simp [hlt]), HB.out⟩

/-- In the complex, and in no pair. -/
def critB (fs ps : List Int) (f : Int) : Bool := decide (f ∈ fs) && !decide (f ∈ ps)
set_option maxRecDepth 100000 in
set_option maxHeartbeats 2000000 in
theorem isCr_any (V : Int) (a0 : Option Addr) (cap : Nat) (fs : List Int) (a1 : Option Addr) (n cap1 : Nat) (ps : List Int) (f : Int) (w : World) (hx : SlI w w.heap.size a0 fs) (hx1 : SlI w w.heap.size a1 ps) (hl : fs.length ≤ 1048576) (hp : ps.length = 2 * n) (hn : n ≤ 1048576) :
    Calls Try.prog 116 #[.agg #[.int .i64 V, .slice a0 fs.length cap], .slice a1 n cap1, .int .i64 f] w fun e w' => e = .returned (.bool (critB fs ps f)) ∧ Below w.heap.size w w' := by
  obtain ⟨W0, hW0⟩ : ∃ W0, W0 = (w.alloc (.cells #[.int .i64 V, .slice a0 fs.length cap] 28)).alloc (.cells #[.int .i64 f] 2) := ⟨_, rfl⟩
  have hB0 : Below w.heap.size w W0 := by rw [hW0]; exact ((Below.refl _ w).alloc (Nat.le_refl _) _).alloc (by simp) _
  have hs0 : W0.heap.size = w.heap.size + 2 := by rw [hW0]; simp
  have hbf : W0.heap[w.heap.size + 1]? = some (.cells #[.int .i64 f] 2 (0, 0)) := by
    have := heap_alloc_new (w.alloc (.cells #[.int .i64 V, .slice a0 fs.length cap] 28)) (.cells #[.int .i64 f] 2)
    rw [World.size_alloc] at this
    rw [hW0]
    exact this
  have hk1 : W0.cell? ⟨w.heap.size, 1, none⟩ = some (.slice a0 fs.length cap) := by rw [hW0]; simp [go_sem]
  have HP := hid (containsP_any a1 n cap1 ps f (w.heap.size + 1) W0 (hx1.later hB0 hB0.size) hp hn hbf)
  have HF := hid (fun w1 (h : Below w.heap.size w w1) => contains_any a0 cap fs f w1 (hx.later h h.size) hl)
  have Hbf := hid hbf
  have HB0 := hid hB0
  have Hk1 := hid hk1
  have Hs0 := hid hs0
  rw [hW0] at HP
  obtain ⟨c1, hc1⟩ : ∃ c, c = decide (f ∈ fs) := ⟨_, rfl⟩
  obtain ⟨c2, hc2⟩ : ∃ c, c = decide (f ∈ ps) := ⟨_, rfl⟩
  rw [← hc1] at HF
  rw [← hc2] at HP
  have Hc : Hid (critB fs ps f = (c1 && !c2)) := hid (by unfold critB; rw [hc1, hc2])
  have HW0 := hid hW0
  clear hx hx1 hp hB0 hs0 hbf hk1 hc1 hc2 hW0
  go_enter Try.func116, Try.ntmps116
  go_wp2_with fail
  rw [← HW0.out] at HP ⊢
  refine HP.out.mono ?_
  rintro e w1 ⟨rfl, hB1⟩
  have hB : Below w.heap.size w w1 := HB0.out.trans (hB1.mono HB0.out.size)
  have k1 : w1.cell? ⟨w.heap.size, 1, none⟩ = some (.slice a0 fs.length cap) := (hB1.cell (p := ⟨w.heap.size, 1, none⟩) (by have := Hs0.out; simp only; omega)).trans Hk1.out
  have kf : w1.cell? ⟨w.heap.size + 1, 0, none⟩ = some (.int .i64 f) := (hB1.cell (p := ⟨w.heap.size + 1, 0, none⟩) (by have := Hs0.out; simp only; omega)).trans (box_cell Hbf.out).1
  have HF1 := hid (HF.out w1 hB)
  have HB := hid hB
  clear hB1 hB
  cases c1
  · go_wp2_with (go_at_call 153; refine HF1.out.mono ?_; rintro e w' ⟨rfl, rfl⟩)
    go_ret
    exact ⟨ret_bool (by rw [Hc.out]; rfl), HB.out⟩
  · go_wp2_with (go_at_call 153; refine HF1.out.mono ?_; rintro e w' ⟨rfl, rfl⟩)
    go_ret
    exact ⟨ret_bool (by rw [Hc.out]; cases c2 <;> rfl), HB.out⟩

end Go.Proofs.Ytbhdipljhelddaa

/-! settledPairs, walked. -/
namespace Go.Proofs.Ytbhdipljhelddaa
open Go.RowKit Go.Shelf

attribute [local go_sem] Oper.semAt_some

/-- Ahead of a pass. -/
def StOut (w : World) (M B n cap1 : Nat) (a1 : Option Addr) (ps : List Int) (a' : Act) (W : World) : Prop :=
  ∃ (L : List Nat) (av : Option Addr) (cp : Nat) (b : Int) (Ds : List Nat) (us : Nat → Value), a' = { tmps := List.toArray ((.slice a1 n cap1) :: us 1 :: (.slice none 0 0) :: (.pointer (some ⟨B, 0, none⟩)) :: (.pointer (some ⟨B + 1 + 1, 0, none⟩)) :: (.slice av L.length cp) :: (.int .i64 b) :: us 7 :: us 8 :: us 9 :: us 10 :: us 11 :: (.slice a1 n cap1) :: (.map (some M)) :: (.map (some (B + 1))) :: us 15 :: us 16 :: us 17 :: us 18 :: us 19 :: us 20 :: us 21 :: us 22 :: us 23 :: us 24 :: us 25 :: us 26 :: us 27 :: us 28 :: us 29 :: us 30 :: us 31 :: us 32 :: us 33 :: us 34 :: us 35 :: us 36 :: us 37 :: us 38 :: us 39 :: us 40 :: us 41 :: us 42 :: us 43 :: us 44 :: us 45 :: us 46 :: us 47 :: us 48 :: us 49 :: us 50 :: us 51 :: us 52 :: us 53 :: us 54 :: us 55 :: []), defers := marks Ds } ∧
    Hid (SetW w W M B n ps L (.slice av L.length cp) Ds) ∧ Hid (Stl ps n L) ∧ -1 ≤ b ∧ b ≤ (L.length : Int) ∧ Hid (b = (L.length : Int) → SatTo ps n n L)
theorem stOut_of {w W : World} {M B n cap1 : Nat} {a1 : Option Addr} {ps : List Int} {L : List Nat} {av : Option Addr} {cp : Nat} {b : Int} {Ds : List Nat} (tm : Array Value) (ds : List Deferred) (hds : ds = marks Ds)
    (h : tm = List.toArray ((.slice a1 n cap1) :: tm.getD 1 undef :: (.slice none 0 0) :: (.pointer (some ⟨B, 0, none⟩)) :: (.pointer (some ⟨B + 1 + 1, 0, none⟩)) :: (.slice av L.length cp) :: (.int .i64 b) :: tm.getD 7 undef :: tm.getD 8 undef :: tm.getD 9 undef :: tm.getD 10 undef :: tm.getD 11 undef :: (.slice a1 n cap1) :: (.map (some M)) :: (.map (some (B + 1))) :: tm.getD 15 undef :: tm.getD 16 undef :: tm.getD 17 undef :: tm.getD 18 undef :: tm.getD 19 undef :: tm.getD 20 undef :: tm.getD 21 undef :: tm.getD 22 undef :: tm.getD 23 undef :: tm.getD 24 undef :: tm.getD 25 undef :: tm.getD 26 undef :: tm.getD 27 undef :: tm.getD 28 undef :: tm.getD 29 undef :: tm.getD 30 undef :: tm.getD 31 undef :: tm.getD 32 undef :: tm.getD 33 undef :: tm.getD 34 undef :: tm.getD 35 undef :: tm.getD 36 undef :: tm.getD 37 undef :: tm.getD 38 undef :: tm.getD 39 undef :: tm.getD 40 undef :: tm.getD 41 undef :: tm.getD 42 undef :: tm.getD 43 undef :: tm.getD 44 undef :: tm.getD 45 undef :: tm.getD 46 undef :: tm.getD 47 undef :: tm.getD 48 undef :: tm.getD 49 undef :: tm.getD 50 undef :: tm.getD 51 undef :: tm.getD 52 undef :: tm.getD 53 undef :: tm.getD 54 undef :: tm.getD 55 undef :: [])) (HW : Hid (SetW w W M B n ps L (.slice av L.length cp) Ds)) (HS : Hid (Stl ps n L)) (h1 : -1 ≤ b) (h2 : b ≤ (L.length : Int)) (h3 : Hid (b = (L.length : Int) → SatTo ps n n L)) :
    StOut w M B n cap1 a1 ps { tmps := tm, defers := ds } W :=
  ⟨L, av, cp, b, Ds, fun i => tm.getD i undef, by rw [hds]; exact congrArg (fun t => ({ tmps := t, defers := marks Ds } : Act)) h, HW, HS, h1, h2, h3⟩
/-- Within a pass, ahead of pair k. -/
def StIn (w : World) (M B n cap1 : Nat) (a1 : Option Addr) (ps : List Int) (b : Nat) (a' : Act) (W : World) : Prop :=
  ∃ (k : Nat) (L : List Nat) (av : Option Addr) (cp : Nat) (Ds : List Nat) (us : Nat → Value), a' = { tmps := List.toArray ((.slice a1 n cap1) :: us 1 :: (.slice none 0 0) :: (.pointer (some ⟨B, 0, none⟩)) :: (.pointer (some ⟨B + 1 + 1, 0, none⟩)) :: (.slice av L.length cp) :: (.int .i64 (b : Int)) :: us 7 :: us 8 :: us 9 :: us 10 :: us 11 :: (.slice a1 n cap1) :: (.map (some M)) :: (.map (some (B + 1))) :: us 15 :: us 16 :: us 17 :: us 18 :: us 19 :: us 20 :: (.slice a1 n cap1) :: (.int .i64 (n : Int)) :: (.int .i64 (k : Int)) :: us 24 :: us 25 :: us 26 :: us 27 :: us 28 :: us 29 :: us 30 :: us 31 :: us 32 :: us 33 :: us 34 :: us 35 :: us 36 :: us 37 :: us 38 :: us 39 :: us 40 :: us 41 :: us 42 :: us 43 :: us 44 :: us 45 :: us 46 :: us 47 :: us 48 :: us 49 :: us 50 :: us 51 :: us 52 :: us 53 :: us 54 :: us 55 :: []), defers := marks Ds } ∧
    Hid (SetW w W M B n ps L (.slice av L.length cp) Ds) ∧ Hid (Stl ps n L) ∧ k ≤ n ∧ b ≤ L.length ∧ Hid (b = L.length → SatTo ps n k L)
theorem stIn_of {w W : World} {M B n cap1 : Nat} {a1 : Option Addr} {ps : List Int} {L : List Nat} {av : Option Addr} {cp b k : Nat} {Ds : List Nat} (tm : Array Value) (ds : List Deferred) (hds : ds = marks Ds)
    (h : tm = List.toArray ((.slice a1 n cap1) :: tm.getD 1 undef :: (.slice none 0 0) :: (.pointer (some ⟨B, 0, none⟩)) :: (.pointer (some ⟨B + 1 + 1, 0, none⟩)) :: (.slice av L.length cp) :: (.int .i64 (b : Int)) :: tm.getD 7 undef :: tm.getD 8 undef :: tm.getD 9 undef :: tm.getD 10 undef :: tm.getD 11 undef :: (.slice a1 n cap1) :: (.map (some M)) :: (.map (some (B + 1))) :: tm.getD 15 undef :: tm.getD 16 undef :: tm.getD 17 undef :: tm.getD 18 undef :: tm.getD 19 undef :: tm.getD 20 undef :: (.slice a1 n cap1) :: (.int .i64 (n : Int)) :: (.int .i64 (k : Int)) :: tm.getD 24 undef :: tm.getD 25 undef :: tm.getD 26 undef :: tm.getD 27 undef :: tm.getD 28 undef :: tm.getD 29 undef :: tm.getD 30 undef :: tm.getD 31 undef :: tm.getD 32 undef :: tm.getD 33 undef :: tm.getD 34 undef :: tm.getD 35 undef :: tm.getD 36 undef :: tm.getD 37 undef :: tm.getD 38 undef :: tm.getD 39 undef :: tm.getD 40 undef :: tm.getD 41 undef :: tm.getD 42 undef :: tm.getD 43 undef :: tm.getD 44 undef :: tm.getD 45 undef :: tm.getD 46 undef :: tm.getD 47 undef :: tm.getD 48 undef :: tm.getD 49 undef :: tm.getD 50 undef :: tm.getD 51 undef :: tm.getD 52 undef :: tm.getD 53 undef :: tm.getD 54 undef :: tm.getD 55 undef :: [])) (HW : Hid (SetW w W M B n ps L (.slice av L.length cp) Ds)) (HS : Hid (Stl ps n L)) (h1 : k ≤ n) (h2 : b ≤ L.length) (h3 : Hid (b = L.length → SatTo ps n k L)) :
    StIn w M B n cap1 a1 ps b { tmps := tm, defers := ds } W :=
  ⟨k, L, av, cp, Ds, fun i => tm.getD i undef, by rw [hds]; exact congrArg (fun t => ({ tmps := t, defers := marks Ds } : Act)) h, HW, HS, h1, h2, h3⟩

theorem wpIn_scope_wide {n : Nat} {P : Program} {c : Code} {Q : Exit → Act → World → Prop} {a : Act} {w : World} (h : c.wpIn Fence.wide n P (Exit.noGoto Q) a w) : (Code.scope c).wpIn Fence.wide n P Q a w :=
  wpIn_wide.2 (wp_scope_straight (wpIn_wide.1 h))

set_option maxRecDepth 1000000 in
set_option maxHeartbeats 4000000 in
theorem settled_in (a1 : Option Addr) (n cap1 : Nat) (ps : List Int) (w : World) (hx1 : SlI w w.heap.size a1 ps) (hp : ps.length = 2 * n) (hn : n ≤ 1048576) (hw : ∀ x ∈ ps, (Lit.int .i64 x).wf = true) (hd : LowsApart ps n) (hh : HighsB ps n) :
    CallsIn Fence.wide 14 Try.prog 61 #[.slice a1 n cap1] w fun e w' => ∃ L v, e = .returned v ∧ Stl ps n L ∧ SatTo ps n n L ∧ ResP w w' v (setP ps L) := by
  have HLw := hid (lows_any a1 n cap1 ps w hx1 hp hn hw)
  have Hy := hid hx1
  have Hp := hid hp
  have Hw := hid hw
  have HD := hid hd
  have HH := hid hh
  have hmm := @run_makeMap Try.prog
  clear hx1 hp hw hd hh
  refine callsIn_of_wp_marks Try.func61 rfl trivial ?_ rfl
  simp only [Try.ntmps61, List.size_toArray, List.length_cons, List.length_nil, Nat.reduceAdd, Nat.reduceSub, Array.replicate_succ, Array.replicate_zero, List.push_toArray, List.append_toArray, List.nil_append, List.cons_append]
  gi_wp2_with (first
    | (refine ⟨trivial, ?_⟩; gi_at_call 124; refine (callsIn_wide.2 HLw.out).mono ?_; rintro e w1 ⟨rfl, hown, hB1⟩))
  clear hmm
  have hMB : w.heap.size < w1.heap.size := hown.lt
  have H0 : Hid (SetW w (((w1.alloc (.cells #[.map (some w.heap.size)] 147)).alloc (.map #[] 0)).alloc (.cells #[.map (some (w1.heap.size + 1))] 153)) w.heap.size w1.heap.size n ps [] (.slice none 0 0) []) := by
    have e3 := heap_alloc_new ((w1.alloc (.cells #[.map (some w.heap.size)] 147)).alloc (.map #[] 0)) (.cells #[.map (some (w1.heap.size + 1))] 153)
    rw [World.size_alloc, World.size_alloc] at e3
    have m0 := World.ownsMap_made (H := Unit) (w1.alloc (.cells #[.map (some w.heap.size)] 147)) Try.prog 65 (plainElem (H := Unit) Try.prog 4)
    rw [World.size_alloc] at m0
    exact hid {
      below := ((hB1.alloc (by omega) _).alloc (by simp; omega) _).alloc (by simp; omega) _
      lo := Nat.le_refl _
      mb := hMB
      lows := ((hown.alloc _).alloc _).alloc _
      b3 := (Below.heap_alloc _ _ _ (by simp; omega)).trans ((Below.heap_alloc _ _ _ (by simp)).trans (heap_alloc_new _ _))
      own := World.ownsMap.alloc m0 _
      b4 := e3
      row := World.ownsRow_nil _ _ _ _
      off := by simp
      nodup := by simp
      marks := by simp }
  obtain ⟨M, hM⟩ : ∃ M, M = w.heap.size := ⟨_, rfl⟩
  obtain ⟨B, hBd⟩ : ∃ B, B = w1.heap.size := ⟨_, rfl⟩
  have HMw := hid hM
  rw [← hM, ← hBd] at H0 ⊢
  clear hMB hown hB1 HLw hM hBd
  refine wpIn_loop (StOut w M B n cap1 a1 ps) (fun a' _ => ((n : Int) - intOf (a'.tmps.getD 6 undef)).toNat) ?start ?round
  case start => exact stOut_of (L := []) (Ds := []) _ _ rfl rfl H0 (hid (Stl.nil ps n)) (by decide) (by decide) (hid (fun h => by simp at h))
  case round =>
    rintro a' W ⟨L, av, cp, b, Ds, us, rfl, HW, HS, hb0, hb1, HSat⟩
    clear H0
    by_cases hlt : b < (L.length : Int)
    · clear HSat
      have hsz := HW.out.size
      have hLn := HS.out.len
      gi_wp2
      refine wpIn_scope_wide ?_
      gi_wp2
      refine wpIn_label ?_
      gi_wp2
      refine wpIn_loop (StIn w M B n cap1 a1 ps L.length) (fun a' _ => n - (intOf (a'.tmps.getD 23 undef)).toNat) ?start2 ?round2
      case start2 => exact stIn_of (k := 0) (L := L) (Ds := Ds) _ _ rfl rfl HW HS (Nat.zero_le _) (Nat.le_refl _) (hid (fun _ => SatTo.zero _ _ _))
      case round2 =>
        clear HW hsz
        rintro a' W ⟨k, L2, av, cp, Ds, us, rfl, HW, HS2, hk, hb, HSat⟩
        by_cases hlt2 : k < n
        · obtain ⟨lb, off, hlb, rfl, hc⟩ : ∃ b off, b < w.heap.size ∧ a1 = some ⟨b, off, none⟩ ∧ ∀ i, i < ps.length → w.cell? ⟨b, off + i, none⟩ = some (.int .i64 (ps[i]?.getD 0)) := by
            rcases Hy.out with h | h
            · have := Hp.out; rw [h] at this; simp at this; omega
            · exact h
          have hB := HW.out.below
          have hc2 : W.cell? ⟨lb, off + k * 2, none⟩ = some (.int .i64 (at0 ps (k * 2))) := (hB.cell (p := ⟨lb, off + k * 2, none⟩) hlb).trans (hc _ (by have := Hp.out; omega))
          have hc3 : W.cell? ⟨lb, off + k * 2 + 1, none⟩ = some (.int .i64 (at0 ps (k * 2 + 1))) := (hB.cell (p := ⟨lb, off + (k * 2 + 1), none⟩) hlb).trans (hc _ (by have := Hp.out; omega))
          have hwk := wf_pairAt Hp.out Hw.out hlt2
          have hlk := lookup_pair (HW.out.alloc (.cells #[.int .i64 (at0 ps (k * 2)), .int .i64 (at0 ps (k * 2 + 1))] 65)).own (wf_setP Hp.out Hw.out HS2.out.lt) hwk
          have hmem := mem_setP HD.out HS2.out.lt hlt2
          obtain ⟨x, hx⟩ : ∃ x, x = at0 ps (k * 2) := ⟨_, rfl⟩
          obtain ⟨y, hy⟩ : ∃ y, y = at0 ps (k * 2 + 1) := ⟨_, rfl⟩
          have Hxy : Hid (pairAt ps k = (x, y)) := hid (by rw [hx, hy]; rfl)
          have Hx := hid hx
          rw [show (pairAt ps k).1 = x by rw [Hxy.out], show (pairAt ps k).2 = y by rw [Hxy.out]] at hlk
          rw [← hx, ← hy] at hlk
          rw [← hx] at hc2
          rw [← hy] at hc3
          have c4 : ∀ o : Obj, (W.alloc o).cell? ⟨B + 1 + 1, 0, none⟩ = some (.map (some (B + 1))) := fun o => cell_alloc0 (box_cell HW.out.b4).1 o
          have c3 : ∀ o : Obj, (W.alloc o).cell? ⟨B, 0, none⟩ = some (.map (some M)) := fun o => cell_alloc0 (box_cell HW.out.b3).1 o
          have hi0 : (0 : Int) ≤ (k : Int) := by omega
          have hi1 : (k : Int) < (n : Int) := by omega
          have Hwx : Hid ((Lit.int .i64 x).wf = true) := hid (by rw [hx]; exact hwk.1)
          have Hwk : Hid (wfP (x, y)) := hid (by rw [← Hxy.out]; exact hwk)
          clear hx hy hc hB hwk
          by_cases hm : k ∈ L2
          · rw [decide_eq_true (hmem.2 hm)] at hlk
            have Hm := hid hm
            clear hm hmem
            gi_wp2
            exact ⟨stIn_of (k := k + 1) (L := L2) (Ds := Ds) _ _ rfl rfl (hid (HW.out.alloc _)) HS2 (by omega) hb (hid (fun h => (HSat.out h).skip (.inl Hm.out))), by simp [intOf]; omega⟩
          · rw [decide_eq_false (fun h => hm (hmem.1 h))] at hlk
            have Hm := hid hm
            clear hm hmem
            gi_wp2_with (first
              | (refine ⟨trivial, ?_⟩; gi_at_call 127; refine (stepsFrom_in _ M x _).mono ?_; rintro e w' ⟨rfl, rfl⟩))
            obtain ⟨W3, hW3⟩ : ∃ W3, W3 = ((W.alloc (.cells #[.int .i64 x, .int .i64 y] 65)).alloc (.cells #[.map (some M)] 147)).alloc (.cells #[.int .i64 x] 2) := ⟨_, rfl⟩
            have hs3 : W3.heap.size = W.heap.size + 3 := by rw [hW3]; simp
            have hpb : W3.heap[W.heap.size]? = some (.cells #[.int .i64 x, .int .i64 y] 65 (0, 0)) := by rw [hW3]; exact (Below.heap_alloc _ _ _ (by simp <;> omega)).trans ((Below.heap_alloc _ _ _ (by simp)).trans (heap_alloc_new _ _))
            have hbm : W3.heap[W.heap.size + 1]? = some (.cells #[.map (some M)] 147 (0, 0)) := by
              have := heap_alloc_new (W.alloc (.cells #[.int .i64 x, .int .i64 y] 65)) (.cells #[.map (some M)] 147)
              rw [World.size_alloc] at this
              rw [hW3]
              exact (Below.heap_alloc _ _ _ (by simp)).trans this
            have hbx : W3.heap[W.heap.size + 1 + 1]? = some (.cells #[.int .i64 x] 2 (0, 0)) := by
              have := heap_alloc_new ((W.alloc (.cells #[.int .i64 x, .int .i64 y] 65)).alloc (.cells #[.map (some M)] 147)) (.cells #[.int .i64 x] 2)
              rw [World.size_alloc, World.size_alloc] at this
              rw [hW3]
              exact this
            have HS3 : Hid (SetW w W3 M B n ps L2 (.slice av L2.length cp) Ds) := hid (by rw [hW3]; exact ((HW.out.alloc _).alloc _).alloc _)
            have HDs : Hid (∀ D ∈ Ds, D < W3.heap.size) := hid (fun D hD => by have := lt_of_get (HW.out.marks D hD).2; omega)
            have Hvb : Hid (∀ g, (Value.slice av L2.length cp).ownBlock = some g → g < W3.heap.size) := hid (fun g hg => by have := (HW.out.row.lt g hg).2; omega)
            have hsz := HW.out.size
            rw [← hW3]
            clear hW3 hlk c4 c3 hc2 hc3
            refine wpIn_rangeFunc_P rfl (by decide) (gf := 182) (lb := #[.pointer (some ⟨W.heap.size + 1, 0, none⟩), .pointer (some ⟨W.heap.size + 1 + 1, 0, none⟩)]) rfl trivial (enters_of Try.func182 (by kernel_rfl) rfl)
              (steps_P 13 (by decide) (W.heap.size + 1) (W.heap.size + 1 + 1) M n n ps x W3 hbm hbx HS3.out.lows HD.out HH.out Hwx.out) (by simp) (Below.refl _ _) (fun _ => rfl)
              (fun pre W' => SetW w W' M B n ps L2 (.slice av L2.length cp) Ds ∧ W'.heap[W.heap.size]? = some (.cells #[.int .i64 x, .int .i64 y] 65 (0, 0)) ∧ ∀ z ∈ pre, ∀ j, j < n → at0 ps (j * 2) = ((z : Fin 64).val : Int) → j ∈ L2)
              (fun c _ W' => c = .exit 3 ∧ SetW w W' M B n ps L2 (.slice av L2.length cp) Ds ∧ ∃ j, j < n ∧ StepP ps n k j ∧ j ∉ L2)
              (OwnIn.and (set_ownIn (by omega) HDs.out Hvb.out) (OwnIn.and (ownIn_block (β := List (Fin 64)) (fun _ => _) (by omega)) (ownIn_pure _ _ (fun (pre : List (Fin 64)) => ∀ z ∈ pre, ∀ j, j < n → at0 ps (j * 2) = (z.val : Int) → j ∈ L2))))
              (fun c => OwnIn.and (ownIn_pure _ _ (fun (_ : List (Fin 64)) => c = .exit 3)) (OwnIn.and (set_ownIn (by omega) HDs.out Hvb.out) (ownIn_pure _ _ (fun (_ : List (Fin 64)) => ∃ j, j < n ∧ StepP ps n k j ∧ j ∉ L2))))
              ⟨HS3.out, hpb, by simp⟩
              (fun z => { tmps := List.toArray ((.slice (some ⟨lb, off, none⟩) n cap1) :: us 1 :: (.slice none 0 0) :: (.pointer (some ⟨B, 0, none⟩)) :: (.pointer (some ⟨B + 1 + 1, 0, none⟩)) :: (.slice av L2.length cp) :: (.int .i64 (L.length : Int)) :: us 7 :: (.pointer (some ⟨W.heap.size, 0, none⟩)) :: (.int .i64 (z.val : Int)) :: us 10 :: us 11 :: (.slice (some ⟨lb, off, none⟩) n cap1) :: (.map (some M)) :: (.map (some (B + 1))) :: us 15 :: us 16 :: us 17 :: us 18 :: us 19 :: us 20 :: (.slice (some ⟨lb, off, none⟩) n cap1) :: (.int .i64 (n : Int)) :: (.int .i64 (k : Int)) :: (.bool true) :: (.pointer (some ⟨lb, off + k * 2, none⟩)) :: (.agg #[.int .i64 x, .int .i64 y]) :: (.map (some (B + 1))) :: (.agg #[.int .i64 x, .int .i64 y]) :: (.bool false) :: (.map (some M)) :: (.pointer (some ⟨W.heap.size, 0, none⟩)) :: (.int .i64 x) :: (.func (.func 182) #[] #[.pointer (some ⟨W.heap.size + 1, 0, none⟩), .pointer (some ⟨W.heap.size + 1 + 1, 0, none⟩)]) :: (.int .i64 (z.val : Int)) :: us 35 :: us 36 :: us 37 :: us 38 :: us 39 :: us 40 :: us 41 :: us 42 :: us 43 :: us 44 :: us 45 :: us 46 :: us 47 :: us 48 :: us 49 :: us 50 :: us 51 :: us 52 :: us 53 :: us 54 :: us 55 :: []), defers := [] }) ?assign ?body ?done ?stop
            case assign =>
              intro l z W4 K hK
              gi_wp2
              exact hK
            case body =>
              rintro l pre z W4 hpre hsz4 ⟨hS, hpb4, hok⟩
              clear HW HSat hpb hbm hbx HS3
              have hzw : (Lit.int .i64 (z.val : Int)).wf = true := WalkArith.wf_i64 (by have := z.isLt; omega)
              obtain ⟨q3, _⟩ := box_cell hS.b3
              have q4 : ∀ o : Obj, (W4.alloc o).cell? ⟨B + 1 + 1, 0, none⟩ = some (.map (some (B + 1))) := fun o => cell_alloc0 (box_cell hS.b4).1 o
              have Hstep : Hid (∀ j, at0 ps (j * 2) = (z.val : Int) → StepP ps n k j) := hid (fun j hj => by
                unfold StepP
                rw [← Hx.out, hj]
                exact (mem_stepsF HH.out x _).1 ⟨z, hpre.subset (by simp), rfl⟩)
              have Hok := hid hok
              have HSa := hid hS
              have Hpb4 := hid hpb4
              rcases lows_look2 hS.lows HD.out hzw with ⟨j, hj, hjz, hrun⟩ | ⟨hno, hrun⟩
              · obtain ⟨u, hu⟩ : ∃ u, u = at0 ps (j * 2 + 1) := ⟨_, rfl⟩
                have hpj : pairAt ps j = ((z.val : Int), u) := by unfold pairAt; rw [hjz, hu]
                have hlk := lookup_pair (hS.alloc (.cells #[.int .i64 (z.val : Int), .int .i64 u] 65)).own (wf_setP Hp.out Hw.out HS2.out.lt) (wf_pairAt Hp.out Hw.out hj)
                have hmem := mem_setP HD.out HS2.out.lt hj
                rw [hpj] at hlk hmem
                simp only at hlk
                rw [← hu] at hrun
                have Hjz := hid hjz
                have Hj := hid hj
                clear hS hpb4 hok hjz hu hpj hj
                by_cases hm : j ∈ L2
                · rw [decide_eq_true (hmem.2 hm)] at hlk
                  have Hmj := hid hm
                  clear hm hmem
                  gi_wp2
                  refine ⟨KeepP.new _ (by simp) (by omega), HSa.out.alloc _, (Below.heap_alloc _ _ _ (lt_of_get Hpb4.out)).trans Hpb4.out, fun z' hz' j' hj' he => ?_⟩
                  rcases List.mem_append.1 hz' with h | h
                  · exact Hok.out z' h j' hj' he
                  · simp at h
                    subst h
                    exact (lows_inj HD.out hj' Hj.out (he.trans Hjz.out.symm)) ▸ Hmj.out
                · rw [decide_eq_false (fun h => hm (hmem.1 h))] at hlk
                  have Hmj := hid hm
                  clear hm hmem
                  gi_wp2
                  exact ⟨KeepP.new _ (by simp) (by omega), rfl, HSa.out.alloc _, j, Hj.out, Hstep.out j Hjz.out, Hmj.out⟩
              · have Hno := hid hno
                clear hS hpb4 hok hno
                gi_wp2
                refine ⟨KeepP.new _ (by simp) (by omega), HSa.out.alloc _, (Below.heap_alloc _ _ _ (lt_of_get Hpb4.out)).trans Hpb4.out, fun z' hz' j' hj' he => ?_⟩
                rcases List.mem_append.1 hz' with h | h
                · exact Hok.out z' h j' hj' he
                · simp at h
                  subst h
                  exact absurd he (Hno.out j' hj')
            case done =>
              rintro W4 ⟨hS, hpb4, hok⟩ hD4
              have hS4 := hS.mark hD4 (by omega) (fun hm => by have := HDs.out _ hm; omega) (fun e => by have := Hvb.out _ e; omega)
              obtain ⟨L3, hL3⟩ : ∃ L3, L3 = L2 ++ [k] := ⟨_, rfl⟩
              have Hst : Hid (Stl ps n L3) := hid (by
                rw [hL3]
                refine HS2.out.snoc hlt2 Hm.out (fun j hj hs => ?_)
                unfold StepP at hs
                rw [← Hx.out] at hs
                obtain ⟨z, hz, he⟩ := (mem_stepsF HH.out x _).2 hs
                exact hok z hz j hj he)
              have hl2 := HS2.out.len
              have hl3 : L3.length = L2.length + 1 := by rw [hL3]; simp
              have he3 : (setP ps L2 ++ [(x, y)]).length = L3.length := by rw [hL3]; simp [setP]
              obtain ⟨W5, hrun5, hown5, hg5⟩ := World.ownsMap.update hS4.own keyedP Try.underlying153 (show L2.length < maxLen by unfold maxLen; omega) (keyOfP Hwk.out) (plainElem_bool Try.underlying4 true)
              have hpb5 : W5.heap[W.heap.size]? = some (.cells #[.int .i64 x, .int .i64 y] 65 (0, 0)) := (hg5.block _ (lt_of_get hpb4) (fun e => by injection e with e; omega)).trans hpb4
              have hrow5 := hS4.row.kept hg5 (by
                cases hv : (Value.slice av L2.length cp).ownBlock with
                | none => exact .inl rfl
                | some g => exact .inr (fun e => by have := (hS4.row.lt g hv).1; injection e with e; omega))
              obtain ⟨p40, p41, _, _⟩ := two_of hpb4
              obtain ⟨p50, p51, _, _⟩ := two_of hpb5
              obtain ⟨q4, _⟩ := box_cell hS4.b4
              have q4' : W4.cell? ⟨B + 1 + 1, 0, none⟩ = some (.map (some (B + 1))) := q4
              have hsz5 : B + 3 ≤ W5.heap.size := Nat.le_trans hS4.size hg5.size
              have Hr5 := hid hrow5
              have HS4 := hid hS4
              have Ho5 := hid hown5
              have Hg5 := hid hg5
              have hsl : (setP ps L2).length = L2.length := setP_len ps L2
              have He3 := hid he3
              have HL3 := hid hL3
              have Hl3 := hid hl3
              clear hl3 hS hS4 hok hD4 hpb4 hpb5 hrow5 hown5 hg5 he3 hL3 q4
              gi_wp2_with (first
                | (gi_at_builtin; refine append_pairIn rfl rfl Hr5.out (by omega) (by omega) (by first | rfl | (simp only [hsl]; rfl)) rfl ?_; intro v' w6 hr6 hg6 hat6; obtain ⟨_, av', cp', rfl, _⟩ := pairs_form hr6; rw [He3.out] at hr6 hat6 ⊢; have Hr6 := hid hr6; have Hg6 := hid hg6; have Hat6 := hid hat6; clear hr6 hg6 hat6))
              have h6 := HS4.out.put (i := k) (by rw [Hxy.out]; exact Ho5.out) Hg5.out (by rw [Hxy.out, He3.out]; exact Hr6.out) Hg6.out Hat6.out
              rw [← HL3.out, hs3] at h6
              exact ⟨stIn_of (k := k + 1) (L := L3) (Ds := (W.heap.size + 3) :: Ds) _ _ rfl rfl (hid h6) Hst (by omega) (by rw [Hl3.out]; omega) (hid (fun h => by rw [Hl3.out] at h; omega)), by simp [intOf]; omega⟩
            case stop =>
              rintro c pre W4 hpre ⟨rfl, hS, hj⟩ hD4
              have HS4 := hid (hS.mark hD4 (by omega) (fun hm => by have := HDs.out _ hm; omega) (fun e => by have := Hvb.out _ e; omega))
              have Hj := hid hj
              clear hS hj hD4
              gi_wp2
              exact ⟨stIn_of (k := k + 1) (L := L2) (Ds := W3.heap.size :: Ds) _ _ rfl rfl HS4 HS2 (by omega) hb (hid (fun h => (HSat.out h).skip (.inr Hj.out))), by simp [intOf]; omega⟩
        · obtain rfl : k = n := by omega
          clear hlt2
          gi_wp2
          simp only [Exit.noGoto]
          gi_wp2
          exact ⟨stOut_of (L := L2) (Ds := Ds) _ _ rfl rfl HW HS2 (by omega) (by omega) (hid (fun h => HSat.out (by omega))), by simp [intOf]; omega⟩
    · have hbL : b = (L.length : Int) := by omega
      have Hsat := hid (HSat.out hbL)
      clear HSat
      gi_wp2
      refine leaves_marks (by simp) Ds _ HW.out.nodup (fun D hD => (HW.out.marks D hD).2) (fun w' hw' => ?_)
      exact ⟨_, results_tmp rfl _ _ _, L, .slice av L.length cp, rfl, HS.out, Hsat.out, HW.out.leaves hw'⟩

end Go.Proofs.Ytbhdipljhelddaa
