import Derived.Test.YtmkknfdjoajpcaaSpecA
/-! The model's test whether something is a complex. -/
namespace Go.Proofs.Ytmkknfdjoajpcaa
open Go.RowKit

theorem below_int (x : Int) (w : World) (h0 : 0 ≤ x) (h1 : x < 64) :
    Calls Try.prog 88 #[.int .i64 x] w fun e w' => ∃ v, e = .returned v ∧ w'.ownsRow w.heap.size 2 1 v (belowR x.toNat 63).length ((belowR x.toNat 63).map (Value.int .i64)) ∧ Below w.heap.size w w' := by
  have := below_any x.toNat w (by omega)
  rwa [Int.toNat_of_nonneg h0] at this

theorem below_as (x : Int) (ys : List Int) (w : World) (h0 : 0 ≤ x) (h1 : x < 64) (hys : ys = belowR x.toNat 63) :
    Calls Try.prog 88 #[.int .i64 x] w fun e w' => ∃ a cap, e = .returned (.slice a ys.length cap) ∧ SlI w' w'.heap.size a ys ∧ Below w.heap.size w w' := by
  have h := below_int x w h0 h1
  rw [← hys] at h
  refine h.mono ?_
  rintro e w' ⟨v, rfl, hown, hb⟩
  obtain ⟨_, a, cap, rfl, hs⟩ := ownsRow_slI hown
  exact ⟨a, cap, rfl, hs, hb⟩

theorem is_no_range (V : Int) (a : Option Addr) (cap : Nat) (fs : List Int) (w : World) (h : ¬ (1 ≤ V ∧ V ≤ 6)) :
    Calls Try.prog 49 #[.agg #[.int .i64 V, .slice a fs.length cap]] w fun e w' => e = .returned (.bool false) ∧ Below w.heap.size w w' := by
  go_enter Try.func49, Try.ntmps49
  go_wp2_with (go_at_call 86; refine (in_no _ _ _ _ h).mono ?_; rintro e w' ⟨rfl, rfl⟩)
  go_ret
  exact ⟨rfl, (Below.refl _ w).alloc (Nat.le_refl _) _⟩

set_option maxHeartbeats 1000000 in
theorem is_any (V : Int) (b off : Nat) (cap : Nat) (fs : List Int) (w : World) (h1 : 1 ≤ V) (h2 : V ≤ 6) (hb : b < w.heap.size)
    (hc : ∀ i, i < fs.length → w.cell? ⟨b, off + i, none⟩ = some (.int .i64 (fs[i]?.getD 0))) (hl : fs.length ≤ 1048576) :
    Calls Try.prog 49 #[.agg #[.int .i64 V, .slice (some ⟨b, off, none⟩) fs.length cap]] w fun e w' => e = .returned (.bool (isCB V fs)) ∧ Below w.heap.size w w' := by
  have hV0 : 0 ≤ V := by omega
  have hW1 : Below w.heap.size w (w.alloc (.cells #[.int .i64 V, .slice (some ⟨b, off, none⟩) fs.length cap] 26)) := (Below.refl _ w).alloc (Nat.le_refl _) _
  go_enter Try.func49, Try.ntmps49
  go_wp2_with (go_at_call 86; refine (in_yes _ _ _ _ h1 h2).mono ?_; rintro e w' ⟨rfl, rfl⟩)
  go_loopw [3] (fun i wr => ∃ k : Nat, k ≤ fs.length ∧ i = .int .i64 k ∧ Hid (∀ j, j < k → (1 ≤ fs[j]?.getD 0 ∧ fs[j]?.getD 0 ≤ allV V) ∧ (0 < j → fs[j - 1]?.getD 0 < fs[j]?.getD 0)) ∧
      Below (w.heap.size + 1) (w.alloc (.cells #[.int .i64 V, .slice (some ⟨b, off, none⟩) fs.length cap] 26)) wr) (fun i _ => fs.length - (intOf i).toNat)
  case atStart => exact ⟨0, Nat.zero_le _, rfl, hid (by omega), Below.refl _ _⟩
  case round =>
    obtain ⟨k, hk, rfl, Hl, hB⟩ := hrel
    have c0 : wr.cell? ⟨w.heap.size, 0, none⟩ = some (.int .i64 V) := (hB.cell (p := ⟨w.heap.size, 0, none⟩) (by simp)).trans (by simp [go_sem])
    have c1 : wr.cell? ⟨w.heap.size, 1, none⟩ = some (.slice (some ⟨b, off, none⟩) fs.length cap) := (hB.cell (p := ⟨w.heap.size, 1, none⟩) (by simp)).trans (by simp [go_sem])
    by_cases hlt : k < fs.length
    · have hck : wr.cell? ⟨b, off + k, none⟩ = some (.int .i64 (fs[k]?.getD 0)) := (hB.cell (p := ⟨b, off + k, none⟩) (by simp; omega)).trans ((hW1.cell (p := ⟨b, off + k, none⟩) hb).trans (hc k hlt))
      obtain ⟨x, hx⟩ : ∃ x, x = fs[k]?.getD 0 := ⟨_, rfl⟩
      rw [← hx] at hck
      have Hx := hid hx
      clear hx
      have hi0 : (0 : Int) ≤ (k : Int) := by omega
      have hi1 : (k : Int) < (fs.length : Int) := by omega
      by_cases hr : 1 ≤ x ∧ x ≤ allV V
      · by_cases hk0 : 0 < k
        rotate_left
        · have hd : decide (0 < k) = false := decide_eq_false hk0
          have Hk := hid hk0
          clear hk0
          go_wp2_with fail
          go_quiet (first
            | (go_at_call 66; exact quiet_of_eq (all_any _ _ hV0 h2))
            | (go_at_call 86; exact quiet_of_eq (in_yes _ _ _ _ hr.1 hr.2)))
          go_wp2_with fail
          go_roundw
          case rel =>
            have hk0 := Hk.out
            have hx := Hx.out
            exact ⟨k + 1, by omega, by go_num, fun j hj => (by by_cases hjk : j < k
                                                               · exact Hl.out j hjk
                                                               · obtain rfl : j = k := by omega
                                                                 exact ⟨hx ▸ hr, fun h => absurd h hk0⟩), hB.trans ⟨rfl, rfl, rfl, Nat.le_refl _, fun _ _ => rfl⟩⟩
          case measure => simp [intOf]; omega
        · have hd : decide (0 < k) = true := decide_eq_true hk0
          obtain ⟨y, hy⟩ : ∃ y, y = fs[k - 1]?.getD 0 := ⟨_, rfl⟩
          have hck1 : wr.cell? ⟨b, off + (k - 1), none⟩ = some (.int .i64 y) := by rw [hy]; exact (hB.cell (p := ⟨b, off + (k - 1), none⟩) (by simp; omega)).trans ((hW1.cell (p := ⟨b, off + (k - 1), none⟩) hb).trans (hc (k - 1) (by omega)))
          have Hy := hid hy
          clear hy
          have hi2 : (0 : Int) ≤ (k : Int) - 1 := by omega
          have hi3 : (k : Int) - 1 < (fs.length : Int) := by omega
          by_cases hxy : x ≤ y
          · have hxd : decide (x ≤ y) = true := decide_eq_true hxy
            go_wp2_with fail
            go_quiet (first
              | (go_at_call 66; exact quiet_of_eq (all_any _ _ hV0 h2))
              | (go_at_call 86; exact quiet_of_eq (in_yes _ _ _ _ hr.1 hr.2)))
            go_wp2_with fail
            go_ret
            refine ⟨ret_bool ?_, ?_⟩
            · symm
              refine isCB_false (fun h => ?_)
              have := isC_looks_asc h hk0 hlt
              have hx := Hx.out
              have hy := Hy.out
              omega
            · exact (hW1.trans (hB.mono (by simp))).trans ⟨rfl, rfl, rfl, Nat.le_refl _, fun _ _ => rfl⟩
          · have hxd : decide (x ≤ y) = false := decide_eq_false hxy
            go_wp2_with fail
            go_quiet (first
              | (go_at_call 66; exact quiet_of_eq (all_any _ _ hV0 h2))
              | (go_at_call 86; exact quiet_of_eq (in_yes _ _ _ _ hr.1 hr.2)))
            go_wp2_with fail
            go_roundw
            case rel =>
              have hx := Hx.out
              have hy := Hy.out
              exact ⟨k + 1, by omega, by go_num, fun j hj => (by by_cases hjk : j < k
                                                                 · exact Hl.out j hjk
                                                                 · obtain rfl : j = k := by omega
                                                                   exact ⟨hx ▸ hr, fun _ => by omega⟩), hB.trans ⟨rfl, rfl, rfl, Nat.le_refl _, fun _ _ => rfl⟩⟩
            case measure => simp [intOf]; omega
      · go_wp2_with fail
        go_quiet (first
          | (go_at_call 66; exact quiet_of_eq (all_any _ _ hV0 h2))
          | (go_at_call 86; exact quiet_of_eq (in_no _ _ _ _ hr)))
        go_wp2_with fail
        go_ret
        refine ⟨ret_bool ?_, ?_⟩
        · symm
          refine isCB_false (fun h => hr ?_)
          have hx := Hx.out
          rw [hx]
          exact isC_looks_range h hlt
        · exact (hW1.trans (hB.mono (by simp))).trans ⟨rfl, rfl, rfl, Nat.le_refl _, fun _ _ => rfl⟩
    · go_wp2_with fail
      obtain rfl : k = fs.length := by omega
      have hall := Hl.out
      have Hall := hid hall
      clear hall Hl c0 c1
      have hsz0 := hB.size
      simp only [World.size_alloc] at hsz0
      obtain ⟨wo, rfl⟩ : ∃ wo : World, wo = wr := ⟨_, rfl⟩
      go_loopw [4] (fun i wr => ∃ k : Nat, k ≤ fs.length ∧ i = .int .i64 k ∧ Hid (∀ j, j < k → ∀ y ∈ belowR (fs[j]?.getD 0).toNat 63, y ∈ fs) ∧
          Below (w.heap.size + 1) wo wr) (fun i _ => fs.length - (intOf i).toNat)
      case atStart => exact ⟨0, Nat.zero_le _, rfl, hid (by omega), Below.refl _ _⟩
      case round =>
        obtain ⟨k, hk, rfl, Hl, hB2⟩ := hrel
        have hBB := hB.trans hB2
        have c0 : wr.cell? ⟨w.heap.size, 0, none⟩ = some (.int .i64 V) := (hBB.cell (p := ⟨w.heap.size, 0, none⟩) (by simp)).trans (by simp [go_sem])
        have c1 : wr.cell? ⟨w.heap.size, 1, none⟩ = some (.slice (some ⟨b, off, none⟩) fs.length cap) := (hBB.cell (p := ⟨w.heap.size, 1, none⟩) (by simp)).trans (by simp [go_sem])
        have hBW : Below w.heap.size w wr := hW1.trans (hBB.mono (by simp))
        have hsz2 := hB2.size
        by_cases hlt2 : k < fs.length
        · have hck : wr.cell? ⟨b, off + k, none⟩ = some (.int .i64 (fs[k]?.getD 0)) := (hBW.cell (p := ⟨b, off + k, none⟩) hb).trans (hc k hlt2)
          obtain ⟨x, hx⟩ : ∃ x, x = fs[k]?.getD 0 := ⟨_, rfl⟩
          have hr := (Hall.out k hlt2).1
          have h63 := allV_le h2
          rw [← hx] at hck hr
          have hx0 : 0 ≤ x := by omega
          have hx1 : x < 64 := by omega
          have Hx := hid hx
          clear hx hr h63
          have hi0 : (0 : Int) ≤ (k : Int) := by omega
          have hi1 : (k : Int) < (fs.length : Int) := by omega
          obtain ⟨ys, hys⟩ : ∃ ys, ys = belowR x.toNat 63 := ⟨_, rfl⟩
          have hyl : ys.length ≤ 63 := by rw [hys]; exact belowR_len _ _
          have Hys := hid hys
          clear hys
          have h0w := hBW.size
          go_wp2_with (go_at_call 88; refine (below_as x ys _ hx0 hx1 Hys.out).mono ?_; rintro e w2 ⟨a2, cap2, rfl, hsl, hb2⟩)
          have hB3 := hBB.trans (hb2.mono (by omega))
          have hb2s := hb2.size
          clear c0 c1 hck
          have c0 : w2.cell? ⟨w.heap.size, 0, none⟩ = some (.int .i64 V) := (hB3.cell (p := ⟨w.heap.size, 0, none⟩) (by simp)).trans (by simp [go_sem])
          have c1 : w2.cell? ⟨w.heap.size, 1, none⟩ = some (.slice (some ⟨b, off, none⟩) fs.length cap) := (hB3.cell (p := ⟨w.heap.size, 1, none⟩) (by simp)).trans (by simp [go_sem])
          have hfs : ∀ wz, Below w2.heap.size w2 wz → SlI wz wz.heap.size (some ⟨b, off, none⟩) fs := fun wz hz => by
            have hz0 := hz.size
            exact .inr ⟨b, off, by omega, rfl, fun i hi => ((hW1.trans ((hB3.trans (hz.mono (by omega))).mono (by simp))).cell (p := ⟨b, off + i, none⟩) hb).trans (hc i hi)⟩
          have Hfs := hid hfs
          clear hfs
          have hend : ∀ wz, Below w2.heap.size w2 wz → Below w.heap.size w wz := fun wz hz => (hW1.trans ((hB3.trans (hz.mono (by omega))).mono (by simp)))
          have Hend := hid hend
          have hrnd : ∀ wz, Below w2.heap.size w2 wz → Below (w.heap.size + 1) wo wz := fun wz hz => hB2.trans ((hb2.mono (by omega)).trans (hz.mono (by omega)))
          have Hrnd := hid hrnd
          have Hc := hid hc
          clear hend hrnd hB hB2 hBB hBW hB3 hb2 hc hW1
          rcases hsl with rfl | ⟨b2, off2, hb2, rfl, hc2⟩
          · refine wp_loop_rounds 1 ?_; rw [rounds_succ]
            go_wp2
            go_roundw
            case rel =>
              refine ⟨k + 1, by omega, by go_num, hid (fun j hj => ?_), Hrnd.out _ (Below.refl _ _)⟩
              by_cases hjk : j < k
              · exact Hl.out j hjk
              · obtain rfl : j = k := by omega
                rw [← Hx.out, ← Hys.out]; simp
            case measure => simp [intOf]; omega
          · obtain ⟨wq, rfl⟩ : ∃ wq : World, wq = w2 := ⟨_, rfl⟩
            obtain ⟨wp, rfl⟩ : ∃ wp : World, wp = wr := ⟨_, rfl⟩
            have Hc2 := hid hc2
            clear hc2
            go_loopw [6] (fun i wr => ∃ m : Nat, m ≤ ys.length ∧ i = .int .i64 m ∧ Hid (∀ j, j < m → ys[j]?.getD 0 ∈ fs) ∧
              Below wq.heap.size wq wr) (fun i _ => ys.length - (intOf i).toNat)
            case atStart => exact ⟨0, Nat.zero_le _, rfl, hid (by omega), Below.refl _ _⟩
            case round =>
              obtain ⟨m, hm, rfl, Hm, hB5⟩ := hrel
              have Hend5 := hid (Hend.out _ hB5)
              have Hrnd5 := hid (Hrnd.out _ hB5)
              have d0 := (hB5.cell (p := ⟨w.heap.size, 0, none⟩) (by simp; omega)).trans c0
              have d1 := (hB5.cell (p := ⟨w.heap.size, 1, none⟩) (by simp; omega)).trans c1
              by_cases hlt3 : m < ys.length
              · obtain ⟨y, hy⟩ : ∃ y, y = ys[m]?.getD 0 := ⟨_, rfl⟩
                have hcm : wr.cell? ⟨b2, off2 + m, none⟩ = some (.int .i64 y) := by rw [hy]; exact (hB5.cell (p := ⟨b2, off2 + m, none⟩) hb2).trans (Hc2.out m hlt3)
                have Hy := hid hy
                clear hy
                have hj0 : (0 : Int) ≤ (m : Int) := by omega
                have hj1 : (m : Int) < (ys.length : Int) := by omega
                have hsl5 : SlI wr wr.heap.size (some ⟨b, off, none⟩) fs := Hfs.out _ hB5
                have hsl5' : SlI wr.drew wr.drew.heap.size (some ⟨b, off, none⟩) fs := hsl5
                have Hs5 := hid hsl5'
                clear hsl5 hsl5'
                by_cases hyf : y ∈ fs
                · go_wp2_with fail
                  go_region_with (go_at_call 67; refine (has_yes V y _ cap fs _ Hs5.out hl hyf).mono ?_; rintro e w6 ⟨rfl, hb6⟩)
                  all_goals go_wp2_with fail
                  all_goals
                    have hy := Hy.out
                    have hB6 : Below wq.heap.size wq w6 := hB5.trans (Below.mono (w := wr) ⟨hb6.os, hb6.tape, hb6.output, hb6.size, hb6.block⟩ hB5.size)
                    go_roundw
                    case rel =>
                      refine ⟨m + 1, by omega, by go_num, hid (fun j hj => ?_), hB6⟩
                      by_cases hjm : j < m
                      · exact Hm.out j hjm
                      · obtain rfl : j = m := by omega
                        rw [← hy]; exact hyf
                    case measure => simp [intOf]; omega
                · go_wp2_with fail
                  go_region_with (go_at_call 67; refine (has_no V y _ cap fs _ Hs5.out hl hyf).mono ?_; rintro e w6 ⟨rfl, hb6⟩)
                  all_goals go_wp2_with fail
                  all_goals
                    have hy := Hy.out
                    have hB6 : Below wq.heap.size wq w6 := hB5.trans (Below.mono (w := wr) ⟨hb6.os, hb6.tape, hb6.output, hb6.size, hb6.block⟩ hB5.size)
                    go_ret
                    refine ⟨ret_bool ?_, Hend.out _ hB6⟩
                    symm
                    refine isCB_false (fun h => hyf ?_)
                    refine isC_looks_below h hlt2 ?_
                    rw [← Hx.out, ← Hys.out, hy]
                    exact getD_mem hlt3
              · go_wp2_with fail
                go_roundw
                case rel =>
                  refine ⟨k + 1, by omega, by go_num, hid (fun j hj => ?_), Hrnd5.out⟩
                  by_cases hjk : j < k
                  · exact Hl.out j hjk
                  · obtain rfl : j = k := by omega
                    rw [← Hx.out, ← Hys.out]
                    intro z hz
                    obtain ⟨i, hi, e⟩ := mem_getD hz
                    rw [← e]
                    exact Hm.out i (by omega)
                case measure => simp [intOf]; omega
        · go_wp2
          go_ret
          refine ⟨ret_bool ?_, hBW⟩
          symm
          refine isCB_true (isC_of_looks h1 h2 (fun j hj => (Hall.out j hj).1) (fun j h0 hj => (Hall.out j hj).2 h0) (fun j hj => Hl.out j (by omega)))
end Go.Proofs.Ytmkknfdjoajpcaa
