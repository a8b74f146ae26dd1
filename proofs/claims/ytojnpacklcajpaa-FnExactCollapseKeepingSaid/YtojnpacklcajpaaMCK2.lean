import Derived.WideKeyPair
import Derived.Conc.LoneCalls
import Derived.Maps.OwnSet
import Derived.Deep.LoopGhost
import Derived.Deep.RegionWith
import Derived.Test.YtojnpacklcajpaaMCK1
/-! The model's test of a pairing. -/
namespace Go.Proofs.Ytojnpacklcajpaa
open Go.RowKit Go.Sort

/-- Two pairs have a face in common. -/
def clashB (x y x' y' : Int) : Bool := decide (x = x') || decide (x = y') || decide (y = x') || decide (y = y')

/-- The first k pairs are pairs, in order, and the pair i has no face of an earlier one. -/
def OkTo (fs ps : List Int) (k : Nat) : Prop := ∀ i, i < k → pairB fs (at0 ps (i * 2)) (at0 ps (i * 2 + 1)) = true ∧ (1 ≤ i → lessP (at0 ps ((i - 1) * 2)) (at0 ps ((i - 1) * 2 + 1)) (at0 ps (i * 2)) (at0 ps (i * 2 + 1)) = true) ∧ ∀ j, j < i → clashB (at0 ps (i * 2)) (at0 ps (i * 2 + 1)) (at0 ps (j * 2)) (at0 ps (j * 2 + 1)) = false

noncomputable def pairingB (fs ps : List Int) (n : Nat) : Bool := @decide (OkTo fs ps n) (Classical.propDecidable _)
theorem pairingB_true {fs ps : List Int} {n : Nat} (h : OkTo fs ps n) : pairingB fs ps n = true := by unfold pairingB; exact @decide_eq_true _ (Classical.propDecidable _) h
theorem pairingB_false {fs ps : List Int} {n : Nat} (h : ¬ OkTo fs ps n) : pairingB fs ps n = false := by unfold pairingB; exact @decide_eq_false _ (Classical.propDecidable _) h

set_option maxRecDepth 100000 in
set_option maxHeartbeats 8000000 in
theorem pis_some (V : Int) (a : Option Addr) (cap : Nat) (fs : List Int) (b off n c2 : Nat) (ps : List Int) (w : World) (hx : SlI w w.heap.size a fs) (hl : fs.length ≤ 1048576) (hf : ∀ x ∈ fs, 1 ≤ x ∧ x ≤ 63)
    (hb : b < w.heap.size) (hc : ∀ i, i < ps.length → w.cell? ⟨b, off + i, none⟩ = some (.int .i64 (ps[i]?.getD 0))) (hp : ps.length = 2 * n) (hn : n ≤ 1048576) :
    Calls Try.prog 108 #[.agg #[.int .i64 V, .slice a fs.length cap], .slice (some ⟨b, off, none⟩) n c2] w fun e w' => e = .returned (.bool (pairingB fs ps n)) ∧ Below w.heap.size w w' := by
  obtain ⟨W0, hW0⟩ : ∃ W0, W0 = w.alloc (.cells #[.int .i64 V, .slice a fs.length cap] 29) := ⟨_, rfl⟩
  have HW0 : Hid (Below w.heap.size w W0) := hid (by rw [hW0]; exact (Below.refl _ w).alloc (Nat.le_refl _) _)
  have hs0 : W0.heap.size = w.heap.size + 1 := by rw [hW0]; simp
  have q0 : W0.heap[w.heap.size]? = some (.cells #[.int .i64 V, .slice a fs.length cap] 29 (0, 0)) := by rw [hW0]; exact heap_alloc_new _ _
  obtain ⟨k0, k1, _, _⟩ := two_of q0
  have K0 := hid k0
  have K1 := hid k1
  have Hs0 := hid hs0
  have Hx := hid hx
  have Hc := hid hc
  have Hp := hid hp
  have Hf := hid hf
  have HW := hid hW0
  clear hc hp hf hx q0 k0 k1 hs0
  go_enter Try.func108, Try.ntmps108
  go_wp2_with fail
  rw [← HW.out]
  clear hW0
  go_loopw [5] (fun i wr => ∃ k : Nat, k ≤ n ∧ i = .int .i64 k ∧ Hid (OkTo fs ps k) ∧ Below (w.heap.size + 1) W0 wr) (fun i _ => n - (intOf i).toNat)
  case atStart => exact ⟨0, Nat.zero_le _, rfl, hid (fun i hi => by omega), Below.refl _ _⟩
  case round =>
    obtain ⟨k, hk, rfl, Hk, hB⟩ := hrel
    have HB := hid hB
    clear hB
    by_cases hlt : k < n
    · have hc0 : wr.cell? ⟨w.heap.size, 0, none⟩ = some (.int .i64 V) := (HB.out.cell (p := ⟨w.heap.size, 0, none⟩) (by simp)).trans K0.out
      have hc1 : wr.cell? ⟨w.heap.size, 1, none⟩ = some (.slice a fs.length cap) := (HB.out.cell (p := ⟨w.heap.size, 1, none⟩) (by simp)).trans K1.out
      have HBw : Hid (Below w.heap.size w wr) := hid (HW0.out.trans (HB.out.mono (Nat.le_succ _)))
      have hc2 : wr.cell? ⟨b, off + k * 2, none⟩ = some (.int .i64 (at0 ps (k * 2))) := (HBw.out.cell (p := ⟨b, off + k * 2, none⟩) hb).trans (Hc.out _ (by have := Hp.out; omega))
      have hc3 : wr.cell? ⟨b, off + k * 2 + 1, none⟩ = some (.int .i64 (at0 ps (k * 2 + 1))) := (HBw.out.cell (p := ⟨b, off + (k * 2 + 1), none⟩) hb).trans (Hc.out _ (by have := Hp.out; omega))
      obtain ⟨x, hx⟩ : ∃ x, x = at0 ps (k * 2) := ⟨_, rfl⟩
      obtain ⟨y, hy⟩ : ∃ y, y = at0 ps (k * 2 + 1) := ⟨_, rfl⟩
      rw [← hx] at hc2
      rw [← hy] at hc3
      have HX := hid hx
      have HY := hid hy
      clear hx hy
      have hi0 : (0 : Int) ≤ (k : Int) := by omega
      have hi1 : (k : Int) < (n : Int) := by omega
      have r0 := cell_regrown hc0
      have r1 := cell_regrown hc1
      have r2 := cell_regrown hc2
      have r3 := cell_regrown hc3
      have cP : ∀ d os, Calls Try.prog 120 #[.agg #[.int .i64 V, .slice a fs.length cap], .agg #[.int .i64 x, .int .i64 y]] (grow (redrawn wr d) os) fun e w'' => e = .returned (.bool (pairB fs x y)) ∧ ∃ p : Regrown, w'' = grow (redrawn wr p.d) p.os := fun d os => Calls.regrown_of (pair_any V a cap fs x y _ ((Hx.out.later HBw.out HBw.out.size).later (below_regrown wr d os) (below_regrown wr d os).size) hl Hf.out)
      have CP := hid cP
      clear cP
      by_cases hq : pairB fs x y = true
      · rw [hq] at CP
        have Hq := hid hq
        clear hq hc0 hc1 hc2 hc3
        by_cases hk0 : 0 < k
        rotate_left
        · have hd : decide (0 < k) = false := decide_eq_false hk0
          have Hk0 := hid hk0
          clear hk0
          go_wp2_with fail
          refine wp_region_quiet_below (by kernel_rfl) (by kernel_rfl) ?_
          iterate 5 (with_reducible refine wpQuiet_step (fun K hK => ?_); have HK := hid hK; clear hK; go_simp; (first | with_reducible refine HK.out _ ?_ | (rw [if_neg (by decide)]; with_reducible refine HK.out _ ?_)); clear HK K)
          (with_reducible refine wpQuiet_step (fun K hK => ?_); have HK := hid hK; clear hK; go_simp; apply Exists.intro; with_reducible refine ⟨fun _ => ?_, HK.out _ ?_⟩; exact CP.out _ _; clear HK K)
          iterate 18 (with_reducible refine wpQuiet_step (fun K hK => ?_); have HK := hid hK; clear hK; go_simp; (first | with_reducible refine HK.out _ ?_ | (rw [if_neg (by decide)]; with_reducible refine HK.out _ ?_)); clear HK K)
          with_reducible refine wpQuiet_nil ?_
          intro _ hw'
          obtain ⟨⟨dq, osq⟩, hw''⟩ := hw'
          subst hw''
          go_wp2_with fail
          have HB' : Hid (Below (w.heap.size + 1) W0 (grow (redrawn wr dq) osq)) := hid (HB.out.trans ((below_regrown wr dq osq).mono (by rw [← Hs0.out]; exact HB.out.size)))
          refine wp_loop_rounds 1 ?_; rw [rounds_succ]
          go_wp2_with fail
          go_roundw
          case rel =>
            have hk0 := Hk0.out
            refine ⟨k + 1, by omega, by go_num, fun i hi => ?_, HB'.out⟩
            obtain rfl : i = k := by omega
            exact ⟨by rw [← HX.out, ← HY.out]; exact Hq.out, fun h => by omega, fun j hj => by omega⟩
          case measure => simp [intOf]; omega
        · obtain ⟨m, rfl⟩ : ∃ m : Nat, k = m + 1 := ⟨k - 1, by omega⟩
          clear hk0
          have hd2 : wr.cell? ⟨b, off + m * 2, none⟩ = some (.int .i64 (at0 ps (m * 2))) := (HBw.out.cell (p := ⟨b, off + m * 2, none⟩) hb).trans (Hc.out _ (by have := Hp.out; omega))
          have hd3 : wr.cell? ⟨b, off + m * 2 + 1, none⟩ = some (.int .i64 (at0 ps (m * 2 + 1))) := (HBw.out.cell (p := ⟨b, off + (m * 2 + 1), none⟩) hb).trans (Hc.out _ (by have := Hp.out; omega))
          obtain ⟨x', hx'⟩ : ∃ x, x = at0 ps (m * 2) := ⟨_, rfl⟩
          obtain ⟨y', hy'⟩ : ∃ y, y = at0 ps (m * 2 + 1) := ⟨_, rfl⟩
          rw [← hx'] at hd2
          rw [← hy'] at hd3
          have HX' := hid hx'
          have HY' := hid hy'
          clear hx' hy'
          have s2 := cell_regrown hd2
          have s3 := cell_regrown hd3
          clear hd2 hd3
          have hi2 : (0 : Int) ≤ (m : Int) := by omega
          have hi3 : (m : Int) < (n : Int) := by omega
          have hw1 : IntKind.i64.wrap (m : Int) = m := by rw [IntKind.wrap_i64]; omega
          have hw2 : IntKind.i64.wrap ((m : Int) + 1 - 1) = m := by rw [show (m : Int) + 1 - 1 = m by omega]; exact hw1
          have hw3 : wrap64 (m : Int) = m := IntWalk.wrap64_in _ ⟨by omega, by omega⟩
          have hj0 : (0 : Int) ≤ (m : Int) + 1 := by omega
          have hj1 : (m : Int) + 1 < (n : Int) := by omega
          have hgt : (0 : Int) < (m : Int) + 1 := by omega
          have CL : Hid (∀ d os, Calls Try.prog 121 #[.agg #[.int .i64 x', .int .i64 y'], .agg #[.int .i64 x, .int .i64 y]] (grow (redrawn wr d) os) fun e w'' => e = .returned (.bool (lessP x' y' x y)) ∧ ∃ p : Regrown, w'' = grow (redrawn wr p.d) p.os) := hid (fun d os => Calls.regrown_of (less_any x' y' x y _))
          by_cases hql : lessP x' y' x y = true
          · rw [hql] at CL
            have Hql := hid hql
            clear hql
            go_wp2_with fail
            refine wp_region_quiet_below (by kernel_rfl) (by kernel_rfl) ?_
            iterate 5 (with_reducible refine wpQuiet_step (fun K hK => ?_); have HK := hid hK; clear hK; go_simp; (first | with_reducible refine HK.out _ ?_ | (rw [if_neg (by decide)]; with_reducible refine HK.out _ ?_)); clear HK K)
            (with_reducible refine wpQuiet_step (fun K hK => ?_); have HK := hid hK; clear hK; go_simp; apply Exists.intro; with_reducible refine ⟨fun _ => ?_, HK.out _ ?_⟩; exact CP.out _ _; clear HK K)
            iterate 14 (with_reducible refine wpQuiet_step (fun K hK => ?_); have HK := hid hK; clear hK; go_simp; (first | with_reducible refine HK.out _ ?_ | (rw [if_neg (by decide)]; with_reducible refine HK.out _ ?_)); clear HK K)
            (with_reducible refine wpQuiet_step (fun K hK => ?_); have HK := hid hK; clear hK; go_simp; apply Exists.intro; with_reducible refine ⟨fun _ => ?_, HK.out _ ?_⟩; exact CL.out _ _; clear HK K)
            iterate 3 (with_reducible refine wpQuiet_step (fun K hK => ?_); have HK := hid hK; clear hK; go_simp; (first | with_reducible refine HK.out _ ?_ | (rw [if_neg (by decide)]; with_reducible refine HK.out _ ?_)); clear HK K)
            with_reducible refine wpQuiet_nil ?_
            intro _ hw'
            obtain ⟨⟨dq, osq⟩, hw''⟩ := hw'
            subst hw''
            go_wp2_with fail
            have HB' : Hid (Below (w.heap.size + 1) W0 (grow (redrawn wr dq) osq)) := hid (HB.out.trans ((below_regrown wr dq osq).mono (by rw [← Hs0.out]; exact HB.out.size)))
            clear HB r0 r1 r2 r3 s2 s3 CP CL HBw
            go_loopw [6] (fun j wx => ∃ i : Nat, i ≤ m + 1 ∧ j = .int .i64 i ∧ Hid (∀ t, t < i → clashB x y (at0 ps (t * 2)) (at0 ps (t * 2 + 1)) = false) ∧ Below (w.heap.size + 1) W0 wx) (fun j _ => m + 1 - (intOf j).toNat)
            case atStart => exact ⟨0, Nat.zero_le _, rfl, hid (fun t ht => by omega), HB'.out⟩
            case round =>
              obtain ⟨i, hi, rfl, Hcl, hBx⟩ := hrel
              have HBx := hid hBx
              clear hBx HB'
              by_cases hlt2 : i < m + 1
              · have HBv : Hid (Below w.heap.size w wr) := hid (HW0.out.trans (HBx.out.mono (Nat.le_succ _)))
                have hc2 : wr.cell? ⟨b, off + (m + 1) * 2, none⟩ = some (.int .i64 x) := ((HBv.out.cell (p := ⟨b, off + (m + 1) * 2, none⟩) hb).trans (Hc.out _ (by have := Hp.out; omega))).trans (by rw [HX.out]; rfl)
                have hc3 : wr.cell? ⟨b, off + (m + 1) * 2 + 1, none⟩ = some (.int .i64 y) := ((HBv.out.cell (p := ⟨b, off + ((m + 1) * 2 + 1), none⟩) hb).trans (Hc.out _ (by have := Hp.out; omega))).trans (by rw [HY.out]; rfl)
                have hd2 : wr.cell? ⟨b, off + i * 2, none⟩ = some (.int .i64 (at0 ps (i * 2))) := (HBv.out.cell (p := ⟨b, off + i * 2, none⟩) hb).trans (Hc.out _ (by have := Hp.out; omega))
                have hd3 : wr.cell? ⟨b, off + i * 2 + 1, none⟩ = some (.int .i64 (at0 ps (i * 2 + 1))) := (HBv.out.cell (p := ⟨b, off + (i * 2 + 1), none⟩) hb).trans (Hc.out _ (by have := Hp.out; omega))
                obtain ⟨u, hu⟩ : ∃ u, u = at0 ps (i * 2) := ⟨_, rfl⟩
                obtain ⟨v, hv⟩ : ∃ v, v = at0 ps (i * 2 + 1) := ⟨_, rfl⟩
                rw [← hu] at hd2
                rw [← hv] at hd3
                have HU := hid hu
                have HV := hid hv
                clear hu hv
                have hi4 : (0 : Int) ≤ (i : Int) := by omega
                have hi5 : (i : Int) < (n : Int) := by omega
                have hi6 : (i : Int) < (m : Int) + 1 := by omega
                have Hbad : Hid (clashB x y u v = true → pairingB fs ps n = false) := hid (fun h => pairingB_false (fun ho => by have := (ho (m + 1) hlt).2.2 i hlt2; rw [← HX.out, ← HY.out, ← HU.out, ← HV.out, h] at this; cases this))
                by_cases h0 : x = u
                · have g0 : (x == u) = true := by simp [h0]
                  have He : Hid (pairingB fs ps n = false) := hid (Hbad.out (by unfold clashB; simp [h0]))
                  clear h0
                  go_wp2_with fail
                  refine wp_region_quiet_lit (by kernel_rfl) (by kernel_rfl) ?_
                  iterate 50 (with_reducible refine wpQuiet_step (fun K hK => ?_); have HK := hid hK; clear hK; go_simp; (first | with_reducible refine HK.out _ ?_ | (rw [if_neg (by decide)]; with_reducible refine HK.out _ ?_)); clear HK K)
                  with_reducible refine wpQuiet_nil ?_
                  intro _ hw'
                  obtain ⟨nq, hw''⟩ := hw'
                  subst hw''
                  go_wp2_with fail
                  go_ret
                  exact ⟨ret_bool He.out.symm, HBv.out.trans ⟨rfl, rfl, rfl, Nat.le_refl _, fun _ _ => rfl⟩⟩
                · have g0 : (x == u) = false := by simp [h0]
                  by_cases h1 : x = v
                  · have g1 : (x == v) = true := by simp [h1]
                    have He : Hid (pairingB fs ps n = false) := hid (Hbad.out (by unfold clashB; simp [h1]))
                    clear h0 h1
                    go_wp2_with fail
                    refine wp_region_quiet_lit (by kernel_rfl) (by kernel_rfl) ?_
                    iterate 50 (with_reducible refine wpQuiet_step (fun K hK => ?_); have HK := hid hK; clear hK; go_simp; (first | with_reducible refine HK.out _ ?_ | (rw [if_neg (by decide)]; with_reducible refine HK.out _ ?_)); clear HK K)
                    with_reducible refine wpQuiet_nil ?_
                    intro _ hw'
                    obtain ⟨nq, hw''⟩ := hw'
                    subst hw''
                    go_wp2_with fail
                    go_ret
                    exact ⟨ret_bool He.out.symm, HBv.out.trans ⟨rfl, rfl, rfl, Nat.le_refl _, fun _ _ => rfl⟩⟩
                  · have g1 : (x == v) = false := by simp [h1]
                    by_cases h2 : y = u
                    · have g2 : (y == u) = true := by simp [h2]
                      have He : Hid (pairingB fs ps n = false) := hid (Hbad.out (by unfold clashB; simp [h2]))
                      clear h0 h1 h2
                      go_wp2_with fail
                      refine wp_region_quiet_lit (by kernel_rfl) (by kernel_rfl) ?_
                      iterate 50 (with_reducible refine wpQuiet_step (fun K hK => ?_); have HK := hid hK; clear hK; go_simp; (first | with_reducible refine HK.out _ ?_ | (rw [if_neg (by decide)]; with_reducible refine HK.out _ ?_)); clear HK K)
                      with_reducible refine wpQuiet_nil ?_
                      intro _ hw'
                      obtain ⟨nq, hw''⟩ := hw'
                      subst hw''
                      go_wp2_with fail
                      go_ret
                      exact ⟨ret_bool He.out.symm, HBv.out.trans ⟨rfl, rfl, rfl, Nat.le_refl _, fun _ _ => rfl⟩⟩
                    · have g2 : (y == u) = false := by simp [h2]
                      by_cases h3 : y = v
                      · have g3 : (y == v) = true := by simp [h3]
                        have He : Hid (pairingB fs ps n = false) := hid (Hbad.out (by unfold clashB; simp [h3]))
                        clear h0 h1 h2 h3
                        go_wp2_with fail
                        refine wp_region_quiet_lit (by kernel_rfl) (by kernel_rfl) ?_
                        iterate 50 (with_reducible refine wpQuiet_step (fun K hK => ?_); have HK := hid hK; clear hK; go_simp; (first | with_reducible refine HK.out _ ?_ | (rw [if_neg (by decide)]; with_reducible refine HK.out _ ?_)); clear HK K)
                        with_reducible refine wpQuiet_nil ?_
                        intro _ hw'
                        obtain ⟨nq, hw''⟩ := hw'
                        subst hw''
                        go_wp2_with fail
                        go_ret
                        exact ⟨ret_bool He.out.symm, HBv.out.trans ⟨rfl, rfl, rfl, Nat.le_refl _, fun _ _ => rfl⟩⟩
                      · have g3 : (y == v) = false := by simp [h3]
                        have He : Hid (∀ t, t < i + 1 → clashB x y (at0 ps (t * 2)) (at0 ps (t * 2 + 1)) = false) := hid (fun t ht => by
                          by_cases hti : t < i
                          · exact Hcl.out t hti
                          · obtain rfl : t = i := by omega
                            rw [← HU.out, ← HV.out]; unfold clashB; simp only [decide_eq_false h0, decide_eq_false h1, decide_eq_false h2, decide_eq_false h3]; rfl)
                        clear h0 h1 h2 h3
                        go_wp2_with fail
                        refine wp_region_quiet_lit (by kernel_rfl) (by kernel_rfl) ?_
                        iterate 50 (with_reducible refine wpQuiet_step (fun K hK => ?_); have HK := hid hK; clear hK; go_simp; (first | with_reducible refine HK.out _ ?_ | (rw [if_neg (by decide)]; with_reducible refine HK.out _ ?_)); clear HK K)
                        with_reducible refine wpQuiet_nil ?_
                        intro _ hw'
                        obtain ⟨nq, hw''⟩ := hw'
                        subst hw''
                        go_wp2_with fail
                        go_roundw
                        case rel => exact ⟨i + 1, by omega, by go_num, He.out, HBx.out.trans ⟨rfl, rfl, rfl, Nat.le_refl _, fun _ _ => rfl⟩⟩
                        case measure => simp [intOf]; omega
              · obtain rfl : i = m + 1 := by omega
                go_wp2_with fail
                go_roundw
                case rel =>
                  refine ⟨m + 1 + 1, by omega, by go_num, fun i hi => ?_, HBx.out⟩
                  by_cases him : i < m + 1
                  · exact Hk.out i him
                  · obtain rfl : i = m + 1 := by omega
                    refine ⟨by rw [← HX.out, ← HY.out]; exact Hq.out, fun _ => ?_, fun j hj => ?_⟩
                    · rw [Nat.add_sub_cancel, ← HX.out, ← HY.out, ← HX'.out, ← HY'.out]; exact Hql.out
                    · rw [← HX.out, ← HY.out]; exact Hcl.out j hj
                case measure => simp [intOf]; omega
          · have hql' : lessP x' y' x y = false := by simpa using hql
            rw [hql'] at CL
            have He : Hid (pairingB fs ps n = false) := hid (pairingB_false (fun h => by have := (h (m + 1) hlt).2.1 (by omega); rw [Nat.add_sub_cancel, ← HX.out, ← HY.out, ← HX'.out, ← HY'.out, hql'] at this; cases this))
            clear hql hql'
            go_wp2_with fail
            refine wp_region_quiet_below (by kernel_rfl) (by kernel_rfl) ?_
            iterate 5 (with_reducible refine wpQuiet_step (fun K hK => ?_); have HK := hid hK; clear hK; go_simp; (first | with_reducible refine HK.out _ ?_ | (rw [if_neg (by decide)]; with_reducible refine HK.out _ ?_)); clear HK K)
            (with_reducible refine wpQuiet_step (fun K hK => ?_); have HK := hid hK; clear hK; go_simp; apply Exists.intro; with_reducible refine ⟨fun _ => ?_, HK.out _ ?_⟩; exact CP.out _ _; clear HK K)
            iterate 14 (with_reducible refine wpQuiet_step (fun K hK => ?_); have HK := hid hK; clear hK; go_simp; (first | with_reducible refine HK.out _ ?_ | (rw [if_neg (by decide)]; with_reducible refine HK.out _ ?_)); clear HK K)
            (with_reducible refine wpQuiet_step (fun K hK => ?_); have HK := hid hK; clear hK; go_simp; apply Exists.intro; with_reducible refine ⟨fun _ => ?_, HK.out _ ?_⟩; exact CL.out _ _; clear HK K)
            iterate 3 (with_reducible refine wpQuiet_step (fun K hK => ?_); have HK := hid hK; clear hK; go_simp; (first | with_reducible refine HK.out _ ?_ | (rw [if_neg (by decide)]; with_reducible refine HK.out _ ?_)); clear HK K)
            with_reducible refine wpQuiet_nil ?_
            intro _ hw'
            obtain ⟨⟨dq, osq⟩, hw''⟩ := hw'
            subst hw''
            go_wp2_with fail
            go_ret
            exact ⟨ret_bool He.out.symm, HBw.out.trans ((below_regrown wr dq osq).mono HBw.out.size)⟩
      · have hq' : pairB fs x y = false := by simpa using hq
        have He : Hid (pairingB fs ps n = false) := hid (pairingB_false (fun h => by have := (h k hlt).1; rw [← HX.out, ← HY.out, hq'] at this; cases this))
        rw [hq'] at CP
        clear hq hq' hc0 hc1 hc2 hc3
        go_wp2_with fail
        refine wp_region_quiet_below (by kernel_rfl) (by kernel_rfl) ?_
        iterate 5 (with_reducible refine wpQuiet_step (fun K hK => ?_); have HK := hid hK; clear hK; go_simp; (first | with_reducible refine HK.out _ ?_ | (rw [if_neg (by decide)]; with_reducible refine HK.out _ ?_)); clear HK K)
        (with_reducible refine wpQuiet_step (fun K hK => ?_); have HK := hid hK; clear hK; go_simp; apply Exists.intro; with_reducible refine ⟨fun _ => ?_, HK.out _ ?_⟩; exact CP.out _ _; clear HK K)
        iterate 18 (with_reducible refine wpQuiet_step (fun K hK => ?_); have HK := hid hK; clear hK; go_simp; (first | with_reducible refine HK.out _ ?_ | (rw [if_neg (by decide)]; with_reducible refine HK.out _ ?_)); clear HK K)
        with_reducible refine wpQuiet_nil ?_
        intro _ hw'
        obtain ⟨⟨dq, osq⟩, hw''⟩ := hw'
        subst hw''
        go_wp2_with fail
        go_ret
        exact ⟨ret_bool He.out.symm, HBw.out.trans ((below_regrown wr dq osq).mono HBw.out.size)⟩
    · obtain rfl : k = n := by omega
      have He : Hid (pairingB fs ps k = true) := hid (pairingB_true Hk.out)
      go_wp2
      go_ret
      exact ⟨ret_bool He.out.symm, HW0.out.trans (HB.out.mono (Nat.le_succ _))⟩

end Go.Proofs.Ytojnpacklcajpaa

/-! slices.Contains on a list of int64. -/
namespace Go.Proofs.Ytojnpacklcajpaa
open Go.RowKit

set_option maxRecDepth 100000 in
set_option maxHeartbeats 1000000 in
theorem index_any (a : Option Addr) (cap : Nat) (xs : List Int) (x : Int) (w : World) (hx : SlI w w.heap.size a xs) (hl : xs.length ≤ 1048576) :
    Calls Try.prog 115 #[.slice a xs.length cap, .int .i64 x] w fun e w' => ∃ i : Int, e = .returned (.int .i64 i) ∧ -1 ≤ i ∧ (0 ≤ i ↔ x ∈ xs) ∧ w = w' := by
  rcases hx with rfl | ⟨b, off, hb, rfl, hc⟩
  · go_enter Try.func115, Try.ntmps115
    go_wp2
    refine wp_loop_rounds 1 ?_; rw [rounds_succ]
    go_wp2
    go_ret
    exact ⟨-1, rfl, by decide, by simp, rfl⟩
  · have Hc := hid hc
    clear hc
    go_enter Try.func115, Try.ntmps115
    go_wp2
    go_loop [8] (fun i => ∃ k : Nat, k ≤ xs.length ∧ i = .int .i64 k ∧ Hid (x ∉ xs.take k)) (fun i => xs.length - (intOf i).toNat)
    case atStart => exact ⟨0, Nat.zero_le _, rfl, hid (by simp)⟩
    case round =>
      obtain ⟨k, hk, rfl, Hk⟩ := hrel
      by_cases hlt : k < xs.length
      · obtain ⟨y, hy⟩ : ∃ y, y = xs[k]?.getD 0 := ⟨_, rfl⟩
        have hck : w.cell? ⟨b, off + k, none⟩ = some (.int .i64 y) := by rw [hy]; exact Hc.out k hlt
        have Hy := hid hy
        have hi0 : (0 : Int) ≤ (k : Int) := by omega
        have hi1 : (k : Int) < (xs.length : Int) := by omega
        clear hy
        by_cases hxy : x = y
        · have hd : (x == y) = true := by simp [hxy]
          have He : Hid (x ∈ xs) := hid (by rw [hxy, Hy.out]; exact getD_mem hlt)
          clear hxy
          go_wp2
          go_ret
          exact ⟨k, rfl, by omega, ⟨fun _ => He.out, fun _ => by omega⟩, rfl⟩
        · have hd : (x == y) = false := by simp [hxy]
          have He : Hid (x ∉ xs.take (k + 1)) := hid (by
            rw [take_snoc hlt, ← Hy.out]
            intro h
            rcases List.mem_append.1 h with h | h
            · exact Hk.out h
            · simp at h; exact hxy h)
          clear hxy
          go_wp2
          go_round
          case rel => exact ⟨k + 1, by omega, by go_num, He.out⟩
          case measure => simp [intOf]; omega
      · have He : Hid (x ∉ xs) := hid (by have := Hk.out; rwa [List.take_of_length_le (by omega)] at this)
        go_wp2
        go_ret
        exact ⟨-1, rfl, by decide, ⟨fun h => absurd h (by decide), fun h => absurd h He.out⟩, rfl⟩

set_option maxRecDepth 100000 in
set_option maxHeartbeats 1000000 in
theorem contains_any (a : Option Addr) (cap : Nat) (xs : List Int) (x : Int) (w : World) (hx : SlI w w.heap.size a xs) (hl : xs.length ≤ 1048576) :
    Calls Try.prog 94 #[.slice a xs.length cap, .int .i64 x] w fun e w' => e = .returned (.bool (decide (x ∈ xs))) ∧ w = w' := by
  have HI := hid (index_any a cap xs x w hx hl)
  obtain ⟨c, hc⟩ : ∃ c, c = decide (x ∈ xs) := ⟨_, rfl⟩
  have Hc := hid hc
  rw [← hc]
  clear hc hx
  go_enter Try.func94, Try.ntmps94
  go_wp2_with fail
  refine HI.out.mono ?_
  rintro e w' ⟨i, rfl, h1, h2, rfl⟩
  have Hi := hid h2
  have H1 := hid h1
  clear h1 h2
  by_cases h0 : 0 ≤ i
  · have He : Hid (c = true) := hid (by rw [Hc.out]; exact decide_eq_true (Hi.out.1 h0))
    go_wp2_with fail
    go_ret
    exact ⟨ret_bool (by rw [He.out]), rfl⟩
  · have He : Hid (c = false) := hid (by rw [Hc.out]; exact decide_eq_false (fun h => h0 (Hi.out.2 h)))
    have hlt : i < 0 := by omega
    go_wp2_with fail
    go_ret
    exact ⟨ret_bool (by rw [He.out]; simp [hlt]), rfl⟩

end Go.Proofs.Ytojnpacklcajpaa

/-! Lists of pairs: all pairs of a complex; maps whose keys are pairs. -/
namespace Go.Proofs.Ytojnpacklcajpaa
open Go.RowKit

def flatP (L : List (Int × Int)) : List Int := L.flatMap fun p => [p.1, p.2]
theorem flatP_snoc (L : List (Int × Int)) (p : Int × Int) : flatP (L ++ [p]) = flatP L ++ [p.1, p.2] := by simp [flatP]
theorem flatP_len : ∀ L : List (Int × Int), (flatP L).length = 2 * L.length
  | [] => rfl
  | p :: L => by have := flatP_len L; unfold flatP at *; simp only [List.flatMap_cons, List.length_append, List.length_cons, List.length_nil]; omega
theorem flatP_at : ∀ (L : List (Int × Int)) (i : Nat), i < L.length → at0 (flatP L) (i * 2) = (L[i]?.getD (0, 0)).1 ∧ at0 (flatP L) (i * 2 + 1) = (L[i]?.getD (0, 0)).2
  | [], i, h => by simp at h
  | p :: L, 0, _ => by simp [flatP, at0]
  | p :: L, i + 1, h => by
    have ih := flatP_at L i (by simpa using h)
    have e : flatP (p :: L) = p.1 :: p.2 :: flatP L := by simp [flatP]
    have e1 : (i + 1) * 2 = i * 2 + 1 + 1 := by omega
    rw [e, e1]
    unfold at0 at *
    simpa using ih

/-- The pairs of a low face, over the first vertices. -/
def upS (fs : List Int) (x m : Nat) : List (Int × Int) := ((List.range m).filter fun v => decide (x ||| 2 ^ v ≠ x) && decide (((x ||| 2 ^ v : Nat) : Int) ∈ fs)).map fun v => ((x : Int), ((x ||| 2 ^ v : Nat) : Int))
theorem upS_succ (fs : List Int) (x m : Nat) (c : Bool) (h : (decide (x ||| 2 ^ m ≠ x) && decide (((x ||| 2 ^ m : Nat) : Int) ∈ fs)) = c) : upS fs x (m + 1) = upS fs x m ++ (if c then [((x : Int), ((x ||| 2 ^ m : Nat) : Int))] else []) := by
  unfold upS
  rw [List.range_succ, List.filter_append, List.map_append]
  cases c
  · rw [List.filter_cons, if_neg (by rw [h]; simp)]; simp
  · rw [List.filter_cons, if_pos h]; simp
theorem upS_len (fs : List Int) (x m : Nat) : (upS fs x m).length ≤ m := by
  unfold upS
  rw [List.length_map]
  exact Nat.le_trans (List.length_filter_le _ _) (by simp)

/-- All pairs whose low faces are among the first k faces. -/
def pairsL (fs : List Int) (V k : Nat) : List (Int × Int) := (fs.take k).flatMap fun x => upS fs x.toNat V
theorem pairsL_succ {fs : List Int} {V k : Nat} (hlt : k < fs.length) : pairsL fs V (k + 1) = pairsL fs V k ++ upS fs (fs[k]?.getD 0).toNat V := by
  unfold pairsL
  rw [take_snoc hlt, List.flatMap_append]
  simp
theorem pairsL_len (fs : List Int) (V : Nat) : ∀ k, k ≤ fs.length → (pairsL fs V k).length ≤ k * V
  | 0, _ => by simp [pairsL]
  | k + 1, h => by
    have h1 := pairsL_len fs V k (by omega)
    have h2 := upS_len fs (fs[k]?.getD 0).toNat V
    rw [pairsL_succ (by omega), List.length_append, Nat.add_mul]
    omega

theorem up_pair : ∀ x : Fin 64, ∀ v : Fin 6, x.val ||| 2 ^ v.val ≠ x.val → x.val &&& (x.val ||| 2 ^ v.val) = x.val ∧ ones (x.val ||| 2 ^ v.val) = ones x.val + 1 := by decide +kernel
theorem pair_up : ∀ x : Fin 64, ∀ y : Fin 64, x.val &&& y.val = x.val → ones y.val = ones x.val + 1 → ∃ v : Fin 6, x.val ||| 2 ^ v.val = y.val ∧ y.val ≠ x.val := by decide +kernel

theorem mem_pairsL {V : Int} {fs : List Int} (hC : IsC V fs) (x y : Int) : (x, y) ∈ pairsL fs V.toNat fs.length ↔ pairB fs x y = true := by
  have hr := hC.range63
  have hlo := hC.lo
  have hhi := hC.hi
  unfold pairsL upS pairB
  rw [List.take_of_length_le (Nat.le_refl _)]
  simp only [List.mem_flatMap, List.mem_map, List.mem_filter, List.mem_range, Bool.and_eq_true, decide_eq_true_eq, Prod.mk.injEq]
  constructor
  · rintro ⟨x0, hx0, v, ⟨hv, hne, hm⟩, rfl, rfl⟩
    have h0 := hr x0 hx0
    have hu := up_pair ⟨x0.toNat, by omega⟩ ⟨v, by omega⟩ hne
    rw [Int.toNat_of_nonneg (by omega)]
    simp only [Int.toNat_natCast]
    exact ⟨⟨⟨hx0, hm⟩, hu.1⟩, hu.2⟩
  · rintro ⟨⟨⟨hx, hy⟩, hb⟩, ho⟩
    have h0 := hr x hx
    have h1 := hr y hy
    obtain ⟨v, hv, hne⟩ := pair_up ⟨x.toNat, by omega⟩ ⟨y.toNat, by omega⟩ hb ho
    simp only at hv hne
    have hyr := (hC.range y hy).2
    have hle : 2 ^ v.val ≤ y.toNat := by rw [← hv]; exact Nat.right_le_or
    refine ⟨x, hx, v.val, ⟨?_, by rw [hv]; exact hne, by rw [hv, Int.toNat_of_nonneg (by omega)]; exact hy⟩, Int.toNat_of_nonneg (by omega), by rw [hv, Int.toNat_of_nonneg (by omega)]⟩
    rcases Nat.lt_or_ge v.val V.toNat with h | h
    · exact h
    · exfalso
      have hp := Nat.pow_le_pow_right (n := 2) (by decide) h
      unfold allV at hyr
      have e : ((2 : Int) ^ V.toNat) = ((2 ^ V.toNat : Nat) : Int) := by simp
      rw [e] at hyr
      generalize (2 : Nat) ^ V.toNat = q at *
      generalize (2 : Nat) ^ v.val = q' at *
      omega

/-! ### maps whose keys are pairs -/

theorem arrP : Go.WideMaps.ArrKey Try.prog 63 2 2 := ⟨Try.underlying63, by kernel_rfl, by kernel_rfl, by kernel_rfl⟩
theorem keyedP : Maps.Keyed Try.prog 63 := Maps.Keyed.of_law arrP.law
def keyP (p : Int × Int) : Lit := .string (keyBytes [.int .i64 p.1, .int .i64 p.2])
def wfP (p : Int × Int) : Prop := (Lit.int .i64 p.1).wf = true ∧ (Lit.int .i64 p.2).wf = true
theorem keyOfP {p : Int × Int} (h : wfP p) : keyOf Try.prog 63 (.agg #[.int .i64 p.1, .int .i64 p.2]) = some (keyP p) :=
  Go.WideMaps.keyOf_pair arrP Try.underlying2 ⟨Try.prog.types.size - 1, by kernel_rfl⟩ h.1 h.2
theorem keyP_inj {p q : Int × Int} (hp : wfP p) (hq : wfP q) (h : keyP p = keyP q) : p = q := by
  have := keyedP.inj (keyOfP hp) (by rw [h]; exact keyOfP hq)
  simp only [Value.agg.injEq, Array.mk.injEq, List.cons.injEq, Value.int.injEq, true_and, and_true] at this
  exact Prod.ext this.1 this.2

def pknFrom (D : DataW Unit) (pre : List (Int × Int)) : DataW Unit := pre.foldl (fun D p => D.put (keyP p) (.lit (.bool true))) D
def pknD (pre : List (Int × Int)) : DataW Unit := pknFrom (.map []) pre
theorem pknD_snoc (pre : List (Int × Int)) (p : Int × Int) : pknD (pre ++ [p]) = (pknD pre).put (keyP p) (.lit (.bool true)) := by simp [pknD, pknFrom]
theorem isKey_keyP (p : Int × Int) (h : wfP p) : WideAt.IsKeyLit (keyP p) := keyedP.key (keyOfP h)
theorem pknFrom_at (p : Int × Int) (hp : wfP p) : ∀ (pre : List (Int × Int)) (D : DataW Unit), (∀ q ∈ pre, wfP q) → Maps.IsMap D → (pknFrom D pre).atKey (keyP p) (.lit (.bool false)) = if p ∈ pre then .lit (.bool true) else D.atKey (keyP p) (.lit (.bool false))
  | [], D, _, _ => by simp [pknFrom]
  | x :: pre, D, hw, hD => by
    have ih := pknFrom_at p hp pre (D.put (keyP x) (.lit (.bool true))) (fun q hq => hw q (by simp [hq])) (hD.put _ _)
    have e : pknFrom D (x :: pre) = pknFrom (D.put (keyP x) (.lit (.bool true))) pre := rfl
    rw [e, ih]
    by_cases hm : p ∈ pre
    · simp [hm]
    · by_cases hx : p = x
      · subst hx
        rw [if_neg hm, if_pos (by simp), Maps.atKey_put_same hD (isKey_keyP p hp)]
      · rw [if_neg hm, if_neg (by simp [hm, hx]), Maps.atKey_put_other (fun e => hx (keyP_inj hp (hw x (by simp)) e))]

theorem pknD_at (p : Int × Int) (hp : wfP p) (pre : List (Int × Int)) (hw : ∀ q ∈ pre, wfP q) : (pknD pre).atKey (keyP p) (.lit (.bool false)) = .lit (.bool (decide (p ∈ pre))) := by
  unfold pknD
  rw [pknFrom_at p hp pre _ hw Maps.isMap_empty]
  by_cases h : p ∈ pre
  · simp [h]
  · simp [h]
    rfl

/-- The map of pairs. -/
def MapP (w' : World) (b n : Nat) (L : List (Int × Int)) : Prop := w'.ownsMap Try.prog 63 (plainElem (H := Unit) Try.prog 4) b n (pknD L)

theorem MapP.later {w w' : World} {b n : Nat} {L : List (Int × Int)} (h : MapP w b n L) (hB : Below w.heap.size w w') : MapP w' b n L :=
  World.ownsMap.kept h (row := none) ⟨hB.os, hB.tape, hB.output, hB.size, fun k hk _ => hB.block k hk⟩ (by simp)

theorem lookup_pair {w : World} {b n : Nat} {L : List (Int × Int)} (hown : MapP w b n L) (hw : ∀ q ∈ L, wfP q) {p : Int × Int} (hp : wfP p) :
    (Instr.lookup 118 (.map (some b)) (.agg #[.int .i64 p.1, .int .i64 p.2]) false).run Try.prog w = .ok (.bool (decide (p ∈ L))) w := by
  obtain ⟨v, ps, hrun, hv⟩ := World.ownsMap.lookup hown keyedP Try.underlying118 (zero_bool w) (plainElem_bool Try.underlying4 false) (keyOfP hp)
  rw [pknD_at p hp L hw] at hv
  rw [bool_inv hv] at hrun
  exact hrun

end Go.Proofs.Ytojnpacklcajpaa

/-! Results of several parts: rows in intervals of blocks that do not meet. -/
namespace Go.Proofs.Ytojnpacklcajpaa
open Go.RowKit

/-- A result: a slice of pairs in new memory. -/
def ResP (w w' : World) (v : Value) (L : List (Int × Int)) : Prop := w'.ownsRow w.heap.size 63 2 v L.length ((flatP L).map (Value.int .i64)) ∧ Below w.heap.size w w'

theorem ResP.later {w0 w w' : World} {v : Value} {L : List (Int × Int)} (h : ResP w w' v L) (h0 : Below w0.heap.size w0 w) : ResP w0 w' v L :=
  ⟨ownsRow_base h.1 h0.size, h0.trans (h.2.mono h0.size)⟩
theorem resP_nil (w w' : World) (h : Below w.heap.size w w') : ResP w w' (.slice none 0 0) [] := ⟨World.ownsRow_nil _ _ _ _, h⟩

structure PartB (w w' : World) (p : Bk) : Prop where
  own : w'.ownsRow p.lo p.ty p.sz p.v p.n (p.xs.map (Value.int .i64))
  lt : ∀ g, p.v.ownBlock = some g → g < p.hi
  le : p.hi ≤ w'.heap.size
  ge : w.heap.size ≤ p.lo

theorem part_ints {w w' : World} {v : Value} {xs : List Int} (h : Res w w' v xs) : PartB w w' ⟨w.heap.size, w'.heap.size, 2, 1, xs.length, v, xs⟩ :=
  ⟨h.1, fun g hg => (h.1.lt g hg).2, Nat.le_refl _, Nat.le_refl _⟩
theorem part_pairs {w w' : World} {v : Value} {L : List (Int × Int)} (h : ResP w w' v L) : PartB w w' ⟨w.heap.size, w'.heap.size, 63, 2, L.length, v, flatP L⟩ :=
  ⟨h.1, fun g hg => (h.1.lt g hg).2, Nat.le_refl _, Nat.le_refl _⟩

/-- Two rows in blocks of their own. -/
def Apart (v q : Value) : Prop := ∀ g, v.ownBlock = some g → q.ownBlock ≠ some g

theorem apart_ty {w : World} {b1 e1 s1 n1 b2 e2 s2 n2 : Nat} {v q : Value} {xs ys : List Value} (h1 : w.ownsRow b1 e1 s1 v n1 xs) (h2 : w.ownsRow b2 e2 s2 q n2 ys) (hne : e1 ≠ e2) : Apart v q := by
  intro g hv hq
  rcases h1.2 with ⟨rfl, _⟩ | ⟨g1, _, _, rfl, _, hg1, _⟩
  · simp [Value.ownBlock] at hv
  rcases h2.2 with ⟨rfl, _⟩ | ⟨g2, _, _, rfl, _, hg2, _⟩
  · simp [Value.ownBlock] at hq
  simp [Value.ownBlock] at hv hq
  subst hv hq
  rw [hg1] at hg2
  simp at hg2
  exact hne hg2.2

theorem row_at {w : World} {b e s n : Nat} {v : Value} {xs : List Value} (h : w.ownsRow b e s v n xs) : (v.ownBlock = none ∧ ∀ b', w.ownsRow b' e s v n xs) ∨ ∃ g, v.ownBlock = some g ∧ b ≤ g ∧ g < w.heap.size ∧ w.ownsRow g e s v n xs := by
  rcases h.2 with ⟨rfl, hn⟩ | ⟨g, cp, cur, rfl, hb, hg, rest⟩
  · exact .inl ⟨rfl, fun b' => ⟨h.1, .inl ⟨rfl, hn⟩⟩⟩
  · exact .inr ⟨g, rfl, hb, (Array.getElem?_eq_some_iff.1 hg).1, h.1, .inr ⟨g, cp, cur, rfl, Nat.le_refl _, hg, rest⟩⟩

theorem two_parts {w w' : World} {e1 s1 n1 e2 s2 n2 : Nat} {v q : Value} {xs ys : List Int} (h1 : w'.ownsRow w.heap.size e1 s1 v n1 (xs.map (Value.int .i64))) (h2 : w'.ownsRow w.heap.size e2 s2 q n2 (ys.map (Value.int .i64))) (ha : Apart v q) (hB : Below w.heap.size w w') :
    ∃ l1 r1 l2 r2, PartB w w' ⟨l1, r1, e1, s1, n1, v, xs⟩ ∧ PartB w w' ⟨l2, r2, e2, s2, n2, q, ys⟩ ∧ (r1 ≤ l2 ∨ r2 ≤ l1) := by
  have hs := hB.size
  rcases row_at h1 with ⟨hv, h1'⟩ | ⟨g1, hv, hb1, hl1, h1'⟩
  · rcases row_at h2 with ⟨hq, h2'⟩ | ⟨g2, hq, hb2, hl2, h2'⟩
    · exact ⟨_, _, _, _, ⟨h1' w.heap.size, fun g hg => (by simp only at hg; rw [hv] at hg; cases hg), hs, Nat.le_refl _⟩, ⟨h2' w.heap.size, fun g hg => (by simp only at hg; rw [hq] at hg; cases hg), hs, Nat.le_refl _⟩, .inl (Nat.le_refl _)⟩
    · exact ⟨_, w.heap.size, _, g2 + 1, ⟨h1' w.heap.size, fun g hg => (by simp only at hg; rw [hv] at hg; cases hg), hs, Nat.le_refl _⟩, ⟨h2', fun g hg => (by simp only at hg; rw [hq] at hg; cases hg; simp only; omega), hl2, hb2⟩, .inl hb2⟩
  · rcases row_at h2 with ⟨hq, h2'⟩ | ⟨g2, hq, hb2, hl2, h2'⟩
    · exact ⟨_, g1 + 1, _, w.heap.size, ⟨h1', fun g hg => (by simp only at hg; rw [hv] at hg; cases hg; simp only; omega), hl1, hb1⟩, ⟨h2' w.heap.size, fun g hg => (by simp only at hg; rw [hq] at hg; cases hg), hs, Nat.le_refl _⟩, .inr hb1⟩
    · have hne : g1 ≠ g2 := fun e => ha g1 hv (by rw [hq, e])
      exact ⟨_, g1 + 1, _, g2 + 1, ⟨h1', fun g hg => (by simp only at hg; rw [hv] at hg; cases hg; simp only; omega), hl1, hb1⟩, ⟨h2', fun g hg => (by simp only at hg; rw [hq] at hg; cases hg; simp only; omega), hl2, hb2⟩, (by omega)⟩

theorem pairs_form {w : World} {base e n : Nat} {v : Value} {L : List (Int × Int)} (h : w.ownsRow base e 2 v n ((flatP L).map (Value.int .i64))) : n = L.length ∧ ∃ a cap, v = .slice a L.length cap ∧ True := by
  have hl := h.1
  simp [flatP_len] at hl
  have hn : n = L.length := by omega
  rcases h.2 with ⟨rfl, hn0⟩ | ⟨g, cap, cur, rfl, _⟩
  · refine ⟨hn, none, 0, ?_, trivial⟩
    rw [show L.length = 0 by omega]
  · exact ⟨hn, _, cap, by rw [hn], trivial⟩

theorem Book.add {w0 w w' : World} {A : List (Option Addr × List Int)} {bs : List (Nat × Obj)} {L : List Bk} {p : Bk} (h : Book w0 w' A bs L) (hp : PartB w w' p) : Book w0 w' A bs (p :: L) :=
  ⟨h.from0, h.args, h.blocks, fun q hq => by
    rcases List.mem_cons.1 hq with rfl | hq
    · exact ⟨hp.own, hp.lt, hp.le⟩
    · exact h.rows q hq⟩

end Go.Proofs.Ytojnpacklcajpaa

/-! The faces as keys of a map: the program's facesHaving. -/
namespace Go.Proofs.Ytojnpacklcajpaa
open Go.RowKit

theorem wf_face {x : Int} (h0 : 1 ≤ x) (h1 : x ≤ 63) : (Lit.int .i64 x).wf = true := WalkArith.wf_i64 (by omega)

/-- The map of faces. -/
def MapW (w' : World) (b n : Nat) (fs : List Int) : Prop := w'.ownsMap Try.prog 2 (plainElem (H := Unit) Try.prog 4) b n (knownD fs)

theorem MapW.later {w w' : World} {b n : Nat} {fs : List Int} (h : MapW w b n fs) (hB : Below w.heap.size w w') : MapW w' b n fs :=
  World.ownsMap.kept h (row := none) ⟨hB.os, hB.tape, hB.output, hB.size, fun k hk _ => hB.block k hk⟩ (by simp)

theorem MapW.lt {w : World} {b n : Nat} {fs : List Int} (h : MapW w b n fs) : b < w.heap.size := World.ownsMap.lt h

set_option maxRecDepth 100000 in
set_option maxHeartbeats 2000000 in
theorem fh_in (V : Int) (a0 : Option Addr) (cap : Nat) (fs : List Int) (f : Int) (w : World) (hx : SlI w w.heap.size a0 fs) (hl : fs.length ≤ 1048576) (hC : IsC V fs) (hwf : (Lit.int .i64 f).wf = true) (c : Bool) (hc : decide (f ∈ fs) = c) :
    Calls Try.prog 91 #[.agg #[.int .i64 V, .slice a0 fs.length cap], .int .i64 f] w fun e w' => ∃ b, e = .returned (if c then .tuple #[.map (some b), .int .i64 0] else .tuple #[.map none, .int .i64 2]) ∧ (∃ n, MapW w' b n fs) ∧ w.heap.size ≤ b ∧ Below w.heap.size w w' := by
  have hB0 : Below w.heap.size w (w.alloc (.cells #[.int .i64 V, .slice a0 fs.length cap] 29)) := (Below.refl _ w).alloc (Nat.le_refl _) _
  have Hx := hid (hx.later hB0 (by simp <;> omega))
  have Hx0 := hid hx
  have Hf := hid hC.range63
  have HC := hid hC
  clear hx hC
  have hmm := @run_makeMap Try.prog
  go_enter Try.func91, Try.ntmps91
  go_wp2_with fail
  refine (isc_yes V a0 cap fs _ Hx.out hl HC.out).mono ?_
  rintro e w1 ⟨rfl, hB1⟩
  have k0 : w1.cell? ⟨w.heap.size, 0, none⟩ = some (.int .i64 V) := (hB1.cell (p := ⟨w.heap.size, 0, none⟩) (by simp <;> omega)).trans (by simp [go_sem])
  have k1 : w1.cell? ⟨w.heap.size, 1, none⟩ = some (.slice a0 fs.length cap) := (hB1.cell (p := ⟨w.heap.size, 1, none⟩) (by simp <;> omega)).trans (by simp [go_sem])
  have hB01 := hid (hB0.trans (hB1.mono (by simp <;> omega)))
  have hs1 : w.heap.size < w1.heap.size := by have := hB1.size; simp at this; omega
  clear hB0 hB1
  go_wp2_with fail
  clear hmm
  go_loopw [16] (fun i wr => ∃ (k : Nat), k ≤ fs.length ∧ i = .int .i64 k ∧ MapW wr w1.heap.size k (fs.take k) ∧ Below w.heap.size w wr) (fun i _ => fs.length - (intOf i).toNat)
  case atStart => exact ⟨0, Nat.zero_le _, rfl, World.ownsMap_made w1 Try.prog 2 _, hB01.out.trans ((Below.refl _ w1).alloc (by omega) _)⟩
  case round =>
    obtain ⟨k, hk, rfl, hown, hB⟩ := hrel
    by_cases hlt : k < fs.length
    · obtain ⟨b, off, hb, rfl, hc⟩ : ∃ b off, b < w.heap.size ∧ a0 = some ⟨b, off, none⟩ ∧ ∀ i, i < fs.length → w.cell? ⟨b, off + i, none⟩ = some (.int .i64 (fs[i]?.getD 0)) := by
        rcases Hx0.out with rfl | h
        · simp at hlt
        · exact h
      obtain ⟨x, hx⟩ : ∃ x, x = fs[k]?.getD 0 := ⟨_, rfl⟩
      have hxr := Hf.out _ (getD_mem hlt)
      rw [← hx] at hxr
      have hck : wr.cell? ⟨b, off + k, none⟩ = some (.int .i64 x) := by rw [hx]; exact (hB.cell (p := ⟨b, off + k, none⟩) hb).trans (hc k hlt)
      have Hsn : Hid (fs.take (k + 1) = fs.take k ++ [x]) := hid (by rw [take_snoc hlt, ← hx])
      have hi0 : (0 : Int) ≤ (k : Int) := by omega
      have hi1 : (k : Int) < (fs.length : Int) := by omega
      have hkm : k < maxLen := by unfold maxLen; omega
      have hwx := wf_face hxr.1 hxr.2
      have Hown := hid hown
      have HB := hid hB
      clear hc hx hown hB
      go_wp2_with (first | (at_mapUpdate; refine wpList_mapUpdate_own _ rfl _ _ _ 93 rfl 2 4 (Maps.int_keyed Try.underlying2) Try.underlying93 _ w1.heap.size _ _ rfl Hown.out hkm _ _ _ rfl rfl (Maps.keyOf_int_mk Try.underlying2 hwx) _ [] (plainElem_bool Try.underlying4 true) ?_; intro w2 hown2 hgrow2) | go_in)
      go_roundw
      case rel =>
        refine ⟨k + 1, by omega, by go_num, ?_, HB.out.grown hgrow2 HB.out.size (fun r e => by cases e; omega)⟩
        rw [Hsn.out]
        unfold MapW
        rw [knownD_snoc]
        exact hown2
      case measure => simp [intOf]; omega
    · obtain rfl : k = fs.length := by omega
      rw [List.take_of_length_le (Nat.le_refl _)] at hown
      have hlook := lookup_known hown hwf
      rw [hc] at hlook
      have Hown := hid hown
      have HB := hid hB
      clear hown hB
      cases c
      · go_wp2_with (simp only [hlook])
        go_ret2
        exact ⟨rfl, w1.heap.size, ⟨_, Hown.out⟩, by omega, HB.out⟩
      · go_wp2_with fail
        go_ret2
        exact ⟨w1.heap.size, rfl, ⟨_, Hown.out⟩, by omega, HB.out⟩

theorem fh_yes (V : Int) (a0 : Option Addr) (cap : Nat) (fs : List Int) (f : Int) (w : World) (hx : SlI w w.heap.size a0 fs) (hl : fs.length ≤ 1048576) (hC : IsC V fs) (hm : f ∈ fs) :
    Calls Try.prog 91 #[.agg #[.int .i64 V, .slice a0 fs.length cap], .int .i64 f] w fun e w' => ∃ b, e = .returned (.tuple #[.map (some b), .int .i64 0]) ∧ (∃ n, MapW w' b n fs) ∧ w.heap.size ≤ b ∧ Below w.heap.size w w' :=
  fh_in V a0 cap fs f w hx hl hC (wf_face (hC.range63 f hm).1 (hC.range63 f hm).2) true (decide_eq_true hm)

theorem fh_no (V : Int) (a0 : Option Addr) (cap : Nat) (fs : List Int) (f : Int) (w : World) (hx : SlI w w.heap.size a0 fs) (hl : fs.length ≤ 1048576) (hC : IsC V fs) (hwf : (Lit.int .i64 f).wf = true) (hm : f ∉ fs) :
    Calls Try.prog 91 #[.agg #[.int .i64 V, .slice a0 fs.length cap], .int .i64 f] w fun e w' => e = .returned (.tuple #[.map none, .int .i64 2]) ∧ Below w.heap.size w w' :=
  (fh_in V a0 cap fs f w hx hl hC hwf false (decide_eq_false hm)).mono fun _ _ ⟨_, he, _, _, hB⟩ => ⟨he, hB⟩

theorem fh_bad (V : Int) (a0 : Option Addr) (cap : Nat) (fs : List Int) (f : Int) (w : World) (hx : SlI w w.heap.size a0 fs) (hl : fs.length ≤ 1048576) (hC : ¬ IsC V fs) :
    Calls Try.prog 91 #[.agg #[.int .i64 V, .slice a0 fs.length cap], .int .i64 f] w fun e w' => e = .returned (.tuple #[.map none, .int .i64 1]) ∧ Below w.heap.size w w' := by
  have hB0 : Below w.heap.size w (w.alloc (.cells #[.int .i64 V, .slice a0 fs.length cap] 29)) := (Below.refl _ w).alloc (Nat.le_refl _) _
  have Hx := hid (hx.later hB0 (by simp <;> omega))
  go_enter Try.func91, Try.ntmps91
  go_wp2_with fail
  refine (isc_no V a0 cap fs _ Hx.out hl hC).mono ?_
  rintro e w1 ⟨rfl, hB1⟩
  have hB01 := hid (hB0.trans (hB1.mono (by simp <;> omega)))
  go_wp2_with fail
  go_ret2
  exact ⟨rfl, hB01.out⟩


/-! The model's test of a face. -/

theorem face_yes (V : Int) (a0 : Option Addr) (cap : Nat) (fs : List Int) (f : Int) (w : World) (hx : SlI w w.heap.size a0 fs) (hl : fs.length ≤ 1048576) (hC : IsC V fs) (hm : f ∈ fs) :
    Calls Try.prog 59 #[.agg #[.int .i64 V, .slice a0 fs.length cap], .int .i64 f] w fun e w' => e = .returned (.int .i64 0) ∧ Below w.heap.size w w' := by
  have hB0 : Below w.heap.size w (w.alloc (.cells #[.int .i64 V, .slice a0 fs.length cap] 29)) := (Below.refl _ w).alloc (Nat.le_refl _) _
  have Hx := hid (hx.later hB0 (by simp <;> omega))
  have HC := hid hC
  clear hC
  go_enter Try.func59, Try.ntmps59
  go_wp2_with fail
  refine (is_yes V a0 cap fs _ Hx.out hl HC.out).mono ?_
  rintro e w1 ⟨rfl, hB1⟩
  have k0 : w1.cell? ⟨w.heap.size, 0, none⟩ = some (.int .i64 V) := (hB1.cell (p := ⟨w.heap.size, 0, none⟩) (by simp <;> omega)).trans (by simp [go_sem])
  have k1 : w1.cell? ⟨w.heap.size, 1, none⟩ = some (.slice a0 fs.length cap) := (hB1.cell (p := ⟨w.heap.size, 1, none⟩) (by simp <;> omega)).trans (by simp [go_sem])
  have hB01 := hB0.trans (hB1.mono (by simp <;> omega))
  have hx1 := hid (hx.later hB01 hB01.size)
  go_wp2_with fail
  refine (has_yes V f a0 cap fs _ hx1.out hl hm).mono ?_
  rintro e w2 ⟨rfl, hB2⟩
  have hB02 := hid (hB01.trans (hB2.mono hB01.size))
  go_wp2_with fail
  go_ret
  exact ⟨rfl, hB02.out⟩

theorem face_no (V : Int) (a0 : Option Addr) (cap : Nat) (fs : List Int) (f : Int) (w : World) (hx : SlI w w.heap.size a0 fs) (hl : fs.length ≤ 1048576) (hC : IsC V fs) (hm : f ∉ fs) :
    Calls Try.prog 59 #[.agg #[.int .i64 V, .slice a0 fs.length cap], .int .i64 f] w fun e w' => e = .returned (.int .i64 2) ∧ Below w.heap.size w w' := by
  have hB0 : Below w.heap.size w (w.alloc (.cells #[.int .i64 V, .slice a0 fs.length cap] 29)) := (Below.refl _ w).alloc (Nat.le_refl _) _
  have Hx := hid (hx.later hB0 (by simp <;> omega))
  have HC := hid hC
  clear hC
  go_enter Try.func59, Try.ntmps59
  go_wp2_with fail
  refine (is_yes V a0 cap fs _ Hx.out hl HC.out).mono ?_
  rintro e w1 ⟨rfl, hB1⟩
  have k0 : w1.cell? ⟨w.heap.size, 0, none⟩ = some (.int .i64 V) := (hB1.cell (p := ⟨w.heap.size, 0, none⟩) (by simp <;> omega)).trans (by simp [go_sem])
  have k1 : w1.cell? ⟨w.heap.size, 1, none⟩ = some (.slice a0 fs.length cap) := (hB1.cell (p := ⟨w.heap.size, 1, none⟩) (by simp <;> omega)).trans (by simp [go_sem])
  have hB01 := hB0.trans (hB1.mono (by simp <;> omega))
  have hx1 := hid (hx.later hB01 hB01.size)
  go_wp2_with fail
  refine (has_no V f a0 cap fs _ hx1.out hl hm).mono ?_
  rintro e w2 ⟨rfl, hB2⟩
  have hB02 := hid (hB01.trans (hB2.mono hB01.size))
  go_wp2_with fail
  go_ret
  exact ⟨rfl, hB02.out⟩

theorem face_bad (V : Int) (a0 : Option Addr) (cap : Nat) (fs : List Int) (f : Int) (w : World) (hx : SlI w w.heap.size a0 fs) (hl : fs.length ≤ 1048576) (hC : ¬ IsC V fs) :
    Calls Try.prog 59 #[.agg #[.int .i64 V, .slice a0 fs.length cap], .int .i64 f] w fun e w' => e = .returned (.int .i64 1) ∧ Below w.heap.size w w' := by
  have hB0 : Below w.heap.size w (w.alloc (.cells #[.int .i64 V, .slice a0 fs.length cap] 29)) := (Below.refl _ w).alloc (Nat.le_refl _) _
  have Hx := hid (hx.later hB0 (by simp <;> omega))
  go_enter Try.func59, Try.ntmps59
  go_wp2_with fail
  refine (is_no V a0 cap fs _ Hx.out hl hC).mono ?_
  rintro e w1 ⟨rfl, hB1⟩
  have hB01 := hid (hB0.trans (hB1.mono (by simp <;> omega)))
  go_wp2_with fail
  go_ret
  exact ⟨rfl, hB01.out⟩


end Go.Proofs.Ytojnpacklcajpaa

/-! TakeFace, the model's and the program's. -/
namespace Go.Proofs.Ytojnpacklcajpaa
open Go.RowKit

/-- The faces that do not have a given one. -/
def takeL (fs : List Int) (s : Int) : List Int := fs.filter fun x => decide (¬ x.toNat &&& s.toNat = s.toNat)

/-- What TakeFace hands back. -/
noncomputable def takeFaceR (V : Int) (fs : List Int) (f : Int) : Int × List Int × Int := if isCB V fs then (if f ∈ fs then (V, takeL fs f, 0) else (0, [], 2)) else (0, [], 1)

theorem takeFaceR_len (V : Int) (fs : List Int) (f : Int) (h : fs.length ≤ 1048576) : (takeFaceR V fs f).2.1.length ≤ 1048576 := by
  unfold takeFaceR
  split
  · split
    · exact Nat.le_trans (List.length_filter_le _ _) h
    · simp
  · simp

set_option maxHeartbeats 2000000 in
theorem take_any (V : Int) (a0 : Option Addr) (cap : Nat) (fs : List Int) (s : Nat) (w : World) (hx : SlI w w.heap.size a0 fs) (hl : fs.length ≤ 1048576) (hf : ∀ x ∈ fs, 1 ≤ x ∧ x ≤ 63) (hs : s < 64) :
    Calls Try.prog 60 #[.agg #[.int .i64 V, .slice a0 fs.length cap], .int .i64 (s : Int)] w fun e w' => ∃ v, e = .returned (.agg #[.int .i64 V, v]) ∧ Res w w' v (takeL fs s) := by
  have Hx := hid hx
  have Hf := hid hf
  clear hx hf
  go_enter Try.func60, Try.ntmps60
  go_wp2
  go_loopw [6] (fun i wr => ∃ (k : Nat) (a : Option Addr) (c : Nat), k ≤ fs.length ∧ i = .int .i64 k ∧ OutW w wr V (.slice a0 fs.length cap) (w.heap.size + 1 + 1 + 1) (takeL (fs.take k) s) a c) (fun i _ => fs.length - (intOf i).toNat)
  case atStart =>
    refine ⟨0, some ⟨w.heap.size + 1 + 1, 0, none⟩, 0, Nat.zero_le _, rfl, ?_⟩
    have e0 := heap_alloc_new w (.cells #[.int .i64 V, .slice a0 fs.length cap] 29)
    have e1 := heap_alloc_new (w.alloc (.cells #[.int .i64 V, .slice a0 fs.length cap] 29)) (.cells #[.int .i64 0, .slice none 0 0] 29)
    rw [World.size_alloc] at e1
    have h := outW_start (((Below.refl _ w).alloc (Nat.le_refl _) _).alloc (by simp) _) ((Below.heap_alloc _ _ _ (by simp)).trans e0) e1
    simp only [World.size_alloc] at h
    exact h
  case round =>
    obtain ⟨k, a, c, hk, rfl, hW⟩ := hrel
    have k0 : wr.cell? ⟨w.heap.size, 0, none⟩ = some (.int .i64 V) := by simp [World.cell?, hW.kbox]
    have k1 : wr.cell? ⟨w.heap.size, 1, none⟩ = some (.slice a0 fs.length cap) := by simp [World.cell?, hW.kbox]
    have o1 : wr.cell? ⟨w.heap.size + 1 + 1 + 1, 1, none⟩ = some (.slice a (takeL (fs.take k) s).length c) := by simp [World.cell?, hW.out]
    have o2 : wr.frozen? ⟨w.heap.size + 1 + 1 + 1, 1, none⟩ = false := by simp [World.frozen?, hW.out]
    have HW := hid hW
    by_cases hlt : k < fs.length
    · obtain ⟨b, off, hb, rfl, hc⟩ : ∃ b off, b < w.heap.size ∧ a0 = some ⟨b, off, none⟩ ∧ ∀ i, i < fs.length → w.cell? ⟨b, off + i, none⟩ = some (.int .i64 (fs[i]?.getD 0)) := by
        rcases Hx.out with rfl | h
        · simp at hlt
        · exact h
      have Hc := hid hc
      clear hc
      obtain ⟨x, hx⟩ : ∃ x : Nat, (x : Int) = fs[k]?.getD 0 := ⟨(fs[k]?.getD 0).toNat, by have := Hf.out _ (getD_mem hlt); omega⟩
      have hx64 : x < 64 := by have := Hf.out _ (getD_mem hlt); omega
      have hck : wr.cell? ⟨b, off + k, none⟩ = some (.int .i64 (x : Int)) := by rw [hx]; exact (hW.below.cell (p := ⟨b, off + k, none⟩) hb).trans (Hc.out k hlt)
      have hi0 : (0 : Int) ≤ (k : Int) := by omega
      have hi1 : (k : Int) < (fs.length : Int) := by omega
      have hfl : (takeL (fs.take k) s).length ≤ 1048576 := Nat.le_trans (List.length_filter_le _ _) (by simp; omega)
      have Hp : Hid (∀ cc, decide (¬ x &&& s = s) = cc → takeL (fs.take (k + 1)) s = takeL (fs.take k) s ++ (if cc then [(x : Int)] else [])) := hid (fun cc hc => by
        unfold takeL
        rw [take_snoc hlt, List.filter_append, ← hx]
        cases cc <;> simpa using hc)
      have hbits : bits BinOp.and IntKind.i64 (x : Int) (s : Int) = ((x &&& s : Nat) : Int) := (bits_nat .i64 6 (by decide) (fun n h0 h1 => by rw [IntKind.wrap_i64]; omega) x s (by omega) (by omega)).1
      have hbs := hW.below.size
      clear hx hW
      by_cases hpx : ¬ x &&& s = s
      · have hd : (((x &&& s : Nat) : Int) == (s : Int)) = false := by simp; omega
        have hd2 : (((x &&& s : Nat) : Int) != (s : Int)) = true := by simp; omega
        have HP := hid ((Hp.out true (decide_eq_true hpx)).trans (by rw [if_pos rfl]))
        clear hpx Hp
        go_wp2_with fail
        have a1 : ∀ (o : Obj), (wr.alloc o).cell? ⟨w.heap.size + 1 + 1 + 1, 1, none⟩ = some (.slice a (takeL (fs.take k) s).length c) := cell_alloc_drew1 o1
        have a2 : ∀ (o : Obj), (wr.alloc o).cell? ⟨w.heap.size, 1, none⟩ = some (.slice (some ⟨b, off, none⟩) fs.length cap) := cell_alloc_drew1 k1
        have a3 : ∀ (o : Obj), (wr.alloc o).cell? ⟨b, off + k, none⟩ = some (.int .i64 (x : Int)) := cell_alloc_drew1 hck
        go_region_law (first | (refine step_append_new (by rfl) (by rfl) HW.out.drew.own (by rfl) hbs (by omega) (by rfl) (by rfl) ?_; intro g cp w2 hown2 hgrow2; obtain ⟨o12, o22⟩ := HW.out.mid (n := 1) hgrow2; have k12 := HW.out.midK (n := 1) hgrow2; have x12 := (HW.out.midX (n := 1) hgrow2 (p := ⟨b, off + k, none⟩) hb).trans hck))
        all_goals
          go_wp2_with fail
          go_roundw
          case rel => exact ⟨k + 1, some ⟨g, 0, none⟩, cp, by omega, by go_num, by rw [HP.out]; simpa using HW.out.stepN (n := 1) hown2 hgrow2⟩
          case measure => simp [intOf]; omega
      · have hd : (((x &&& s : Nat) : Int) == (s : Int)) = true := by simp; omega
        have hd2 : (((x &&& s : Nat) : Int) != (s : Int)) = false := by simp; omega
        have HP := hid (Hp.out false (decide_eq_false hpx))
        clear hpx Hp
        go_wp2_with fail
        go_roundw
        case rel => exact ⟨k + 1, a, c, by omega, by go_num, by rw [HP.out]; simpa using HW.out⟩
        case measure => simp [intOf]; omega
    · have o0 : wr.cell? ⟨w.heap.size + 1 + 1 + 1, 0, none⟩ = some (.int .i64 V) := by simp [World.cell?, hW.out]
      have r0 : wr.cell? ⟨w.heap.size + 1, 0, none⟩ = some (.int .i64 0) := by simp [World.cell?, hW.res]
      have r1 : wr.cell? ⟨w.heap.size + 1, 1, none⟩ = some (.slice none 0 0) := by simp [World.cell?, hW.res]
      have f0 : wr.frozen? ⟨w.heap.size + 1, 0, none⟩ = false := by simp [World.frozen?, hW.res]
      have f1 : wr.frozen? ⟨w.heap.size + 1, 1, none⟩ = false := by simp [World.frozen?, hW.res]
      go_wp2_with fail
      have hres : Try.f60.results = #[.cell 4 29] := by kernel_rfl
      refine bodyPost_ret (v := .agg #[.int .i64 V, .slice a (takeL (fs.take k) s).length c]) ?_ rfl ⟨_, rfl, ?_⟩
      · simp only [results, hres]
        go_simp
      obtain rfl : k = fs.length := by omega
      rw [List.take_of_length_le (Nat.le_refl _)] at HW
      have h := HW.out.done (.int .i64 V) (.slice a (takeL (fs.take fs.length) s).length c)
      rw [List.take_of_length_le (Nat.le_refl _)] at h ⊢
      exact h

end Go.Proofs.Ytojnpacklcajpaa

/-! Free faces: mathematics. -/
namespace Go.Proofs.Ytojnpacklcajpaa
open Go.RowKit

/-- The faces that have all of a set, and more. -/
def upF (fs : List Int) (f : Nat) : List Int := fs.filter fun y => decide (y.toNat &&& f = f ∧ y.toNat ≠ f)
/-- The only number of a list, or 0. -/
def frOf (us : List Int) : Int := match us with | [g] => g | _ => 0
/-- With which face a face is a free pair; 0 if it is not free. -/
def freeG (fs : List Int) (f : Nat) : Int := frOf (upF fs f)
/-- The free pairs of some faces, in order. -/
def freeP (fs pre : List Int) : List (Int × Int) := pre.flatMap fun x => if freeG fs x.toNat = 0 then [] else [(x, freeG fs x.toNat)]

theorem upF_snoc {fs : List Int} {f j : Nat} (hj : j < fs.length) (c : Bool) (h : decide ((fs[j]?.getD 0).toNat &&& f = f ∧ (fs[j]?.getD 0).toNat ≠ f) = c) : upF (fs.take (j + 1)) f = upF (fs.take j) f ++ (if c then [fs[j]?.getD 0] else []) := by
  unfold upF
  rw [take_snoc hj, List.filter_append]
  cases c <;> simpa using h
theorem upF_mono {fs : List Int} {f j : Nat} : (upF (fs.take j) f).length ≤ (upF fs f).length := by
  unfold upF
  exact ((List.take_sublist j fs).filter _).length_le
theorem upF_mem {fs : List Int} {f : Nat} {y : Int} (h : y ∈ upF fs f) : y ∈ fs ∧ y.toNat &&& f = f ∧ y.toNat ≠ f := by
  have := List.mem_filter.1 h
  simpa using this
theorem frOf_two {us : List Int} (h : 2 ≤ us.length) : frOf us = 0 := by
  match us with
  | [] => rfl
  | [a] => simp at h
  | a :: b :: l => rfl
theorem freeG_two {fs : List Int} {f j : Nat} (h : 2 ≤ (upF (fs.take j) f).length) : freeG fs f = 0 := frOf_two (Nat.le_trans h upF_mono)
theorem freeP_snoc {fs pre : List Int} {x : Int} : freeP fs (pre ++ [x]) = freeP fs pre ++ (if freeG fs x.toNat = 0 then [] else [(x, freeG fs x.toNat)]) := by simp [freeP]
theorem freeP_len (fs : List Int) : ∀ pre : List Int, (freeP fs pre).length ≤ pre.length := by
  intro pre
  induction pre with
  | nil => simp [freeP]
  | cons x l ih =>
    have e : freeP fs (x :: l) = (if freeG fs x.toNat = 0 then [] else [(x, freeG fs x.toNat)]) ++ freeP fs l := by simp [freeP]
    rw [e, List.length_append, List.length_cons]
    split <;> simp <;> omega
theorem freeG_mem {fs : List Int} {f : Nat} (h : freeG fs f ≠ 0) : upF fs f = [freeG fs f] := by
  unfold freeG at h ⊢
  match hu : upF fs f with
  | [] => rw [hu] at h; exact absurd rfl h
  | [a] => rfl
  | a :: b :: l => rw [hu] at h; exact absurd rfl h
theorem freeG_rng {fs : List Int} {f : Nat} (hr : ∀ x ∈ fs, 1 ≤ x ∧ x ≤ 63) : 0 ≤ freeG fs f ∧ freeG fs f ≤ 63 := by
  by_cases h : freeG fs f = 0
  · omega
  · have := freeG_mem h
    have hm : freeG fs f ∈ upF fs f := by rw [this]; simp
    have := hr _ (upF_mem hm).1
    omega
theorem mem_freeP {fs pre : List Int} {p : Int × Int} : p ∈ freeP fs pre ↔ p.1 ∈ pre ∧ freeG fs p.1.toNat ≠ 0 ∧ p.2 = freeG fs p.1.toNat := by
  unfold freeP
  rw [List.mem_flatMap]
  constructor
  · rintro ⟨x, hx, h⟩
    split at h
    · simp at h
    · rename_i hn
      simp at h
      subst h
      exact ⟨hx, hn, rfl⟩
  · rintro ⟨h1, h2, h3⟩
    refine ⟨p.1, h1, ?_⟩
    rw [if_neg h2]
    simp
    exact Prod.ext rfl h3

end Go.Proofs.Ytojnpacklcajpaa

/-! Communication in one goroutine, where nothing waits, inside a plain walk: a region that sends into a channel with room, or that receives from one that holds something or is closed. -/
namespace Go.Proofs.Ytojnpacklcajpaa
open Go.RowKit Go.Conc

/-- What a list of operations that is under way leads to. -/
def OpsTo (P : Program) (ops : Array Oper) (Q : Exit → Act → World → Prop) (l : List Nat) (a : Act) (w : World) : Prop :=
  ∀ (b : Frame) (k : List Item) (cs : List Frame), ∃ e a' w', Q e a' w' ∧ Arrives P (lone (b.at a (.inRegion ops l :: k)) cs w) b k cs e a' w'

section
variable {P : Program} {ops : Array Oper} {Q : Exit → Act → World → Prop} {a : Act} {w : World} {i : Nat} {rest : List Nat} {o : Oper}

theorem region_to {id : Nat} (h : OpsTo P ops Q (List.range ops.size) a w) : (Code.region id ops false).wp P Q a w :=
  fun b k cs => let ⟨e, a', w', q, r⟩ := h b k cs; ⟨e, a', w', q, .of_steps (.one step_region) r⟩

theorem opsTo_of_wp {l : List Nat} (h : wpOps P ops Q l a w) : OpsTo P ops Q l a w := fun b k cs => wp_ops l a w h b k cs

theorem opsTo_nil (h : Q .normal a w) : OpsTo P ops Q [] a w := opsTo_of_wp (by simpa only [wpOps] using h)

theorem opsTo_val {v : Value} {w' : World} (ho : ops[i]? = some o) (hw : Region.wanted o (yielded ops a.tmps) = true) (hr : (execOp a.eval o).run P w = .ok (.value v) w') (h : OpsTo P ops Q rest (a.put o.dst v) w') : OpsTo P ops Q (i :: rest) a w := by
  intro b k cs
  obtain ⟨e, a', w'', hq, harr⟩ := h b k cs
  refine ⟨e, a', w'', hq, .of_steps (.one (step_lone_go ?_)) harr⟩
  have hfin : (b.at a (.inRegion ops (i :: rest) :: k)).finish v = b.at (a.put o.dst v) (.inRegion ops rest :: k) := by rw [Frame.finish_at, ho]; rfl
  rw [stepG_op ho hw, ← hfin]
  simp [stepG.apply, hr]

/-- A communication is handed up to the machine, whatever kind of frame asks for it. -/
theorem comm_any {b : Frame} {k : List Item} {cs : List Frame} {cases : Array CommCase} {blocking : Bool} {shape : CommShape} {w' : World} (ho : ops[i]? = some o) (hw : Region.wanted o (yielded ops a.tmps) = true)
    (hr : (execOp a.eval o).run P w = .ok (.comm cases blocking shape) w') :
    ∃ es, stepG P true (G (b.at a (.inRegion ops (i :: rest) :: k)) cs) w = .comm (G (b.at a (.inRegion ops (i :: rest) :: k)) cs) cases blocking shape w' es := by
  by_cases hk : b.kind = .early
  · have hk' : (b.kind == CallKind.early) = true := by simpa using hk
    refine ⟨seen P b.fn #[], ?_⟩
    rw [stepG_oper ho hw]
    simp [stepG.apply, hr, G, Frame.at, hk', GStep.after]
  · exact ⟨_, stepG_comm ho hw hk hr⟩

theorem opsTo_send {c cap s r : Nat} {buf : Array Value} {v z : Value} {tm : Bool} (ho : ops[i]? = some o) (hw : Region.wanted o (yielded ops a.tmps) = true)
    (hr : (execOp a.eval o).run P w = .ok (.comm #[scase c v z] true .send) w) (hc : w.heap[c]? = some (.chan cap buf false s r tm)) (hroom : buf.size < cap)
    (h : OpsTo P ops Q rest (a.put o.dst undef) (w.setChan c cap (buf.push v) false (s + 1) r tm)) : OpsTo P ops Q (i :: rest) a w := by
  intro b k cs
  obtain ⟨e, a', w'', hq, harr⟩ := h b k cs
  obtain ⟨es, hst⟩ := comm_any (P := P) (b := b) (k := k) (cs := cs) (rest := rest) ho hw hr
  have hs := step_lone_send_room hst hc hroom
  rw [Frame.finish_at, ho] at hs
  exact ⟨e, a', w'', hq, .of_steps (.one hs) harr⟩

theorem opsTo_recv {c cap s r : Nat} {buf : Array Value} {z : Value} {tm closed ok : Bool} (ho : ops[i]? = some o) (hw : Region.wanted o (yielded ops a.tmps) = true)
    (hr : (execOp a.eval o).run P w = .ok (.comm #[rcase c z] true (.recv ok)) w) (hc : w.heap[c]? = some (.chan cap buf closed s r tm)) (hsome : 0 < buf.size)
    (h : OpsTo P ops Q rest (a.put o.dst (got ok (buf.getD 0 undef) true)) (w.setChan c cap (buf.extract 1 buf.size) closed s (r + 1) tm)) : OpsTo P ops Q (i :: rest) a w := by
  intro b k cs
  obtain ⟨e, a', w'', hq, harr⟩ := h b k cs
  obtain ⟨es, hst⟩ := comm_any (P := P) (b := b) (k := k) (cs := cs) (rest := rest) ho hw hr
  have hs := step_lone_recv_buf ok hst hc hsome
  rw [Frame.finish_at, ho] at hs
  exact ⟨e, a', w'', hq, .of_steps (.one hs) harr⟩

theorem opsTo_shut {c cap s r : Nat} {z : Value} {tm ok : Bool} (ho : ops[i]? = some o) (hw : Region.wanted o (yielded ops a.tmps) = true)
    (hr : (execOp a.eval o).run P w = .ok (.comm #[rcase c z] true (.recv ok)) w) (hc : w.heap[c]? = some (.chan cap #[] true s r tm))
    (h : OpsTo P ops Q rest (a.put o.dst (got ok z false)) w) : OpsTo P ops Q (i :: rest) a w := by
  intro b k cs
  obtain ⟨e, a', w'', hq, harr⟩ := h b k cs
  obtain ⟨es, hst⟩ := comm_any (P := P) (b := b) (k := k) (cs := cs) (rest := rest) ho hw hr
  have hs := step_lone_recv_shut ok hst hc
  rw [Frame.finish_at, ho] at hs
  exact ⟨e, a', w'', hq, .of_steps (.one hs) harr⟩
end

/-- A row stays where a channel turns. -/
theorem ownsRow_chan {w : World} {base e size n c cap s r cap' s' r' : Nat} {v : Value} {xs : List Value} {buf buf' : Array Value} {cl cl' tm tm' : Bool} (h : w.ownsRow base e size v n xs) (hc : w.heap[c]? = some (.chan cap buf cl s r tm)) : (w.setChan c cap' buf' cl' s' r' tm').ownsRow base e size v n xs := by
  refine ⟨h.1, ?_⟩
  rcases h.2 with hn | ⟨g, cp, cur, rfl, hb, hg, rest⟩
  · exact .inl hn
  · refine .inr ⟨g, cp, cur, rfl, hb, ?_, rest⟩
    have hne : c ≠ g := fun e => by rw [e, hg] at hc; cases hc
    simp only [World.setChan]
    rw [Array.getElem?_setIfInBounds_ne hne]
    exact hg

theorem row_ne_chan {w : World} {base e size n c cap s r : Nat} {v : Value} {xs : List Value} {buf : Array Value} {cl tm : Bool} (h : w.ownsRow base e size v n xs) (hc : w.heap[c]? = some (.chan cap buf cl s r tm)) : some c ≠ v.ownBlock := by
  intro he
  rcases h.2 with ⟨rfl, _⟩ | ⟨g, cp, cur, rfl, _, hg, _⟩
  · simp [Value.ownBlock] at he
  · simp [Value.ownBlock] at he
    subst he
    rw [hc] at hg
    cases hg

theorem cell_chan {w : World} {c cap s r cap' s' r' : Nat} {p : Addr} {u : Value} {buf buf' : Array Value} {cl cl' tm tm' : Bool} (h : w.cell? p = some u) (hc : w.heap[c]? = some (.chan cap buf cl s r tm)) : (w.setChan c cap' buf' cl' s' r' tm').cell? p = some u := by
  have hne : c ≠ p.block := fun e => by rw [e] at hc; simp [World.cell?, hc] at h
  have e : (w.setChan c cap' buf' cl' s' r' tm').heap[p.block]? = w.heap[p.block]? := by simp only [World.setChan]; rw [Array.getElem?_setIfInBounds_ne hne]
  unfold World.cell? at h ⊢
  rw [e]
  exact h

end Go.Proofs.Ytojnpacklcajpaa

/-! How many faces a complex has at most. -/
namespace Go.Proofs.Ytojnpacklcajpaa

theorem asc_len : ∀ (fs : List Int) (lo : Int), fs.Pairwise (· < ·) → (∀ x ∈ fs, lo ≤ x ∧ x ≤ 63) → fs.length ≤ (64 - lo).toNat
  | [], lo, _, _ => by simp
  | x :: fs, lo, hp, hr => by
    have h1 := hr x (by simp)
    have h2 := asc_len fs (x + 1) (List.pairwise_cons.1 hp).2 (fun y hy => ⟨by have := (List.pairwise_cons.1 hp).1 y hy; omega, (hr y (by simp [hy])).2⟩)
    rw [List.length_cons]
    omega

theorem IsC.len63 {V : Int} {fs : List Int} (h : IsC V fs) : fs.length ≤ 63 := by
  have := asc_len fs 1 h.asc h.range63
  omega

end Go.Proofs.Ytojnpacklcajpaa

/-! l02High, l02Next: the steps from a face. -/
namespace Go.Proofs.Ytojnpacklcajpaa
open Go.RowKit

/-- The high face of the first pair with a low face; 0: there is none. -/
def highOf (ps : List Int) (n : Nat) (a : Int) : Int := match (List.range n).find? (fun i => decide (at0 ps (i * 2) = a)) with
  | some i => at0 ps (i * 2 + 1)
  | none => 0
theorem highOf_some {ps : List Int} {n i : Nat} {a : Int} (hi : i < n) (ha : at0 ps (i * 2) = a) (h : ∀ j, j < i → at0 ps (j * 2) ≠ a) : highOf ps n a = at0 ps (i * 2 + 1) := by
  have : (List.range n).find? (fun i => decide (at0 ps (i * 2) = a)) = some i := by
    rw [List.find?_range_eq_some]
    exact ⟨by simp [ha], by simpa using hi, fun j hj => by simpa using h j hj⟩
  unfold highOf
  rw [this]
theorem highOf_none {ps : List Int} {n : Nat} {a : Int} (h : ∀ j, j < n → at0 ps (j * 2) ≠ a) : highOf ps n a = 0 := by
  have : (List.range n).find? (fun i => decide (at0 ps (i * 2) = a)) = none := by
    rw [List.find?_eq_none]
    intro i hi
    simpa using h i (by simpa using hi)
  unfold highOf
  rw [this]
/-- The faces to which steps lead. -/
def nextL (ps : List Int) (n : Nat) (a : Int) : List Int := if highOf ps n a = 0 then [] else (belowR (highOf ps n a).toNat 63).filter fun y => decide (y ≠ a)
theorem nextL_len (ps : List Int) (n : Nat) (a : Int) : (nextL ps n a).length ≤ 63 := by
  unfold nextL
  split
  · simp
  · exact Nat.le_trans (List.length_filter_le _ _) (belowR_len _ _)

/-- 'append' of a number; where the row lies afterwards. -/
theorem append_int_at {w : World} {ops : Array Oper} {rest : List Oper} {o : Oper} {a : Act} {Q : Exit → Act → World → Prop} (hgd : o.guard = none) {s y : Operand}
    (ho : o.op = .call { callee := .builtin .append, args := #[s, y], argTypes := #[22, 22] })
    {base : Nat} {v : Value} {xs : List Int} {x : Int} (hown : w.ownsRow base 2 1 v xs.length (xs.map (Value.int .i64))) (hbase : base ≤ w.heap.size) (hl : xs.length ≤ 1099511627776)
    (hs : a.eval s = v) (hy : a.eval y = .slice (some ⟨w.heap.size, 0, none⟩) 1 1)
    (hK : ∀ v' w', w'.ownsRow base 2 1 v' (xs ++ [x]).length ((xs ++ [x]).map (Value.int .i64)) → w.grownBy w' v.ownBlock → (v'.ownBlock = v.ownBlock ∨ v'.ownBlock = some (w.heap.size + 1)) → Below base w w' → wpList Try.prog ops Q rest (a.put o.dst v') w') :
    wpList Try.prog ops Q (o :: rest) a (w.alloc (.cells #[.int .i64 x] 2)) := by
  obtain ⟨i0, hi, hz0, hz1, hz2⟩ := info_parts info_i64
  refine wpList_append_own_at _ hgd s y 22 ho base 2 i0 (.int .i64 0) 1 8 Try.underlying22 hi hz0 hz1 hz2 rfl (by decide) v _ _ hs (hown.alloc _) ⟨w.heap.size, 0, none⟩ 1 1 [.int .i64 x] hy rfl (cell_one_new _ _ _) (by simp [Value.oneCell']) (by unfold maxLen; omega) (by omega) (by simp; omega) ?_
  intro v' w1 hown1 hgrow1 _ hat
  have hg : w.grownBy w1 v.ownBlock := (World.grownBy_alloc w _ _).trans hgrow1
  exact hK v' w1 (by simpa using hown1) hg (by simpa using hat) ((Below.refl base w).grown hg hbase (fun k hk => (hown.lt k hk).1))

set_option maxRecDepth 100000 in
set_option maxHeartbeats 2000000 in
theorem high_any (a1 : Option Addr) (n cap : Nat) (ps : List Int) (a : Int) (w : World) (hx : SlI w w.heap.size a1 ps) (hp : ps.length = 2 * n) (hl : n ≤ 1048576) :
    Calls Try.prog 125 #[.slice a1 n cap, .int .i64 a] w fun e w' => e = .returned (.int .i64 (highOf ps n a)) ∧ w = w' := by
  obtain ⟨E, hE⟩ : ∃ E, E = highOf ps n a := ⟨_, rfl⟩
  have HE := hid hE
  rw [← hE]
  clear hE
  have Hx := hid hx
  have Hp := hid hp
  clear hx hp
  go_enter Try.func125, Try.ntmps125
  go_wp2
  go_loop [5] (fun i => ∃ k : Nat, k ≤ n ∧ i = .int .i64 k ∧ Hid (∀ j, j < k → at0 ps (j * 2) ≠ a)) (fun i => n - (intOf i).toNat)
  case atStart => exact ⟨0, Nat.zero_le _, rfl, hid (fun j hj => absurd hj (Nat.not_lt_zero _))⟩
  case round =>
    obtain ⟨k, hk, rfl, Hk⟩ := hrel
    by_cases hlt : k < n
    · obtain ⟨b, off, hb, rfl, hc⟩ : ∃ b off, b < w.heap.size ∧ a1 = some ⟨b, off, none⟩ ∧ ∀ i, i < ps.length → w.cell? ⟨b, off + i, none⟩ = some (.int .i64 (ps[i]?.getD 0)) := by
        rcases Hx.out with h | h
        · have := Hp.out; rw [h] at this; simp at this; omega
        · exact h
      have c0 : w.cell? ⟨b, off + k * 2, none⟩ = some (.int .i64 (at0 ps (k * 2))) := hc _ (by have := Hp.out; omega)
      have c1 : w.cell? ⟨b, off + k * 2 + 1, none⟩ = some (.int .i64 (at0 ps (k * 2 + 1))) := hc (k * 2 + 1) (by have := Hp.out; omega)
      obtain ⟨x, hx⟩ : ∃ x, x = at0 ps (k * 2) := ⟨_, rfl⟩
      obtain ⟨y, hy⟩ : ∃ y, y = at0 ps (k * 2 + 1) := ⟨_, rfl⟩
      rw [← hx] at c0
      rw [← hy] at c1
      have hi0 : (0 : Int) ≤ (k : Int) := by omega
      have hi1 : (k : Int) < (n : Int) := by omega
      clear hc
      by_cases hxa : x = a
      · have hd : (x == a) = true := by simp [hxa]
        have He : Hid (E = y) := hid (by rw [HE.out, hy]; exact highOf_some hlt (by rw [← hx, hxa]) Hk.out)
        clear hxa hx hy
        go_wp2
        go_ret
        exact ⟨ret_int (by rw [He.out]), rfl⟩
      · have hd : (x == a) = false := by simp [hxa]
        have He : Hid (∀ j, j < k + 1 → at0 ps (j * 2) ≠ a) := hid (fun j hj => by
          by_cases h : j = k
          · rw [h, ← hx]; exact hxa
          · exact Hk.out j (by omega))
        clear hxa hx hy
        go_wp2
        go_round
        case rel => exact ⟨k + 1, by omega, by go_num, He.out⟩
        case measure => simp [intOf]; omega
    · have He : Hid (E = 0) := hid (by rw [HE.out]; exact highOf_none (fun j hj => Hk.out j (by omega)))
      go_wp2
      go_ret
      exact ⟨ret_int (by rw [He.out]), rfl⟩

theorem owned_some {w : World} {base e size n : Nat} {v : Value} {xs : List Value} (h : w.ownsRow base e size v n xs) (hn : v.ownBlock ≠ none) : ∃ g cap, v = .slice (some ⟨g, 0, none⟩) n cap ∧ n ≤ cap := by
  rcases h.2 with ⟨rfl, _⟩ | ⟨g, cap, cur, rfl, _, _, h1, _⟩
  · exact absurd rfl hn
  · exact ⟨g, cap, rfl, h1⟩

set_option maxRecDepth 100000 in
set_option maxHeartbeats 2000000 in
theorem next_any (a1 : Option Addr) (n cap : Nat) (ps : List Int) (a : Int) (w : World) (hx : SlI w w.heap.size a1 ps) (hp : ps.length = 2 * n) (hl : n ≤ 1048576) (hh : 0 ≤ highOf ps n a ∧ highOf ps n a < 64) :
    Calls Try.prog 111 #[.slice a1 n cap, .int .i64 a] w fun e w' => ∃ g c, e = .returned (.slice (some ⟨g, 0, none⟩) (nextL ps n a).length c) ∧ Res w w' (.slice (some ⟨g, 0, none⟩) (nextL ps n a).length c) (nextL ps n a) := by
  have HI := hid (high_any a1 n cap ps a w hx hp hl)
  obtain ⟨f, hf⟩ : ∃ f : Nat, highOf ps n a = f := ⟨(highOf ps n a).toNat, by omega⟩
  have hN : nextL ps n a = if f = 0 then [] else (belowR f 63).filter fun y => decide (y ≠ a) := by
    unfold nextL
    rw [hf, Int.toNat_natCast]
    by_cases h : f = 0
    · rw [if_pos h, if_pos (by omega)]
    · rw [if_neg h, if_neg (by omega)]
  have hf64 : f < 64 := by omega
  rw [hf] at HI
  rw [hN]
  clear hx hp hh hN hf
  have Hown0 := hid (World.ownsRow_made (base := w.heap.size) (e := 2) (size := 1) w #[] 0 (Nat.le_refl _) (by simp [maxLen]) rfl)
  by_cases h0 : f = 0
  · subst h0
    rw [if_pos rfl]
    go_enter Try.func111, Try.ntmps111
    go_wp2_with (go_at_call 125; refine HI.out.mono ?_; rintro e w' ⟨rfl, rfl⟩)
    go_ret
    exact ⟨w.heap.size, 0, rfl, Hown0.out, (Below.refl _ w).alloc (Nat.le_refl _) _⟩
  · rw [if_neg h0]
    have hne : ((f : Int) == 0) = false := by simp; omega
    obtain ⟨ys, hys⟩ : ∃ ys, ys = belowR f 63 := ⟨_, rfl⟩
    have HB := hid (fun w => below_any f w hf64)
    have hyl : ys.length ≤ 63 := by rw [hys]; exact belowR_len _ _
    rw [← hys] at HB ⊢
    clear hys h0
    go_enter Try.func111, Try.ntmps111
    go_wp2_with (go_at_call 125; refine HI.out.mono ?_; rintro e w' ⟨rfl, rfl⟩)
    refine (HB.out _).mono ?_
    rintro e w2 ⟨v, rfl, hown2, hB2⟩
    obtain ⟨_, av, cv, rfl, hs⟩ := ownsRow_slI hown2
    have hown1 := ownsRow_below Hown0.out hB2 (fun g hg => (Hown0.out.lt g hg).2)
    have hB12 : Below w.heap.size w w2 := ((Below.refl _ w).alloc (Nat.le_refl _) _).trans (hB2.mono (by simp))
    have hb0 : ∀ b off, av = some ⟨b, off, none⟩ → w.heap.size + 1 ≤ b := fun b off h => by
      have := (hown2.lt b (by rw [h]; rfl)).1
      simpa using this
    have Hown1 := hid hown1
    have HB12 := hid hB12
    clear hown1 hB12 hown2 hB2
    rcases hs with rfl | ⟨b, off, hb, rfl, hc⟩
    · go_wp2_with fail
      refine wp_loop_rounds 1 ?_; rw [rounds_succ]
      go_wp2
      go_ret
      exact ⟨w.heap.size, 0, rfl, Hown1.out, HB12.out⟩
    · have hbw := hb0 b off rfl
      have Hc := hid hc
      clear hc hb0
      go_wp2_with fail
      go_loopw [6, 8] (fun v i wr => ∃ k : Nat, k ≤ ys.length ∧ i = .int .i64 k ∧ wr.ownsRow w.heap.size 2 1 v ((ys.take k).filter fun y => decide (y ≠ a)).length (((ys.take k).filter fun y => decide (y ≠ a)).map (Value.int .i64)) ∧ v.ownBlock ≠ none ∧ v.ownBlock ≠ some b ∧ Hid (b < wr.heap.size ∧ ∀ i, i < ys.length → wr.cell? ⟨b, off + i, none⟩ = some (.int .i64 (ys[i]?.getD 0))) ∧ Below w.heap.size w wr) (fun _ i _ => ys.length - (intOf i).toNat)
      case atStart => exact ⟨0, Nat.zero_le _, rfl, Hown1.out, by simp [Value.ownBlock], by simp [Value.ownBlock]; omega, hid ⟨hb, Hc.out⟩, HB12.out⟩
      case round =>
        obtain ⟨k, hk, rfl, hown, hnn, hne', HC, hB⟩ := hrel
        by_cases hlt : k < ys.length
        · obtain ⟨y, hy⟩ : ∃ y, y = ys[k]?.getD 0 := ⟨_, rfl⟩
          have hck : wr.cell? ⟨b, off + k, none⟩ = some (.int .i64 y) := by rw [hy]; exact HC.out.2 k hlt
          have Htk : Hid (ys.take (k + 1) = ys.take k ++ [y]) := hid (by rw [take_snoc hlt, hy])
          have hi0 : (0 : Int) ≤ (k : Int) := by omega
          have hi1 : (k : Int) < (ys.length : Int) := by omega
          have hfl : ((ys.take k).filter fun y => decide (y ≠ a)).length ≤ 1048576 := Nat.le_trans (List.length_filter_le _ _) (by simp; omega)
          have hsz := hB.size
          have HB' := hid hB
          have Hown := hid hown
          clear hy hown hB
          by_cases hya : y = a
          · have hd : (y != a) = false := by simp [hya]
            have He : Hid ((ys.take (k + 1)).filter (fun y => decide (y ≠ a)) = (ys.take k).filter (fun y => decide (y ≠ a))) := hid (by rw [Htk.out, List.filter_append]; simp [hya])
            clear hya
            go_wp2_with fail
            go_roundw
            case rel => exact ⟨k + 1, by omega, by go_num, by rw [He.out]; exact Hown.out, hnn, hne', HC, HB'.out⟩
            case measure => simp [intOf]; omega
          · have hd : (y != a) = true := by simp [hya]
            have He : Hid ((ys.take (k + 1)).filter (fun y => decide (y ≠ a)) = (ys.take k).filter (fun y => decide (y ≠ a)) ++ [y]) := hid (by rw [Htk.out, List.filter_append]; simp [hya])
            clear hya
            go_wp2_with (at_builtin; refine append_int_at rfl rfl Hown.out hsz (by omega) rfl rfl ?_; intro v' w4 hown4 hgrow4 hat4 hB4)
            go_roundw
            case rel =>
              have hbn := HC.out.1
              refine ⟨k + 1, by omega, by go_num, by rw [He.out]; exact hown4, ?_, ?_, hid ⟨Nat.lt_of_lt_of_le hbn hB4.size, fun i hi => ?_⟩, HB'.out.trans hB4⟩
              · rcases hat4 with h | h
                · rw [h]; exact hnn
                · rw [h]; intro e; cases e
              · rcases hat4 with h | h
                · rw [h]; exact hne'
                · rw [h]; intro e; injection e with e; omega
              · rw [hgrow4.cell_far _ hbn (fun e => hne' e.symm)]; exact HC.out.2 i hi
            case measure => simp [intOf]; omega
        · obtain rfl : k = ys.length := by omega
          rw [List.take_length] at hown
          have HB' := hid hB
          have Hown := hid hown
          clear hB hown
          go_wp2_with fail
          obtain ⟨g, c, rfl, _⟩ := owned_some Hown.out hnn
          go_ret
          exact ⟨g, c, rfl, Hown.out, HB'.out⟩

end Go.Proofs.Ytojnpacklcajpaa

/-! pairsByLow: a map from low faces to their pairs. -/
namespace Go.Proofs.Ytojnpacklcajpaa
open Go.RowKit

def pairV (x y : Int) : Value := .agg #[.int .i64 x, .int .i64 y]
def pairD (x y : Int) : DataW Unit := .agg [.lit (.int .i64 x), .lit (.int .i64 y)]
/-- How the map's values are read. -/
def pairElem (v : Value) : Option (DataW Unit × List MemPlace) := match v with
  | .agg a => match a.toList with
    | [.int .i64 x, .int .i64 y] => some (pairD x y, [])
    | _ => none
  | _ => none
theorem pairElem_mk (x y : Int) : pairElem (.agg #[.int .i64 x, .int .i64 y]) = some (pairD x y, []) := rfl
theorem pairElem_inv {v : Value} {x y : Int} {ps : List MemPlace} (h : pairElem v = some (pairD x y, ps)) : v = .agg #[.int .i64 x, .int .i64 y] := by
  unfold pairElem at h
  split at h
  · rename_i a
    split at h
    · rename_i x' y' he
      simp [pairD] at h
      obtain ⟨rfl, rfl⟩ := h.1
      have : a = #[.int .i64 x', .int .i64 y'] := by cases a; simp at he; simp [he]
      rw [this]
    · cases h
  · cases h
theorem zero_pair (w : World) : (zeroValue 63).run Try.prog w = .ok (.agg #[.int .i64 0, .int .i64 0]) w := by kernel_rfl

/-- The map with the first k pairs. -/
def lowsD (ps : List Int) : Nat → DataW Unit
  | 0 => .map []
  | k + 1 => (lowsD ps k).put (.int .i64 (at0 ps (k * 2))) (pairD (at0 ps (k * 2)) (at0 ps (k * 2 + 1)))
theorem lowsD_map (ps : List Int) : ∀ k, Maps.IsMap (lowsD ps k)
  | 0 => Maps.isMap_empty
  | k + 1 => (lowsD_map ps k).put _ _
/-- No two pairs have the same low face. -/
def LowsApart (ps : List Int) (n : Nat) : Prop := ∀ i j, i < j → j < n → at0 ps (i * 2) ≠ at0 ps (j * 2)
theorem okTo_apart {fs ps : List Int} {n : Nat} (h : OkTo fs ps n) : LowsApart ps n := by
  intro i j hij hj e
  have := (h j hj).2.2 i hij
  unfold clashB at this
  rw [decide_eq_true e.symm] at this
  simp at this
theorem lows_hit {ps : List Int} {a : Int} : ∀ (k i : Nat), LowsApart ps k → i < k → at0 ps (i * 2) = a → (∀ z, (lowsD ps k).atKey (.int .i64 a) z = pairD a (at0 ps (i * 2 + 1))) ∧ Maps.has (lowsD ps k) (.int .i64 a) = true
  | 0, _, _, h, _ => absurd h (Nat.not_lt_zero _)
  | k + 1, i, hd, hi, ha => by
    by_cases e : i = k
    · subst e
      unfold lowsD
      rw [ha]
      exact ⟨fun z => Maps.atKey_put_same (lowsD_map ps i) (show WideAt.IsKeyLit (.int .i64 a) from trivial) _ _, Maps.has_put_same (lowsD_map ps i) (show WideAt.IsKeyLit (.int .i64 a) from trivial) _⟩
    · have hne : a ≠ at0 ps (k * 2) := by rw [← ha]; exact hd i k (by omega) (by omega)
      obtain ⟨h1, h2⟩ := lows_hit k i (fun i j h1 h2 => hd i j h1 (by omega)) (by omega) ha
      unfold lowsD
      exact ⟨fun z => by rw [Maps.atKey_put_other (by simpa using hne)]; exact h1 z, by rw [Maps.has_put_other (by simpa using hne)]; exact h2⟩
theorem lows_miss {ps : List Int} {a : Int} : ∀ (k : Nat), (∀ i, i < k → at0 ps (i * 2) ≠ a) → (∀ z, (lowsD ps k).atKey (.int .i64 a) z = z) ∧ Maps.has (lowsD ps k) (.int .i64 a) = false
  | 0, _ => ⟨fun _ => rfl, rfl⟩
  | k + 1, h => by
    have hne : a ≠ at0 ps (k * 2) := fun e => h k (by omega) e.symm
    obtain ⟨h1, h2⟩ := lows_miss k (fun i hi => h i (by omega))
    unfold lowsD
    exact ⟨fun z => by rw [Maps.atKey_put_other (by simpa using hne)]; exact h1 z, by rw [Maps.has_put_other (by simpa using hne)]; exact h2⟩

/-- 'own, ok := lows[a]'. -/
theorem lows_look {w : World} {b N n : Nat} {ps : List Int} {a : Int} (hown : w.ownsMap Try.prog 2 pairElem b N (lowsD ps n)) (hd : LowsApart ps n) (ha : (Lit.int .i64 a).wf = true) :
    (∃ i, i < n ∧ at0 ps (i * 2) = a ∧ highOf ps n a = at0 ps (i * 2 + 1) ∧ (Instr.lookup 88 (.map (some b)) (.int .i64 a) true).run Try.prog w = .ok (.tuple #[.agg #[.int .i64 a, .int .i64 (highOf ps n a)], .bool true]) w) ∨
    (highOf ps n a = 0 ∧ (Instr.lookup 88 (.map (some b)) (.int .i64 a) true).run Try.prog w = .ok (.tuple #[.agg #[.int .i64 0, .int .i64 0], .bool false]) w) := by
  obtain ⟨v, qs, hrun, hv⟩ := hown.look_ok (Maps.int_keyed Try.underlying2) Try.underlying88 (zero_pair w) (pairElem_mk 0 0) (Maps.keyOf_int_mk Try.underlying2 ha)
  by_cases hex : ∃ i, i < n ∧ at0 ps (i * 2) = a
  · obtain ⟨i, hi, hia⟩ := hex
    have hh : highOf ps n a = at0 ps (i * 2 + 1) := highOf_some hi hia (fun j hj e => hd j i hj hi (e.trans hia.symm))
    obtain ⟨h1, h2⟩ := lows_hit n i hd hi hia
    rw [h1, ← hh] at hv
    rw [h2, pairElem_inv hv] at hrun
    exact .inl ⟨i, hi, hia, hh, hrun⟩
  · obtain ⟨h1, h2⟩ := lows_miss n (fun i hi e => hex ⟨i, hi, e⟩)
    rw [h1] at hv
    rw [h2, pairElem_inv hv] at hrun
    exact .inr ⟨highOf_none (fun i hi e => hex ⟨i, hi, e⟩), hrun⟩

set_option maxRecDepth 100000 in
set_option maxHeartbeats 4000000 in
theorem lows_any (a1 : Option Addr) (n cap1 : Nat) (ps : List Int) (w : World) (hx1 : SlI w w.heap.size a1 ps) (hp : ps.length = 2 * n) (hn : n ≤ 1048576) (hw : ∀ x ∈ ps, (Lit.int .i64 x).wf = true) :
    Calls Try.prog 83 #[.slice a1 n cap1] w fun e w' => e = .returned (.map (some w.heap.size)) ∧ w'.ownsMap Try.prog 2 pairElem w.heap.size n (lowsD ps n) ∧ Below w.heap.size w w' := by
  have Hy := hid hx1
  have Hp := hid hp
  have Hw := hid hw
  have hmm := @run_makeMap Try.prog
  clear hx1 hp hw
  have H0 : Hid ((w.alloc (.map #[] 0)).ownsMap Try.prog 2 pairElem w.heap.size 0 (lowsD ps 0)) := hid (World.ownsMap_made w Try.prog 2 pairElem)
  go_enter Try.func83, Try.ntmps83
  go_wp2_with fail
  clear hmm
  go_loopw [9] (fun i wr => ∃ k : Nat, k ≤ n ∧ i = .int .i64 k ∧ wr.ownsMap Try.prog 2 pairElem w.heap.size k (lowsD ps k) ∧ Below w.heap.size w wr) (fun i _ => n - (intOf i).toNat)
  case atStart => exact ⟨0, Nat.zero_le _, rfl, H0.out, (Below.refl _ w).alloc (Nat.le_refl _) _⟩
  case round =>
    obtain ⟨k, hk, rfl, hown, hB⟩ := hrel
    by_cases hlt : k < n
    · obtain ⟨b, off, hb, rfl, hc⟩ : ∃ b off, b < w.heap.size ∧ a1 = some ⟨b, off, none⟩ ∧ ∀ i, i < ps.length → w.cell? ⟨b, off + i, none⟩ = some (.int .i64 (ps[i]?.getD 0)) := by
        rcases Hy.out with h | h
        · have := Hp.out; rw [h] at this; simp at this; omega
        · exact h
      have hc2 : wr.cell? ⟨b, off + k * 2, none⟩ = some (.int .i64 (at0 ps (k * 2))) := (hB.cell (p := ⟨b, off + k * 2, none⟩) hb).trans (hc _ (by have := Hp.out; omega))
      have hc3 : wr.cell? ⟨b, off + k * 2 + 1, none⟩ = some (.int .i64 (at0 ps (k * 2 + 1))) := (hB.cell (p := ⟨b, off + (k * 2 + 1), none⟩) hb).trans (hc _ (by have := Hp.out; omega))
      obtain ⟨x, hx⟩ : ∃ x, x = at0 ps (k * 2) := ⟨_, rfl⟩
      obtain ⟨y, hy⟩ : ∃ y, y = at0 ps (k * 2 + 1) := ⟨_, rfl⟩
      have hlen := Hp.out
      have hwx : (Lit.int .i64 x).wf = true := Hw.out x (by rw [hx]; exact getD_mem (by omega))
      have Hsn : Hid (lowsD ps (k + 1) = (lowsD ps k).put (.int .i64 x) (pairD x y)) := hid (by rw [hx, hy]; rfl)
      rw [← hx] at hc2
      rw [← hy] at hc3
      have hi0 : (0 : Int) ≤ (k : Int) := by omega
      have hi1 : (k : Int) < (n : Int) := by omega
      have hlm := hown.lt
      obtain ⟨wa, hrun1, hwa, hga⟩ := World.ownsMap.update (w := wr.alloc (.cells #[.int .i64 x, .int .i64 y] 63)) (World.ownsMap.alloc hown _) (Maps.int_keyed Try.underlying2) Try.underlying88 (show k < maxLen by unfold maxLen; omega) (Maps.keyOf_int_mk Try.underlying2 hwx) (pairElem_mk x y)
      rw [← Hsn.out] at hwa
      have Hwa := hid hwa
      have HBa := hid (((hB.alloc hB.size (.cells #[.int .i64 x, .int .i64 y] 63))).grown hga (by have := hB.size; simp; omega) (fun r e => by cases e; exact Nat.le_refl _))
      clear hwa hga hx hy hc hlen hown hB
      go_wp2_with fail
      go_roundw
      case rel => exact ⟨k + 1, by omega, by go_num, Hwa.out, HBa.out⟩
      case measure => simp [intOf]; omega
    · obtain rfl : k = n := by omega
      have Hown := hid hown
      have HB := hid hB
      clear hown hB
      go_wp2_with fail
      go_ret
      exact ⟨rfl, Hown.out, HB.out⟩

end Go.Proofs.Ytojnpacklcajpaa

/-! `==` on pairs. -/
namespace Go.Proofs.Ytojnpacklcajpaa
open Go.RowKit

set_option maxRecDepth 100000 in
theorem eq_pairF (x y x' y' : Int) (w : World) : (Op.equalIn 10000 63 (.agg #[.int .i64 x, .int .i64 y]) (.agg #[.int .i64 x', .int .i64 y'])).run Try.prog w = .ok (x == x' && y == y') w := by
  have hu := Try.underlying2
  have hi := Try.isAgg2
  have hs := Try.sizeOf2
  rw [show (10000 : Nat) = 9999 + 1 from rfl, Op.equalIn]
  simp only [Sem.run_bind, run_underlying Try.underlying63, Result.andThen_ok]
  simp only [Std.Legacy.Range.forIn_eq_forIn_range', Std.Legacy.Range.size, Nat.sub_zero, Nat.add_sub_cancel, Nat.div_one, List.range'_succ, List.range'_zero, List.forIn_cons, List.forIn_nil]
  go_simp
  by_cases e1 : x = x' <;> by_cases e2 : y = y' <;> simp [e1, e2]

theorem and_int64 {x y : Nat} (hx : x < 64) (hy : y < 64) : bits BinOp.and IntKind.i64 (x : Int) (y : Int) = ((x &&& y : Nat) : Int) := (bits_nat .i64 6 (by decide) (fun n h0 h1 => by rw [IntKind.wrap_i64]; omega) x y (by omega) (by omega)).1

end Go.Proofs.Ytojnpacklcajpaa

/-! The program's freeFaces: all free pairs lie in a channel that is closed. -/
namespace Go.Proofs.Ytojnpacklcajpaa
open Go.RowKit Go.Conc

/-- A channel that holds pairs. -/
def ChanP (w : World) (c : Nat) (L : List (Int × Int)) (cap : Nat) (cl : Bool) : Prop := ∃ s r : Nat, w.heap[c]? = some (.chan cap (L.map fun p => pairV p.1 p.2).toArray cl s r false)

theorem info_pairC : ∃ i, Try.prog.info? 63 = some i ∧ i.bytes = 16 := by
  have h : (Try.prog.info? 63).map (·.bytes) = some 16 := by kernel_rfl
  obtain ⟨i, hi, hb⟩ := Option.map_eq_some_iff.1 h
  exact ⟨i, hi, hb⟩

theorem makeChanP (w : World) (n : Nat) (hn : n ≤ 1048576) : (Instr.makeChan 99 (.int .i64 (n : Int))).run Try.prog w = .ok (.chan (some w.heap.size)) (w.alloc (.chan n #[] false 0 0 false)) := by
  obtain ⟨i, hi, hb⟩ := info_pairC
  exact run_makeChan (P := Try.prog) (w := w) Try.underlying99 hi .i64 n (by omega) (by rw [hb]; omega)

/-- The world of freeFaces: the box of the complex, and the channel. -/
structure FrW (w wr : World) (V : Int) (sl : Value) (L : List (Int × Int)) (n : Nat) : Prop where
  box : wr.heap[w.heap.size]? = some (.cells #[.int .i64 V, sl] 29 (0, 0))
  ch : ChanP wr (w.heap.size + 1) L n false
  below : Below w.heap.size w wr
  sz : w.heap.size + 2 ≤ wr.heap.size

/-- What the variable pair holds once some of the others are met. -/
def prOf (f : Nat) (us : List Int) : Int × Int := match us with | [] => (0, 0) | g :: _ => (f, g)

theorem FrW.alloc {w wr : World} {V : Int} {sl : Value} {L : List (Int × Int)} {n : Nat} (h : FrW w wr V sl L n) (o : Obj) : FrW w (wr.alloc o) V sl L n := by
  obtain ⟨s, r, hc⟩ := h.ch
  have := h.sz
  exact ⟨(Below.heap_alloc _ _ _ (by omega)).trans h.box, ⟨s, r, (Below.heap_alloc _ _ _ (by omega)).trans hc⟩, h.below.alloc (by omega) _, by simp; omega⟩
theorem FrW.set {w wr : World} {V : Int} {sl : Value} {L : List (Int × Int)} {n : Nat} (h : FrW w wr V sl L n) {b o : Nat} (hb : w.heap.size + 2 ≤ b) (u : Value) : FrW w (wr.setCell ⟨b, o, none⟩ u) V sl L n := by
  obtain ⟨s, r, hc⟩ := h.ch
  have e : ∀ k, k ≠ b → (wr.setCell ⟨b, o, none⟩ u).heap[k]? = wr.heap[k]? := fun k hk => by
    simp only [World.setCell]
    rw [Array.getElem?_modify]
    rw [if_neg (fun e => hk e.symm)]
  exact ⟨(e _ (by omega)).trans h.box, ⟨s, r, (e _ (by omega)).trans hc⟩, h.below.setCell (p := ⟨b, o, none⟩) (by show w.heap.size ≤ b; omega) _, by simp [World.setCell]; exact h.sz⟩

theorem FrW.send {w wr wz : World} {V : Int} {sl : Value} {L : List (Int × Int)} {n s r : Nat} {x y : Int} (h : FrW w wr V sl L n) (hz : wz = wr.setChan (w.heap.size + 1) n ((L.map fun p => pairV p.1 p.2).toArray.push (.agg #[.int .i64 x, .int .i64 y])) false (s + 1) r false) :
    FrW w wz V sl (L ++ [(x, y)]) n := by
  subst hz
  have hs := h.sz
  refine ⟨?_, ⟨s + 1, r, ?_⟩, below_setChan h.below (by omega) _ _ _ _ _ _, by rw [size_setChan]; exact hs⟩
  · simp only [World.setChan]
    rw [Array.getElem?_setIfInBounds_ne (by omega)]
    exact h.box
  · rw [heap_setChan wr _ _ _ _ _ _ _ (by omega)]
    simp [pairV]

set_option maxRecDepth 100000 in
set_option maxHeartbeats 4000000 in
theorem freeF_any (V : Int) (a0 : Option Addr) (cap : Nat) (fs : List Int) (w : World) (hx : SlI w w.heap.size a0 fs) (hl : fs.length ≤ 1048576) (hf : ∀ x ∈ fs, 1 ≤ x ∧ x ≤ 63) :
    Calls Try.prog 57 #[.agg #[.int .i64 V, .slice a0 fs.length cap]] w fun e w' => ∃ c, e = .returned (.chan (some c)) ∧ w.heap.size ≤ c ∧ ChanP w' c (freeP fs fs) fs.length true ∧ Below w.heap.size w w' := by
  have hmk := makeChanP (w.alloc (.cells #[.int .i64 V, .slice a0 fs.length cap] 29)) fs.length hl
  have H0 : Hid (FrW w ((w.alloc (.cells #[.int .i64 V, .slice a0 fs.length cap] 29)).alloc (.chan fs.length #[] false 0 0 false)) V (.slice a0 fs.length cap) [] fs.length) := hid
    ⟨by rw [Below.heap_alloc _ _ _ (by simp)]; exact heap_alloc_new _ _, ⟨0, 0, new2 _ _ _⟩, ((Below.refl _ w).alloc (Nat.le_refl _) _).alloc (by simp) _, by simp⟩
  have Hx0 := hid hx
  have Hf := hid hf
  clear hx hf
  go_enter Try.func57, Try.ntmps57
  go_wp2
  go_step3
  go_wp2
  go_step3
  go_wp2
  clear hmk
  go_loopg [16] fs.length (fun g i wr => ∃ k : Nat, k + g = fs.length ∧ i = .int .i64 k ∧ FrW w wr V (.slice a0 fs.length cap) (freeP fs (fs.take k)) fs.length)
  case atStart => exact ⟨0, by omega, rfl, by simpa [freeP] using H0.out⟩
  case round =>
    obtain ⟨k, hkg, rfl, hW⟩ := hrel
    clear H0
    obtain ⟨s, r, hch⟩ := hW.ch
    have HW := hid hW
    cases gk with
    | zero =>
      obtain rfl : k = fs.length := by omega
      have hcl := fun ats ty => run_close_open (P := Try.prog) (w := wr) ats ty hch
      go_wp2
      try rw [Exit.noGoto_ret]
      go_ret
      rw [List.take_of_length_le (Nat.le_refl _)] at hch
      have hlt1 := HW.out.sz
      exact ⟨_, rfl, by omega, ⟨s, r, heap_setChan wr (w.heap.size + 1) fs.length _ true s r false (by omega)⟩, below_setChan (w := wr) HW.out.below (by omega : w.heap.size ≤ w.heap.size + 1) fs.length _ true s r false⟩
    | succ g =>
      have hlt : k < fs.length := by omega
      obtain ⟨b, off, hb, rfl, hc⟩ : ∃ b off, b < w.heap.size ∧ a0 = some ⟨b, off, none⟩ ∧ ∀ i, i < fs.length → w.cell? ⟨b, off + i, none⟩ = some (.int .i64 (fs[i]?.getD 0)) := by
        rcases Hx0.out with rfl | h
        · simp at hlt
        · exact h
      have Hc := hid hc
      clear hc
      obtain ⟨f, hf⟩ : ∃ f : Nat, (f : Int) = fs[k]?.getD 0 := ⟨(fs[k]?.getD 0).toNat, by have := Hf.out _ (getD_mem hlt); omega⟩
      have hfr := Hf.out _ (getD_mem hlt)
      rw [← hf] at hfr
      have hf64 : f < 64 := by omega
      have hck : wr.cell? ⟨b, off + k, none⟩ = some (.int .i64 (f : Int)) := by rw [hf]; exact (hW.below.cell (p := ⟨b, off + k, none⟩) hb).trans (Hc.out k hlt)
      have hi0 : (0 : Int) ≤ (k : Int) := by omega
      have hi1 : (k : Int) < (fs.length : Int) := by omega
      obtain ⟨k0, k1, _, _⟩ := two_of hW.box
      have H1 : Hid (FrW w (wr.alloc (.cells #[.int .i64 0, .int .i64 0] 63)) V (.slice (some ⟨b, off, none⟩) fs.length cap) (freeP fs (fs.take k)) fs.length) := hid (hW.alloc _)
      have Hn : Hid (freeP fs (fs.take (k + 1)) = freeP fs (fs.take k) ++ (if freeG fs f = 0 then [] else [((f : Int), freeG fs f)])) := hid (by rw [take_snoc hlt, freeP_snoc, ← hf, Int.toNat_natCast])
      have hsz := hW.sz
      have a2 : (wr.alloc (.cells #[.int .i64 0, .int .i64 0] 63)).cell? ⟨w.heap.size, 1, none⟩ = some (.slice (some ⟨b, off, none⟩) fs.length cap) := cell_alloc_drew1 k1 _
      have hnew := heap_alloc_new wr (.cells #[.int .i64 0, .int .i64 0] 63)
      have Heq := eq_pairF
      obtain ⟨N, hN⟩ : ∃ N, N = wr.heap.size := ⟨_, rfl⟩
      rw [← hN] at hsz hnew
      have HN := hid hnew
      clear hch hW hf hnew
      go_wp2
      rw [← hN]
      clear hck hN a2 k0 k1 HW Heq hi0 hi1
      go_loopg [24] fs.length (fun g2 i wx => ∃ j : Nat, j + g2 = fs.length ∧ i = .int .i64 j ∧ (upF (fs.take j) f).length ≤ 1 ∧ wx.heap[N]? = some (.cells #[.int .i64 (prOf f (upF (fs.take j) f)).1, .int .i64 (prOf f (upF (fs.take j) f)).2] 63 (0, 0)) ∧ FrW w wx V (.slice (some ⟨b, off, none⟩) fs.length cap) (freeP fs (fs.take k)) fs.length)
      case atStart => exact ⟨0, by omega, rfl, by simp [upF], HN.out, H1.out⟩
      case round =>
        clear H1 HN
        obtain ⟨j, hjg, rfl, hu1, hpb, hW⟩ := hrel
        obtain ⟨p0, p1, q0, q1⟩ := two_of hpb
        have HW := hid hW
        have Hpb := hid hpb
        cases gk with
        | zero =>
          obtain rfl : j = fs.length := by omega
          rw [List.take_of_length_le (Nat.le_refl _)] at hu1 hpb p0 p1
          have Heq := eq_pairF
          have hfl : (freeP fs (fs.take k)).length < fs.length := Nat.lt_of_le_of_lt (freeP_len fs _) (by simp; omega)
          rcases hu : upF fs f with _ | ⟨g0, _ | ⟨g1, l⟩⟩
          · rw [hu] at hpb p0 p1
            simp only [prOf] at p0 p1
            have Hz : Hid (freeG fs f = 0) := hid (by unfold freeG; rw [hu]; rfl)
            clear hu hu1 hW hpb Hpb
            go_wp2
            go_roundg g
            case measure => omega
            case rel => exact ⟨k + 1, by omega, by go_num, by rw [Hn.out, if_pos Hz.out]; simpa using HW.out⟩
          · rw [hu] at hpb p0 p1
            simp only [prOf] at p0 p1
            have hg0 : ((f : Int) == 0) = false := by simp; omega
            have hgf : freeG fs f = g0 := by unfold freeG; rw [hu]; rfl
            have hgm := Hf.out g0 (upF_mem (f := f) (by rw [hu]; simp)).1
            have Hz : Hid (freeP fs (fs.take (k + 1)) = freeP fs (fs.take k) ++ [((f : Int), g0)]) := hid (by rw [Hn.out, hgf, if_neg (by omega)])
            clear hu hu1 hW hpb Hpb hgf hgm
            iterate 28 (first | go_values | go_skip | go_guarded | go_step | go_upon | go_back)
            obtain ⟨s, r, hch⟩ := HW.out.ch
            refine region_to ?_
            refine opsTo_val (i := 0) (o := _) (v := .chan (some (w.heap.size + 1))) (w' := wr) rfl rfl rfl ?_
            refine opsTo_val (i := 1) (o := _) (v := .agg #[.int .i64 (f : Int), .int .i64 g0]) (w' := wr) rfl rfl (by go_simp) ?_
            refine opsTo_send (i := 2) (o := _) (c := w.heap.size + 1) (v := .agg #[.int .i64 (f : Int), .int .i64 g0]) (z := .tuple #[]) rfl rfl (by simp [execOp, scase, Act.eval, Act.put]) hch (by simpa using hfl) ?_
            refine opsTo_of_wp ?_
            simp only [wpOps]
            obtain ⟨wz, hwz⟩ : ∃ wz, wz = wr.setChan (w.heap.size + 1) fs.length (((freeP fs (fs.take k)).map fun p => pairV p.1 p.2).toArray.push (.agg #[.int .i64 (f : Int), .int .i64 g0])) false (s + 1) r false := ⟨_, rfl⟩
            have HZ := hid (HW.out.send hwz)
            rw [← hwz]
            clear hwz hch
            go_simp
            go_wp2
            go_roundg g
            case measure => omega
            case rel => exact ⟨k + 1, by omega, by go_num, by rw [Hz.out]; exact HZ.out⟩
          · rw [hu] at hu1; simp at hu1
        | succ g2 =>
          have hjl : j < fs.length := by omega
          obtain ⟨y, hy⟩ : ∃ y : Nat, (y : Int) = fs[j]?.getD 0 := ⟨(fs[j]?.getD 0).toNat, by have := Hf.out _ (getD_mem hjl); omega⟩
          have hyr := Hf.out _ (getD_mem hjl)
          rw [← hy] at hyr
          have hy64 : y < 64 := by omega
          have hcj : wr.cell? ⟨b, off + j, none⟩ = some (.int .i64 (y : Int)) := by rw [hy]; exact (hW.below.cell (p := ⟨b, off + j, none⟩) hb).trans (Hc.out j hjl)
          have hj0 : (0 : Int) ≤ (j : Int) := by omega
          have hj1 : (j : Int) < (fs.length : Int) := by omega
          have Hs : Hid (∀ c, decide (y &&& f = f ∧ y ≠ f) = c → upF (fs.take (j + 1)) f = upF (fs.take j) f ++ (if c then [(y : Int)] else [])) := hid (fun c hc => by rw [hy]; exact upF_snoc hjl c (by rw [← hy, Int.toNat_natCast]; exact hc))
          have hand := and_int64 hy64 hf64
          by_cases hyf : y = f
          · subst hyf
            have hd : ((y : Int) == (y : Int)) = true := by simp
            have HS := hid (Hs.out false (by simp))
            clear hW hpb hy
            go_wp2
            go_roundg g2
            case measure => omega
            case rel => exact ⟨j + 1, by omega, by go_num, by rw [HS.out]; simpa using hu1, by rw [HS.out]; simpa using Hpb.out, HW.out⟩
          · have hd : ((y : Int) == (f : Int)) = false := by simp; omega
            by_cases hyx : y &&& f = f
            · have hd2 : (((y &&& f : Nat) : Int) != (f : Int)) = false := by simp [hyx]
              have HS := hid (Hs.out true (by simp [hyx, hyf]))
              have Heq := eq_pairF
              clear hy hpb
              rcases hu : upF (fs.take j) f with _ | ⟨g0, _ | ⟨g1, l⟩⟩
              · rw [hu] at HS Hpb p0 p1
                simp only [prOf] at p0 p1
                have Hu := hid hu
                clear hu hu1 hW
                go_wp2
                go_roundg g2
                case measure => omega
                case rel => exact ⟨j + 1, by omega, by go_num, by rw [HS.out]; simp, by rw [HS.out]; exact two_set Hpb.out _ _, (HW.out.set hsz _).set hsz _⟩
              · rw [hu] at HS Hpb p0 p1
                simp only [prOf] at p0 p1
                have hg0 : ((f : Int) == 0) = false := by simp; omega
                have Hz : Hid (freeG fs f = 0) := hid (freeG_two (j := j + 1) (by rw [HS.out]; simp))
                clear hu hu1 hW
                go_wp2
                go_roundg g
                case measure => omega
                case rel => exact ⟨k + 1, by omega, by go_num, by rw [Hn.out, if_pos Hz.out]; simpa using HW.out⟩
              · rw [hu] at hu1; simp at hu1
            · have hd2 : (((y &&& f : Nat) : Int) != (f : Int)) = true := by simp; omega
              have HS := hid (Hs.out false (by simp [hyx]))
              clear hW hpb hy
              go_wp2
              go_roundg g2
              case measure => omega
              case rel => exact ⟨j + 1, by omega, by go_num, by rw [HS.out]; simpa using hu1, by rw [HS.out]; simpa using Hpb.out, HW.out⟩

end Go.Proofs.Ytojnpacklcajpaa

/-! The program's list of all pairs. -/
namespace Go.Proofs.Ytojnpacklcajpaa
open Go.RowKit

/-- 'out = append(out, p)' on a list of pairs that the call itself has made. -/
theorem append_pair {w : World} {ops : Array Oper} {rest : List Oper} {o : Oper} {a : Act} {Q : Exit → Act → World → Prop} (hgd : o.guard = none) {s y : Operand}
    (ho : o.op = .call { callee := .builtin .append, args := #[s, y], argTypes := #[26, 26] })
    {base : Nat} {v : Value} {L : List (Int × Int)} {x x' : Int} (hown : w.ownsRow base 63 2 v L.length ((flatP L).map (Value.int .i64))) (hbase : base ≤ w.heap.size) (hl : L.length ≤ 1099511627776)
    (hs : a.eval s = v) (hy : a.eval y = .slice (some ⟨w.heap.size, 0, none⟩) 1 1)
    (hK : ∀ v' w', w'.ownsRow base 63 2 v' (L ++ [(x, x')]).length ((flatP (L ++ [(x, x')])).map (Value.int .i64)) → w.grownBy w' v.ownBlock → Below base w w' → wpList Try.prog ops Q rest (a.put o.dst v') w') :
    wpList Try.prog ops Q (o :: rest) a (w.alloc (.cells #[.int .i64 x, .int .i64 x'] 63)) := by
  obtain ⟨i0, hi, hz0, hz1, hz2⟩ := info_parts info_pair
  refine wpList_append_own _ hgd s y 26 ho base 63 i0 (.agg #[.int .i64 0, .int .i64 0]) 2 16 Try.underlying26 hi hz0 hz1 hz2 rfl (by decide) v _ _ hs (hown.alloc _) ⟨w.heap.size, 0, none⟩ 1 1 [.int .i64 x, .int .i64 x'] hy rfl ?_ (by simp [Value.oneCell']) (by unfold maxLen; omega) (by omega) (by simp; omega) ?_
  · intro j u hj
    match j, hj with
    | 0, hj => simp at hj; subst hj; simp [go_sem, Addr.add]
    | 1, hj => simp at hj; subst hj; simp [go_sem, Addr.add]
    | j + 2, hj => simp at hj
  · intro v' w1 hown1 hgrow1 _
    have hg : w.grownBy w1 v.ownBlock := (World.grownBy_alloc w _ _).trans hgrow1
    refine hK v' w1 (by rw [flatP_snoc]; simpa using hown1) hg ((Below.refl base w).grown hg hbase (fun k hk => (hown.lt k hk).1))

set_option maxRecDepth 100000 in
set_option maxHeartbeats 4000000 in
theorem pairsOf_any (vn : Nat) (a0 : Option Addr) (cap : Nat) (fs : List Int) (w : World) (hx : SlI w w.heap.size a0 fs) (hl : fs.length ≤ 1048576) (hC : IsC (vn : Int) fs) :
    Calls Try.prog 129 #[.agg #[.int .i64 vn, .slice a0 fs.length cap]] w fun e w' => ∃ v, e = .returned v ∧ w'.ownsRow (w.heap.size + 1) 63 2 v (pairsL fs vn fs.length).length ((flatP (pairsL fs vn fs.length)).map (Value.int .i64)) ∧ Below w.heap.size w w' := by
  have hB0 : Hid (Below w.heap.size w (w.alloc (.cells #[.int .i64 vn, .slice a0 fs.length cap] 29))) := hid ((Below.refl _ w).alloc (Nat.le_refl _) _)
  have hvn : vn ≤ 6 := by have := hC.hi; omega
  have Hf := hid hC.range63
  clear hC
  rcases hx with rfl | ⟨b, off, hb, rfl, hc⟩
  · go_enter Try.func129, Try.ntmps129
    go_wp2
    refine wp_loop_rounds 1 ?_; rw [rounds_succ]
    go_wp2
    go_ret
    exact ⟨_, rfl, World.ownsRow_nil _ _ _ _, hB0.out⟩
  · have Hc := hid hc
    clear hc
    go_enter Try.func129, Try.ntmps129
    go_wp2
    go_loopw [3, 11] (fun v i wr => ∃ k : Nat, k ≤ fs.length ∧ i = .int .i64 k ∧ wr.ownsRow (w.heap.size + 1) 63 2 v (pairsL fs vn k).length ((flatP (pairsL fs vn k)).map (Value.int .i64)) ∧
        Below (w.heap.size + 1) (w.alloc (.cells #[.int .i64 vn, .slice (some ⟨b, off, none⟩) fs.length cap] 29)) wr) (fun _ i _ => fs.length - (intOf i).toNat)
    case atStart => exact ⟨0, Nat.zero_le _, rfl, World.ownsRow_nil _ _ _ _, Below.refl _ _⟩
    case round =>
      obtain ⟨k, hk, rfl, hown, hB⟩ := hrel
      by_cases hlt : k < fs.length
      · have hfk := Hf.out _ (getD_mem hlt)
        obtain ⟨x, hx⟩ : ∃ x : Nat, (x : Int) = fs[k]?.getD 0 := ⟨(fs[k]?.getD 0).toNat, by omega⟩
        have hx64 : x < 64 := by omega
        have hck : wr.cell? ⟨b, off + k, none⟩ = some (.int .i64 (x : Int)) := by rw [hx]; exact ((hB0.out.trans (hB.mono (Nat.le_succ _))).cell (p := ⟨b, off + k, none⟩) hb).trans (Hc.out k hlt)
        have c0 : wr.cell? ⟨w.heap.size, 0, none⟩ = some (.int .i64 vn) := (hB.cell (p := ⟨w.heap.size, 0, none⟩) (by simp)).trans (by simp [go_sem])
        have Hsn : Hid (pairsL fs vn (k + 1) = pairsL fs vn k ++ upS fs x vn) := hid (by rw [pairsL_succ hlt, ← hx]; rfl)
        have hi0 : (0 : Int) ≤ (k : Int) := by omega
        have hi1 : (k : Int) < (fs.length : Int) := by omega
        have Hpl := hid (pairsL_len fs vn k hk)
        have HB := hid hB
        have Hown := hid hown
        clear hx hfk hB hown
        go_wp2
        clear hck c0 hi0 hi1
        go_loopw [3, 17] (fun v j wr => ∃ m : Nat, m ≤ vn ∧ j = .int .i64 m ∧ wr.ownsRow (w.heap.size + 1) 63 2 v (pairsL fs vn k ++ upS fs x m).length ((flatP (pairsL fs vn k ++ upS fs x m)).map (Value.int .i64)) ∧
            Below (w.heap.size + 1) (w.alloc (.cells #[.int .i64 vn, .slice (some ⟨b, off, none⟩) fs.length cap] 29)) wr) (fun _ j _ => vn - (intOf j).toNat)
        case atStart => exact ⟨0, Nat.zero_le _, rfl, by simpa [upS] using Hown.out, HB.out⟩
        case round =>
          clear HB Hown
          obtain ⟨m, hm, rfl, hown, hB⟩ := hrel
          by_cases hltm : m < vn
          · have c0 : wr.cell? ⟨w.heap.size, 0, none⟩ = some (.int .i64 vn) := (hB.cell (p := ⟨w.heap.size, 0, none⟩) (by simp)).trans (by simp [go_sem])
            have c1 : wr.cell? ⟨w.heap.size, 1, none⟩ = some (.slice (some ⟨b, off, none⟩) fs.length cap) := (hB.cell (p := ⟨w.heap.size, 1, none⟩) (by simp)).trans (by simp [go_sem])
            have hp2 : (2 : Nat) ^ m ≤ 32 := by have := Nat.pow_le_pow_right (n := 2) (by decide) (show m ≤ 5 by omega); omega
            have hor : bits BinOp.or IntKind.i64 (x : Int) (wrap64 (2 ^ m)) = ((x ||| 2 ^ m : Nat) : Int) := by rw [pow_wrap (show m ≤ 62 by omega)]; exact (bits_nat .i64 6 (by decide) (fun n h0 h1 => by rw [IntKind.wrap_i64]; omega) x (2 ^ m) (by omega) (by omega)).2
            have Hup := hid (upS_succ fs x m)
            have Hln : Hid ((pairsL fs vn k ++ upS fs x m).length ≤ 1099511627776) := hid (by
              have := Hpl.out
              have h1 := upS_len fs x m
              have h2 := Nat.mul_le_mul hk hvn
              rw [List.length_append]
              omega)
            obtain ⟨y, hy⟩ : ∃ y, y = x ||| 2 ^ m := ⟨_, rfl⟩
            rw [← hy] at hor Hup
            have hy64 : y < 64 := by rw [hy]; exact Nat.or_lt_two_pow (n := 6) (by omega) (by omega)
            have hm0 : (0 : Int) ≤ (m : Int) := by omega
            have hm1 : (m : Int) < (vn : Int) := by omega
            have hsz := hB.size
            simp only [World.size_alloc] at hsz
            have Hx1 : Hid (SlI wr wr.heap.size (some ⟨b, off, none⟩) fs) := hid (SlI.later (w := w) (Or.inr ⟨b, off, hb, rfl, Hc.out⟩) (hB0.out.trans (hB.mono (Nat.le_succ _))) (hB0.out.trans (hB.mono (Nat.le_succ _))).size)
            have Hown := hid hown
            have HB := hid hB
            clear hy hown hB hp2
            by_cases hyx : y = x
            · have hd : ((y : Int) != (x : Int)) = false := by simp [hyx]
              have He := hid (Hup.out false (by simp [hyx]))
              clear hyx Hup
              go_wp2_with fail
              go_roundw
              case rel => exact ⟨m + 1, by omega, by go_num, by rw [He.out]; simpa using Hown.out, HB.out⟩
              case measure => simp [intOf]; omega
            · have hd : ((y : Int) != (x : Int)) = true := by simp; omega
              by_cases hym : (y : Int) ∈ fs
              · have He := hid (Hup.out true (by simp [hyx, hym]))
                have CC := hid (contains_any (some ⟨b, off, none⟩) cap fs (y : Int) wr Hx1.out hl)
                rw [decide_eq_true hym] at CC
                clear hyx hym Hup Hx1
                go_wp2_with (first
                  | (go_at_call 94; refine CC.out.mono ?_; rintro e w' ⟨rfl, rfl⟩)
                  | (at_builtin; refine append_pair rfl rfl Hown.out hsz Hln.out rfl rfl ?_; intro v' w2 hown2 hgrow2 hB2))
                go_roundw
                case rel => exact ⟨m + 1, by omega, by go_num, by rw [He.out, if_pos trivial, ← List.append_assoc]; exact hown2, HB.out.trans hB2⟩
                case measure => simp [intOf]; omega
              · have He := hid (Hup.out false (by simp [hym]))
                have CC := hid (contains_any (some ⟨b, off, none⟩) cap fs (y : Int) wr Hx1.out hl)
                rw [decide_eq_false hym] at CC
                clear hyx hym Hup Hx1
                go_wp2_with (go_at_call 94; refine CC.out.mono ?_; rintro e w' ⟨rfl, rfl⟩)
                go_roundw
                case rel => exact ⟨m + 1, by omega, by go_num, by rw [He.out]; simpa using Hown.out, HB.out⟩
                case measure => simp [intOf]; omega
          · obtain rfl : m = vn := by omega
            have Hown := hid hown
            have HB := hid hB
            clear hown hB
            go_wp2
            go_roundw
            case rel => exact ⟨k + 1, by omega, by go_num, by rw [Hsn.out]; exact Hown.out, HB.out⟩
            case measure => simp [intOf]; omega
      · obtain rfl : k = fs.length := by omega
        go_wp2
        go_ret
        exact ⟨_, rfl, hown, hB0.out.trans (hB.mono (Nat.le_succ _))⟩

end Go.Proofs.Ytojnpacklcajpaa

/-! FreePairs, the program's. -/
namespace Go.Proofs.Ytojnpacklcajpaa
open Go.RowKit Go.Conc

/-- What FreePairs hands back. -/
noncomputable def freePairsR (V : Int) (fs : List Int) : List (Int × Int) × Int := if isCB V fs then (freeP fs fs, 0) else ([], 1)

theorem freePairsR_len (V : Int) (fs : List Int) (h : fs.length ≤ 1048576) : (freePairsR V fs).1.length ≤ 1048576 := by
  unfold freePairsR
  split
  · exact Nat.le_trans (freeP_len _ _) h
  · simp

theorem chan_get (x y : Int) (M : List (Int × Int)) : (((x, y) :: M).map fun p => pairV p.1 p.2).toArray.getD 0 undef = pairV x y := by simp
theorem chan_rest (x y : Int) (M : List (Int × Int)) : (((x, y) :: M).map fun p => pairV p.1 p.2).toArray.extract 1 (((x, y) :: M).map fun p => pairV p.1 p.2).toArray.size = (M.map fun p => pairV p.1 p.2).toArray := by
  simp
  exact List.take_of_length_le (by simp)

theorem pairs_mono {P : Program} {f : FuncId} {args : Array Value} {w : World} {r : List (Int × Int) × Int} {xs : List (Int × Int)} {c : Int} (hr : r = (xs, c))
    (h : Calls P f args w fun e w' => ∃ v, e = .returned (.tuple #[v, .int .i64 c]) ∧ ResP w w' v xs) : Calls P f args w fun e w' => ∃ v, e = .returned (.tuple #[v, .int .i64 r.2]) ∧ ResP w w' v r.1 := by
  subst hr; exact h

set_option maxRecDepth 100000 in
set_option maxHeartbeats 4000000 in
theorem implFreePairs (V : Int) (a0 : Option Addr) (cap : Nat) (fs : List Int) (w : World) (hx : SlI w w.heap.size a0 fs) (hl : fs.length ≤ 1048576) :
    Calls Try.prog 18 #[.agg #[.int .i64 V, .slice a0 fs.length cap]] w fun e w' => ∃ v, e = .returned (.tuple #[v, .int .i64 (freePairsR V fs).2]) ∧ ResP w w' v (freePairsR V fs).1 := by
  have hB0 : Below w.heap.size w (w.alloc (.cells #[.int .i64 V, .slice a0 fs.length cap] 29)) := (Below.refl _ w).alloc (Nat.le_refl _) _
  have Hx := hid (hx.later hB0 hB0.size)
  by_cases hC : IsC V fs
  · refine pairs_mono (show freePairsR V fs = (freeP fs fs, 0) by unfold freePairsR; rw [isCB_true hC, if_pos rfl]) ?_
    have HC := hid hC
    have Hf := hid hC.range63
    have Hlen := hid (freeP_len fs fs)
    obtain ⟨L, hL⟩ : ∃ L, L = freeP fs fs := ⟨_, rfl⟩
    rw [← hL] at Hlen ⊢
    have HL := hid hL
    clear hC hL
    go_enter Try.func18, Try.ntmps18
    go_wp2_with fail
    refine (isc_yes V a0 cap fs _ Hx.out hl HC.out).mono ?_
    rintro e w1 ⟨rfl, hB1⟩
    have k0 : w1.cell? ⟨w.heap.size, 0, none⟩ = some (.int .i64 V) := (hB1.cell (p := ⟨w.heap.size, 0, none⟩) (by simp)).trans (by simp [go_sem])
    have k1 : w1.cell? ⟨w.heap.size, 1, none⟩ = some (.slice a0 fs.length cap) := (hB1.cell (p := ⟨w.heap.size, 1, none⟩) (by simp)).trans (by simp [go_sem])
    have hB01 := hB0.trans (hB1.mono (by simp))
    have HB01 := hid hB01
    have hx1 := hid (hx.later hB01 hB01.size)
    clear hB0 hB01 hB1
    go_wp2_with fail
    refine (freeF_any V a0 cap fs _ hx1.out hl Hf.out).mono ?_
    rintro e w2 ⟨c, rfl, hcs, hch, hB2⟩
    have HB2 := hid (HB01.out.trans (hB2.mono HB01.out.size))
    have Hcs := hid (Nat.le_trans HB01.out.size hcs)
    rw [← HL.out] at hch
    have Hch := hid hch
    clear hB2 hch hcs k0 k1
    go_wp2_with fail
    go_loopg [4] L.length (fun gg v wr => ∃ pre R : List (Int × Int), L = pre ++ R ∧ R.length = gg ∧ ChanP wr c R fs.length true ∧ wr.ownsRow w.heap.size 63 2 v pre.length ((flatP pre).map (Value.int .i64)) ∧ Below w.heap.size w wr)
    case atStart => exact ⟨[], L, rfl, rfl, Hch.out, World.ownsRow_nil _ _ _ _, HB2.out⟩
    case round =>
      obtain ⟨pre, R, hLR, hR, ⟨s, r, hch⟩, hown, hB⟩ := hrel
      cases gk with
      | zero =>
        obtain rfl : R = [] := by cases R with | nil => rfl | cons _ _ => simp at hR
        iterate 1 (first | go_values | go_skip | go_guarded | go_step | go_upon | go_back)
        have hz := zero_pair wr
        have hu := Try.underlying65
        refine region_to ?_
        refine opsTo_shut (i := 0) (o := _) (c := c) (z := .agg #[.int .i64 0, .int .i64 0]) (ok := true) rfl rfl (by simp [go_sem, rcase, execOp, Act.eval, hz, run_underlying hu]) hch ?_
        refine opsTo_val (i := 1) (o := _) (v := .bool false) (w' := wr) rfl rfl rfl ?_
        refine opsTo_nil ?_
        simp only [got]
        clear hch hz hu
        go_simp
        go_wp2
        go_ret2
        rw [List.append_nil] at hLR
        subst hLR
        exact ⟨_, rfl, hown, hB⟩
      | succ g =>
        obtain ⟨x, y, M, rfl⟩ : ∃ x y M, R = (x, y) :: M := by
          cases R with
          | nil => simp at hR
          | cons p M => exact ⟨p.1, p.2, M, rfl⟩
        iterate 1 (first | go_values | go_skip | go_guarded | go_step | go_upon | go_back)
        have hz := zero_pair wr
        have hu := Try.underlying65
        refine region_to ?_
        refine opsTo_recv (i := 0) (o := _) (c := c) (z := .agg #[.int .i64 0, .int .i64 0]) (ok := true) rfl rfl (by simp [go_sem, rcase, execOp, Act.eval, hz, run_underlying hu]) hch (by simp) ?_
        rw [chan_get, chan_rest]
        obtain ⟨wz, hwz⟩ : ∃ wz, wz = wr.setChan c fs.length (M.map fun p => pairV p.1 p.2).toArray true s (r + 1) false := ⟨_, rfl⟩
        have hown2 := ownsRow_chan (cap' := fs.length) (s' := s) (r' := r + 1) (buf' := (M.map fun p => pairV p.1 p.2).toArray) (cl' := true) (tm' := false) hown hch
        rw [← hwz] at hown2
        have hch2 : ChanP wz c M fs.length true := ⟨s, r + 1, by rw [hwz]; exact heap_setChan wr c _ _ _ _ _ _ (lt_get hch)⟩
        have hB2 : Below w.heap.size w wz := by rw [hwz]; exact below_setChan hB Hcs.out _ _ _ _ _ _
        rw [← hwz]
        refine opsTo_val (i := 1) (o := _) (v := .bool true) (w' := wz) rfl rfl rfl ?_
        refine opsTo_nil ?_
        simp only [got, pairV]
        have Hch2 := hid hch2
        have HB3 := hid hB2
        have hsz := hB2.size
        have hpl : pre.length ≤ 1048576 := by have := Hlen.out; have := congrArg List.length hLR; simp at this; omega
        have HLR := hid hLR
        have hRM : Hid (M.length = g) := hid (by simpa using hR)
        clear hch hz hu hwz hown hB hch2 hB2 hLR hR
        go_simp
        go_wp2_with (at_builtin; refine append_pair rfl rfl (hown2.alloc _) (by simp; omega) (by omega) rfl (by rw [World.size_alloc]; rfl) ?_; intro v' w3 hown3 hgrow3 hB3)
        go_roundg g
        case measure => omega
        case rel =>
          have hs3 : w.heap.size ≤ (wz.alloc (.cells #[.int .i64 x, .int .i64 y] 63)).heap.size := by simp; omega
          obtain ⟨s2, r2, hc2⟩ := Hch2.out
          have hc3 := (Below.heap_alloc wz (.cells #[.int .i64 x, .int .i64 y] 63) c (lt_get hc2)).trans hc2
          refine ⟨pre ++ [(x, y)], M, by rw [HLR.out]; simp, by have := hRM.out; omega, ⟨s2, r2, ?_⟩, hown3, (HB3.out.alloc hsz _).trans hB3⟩
          exact (hgrow3.block c (lt_get hc3) (row_ne_chan (hown2.alloc _) hc3)).trans hc3
  · refine pairs_mono (show freePairsR V fs = ([], 1) by unfold freePairsR; rw [isCB_false hC, if_neg (by simp)]) ?_
    go_enter Try.func18, Try.ntmps18
    go_wp2_with fail
    refine (isc_no V a0 cap fs _ Hx.out hl hC).mono ?_
    rintro e w1 ⟨rfl, hB1⟩
    go_wp2_with fail
    go_ret2
    exact ⟨_, rfl, World.ownsRow_nil _ _ _ _, hB0.trans (hB1.mono (by simp))⟩

end Go.Proofs.Ytojnpacklcajpaa

/-! The program's freePairOf. -/
namespace Go.Proofs.Ytojnpacklcajpaa
open Go.RowKit Go.Conc

set_option maxRecDepth 100000 in
theorem load_pr {w : World} {b o : Nat} {x y : Value} (h0 : w.cell? ⟨b, o, none⟩ = some x) (h1 : w.cell? ⟨b, o + 1, none⟩ = some y) :
    (loadVar 63 ⟨b, o, none⟩).run Try.prog w = .ok (.agg #[x, y]) w := by
  go_simp

set_option maxRecDepth 100000 in
theorem done_pr {fn : Func} {R : Ending → World → Prop} {a : Act} {w : World} {p u : Tmp} (hr : fn.results = #[.cell p 63, .tmp u]) (hd : a.defers = []) {b o : Nat} {x y c : Value}
    (hp : a.tmps.getD p undef = .pointer (some ⟨b, o, none⟩)) (h0 : w.cell? ⟨b, o, none⟩ = some x) (h1 : w.cell? ⟨b, o + 1, none⟩ = some y) (hu : a.tmps.getD u undef = c) (hR : R (.returned (.tuple #[.agg #[x, y], c])) w) : bodyPost Try.prog fn R .ret a w := by
  refine bodyPost_ret (v := .tuple #[.agg #[x, y], c]) ?_ hd hR
  rw [results_cell_tmp hr, hp, hu]
  show ((loadVar 63 ⟨b, o, none⟩).run Try.prog w).andThen _ = _
  rw [load_pr h0 h1]
  rfl

set_option maxRecDepth 100000 in
theorem done_pr1 {fn : Func} {R : Ending → World → Prop} {a : Act} {w : World} {p : Tmp} (hr : fn.results = #[.cell p 63]) (hd : a.defers = []) {b o : Nat} {x y : Value}
    (hp : a.tmps.getD p undef = .pointer (some ⟨b, o, none⟩)) (h0 : w.cell? ⟨b, o, none⟩ = some x) (h1 : w.cell? ⟨b, o + 1, none⟩ = some y) (hR : R (.returned (.agg #[x, y])) w) : bodyPost Try.prog fn R .ret a w := by
  refine bodyPost_ret (v := .agg #[x, y]) ?_ hd hR
  have hp' : a.tmps[p]?.getD undef = .pointer (some ⟨b, o, none⟩) := by simpa using hp
  simp [results, hr, hp', asAddr, load_pr h0 h1]

theorem two_set1 {W : World} {b : Nat} {x y : Value} {t : Nat} (h : W.heap[b]? = some (.cells #[x, y] t (0, 0))) (u : Value) : (W.setCell ⟨b, 0, none⟩ u).heap[b]? = some (.cells #[u, y] t (0, 0)) := by
  simp only [World.setCell, Array.getElem?_modify, h]
  simp

/-- What freePairOf hands back for a face. -/
def fpOf (fs : List Int) (f : Int) : Int × Int := if freeG fs f.toNat = 0 then (0, 0) else (f, freeG fs f.toNat)

/-- A receive from a channel of pairs that is closed: what the walk goes on with. -/
theorem chan_some {w wr : World} {c : Nat} {x y : Int} {M : List (Int × Int)} {n s r : Nat} (hch : wr.heap[c]? = some (.chan n (((x, y) :: M).map fun p => pairV p.1 p.2).toArray true s r false)) (hcs : w.heap.size ≤ c) (hB : Below w.heap.size w wr) :
    ∃ wz, wz = wr.setChan c n ((((x, y) :: M).map fun p => pairV p.1 p.2).toArray.extract 1 (((x, y) :: M).map fun p => pairV p.1 p.2).toArray.size) true s (r + 1) false ∧ ChanP wz c M n true ∧ Below w.heap.size w wz ∧ (∀ b o, b ≠ c → wr.heap[b]? = some o → wz.heap[b]? = some o) := by
  rw [chan_rest]
  refine ⟨_, rfl, ⟨s, r + 1, heap_setChan wr c _ _ _ _ _ _ (lt_get hch)⟩, below_setChan hB hcs _ _ _ _ _ _, fun b o hb ho => ?_⟩
  simp only [World.setChan]
  rw [Array.getElem?_setIfInBounds_ne (by omega)]
  exact ho

theorem ChanP.alloc {w : World} {c : Nat} {L : List (Int × Int)} {n : Nat} {cl : Bool} (h : ChanP w c L n cl) (o : Obj) : ChanP (w.alloc o) c L n cl := by
  obtain ⟨s, r, hc⟩ := h
  exact ⟨s, r, (Below.heap_alloc w o c (lt_get hc)).trans hc⟩

set_option maxRecDepth 100000 in
set_option maxHeartbeats 4000000 in
theorem fpo_yes (V : Int) (a0 : Option Addr) (cap : Nat) (fs : List Int) (f : Int) (w : World) (hx : SlI w w.heap.size a0 fs) (hl : fs.length ≤ 1048576) (hC : IsC V fs) (hm : f ∈ fs) :
    Calls Try.prog 61 #[.agg #[.int .i64 V, .slice a0 fs.length cap], .int .i64 f] w fun e w' => e = .returned (.tuple #[.agg #[.int .i64 (fpOf fs f).1, .int .i64 (fpOf fs f).2], .int .i64 0]) ∧ Below w.heap.size w w' := by
  have hB0 : Below w.heap.size w ((w.alloc (.cells #[.int .i64 V, .slice a0 fs.length cap] 29)).alloc (.cells #[.int .i64 0, .int .i64 0] 63)) := ((Below.refl _ w).alloc (Nat.le_refl _) _).alloc (by simp) _
  have Hx := hid (hx.later hB0 hB0.size)
  have HC := hid hC
  have Hf := hid hC.range63
  have Hm := hid hm
  have Hlen := hid (freeP_len fs fs)
  obtain ⟨L, hL⟩ : ∃ L, L = freeP fs fs := ⟨_, rfl⟩
  have HL := hid hL
  obtain ⟨F, hF⟩ : ∃ F, F = fpOf fs f := ⟨_, rfl⟩
  have HF := hid hF
  rw [← hL] at Hlen
  rw [← hF]
  clear hC hL hF hm
  go_enter Try.func61, Try.ntmps61
  go_wp2_with fail
  refine (fh_yes V a0 cap fs _ _ Hx.out hl HC.out Hm.out).mono ?_
  rintro e w1 ⟨b, rfl, _, _, hB1⟩
  have q0 : w1.heap[w.heap.size]? = some (.cells #[.int .i64 V, .slice a0 fs.length cap] 29 (0, 0)) := (hB1.block _ (by simp <;> omega)).trans ((Below.heap_alloc _ _ _ (by simp)).trans (heap_alloc_new _ _))
  have r1 : w1.heap[w.heap.size + 1]? = some (.cells #[.int .i64 0, .int .i64 0] 63 (0, 0)) := (hB1.block _ (by simp <;> omega)).trans (new2 _ _ _)
  have hB01 := hB0.trans (hB1.mono (by simp <;> omega))
  have HB01 := hid hB01
  have hx1 := hid (hx.later hB01 hB01.size)
  obtain ⟨k0, k1, _, _⟩ := two_of q0
  have R1 := hid r1
  clear hB0 hB01 hB1 q0 r1
  go_wp2_with fail
  refine (freeF_any V a0 cap fs _ hx1.out hl Hf.out).mono ?_
  rintro e w2 ⟨c, rfl, hcs, hch, hB2⟩
  have HB2 := hid (HB01.out.trans (hB2.mono HB01.out.size))
  have Hcs := hid (Nat.le_trans HB01.out.size hcs)
  have Hne := hid (show w.heap.size + 1 ≠ c by have := lt_get R1.out; omega)
  have R2 := hid ((hB2.block _ (lt_get R1.out)).trans R1.out)
  rw [← HL.out] at hch
  have Hch := hid hch
  clear hB2 hch hcs k0 k1 R1
  go_wp2_with fail
  go_loopg [] L.length (fun gg wr => ∃ pre R : List (Int × Int), L = pre ++ R ∧ R.length = gg ∧ Hid (∀ p ∈ pre, p.1 ≠ f) ∧ ChanP wr c R fs.length true ∧ wr.heap[w.heap.size + 1]? = some (.cells #[.int .i64 0, .int .i64 0] 63 (0, 0)) ∧ Below w.heap.size w wr)
  case atStart => exact ⟨[], L, rfl, rfl, hid (by simp), Hch.out, R2.out, HB2.out⟩
  case round =>
    obtain ⟨pre, R, hLR, hR, Hpre, ⟨s, r, hch⟩, hres, hB⟩ := hrel
    have HR := hid hres
    clear hres
    cases gk with
    | zero =>
      obtain rfl : R = [] := by cases R with | nil => rfl | cons _ _ => simp at hR
      have Hz : Hid (F = (0, 0)) := hid (by
        rw [HF.out]
        unfold fpOf
        by_cases h0 : freeG fs f.toNat = 0
        · rw [if_pos h0]
        · have : (f, freeG fs f.toNat) ∈ freeP fs fs := mem_freeP.2 ⟨Hm.out, h0, rfl⟩
          rw [← HL.out, hLR, List.append_nil] at this
          exact absurd rfl (Hpre.out _ this))
      iterate 1 (first | go_values | go_skip | go_guarded | go_step | go_upon | go_back)
      have hz := zero_pair wr
      have hu := Try.underlying65
      refine region_to ?_
      refine opsTo_shut (i := 0) (o := _) (c := c) (z := .agg #[.int .i64 0, .int .i64 0]) (ok := true) rfl rfl (by simp [go_sem, rcase, execOp, Act.eval, hz, run_underlying hu]) hch ?_
      refine opsTo_val (i := 1) (o := _) (v := .bool false) (w' := wr) rfl rfl rfl ?_
      refine opsTo_nil ?_
      simp only [got]
      clear hch hz hu hLR hR
      obtain ⟨c0, c1, f0, f1⟩ := two_of HR.out
      go_simp
      go_wp2
      (try simp only [Exit.inBlock, Exit.then])
      have R3 := two_of (two_set HR.out (.int .i64 0) (.int .i64 0))
      refine done_pr (p := 4) (u := 5) (c := .int .i64 0) (by kernel_rfl) rfl rfl R3.1 R3.2.1 rfl ⟨by rw [Hz.out], ?_⟩
      exact (hB.setCell (p := ⟨w.heap.size + 1, 0, none⟩) (by show w.heap.size ≤ w.heap.size + 1; omega) _).setCell (p := ⟨w.heap.size + 1, 1, none⟩) (by show w.heap.size ≤ w.heap.size + 1; omega) _
    | succ g =>
      obtain ⟨x, y, M, rfl⟩ : ∃ x y M, R = (x, y) :: M := by
        cases R with
        | nil => simp at hR
        | cons p M => exact ⟨p.1, p.2, M, rfl⟩
      iterate 1 (first | go_values | go_skip | go_guarded | go_step | go_upon | go_back)
      have hz := zero_pair wr
      have hu := Try.underlying65
      refine region_to ?_
      refine opsTo_recv (i := 0) (o := _) (c := c) (z := .agg #[.int .i64 0, .int .i64 0]) (ok := true) rfl rfl (by simp [go_sem, rcase, execOp, Act.eval, hz, run_underlying hu]) hch (by simp) ?_
      rw [chan_get]
      obtain ⟨wz, hwz, hch2, hB2, hkeep⟩ := chan_some hch Hcs.out hB
      have HR2 := hid (hkeep _ _ Hne.out HR.out)
      rw [← hwz]
      refine opsTo_val (i := 1) (o := _) (v := .bool true) (w' := wz) rfl rfl rfl ?_
      refine opsTo_nil ?_
      simp only [got, pairV]
      have Hch2 := hid hch2
      have HB3 := hid hB2
      have hsz := hB2.size
      have hzl : w.heap.size + 1 < wz.heap.size := lt_get HR2.out
      have HLR := hid hLR
      have HRM : Hid (M.length = g) := hid (by simpa using hR)
      obtain ⟨c0, c1, f0, f1⟩ := two_of ((Below.heap_alloc wz (.cells #[.int .i64 x, .int .i64 y] 63) _ (lt_get HR2.out)).trans HR2.out)
      clear hch hz hu hwz hB hch2 hB2 hLR hR hkeep
      go_simp
      by_cases hxf : x = f
      · subst hxf
        have hd : (x == x) = true := by simp
        have Hz : Hid (F = (x, y)) := hid (by
          have hmem : ((x, y) : Int × Int) ∈ freeP fs fs := by rw [← HL.out, HLR.out]; simp
          have := mem_freeP.1 hmem
          rw [HF.out]
          unfold fpOf
          have h3 : y = freeG fs x.toNat := this.2.2
          rw [if_neg this.2.1, ← h3])
        obtain ⟨_, _, g0, g1⟩ := two_of ((Below.heap_alloc (wz.setCell ⟨w.heap.size + 1, 0, none⟩ (.int .i64 x)) (.cells #[.int .i64 x, .int .i64 y] 63) (w.heap.size + 1) (by simp [World.setCell]; omega)).trans (two_set1 HR2.out (.int .i64 x)))
        go_wp2
        (try simp only [Exit.inBlock, Exit.then])
        have R3 := two_of ((Below.heap_alloc ((wz.setCell ⟨w.heap.size + 1, 0, none⟩ (.int .i64 x)).setCell ⟨w.heap.size + 1, 1, none⟩ (.int .i64 y)) (.cells #[.int .i64 x, .int .i64 y] 63) (w.heap.size + 1) (by simp [World.setCell]; omega)).trans (two_set HR2.out (.int .i64 x) (.int .i64 y)))
        refine done_pr (p := 4) (u := 5) (c := .int .i64 0) (by kernel_rfl) rfl rfl R3.1 R3.2.1 rfl ⟨by rw [Hz.out], ?_⟩
        exact ((HB3.out.setCell (p := ⟨w.heap.size + 1, 0, none⟩) (by show w.heap.size ≤ w.heap.size + 1; omega) _).setCell (p := ⟨w.heap.size + 1, 1, none⟩) (by show w.heap.size ≤ w.heap.size + 1; omega) _).alloc (by simp [World.setCell]; omega) _
      · have hd : (x == f) = false := by simpa using hxf
        have Hxf := hid hxf
        clear hxf
        go_wp2
        go_roundg g
        case measure => omega
        case rel =>
          refine ⟨pre ++ [(x, y)], M, by rw [HLR.out]; simp, by have := HRM.out; omega, hid ?_, Hch2.out.alloc _, (Below.heap_alloc wz _ _ (lt_get HR2.out)).trans HR2.out, HB3.out.alloc hsz _⟩
          intro p hp
          rcases List.mem_append.1 hp with h | h
          · exact Hpre.out p h
          · simp at h; subst h; exact Hxf.out

set_option maxRecDepth 100000 in
set_option maxHeartbeats 2000000 in
theorem fpo_no (V : Int) (a0 : Option Addr) (cap : Nat) (fs : List Int) (f : Int) (w : World) (hx : SlI w w.heap.size a0 fs) (hl : fs.length ≤ 1048576) (hC : IsC V fs) (wd : (Lit.int .i64 f).wf = true) (hm : f ∉ fs) :
    Calls Try.prog 61 #[.agg #[.int .i64 V, .slice a0 fs.length cap], .int .i64 f] w fun e w' => e = .returned (.tuple #[.agg #[.int .i64 0, .int .i64 0], .int .i64 2]) ∧ Below w.heap.size w w' := by
  have hB0 : Below w.heap.size w ((w.alloc (.cells #[.int .i64 V, .slice a0 fs.length cap] 29)).alloc (.cells #[.int .i64 0, .int .i64 0] 63)) := ((Below.refl _ w).alloc (Nat.le_refl _) _).alloc (by simp) _
  have Hx := hid (hx.later hB0 hB0.size)
  go_enter Try.func61, Try.ntmps61
  go_wp2_with fail
  refine (fh_no V a0 cap fs _ _ Hx.out hl hC wd hm).mono ?_
  rintro e w1 ⟨rfl, hB1⟩
  have r1 : w1.heap[w.heap.size + 1]? = some (.cells #[.int .i64 0, .int .i64 0] 63 (0, 0)) := (hB1.block _ (by simp <;> omega)).trans (new2 _ _ _)
  have hB01 := hB0.trans (hB1.mono (by simp <;> omega))
  obtain ⟨c0, c1, f0, f1⟩ := two_of r1
  have R1 := hid r1
  clear r1
  go_wp2_with fail
  (try simp only [Exit.inBlock, Exit.then])
  have R3 := two_of (two_set R1.out (.int .i64 0) (.int .i64 0))
  refine done_pr (p := 4) (u := 5) (c := .int .i64 2) (by kernel_rfl) rfl rfl R3.1 R3.2.1 rfl ⟨rfl, ?_⟩
  exact (hB01.setCell (p := ⟨w.heap.size + 1, 0, none⟩) (by show w.heap.size ≤ w.heap.size + 1; omega) _).setCell (p := ⟨w.heap.size + 1, 1, none⟩) (by show w.heap.size ≤ w.heap.size + 1; omega) _

set_option maxRecDepth 100000 in
set_option maxHeartbeats 2000000 in
theorem fpo_bad (V : Int) (a0 : Option Addr) (cap : Nat) (fs : List Int) (f : Int) (w : World) (hx : SlI w w.heap.size a0 fs) (hl : fs.length ≤ 1048576) (hC : ¬ IsC V fs) :
    Calls Try.prog 61 #[.agg #[.int .i64 V, .slice a0 fs.length cap], .int .i64 f] w fun e w' => e = .returned (.tuple #[.agg #[.int .i64 0, .int .i64 0], .int .i64 1]) ∧ Below w.heap.size w w' := by
  have hB0 : Below w.heap.size w ((w.alloc (.cells #[.int .i64 V, .slice a0 fs.length cap] 29)).alloc (.cells #[.int .i64 0, .int .i64 0] 63)) := ((Below.refl _ w).alloc (Nat.le_refl _) _).alloc (by simp) _
  have Hx := hid (hx.later hB0 hB0.size)
  go_enter Try.func61, Try.ntmps61
  go_wp2_with fail
  refine (fh_bad V a0 cap fs _ _ Hx.out hl hC).mono ?_
  rintro e w1 ⟨rfl, hB1⟩
  have r1 : w1.heap[w.heap.size + 1]? = some (.cells #[.int .i64 0, .int .i64 0] 63 (0, 0)) := (hB1.block _ (by simp <;> omega)).trans (new2 _ _ _)
  have hB01 := hB0.trans (hB1.mono (by simp <;> omega))
  obtain ⟨c0, c1, f0, f1⟩ := two_of r1
  have R1 := hid r1
  clear r1
  go_wp2_with fail
  (try simp only [Exit.inBlock, Exit.then])
  have R3 := two_of (two_set R1.out (.int .i64 0) (.int .i64 0))
  refine done_pr (p := 4) (u := 5) (c := .int .i64 1) (by kernel_rfl) rfl rfl R3.1 R3.2.1 rfl ⟨rfl, ?_⟩
  exact (hB01.setCell (p := ⟨w.heap.size + 1, 0, none⟩) (by show w.heap.size ≤ w.heap.size + 1; omega) _).setCell (p := ⟨w.heap.size + 1, 1, none⟩) (by show w.heap.size ≤ w.heap.size + 1; omega) _

end Go.Proofs.Ytojnpacklcajpaa

/-! Collapses: mathematics. -/
namespace Go.Proofs.Ytojnpacklcajpaa
open Go.RowKit

/-- The first free pair whose low face is in no list. -/
def firstP (fs ls : List Int) : Option (Int × Int) := (freeP fs fs).find? fun p => decide (p.1 ∉ ls)
/-- One collapse. -/
def colStep (ls : List Int) (s : List Int × List (Int × Int)) : List Int × List (Int × Int) := match firstP s.1 ls with
  | none => s
  | some p => (takeL s.1 p.1, s.2 ++ [p])
def colN (ls : List Int) : Nat → List Int × List (Int × Int) → List Int × List (Int × Int)
  | 0, s => s
  | n + 1, s => colStep ls (colN ls n s)
/-- What the collapse leads to, and its pairs. -/
def colE (ls fs : List Int) : List Int × List (Int × Int) := colN ls fs.length (fs, [])

theorem firstP_some {fs ls : List Int} {p : Int × Int} (h : firstP fs ls = some p) : p.1 ∈ fs ∧ freeG fs p.1.toNat ≠ 0 ∧ p.2 = freeG fs p.1.toNat ∧ p.1 ∉ ls := by
  have h1 := List.mem_of_find?_eq_some h
  have h2 := List.find?_some h
  have h3 := mem_freeP.1 h1
  exact ⟨h3.1, h3.2.1, h3.2.2, by simpa using h2⟩

theorem take_free {fs : List Int} {p : Int × Int} (hr : ∀ x ∈ fs, 1 ≤ x ∧ x ≤ 63) (h1 : p.1 ∈ fs) (h2 : freeG fs p.1.toNat ≠ 0) (h3 : p.2 = freeG fs p.1.toNat) : takeL fs p.1 = fs.filter fun x => decide (x ∉ [p.1, p.2]) := by
  have hu := freeG_mem h2
  rw [← h3] at hu
  unfold takeL
  refine List.filter_congr fun x hx => ?_
  rw [decide_eq_decide]
  have hxr := hr x hx
  have hpr := hr _ h1
  constructor
  · intro h hm
    simp at hm
    rcases hm with e | e
    · exact h (by rw [e]; exact Nat.and_self _)
    · have : x ∈ upF fs p.1.toNat := by rw [hu, e]; simp
      exact h (upF_mem this).2.1
  · intro h hx2
    simp at h
    have hxu : x ∈ upF fs p.1.toNat := by
      unfold upF
      refine List.mem_filter.2 ⟨hx, ?_⟩
      simp only [decide_eq_true_eq]
      exact ⟨hx2, fun e => h.1 (by omega)⟩
    rw [hu] at hxu
    simp at hxu
    exact h.2 hxu

theorem take_lt {fs : List Int} {x : Int} (hx : x ∈ fs) : (takeL fs x).length < fs.length := by
  unfold takeL
  refine List.length_filter_lt_length_iff_exists.2 ⟨x, hx, ?_⟩
  simp

theorem colStep_none {ls : List Int} {s : List Int × List (Int × Int)} (h : firstP s.1 ls = none) : colStep ls s = s := by unfold colStep; rw [h]
theorem colStep_some {ls : List Int} {s : List Int × List (Int × Int)} {p : Int × Int} (h : firstP s.1 ls = some p) : colStep ls s = (takeL s.1 p.1, s.2 ++ [p]) := by unfold colStep; rw [h]
theorem colN_stop {ls : List Int} {s : List Int × List (Int × Int)} {n : Nat} (h : firstP (colN ls n s).1 ls = none) : ∀ m, n ≤ m → colN ls m s = colN ls n s := by
  intro m hm
  induction m with
  | zero => have : n = 0 := by omega
            subst this; rfl
  | succ m ih =>
    by_cases hn : n = m + 1
    · rw [hn]
    · have := ih (by omega)
      show colStep ls (colN ls m s) = _
      rw [this, colStep_none h]

/-- A collapse under way. -/
structure ColAt (ls fs : List Int) (n : Nat) (cur : List Int) (P : List (Int × Int)) : Prop where
  eq : colN ls n (fs, []) = (cur, P)
  len : n + cur.length ≤ fs.length
  plen : P.length ≤ n
  sub : cur.Sublist fs

theorem ColAt.start (ls fs : List Int) : ColAt ls fs 0 fs [] := ⟨rfl, by omega, by simp, List.Sublist.refl _⟩
theorem ColAt.step {ls fs : List Int} {n : Nat} {cur : List Int} {P : List (Int × Int)} {p : Int × Int} (h : ColAt ls fs n cur P) (hp : firstP cur ls = some p) : ColAt ls fs (n + 1) (takeL cur p.1) (P ++ [p]) := by
  have hl := take_lt (firstP_some hp).1
  have h1 := h.len
  have h2 := h.plen
  refine ⟨?_, by omega, by simp; omega, List.Sublist.trans (by unfold takeL; exact List.filter_sublist) h.sub⟩
  show colStep ls (colN ls n (fs, [])) = _
  rw [h.eq]
  exact colStep_some hp
theorem ColAt.stop {ls fs : List Int} {n : Nat} {cur : List Int} {P : List (Int × Int)} (h : ColAt ls fs n cur P) (hp : firstP cur ls = none) : colE ls fs = (cur, P) := by
  unfold colE
  rw [colN_stop (n := n) (by rw [h.eq]; exact hp) fs.length (by have := h.len; omega)]
  exact h.eq

theorem colE_len (ls fs : List Int) : (colE ls fs).1.length ≤ fs.length ∧ (colE ls fs).2.length ≤ fs.length ∧ (colE ls fs).1.Sublist fs := by
  have key : ∀ n, n ≤ fs.length → ((colN ls n (fs, [])).1.length ≤ fs.length ∧ (colN ls n (fs, [])).2.length ≤ n ∧ (colN ls n (fs, [])).1.Sublist fs) := by
    intro n
    induction n with
    | zero => intro _; exact ⟨Nat.le_refl _, by simp [colN], List.Sublist.refl _⟩
    | succ n ih =>
      intro hn
      obtain ⟨h1, h2, h3⟩ := ih (by omega)
      show (colStep ls (colN ls n (fs, []))).1.length ≤ _ ∧ (colStep ls (colN ls n (fs, []))).2.length ≤ _ ∧ (colStep ls (colN ls n (fs, []))).1.Sublist _
      cases hp : firstP (colN ls n (fs, [])).1 ls with
      | none => rw [colStep_none hp]; exact ⟨h1, by omega, h3⟩
      | some p =>
        rw [colStep_some hp]
        have hs : (takeL (colN ls n (fs, [])).1 p.1).Sublist fs := List.Sublist.trans (by unfold takeL; exact List.filter_sublist) h3
        exact ⟨hs.length_le, by simp; omega, hs⟩
  have := key fs.length (Nat.le_refl _)
  exact ⟨this.1, this.2.1, this.2.2⟩

/-- Lists in which the low face of a free pair lies if its high one does. -/
def LowIn (fs ls : List Int) : Prop := ∀ p ∈ freeP fs fs, p.2 ∈ ls → p.1 ∈ ls
theorem lowIn_nil (fs : List Int) : LowIn fs [] := fun _ _ h => by simp at h
theorem lowIn_of {V : Int} {fs ls : List Int} (hr : ∀ x ∈ fs, 1 ≤ x ∧ x ≤ 63) (hC : IsC V ls) : LowIn fs ls := by
  intro p hp h2
  have h := mem_freeP.1 hp
  have hu := freeG_mem h.2.1
  have hm : p.2 ∈ upF fs p.1.toNat := by rw [hu, h.2.2]; simp
  have hb := (upF_mem hm).2.1
  have hpr := hr _ h.1
  have := hC.closed p.2 h2 p.1.toNat (by omega) (by rw [Nat.and_comm]; exact hb)
  rwa [show ((p.1.toNat : Nat) : Int) = p.1 by omega] at this
/-- With such lists it is one whether both faces or the low one alone are asked for. -/
theorem firstP_both {fs ls : List Int} (h : LowIn fs ls) : (freeP fs fs).find? (fun p => decide (p.1 ∉ ls) && decide (p.2 ∉ ls)) = firstP fs ls := by
  unfold firstP
  have key : ∀ L : List (Int × Int), (∀ p ∈ L, p.2 ∈ ls → p.1 ∈ ls) → L.find? (fun p => decide (p.1 ∉ ls) && decide (p.2 ∉ ls)) = L.find? fun p => decide (p.1 ∉ ls) := by
    intro L
    induction L with
    | nil => intro _; rfl
    | cons q L ih =>
      intro hL
      rw [List.find?_cons, List.find?_cons, ih (fun p hp => hL p (by simp [hp]))]
      have hq := hL q (by simp)
      by_cases h1 : q.1 ∈ ls
      · simp [h1]
      · have h2 : q.2 ∉ ls := fun e => h1 (hq e)
        simp [h1, h2]
  exact key _ h

end Go.Proofs.Ytojnpacklcajpaa

/-! The program's firstFreePair. -/
namespace Go.Proofs.Ytojnpacklcajpaa
open Go.RowKit Go.Conc

/-- A pair, or the zero one. -/
def prO (o : Option (Int × Int)) : Int × Int := o.getD (0, 0)

theorem firstP_pre {fs ls : List Int} {pre R : List (Int × Int)} (hL : freeP fs fs = pre ++ R) (hpre : ∀ p ∈ pre, p.1 ∈ ls) : firstP fs ls = R.find? fun p => decide (p.1 ∉ ls) := by
  unfold firstP
  rw [hL, List.find?_append]
  have : pre.find? (fun p => decide (p.1 ∉ ls)) = none := List.find?_eq_none.2 (fun p hp => by simpa using hpre p hp)
  rw [this]
  rfl

set_option maxRecDepth 100000 in
set_option maxHeartbeats 4000000 in
theorem first_any (V : Int) (a0 : Option Addr) (cap : Nat) (fs : List Int) (V1 : Int) (a1 : Option Addr) (cap1 : Nat) (ls : List Int) (w : World) (hx : SlI w w.heap.size a0 fs) (hx1 : SlI w w.heap.size a1 ls) (hl : fs.length ≤ 1048576) (hl1 : ls.length ≤ 1048576) (hf : ∀ x ∈ fs, 1 ≤ x ∧ x ≤ 63) :
    Calls Try.prog 98 #[.agg #[.int .i64 V, .slice a0 fs.length cap], .agg #[.int .i64 V1, .slice a1 ls.length cap1]] w fun e w' => e = .returned (.agg #[.int .i64 (prO (firstP fs ls)).1, .int .i64 (prO (firstP fs ls)).2]) ∧ Below w.heap.size w w' := by
  have hB0 : Below w.heap.size w (((w.alloc (.cells #[.int .i64 V, .slice a0 fs.length cap] 29)).alloc (.cells #[.int .i64 V1, .slice a1 ls.length cap1] 29)).alloc (.cells #[.int .i64 0, .int .i64 0] 63)) := (((Below.refl _ w).alloc (Nat.le_refl _) _).alloc (by simp) _).alloc (by simp <;> omega) _
  obtain ⟨W, hW⟩ : ∃ W, W = ((w.alloc (.cells #[.int .i64 V, .slice a0 fs.length cap] 29)).alloc (.cells #[.int .i64 V1, .slice a1 ls.length cap1] 29)).alloc (.cells #[.int .i64 0, .int .i64 0] 63) := ⟨_, rfl⟩
  have k0 : W.cell? ⟨w.heap.size, 0, none⟩ = some (.int .i64 V) := by rw [hW]; simp [go_sem]
  have k1 : W.cell? ⟨w.heap.size, 1, none⟩ = some (.slice a0 fs.length cap) := by rw [hW]; simp [go_sem]
  have q1 : W.heap[w.heap.size + 1]? = some (.cells #[.int .i64 V1, .slice a1 ls.length cap1] 29 (0, 0)) := by rw [hW, Below.heap_alloc _ _ _ (by simp)]; exact new2 _ _ _
  have r1 : W.heap[w.heap.size + 1 + 1]? = some (.cells #[.int .i64 0, .int .i64 0] 63 (0, 0)) := by rw [hW]; exact new3 _ _ _ _
  have HBW : Hid (Below w.heap.size w W) := hid (by rw [hW]; exact hB0)
  have Q1 := hid q1
  have R1 := hid r1
  have HW := hid hW
  have Hx0 := hid hx
  have Hx1 := hid hx1
  have Hf := hid hf
  have Hlen := hid (freeP_len fs fs)
  obtain ⟨L, hL⟩ : ∃ L, L = freeP fs fs := ⟨_, rfl⟩
  have HL := hid hL
  obtain ⟨F, hF⟩ : ∃ F, F = prO (firstP fs ls) := ⟨_, rfl⟩
  have HF := hid hF
  rw [← hL] at Hlen
  rw [← hF]
  clear hL hF hf hx hx1 hB0 q1 r1 hW
  go_enter Try.func98, Try.ntmps98
  go_wp2_with fail
  rw [← HW.out]
  refine (freeF_any V a0 cap fs _ (Hx0.out.later HBW.out HBW.out.size) hl Hf.out).mono ?_
  rintro e w2 ⟨c, rfl, hcs, hch, hB2⟩
  have HB2 := hid (HBW.out.trans (hB2.mono HBW.out.size))
  have Hcs := hid (Nat.le_trans HBW.out.size hcs)
  have Hne := hid (show w.heap.size + 1 + 1 < c by have := lt_get R1.out; omega)
  have R2 := hid ((hB2.block _ (lt_get R1.out)).trans R1.out)
  have Q2 := hid ((hB2.block _ (lt_get Q1.out)).trans Q1.out)
  rw [← HL.out] at hch
  have Hch := hid hch
  clear hB2 hch hcs k0 k1 R1 Q1
  go_wp2_with fail
  go_loopg [] L.length (fun gg wr => ∃ pre R : List (Int × Int), L = pre ++ R ∧ R.length = gg ∧ Hid (∀ p ∈ pre, p.1 ∈ ls) ∧ ChanP wr c R fs.length true ∧ wr.heap[w.heap.size + 1]? = some (.cells #[.int .i64 V1, .slice a1 ls.length cap1] 29 (0, 0)) ∧ wr.heap[w.heap.size + 1 + 1]? = some (.cells #[.int .i64 0, .int .i64 0] 63 (0, 0)) ∧ Below w.heap.size w wr)
  case atStart => exact ⟨[], L, rfl, rfl, hid (by simp), Hch.out, Q2.out, R2.out, HB2.out⟩
  case round =>
    obtain ⟨pre, R, hLR, hR, Hpre, ⟨s, r, hch⟩, hbox, hres, hB⟩ := hrel
    have HR := hid hres
    have HQ := hid hbox
    clear hres hbox
    cases gk with
    | zero =>
      obtain rfl : R = [] := by cases R with | nil => rfl | cons _ _ => simp at hR
      have Hz : Hid (F = (0, 0)) := hid (by rw [HF.out, firstP_pre (pre := pre) (R := []) (by rw [← HL.out, hLR]) Hpre.out]; rfl)
      iterate 1 (first | go_values | go_skip | go_guarded | go_step | go_upon | go_back)
      have hz := zero_pair wr
      have hu := Try.underlying65
      refine region_to ?_
      refine opsTo_shut (i := 0) (o := _) (c := c) (z := .agg #[.int .i64 0, .int .i64 0]) (ok := true) rfl rfl (by simp [go_sem, rcase, execOp, Act.eval, hz, run_underlying hu]) hch ?_
      refine opsTo_val (i := 1) (o := _) (v := .bool false) (w' := wr) rfl rfl rfl ?_
      refine opsTo_nil ?_
      simp only [got]
      clear hch hz hu hLR hR
      obtain ⟨c0, c1, f0, f1⟩ := two_of HR.out
      go_simp
      go_wp2
      (try simp only [Exit.inBlock, Exit.then])
      have R3 := two_of (two_set HR.out (.int .i64 0) (.int .i64 0))
      refine done_pr1 (p := 4) (by kernel_rfl) rfl rfl R3.1 R3.2.1 ⟨by rw [Hz.out], ?_⟩
      exact (hB.setCell (p := ⟨w.heap.size + 1 + 1, 0, none⟩) (by show w.heap.size ≤ w.heap.size + 1 + 1; omega) _).setCell (p := ⟨w.heap.size + 1 + 1, 1, none⟩) (by show w.heap.size ≤ w.heap.size + 1 + 1; omega) _
    | succ g =>
      obtain ⟨x, y, M, rfl⟩ : ∃ x y M, R = (x, y) :: M := by
        cases R with
        | nil => simp at hR
        | cons p M => exact ⟨p.1, p.2, M, rfl⟩
      iterate 1 (first | go_values | go_skip | go_guarded | go_step | go_upon | go_back)
      have hz := zero_pair wr
      have hu := Try.underlying65
      refine region_to ?_
      refine opsTo_recv (i := 0) (o := _) (c := c) (z := .agg #[.int .i64 0, .int .i64 0]) (ok := true) rfl rfl (by simp [go_sem, rcase, execOp, Act.eval, hz, run_underlying hu]) hch (by simp) ?_
      rw [chan_get]
      obtain ⟨wz, hwz, hch2, hB2, hkeep⟩ := chan_some hch Hcs.out hB
      have HR2 := hid (hkeep _ _ (by have := Hne.out; omega) HR.out)
      have HQ2 := hid (hkeep _ _ (by have := Hne.out; omega) HQ.out)
      rw [← hwz]
      refine opsTo_val (i := 1) (o := _) (v := .bool true) (w' := wz) rfl rfl rfl ?_
      refine opsTo_nil ?_
      simp only [got, pairV]
      have Hch2 := hid hch2
      have HB3 := hid hB2
      have hsz := hB2.size
      have hzl : w.heap.size + 1 + 1 < wz.heap.size := lt_get HR2.out
      have HLR := hid hLR
      have HRM : Hid (M.length = g) := hid (by simpa using hR)
      have HR3 := hid ((Below.heap_alloc wz (.cells #[.int .i64 x, .int .i64 y] 63) _ (lt_get HR2.out)).trans HR2.out)
      obtain ⟨c0, c1, f0, f1⟩ := two_of HR3.out
      obtain ⟨d0, d1, _, _⟩ := two_of ((Below.heap_alloc wz (.cells #[.int .i64 x, .int .i64 y] 63) _ (lt_get HQ2.out)).trans HQ2.out)
      have HBz := hid (HB3.out.alloc hsz (.cells #[.int .i64 x, .int .i64 y] 63))
      have HC := hid (contains_any a1 cap1 ls x (wz.alloc (.cells #[.int .i64 x, .int .i64 y] 63)) (Hx1.out.later HBz.out HBz.out.size) hl1)
      clear hch hz hu hwz hB hch2 hB2 hLR hR hkeep
      go_simp
      by_cases hxl : x ∈ ls
      · have HC2 := hid (by have := HC.out; rw [decide_eq_true hxl] at this; exact this)
        have Hxl := hid hxl
        clear hxl HC
        go_wp2_with (go_at_call 94; refine HC2.out.mono ?_; rintro e u ⟨rfl, rfl⟩)
        go_roundg g
        case measure => omega
        case rel =>
          refine ⟨pre ++ [(x, y)], M, by rw [HLR.out]; simp, by have := HRM.out; omega, hid ?_, Hch2.out.alloc _, (Below.heap_alloc wz _ _ (lt_get HQ2.out)).trans HQ2.out, HR3.out, HBz.out⟩
          intro p hp
          rcases List.mem_append.1 hp with h | h
          · exact Hpre.out p h
          · simp at h; subst h; exact Hxl.out
      · have HC2 := hid (by have := HC.out; rw [decide_eq_false hxl] at this; exact this)
        have Hz : Hid (F = (x, y)) := hid (by
          rw [HF.out, firstP_pre (pre := pre) (R := (x, y) :: M) (by rw [← HL.out, HLR.out]) Hpre.out, List.find?_cons]
          simp [hxl, prO])
        clear hxl HC
        obtain ⟨_, _, g0, g1⟩ := two_of ((Below.heap_alloc (wz.setCell ⟨w.heap.size + 1 + 1, 0, none⟩ (.int .i64 x)) (.cells #[.int .i64 x, .int .i64 y] 63) (w.heap.size + 1 + 1) (by simp [World.setCell]; omega)).trans (two_set1 HR2.out (.int .i64 x)))
        go_wp2_with (go_at_call 94; refine HC2.out.mono ?_; rintro e u ⟨rfl, rfl⟩)
        (try simp only [Exit.inBlock, Exit.then])
        have R3 := two_of ((Below.heap_alloc ((wz.setCell ⟨w.heap.size + 1 + 1, 0, none⟩ (.int .i64 x)).setCell ⟨w.heap.size + 1 + 1, 1, none⟩ (.int .i64 y)) (.cells #[.int .i64 x, .int .i64 y] 63) (w.heap.size + 1 + 1) (by simp [World.setCell]; omega)).trans (two_set HR2.out (.int .i64 x) (.int .i64 y)))
        refine done_pr1 (p := 4) (by kernel_rfl) rfl rfl R3.1 R3.2.1 ⟨by rw [Hz.out], ?_⟩
        exact ((HB3.out.setCell (p := ⟨w.heap.size + 1 + 1, 0, none⟩) (by show w.heap.size ≤ w.heap.size + 1 + 1; omega) _).setCell (p := ⟨w.heap.size + 1 + 1, 1, none⟩) (by show w.heap.size ≤ w.heap.size + 1 + 1; omega) _).alloc (by simp [World.setCell]; omega) _

end Go.Proofs.Ytojnpacklcajpaa

/-! l05Free: the model's test whether a face is free. -/
namespace Go.Proofs.Ytojnpacklcajpaa
open Go.RowKit

theorem frOf_one {us : List Int} (h : us.length ≤ 1) : us.headD 0 = frOf us := by
  match us, h with
  | [], _ => rfl
  | [a], _ => rfl

set_option maxRecDepth 100000 in
set_option maxHeartbeats 4000000 in
theorem free_any (V : Int) (a0 : Option Addr) (cap : Nat) (fs : List Int) (f : Nat) (w : World) (hx : SlI w w.heap.size a0 fs) (hl : fs.length ≤ 1048576) (hf : ∀ x ∈ fs, 1 ≤ x ∧ x ≤ 63) (hf64 : f < 64) :
    Calls Try.prog 54 #[.agg #[.int .i64 V, .slice a0 fs.length cap], .int .i64 (f : Int)] w fun e w' => e = .returned (.int .i64 (freeG fs f)) ∧ Below w.heap.size w w' := by
  obtain ⟨W, hW⟩ : ∃ W, W = w.alloc (.cells #[.int .i64 V, .slice a0 fs.length cap] 29) := ⟨_, rfl⟩
  have hB0 : Below w.heap.size w W := by rw [hW]; exact (Below.refl _ w).alloc (Nat.le_refl _) _
  have q0 : W.heap[w.heap.size]? = some (.cells #[.int .i64 V, .slice a0 fs.length cap] 29 (0, 0)) := by rw [hW]; exact heap_alloc_new _ _
  obtain ⟨k0, k1, _, _⟩ := two_of q0
  have HW := hid hW
  have HB0 := hid hB0
  have Hx0 := hid hx
  have Hf := hid hf
  clear hW hB0 q0 hx hf
  go_enter Try.func54, Try.ntmps54
  go_wp2
  rw [← HW.out]
  go_loopg [5, 6] fs.length (fun g p i wx => ∃ j : Nat, j + g = fs.length ∧ p = .int .i64 ((upF (fs.take j) f).headD 0) ∧ i = .int .i64 j ∧ Hid ((upF (fs.take j) f).length ≤ 1) ∧ wx = W)
  case atStart => exact ⟨0, by omega, rfl, rfl, hid (by simp [upF]), rfl⟩
  case round =>
    obtain ⟨j, hjg, rfl, rfl, Hu, rfl⟩ := hrel
    cases gk with
    | zero =>
      obtain rfl : j = fs.length := by omega
      rw [List.take_of_length_le (Nat.le_refl _)] at Hu ⊢
      rw [frOf_one Hu.out]
      go_wp2
      go_ret
      exact ⟨rfl, HB0.out⟩
    | succ g =>
      have hjl : j < fs.length := by omega
      obtain ⟨b, off, hb, rfl, hc⟩ : ∃ b off, b < w.heap.size ∧ a0 = some ⟨b, off, none⟩ ∧ ∀ i, i < fs.length → w.cell? ⟨b, off + i, none⟩ = some (.int .i64 (fs[i]?.getD 0)) := by
        rcases Hx0.out with rfl | h
        · simp at hjl
        · exact h
      obtain ⟨y, hy⟩ : ∃ y : Nat, (y : Int) = fs[j]?.getD 0 := ⟨(fs[j]?.getD 0).toNat, by have := Hf.out _ (getD_mem hjl); omega⟩
      have hyr := Hf.out _ (getD_mem hjl)
      rw [← hy] at hyr
      have hy64 : y < 64 := by omega
      have hcj : wr.cell? ⟨b, off + j, none⟩ = some (.int .i64 (y : Int)) := by rw [hy]; exact (HB0.out.cell (p := ⟨b, off + j, none⟩) hb).trans (hc j hjl)
      have hj0 : (0 : Int) ≤ (j : Int) := by omega
      have hj1 : (j : Int) < (fs.length : Int) := by omega
      have Hs : Hid (∀ c, decide (y &&& f = f ∧ y ≠ f) = c → upF (fs.take (j + 1)) f = upF (fs.take j) f ++ (if c then [(y : Int)] else [])) := hid (fun c hc => by rw [hy]; exact upF_snoc hjl c (by rw [← hy, Int.toNat_natCast]; exact hc))
      have hand := and_int64 hy64 hf64
      have hr0 := Hf.out
      clear hc hy
      by_cases hyx : y &&& f = f
      · have hd2 : (((y &&& f : Nat) : Int) == (f : Int)) = true := by simp [hyx]
        by_cases hyf : y = f
        · subst hyf
          have hd : ((y : Int) != (y : Int)) = false := by simp
          have HS := hid (Hs.out false (by simp))
          clear hr0 hyx
          go_wp2
          go_roundg g
          case measure => omega
          case rel => exact ⟨j + 1, by omega, by rw [HS.out]; simp, by go_num, by rw [HS.out]; simpa using Hu, rfl⟩
        · have hd : ((y : Int) != (f : Int)) = true := by simp; omega
          have HS := hid (Hs.out true (by simp [hyx, hyf]))
          rcases hu : upF (fs.take j) f with _ | ⟨g0, _ | ⟨g1, l⟩⟩
          · rw [hu] at HS
            have hh : (([] : List Int).headD 0) = 0 := rfl
            clear hr0 hyx hyf hu
            simp only [List.headD]
            go_wp2
            go_roundg g
            case measure => omega
            case rel => exact ⟨j + 1, by omega, by rw [HS.out]; rfl, by go_num, by rw [HS.out]; exact hid (by simp), rfl⟩
          · have hgm := hr0 g0 (List.take_subset _ _ (upF_mem (f := f) (fs := fs.take j) (by rw [hu]; simp)).1)
            rw [hu] at HS
            have hg0 : (0 : Int) < g0 := by omega
            have Hz : Hid (freeG fs f = 0) := hid (freeG_two (j := j + 1) (by rw [HS.out]; simp))
            clear hr0 hyx hyf hu hgm
            simp only [List.headD]
            go_wp2
            go_ret
            exact ⟨ret_int Hz.out.symm, HB0.out⟩
          · have := Hu.out; rw [hu] at this; simp at this
      · have hd2 : (((y &&& f : Nat) : Int) == (f : Int)) = false := by simp; omega
        have HS := hid (Hs.out false (by simp [hyx]))
        clear hr0 hyx
        go_wp2
        go_roundg g
        case measure => omega
        case rel => exact ⟨j + 1, by omega, by rw [HS.out]; simp, by go_num, by rw [HS.out]; simpa using Hu, rfl⟩

end Go.Proofs.Ytojnpacklcajpaa

/-! The program's withoutFaces. -/
namespace Go.Proofs.Ytojnpacklcajpaa
open Go.RowKit

theorem woWanted (ts : List Int) (at0 : Option Addr) (ct : Nat) (bd : Nat) (x : Int) (w : World) (hd : w.cell? ⟨bd, 0, none⟩ = some (.slice at0 ts.length ct)) (hx : SlI w w.heap.size at0 ts) (hl : ts.length ≤ 1048576) :
    Calls Try.prog 93 #[.int .i64 x, .pointer (some ⟨bd, 0, none⟩)] w fun e w' => e = .returned (.bool (decide (x ∉ ts))) ∧ Below w.heap.size w w' := by
  have Hc := hid (contains_any at0 ct ts x w hx hl)
  clear hx
  go_enter Try.func93, Try.ntmps93
  go_wp2_with fail
  refine Hc.out.mono ?_
  rintro e w1 ⟨rfl, rfl⟩
  go_wp2_with fail
  go_ret
  exact ⟨ret_bool (by simp), Below.refl _ _⟩

set_option maxHeartbeats 1000000 in
theorem wo_any (V : Int) (a : Option Addr) (cap : Nat) (fs : List Int) (at0 : Option Addr) (ct : Nat) (ts : List Int) (w : World) (hx : SlI w w.heap.size a fs) (ht : SlI w w.heap.size at0 ts) (hl : fs.length ≤ 1048576) (hlt : ts.length ≤ 1048576) :
    Calls Try.prog 62 #[.agg #[.int .i64 V, .slice a fs.length cap], .slice at0 ts.length ct] w fun e w' => ∃ v, e = .returned (.agg #[.int .i64 V, v]) ∧ Res w w' v (fs.filter fun x => decide (x ∉ ts)) := by
  have hB0 : Below w.heap.size w (((w.alloc (.cells #[.int .i64 V, .slice a fs.length cap] 29)).alloc (.cells #[.slice at0 ts.length ct] 22)).alloc (.cells #[.int .i64 0, .slice none 0 0] 29)) := (((Below.refl _ w).alloc (Nat.le_refl _) _).alloc (by simp) _).alloc (by simp <;> omega) _
  have Hx := hid (hx.later hB0 (by simp <;> omega))
  have Ht := hid (ht.later hB0 (by simp <;> omega))
  obtain ⟨W, hW⟩ : ∃ W, W = ((w.alloc (.cells #[.int .i64 V, .slice a fs.length cap] 29)).alloc (.cells #[.slice at0 ts.length ct] 22)).alloc (.cells #[.int .i64 0, .slice none 0 0] 29) := ⟨_, rfl⟩
  have k0 : W.cell? ⟨w.heap.size, 0, none⟩ = some (.int .i64 V) := by rw [hW]; simp [go_sem]
  have k1 : W.cell? ⟨w.heap.size, 1, none⟩ = some (.slice a fs.length cap) := by rw [hW]; simp [go_sem]
  have k2 : W.cell? ⟨w.heap.size + 1, 0, none⟩ = some (.slice at0 ts.length ct) := by rw [hW]; simp [go_sem]
  have r1 : W.heap[w.heap.size + 1 + 1]? = some (.cells #[.int .i64 0, .slice none 0 0] 29 (0, 0)) := by rw [hW]; exact new3 _ _ _ _
  obtain ⟨ys, hys⟩ : ∃ ys, ys = fs.filter fun x => decide (x ∉ ts) := ⟨_, rfl⟩
  rw [← hys]
  have Hys := hid hys
  have hBW : Hid (Below w.heap.size w W) := hid (by rw [hW]; exact hB0)
  have R1 := hid r1
  have hWs : Hid (W.heap.size = w.heap.size + 3) := hid (by rw [hW]; simp)
  have HW := hid hW
  have HxW : Hid (SlI W W.heap.size a fs) := hid (by rw [HW.out]; exact Hx.out)
  have HtW : Hid (SlI W W.heap.size at0 ts) := hid (by rw [HW.out]; exact Ht.out)
  clear hB0 r1 hW hx ht hys
  go_enter Try.func62, Try.ntmps62
  go_wp2_with fail
  rw [← HW.out]
  refine (cw_any V a cap fs _ 93 _ ys ?_).mono ?_
  · intro W' hW1
    rw [Hys.out]
    refine fw_any V a cap fs W' 93 _ (fun x => decide (x ∉ ts)) (HxW.out.later hW1 hW1.size) hl (enters_of Try.func93 (by kernel_rfl) rfl) ?_
    intro W2 x hW2 hxm
    have hlt2 : w.heap.size + 1 < W.heap.size := by have := hWs.out; omega
    exact woWanted ts at0 ct _ x W2 ((hW2.cell (p := ⟨w.heap.size + 1, 0, none⟩) (Nat.lt_of_lt_of_le hlt2 hW1.size)).trans ((hW1.cell (p := ⟨w.heap.size + 1, 0, none⟩) hlt2).trans k2)) ((HtW.out.later hW1 hW1.size).later hW2 hW2.size) hlt
  rintro e w2 ⟨v, rfl, hr⟩
  obtain ⟨_, av, cv, rfl, _⟩ := ownsRow_slI hr.1
  have r2 := (hr.2.block _ (lt_get R1.out)).trans R1.out
  obtain ⟨c0, c1, f0, f1⟩ := two_of r2
  have R2 := hid r2
  clear r2
  go_wp2_with fail
  (try simp only [Exit.inBlock, Exit.then])
  have R3 := two_of (two_set R2.out (.int .i64 V) (.slice av ys.length cv))
  refine done_cx1 (p := 4) (by kernel_rfl) rfl rfl R3.1 R3.2.1 ⟨_, rfl, ?_⟩
  exact (hr.later hBW.out).set2 R2.out (by decide) (by omega) _ _

end Go.Proofs.Ytojnpacklcajpaa

/-! IsFreeFace and CollapsePair, the program's and the model's. -/
namespace Go.Proofs.Ytojnpacklcajpaa
open Go.RowKit

/-- What IsFreeFace hands back. -/
noncomputable def isFreeR (V : Int) (fs : List Int) (f : Int) : Bool × Int := if isCB V fs then (if f ∈ fs then (decide (freeG fs f.toNat ≠ 0), 0) else (false, 2)) else (false, 1)
/-- What CollapsePair hands back. -/
noncomputable def colPairR (V : Int) (fs : List Int) (f : Int) : Int × List Int × Int := if isCB V fs then (if f ∈ fs then (if freeG fs f.toNat = 0 then (0, [], 5) else (V, takeL fs f, 0)) else (0, [], 2)) else (0, [], 1)
theorem colPairR_len (V : Int) (fs : List Int) (f : Int) (h : fs.length ≤ 1048576) : (colPairR V fs f).2.1.length ≤ 1048576 := by
  unfold colPairR takeL
  split
  · split
    · split
      · simp
      · exact Nat.le_trans (List.length_filter_le _ _) h
    · simp
  · simp

theorem freeFace_mono {P : Program} {f : FuncId} {args : Array Value} {w : World} {r : Bool × Int} {b : Bool} {c : Int} (hr : r = (b, c))
    (h : Calls P f args w fun e w' => e = .returned (.tuple #[.bool b, .int .i64 c]) ∧ Below w.heap.size w w') : Calls P f args w fun e w' => e = .returned (.tuple #[.bool r.1, .int .i64 r.2]) ∧ Below w.heap.size w w' := by
  subst hr; exact h

set_option maxRecDepth 100000 in
set_option maxHeartbeats 2000000 in
theorem specIsFreeFace (V : Int) (a0 : Option Addr) (cap : Nat) (fs : List Int) (d : Int) (w : World) (hx : SlI w w.heap.size a0 fs) (hl : fs.length ≤ 1048576) (_wd : (Lit.int .i64 d).wf = true) :
    Calls Try.prog 44 #[.agg #[.int .i64 V, .slice a0 fs.length cap], .int .i64 d] w fun e w' => e = .returned (.tuple #[.bool (isFreeR V fs d).1, .int .i64 (isFreeR V fs d).2]) ∧ Below w.heap.size w w' := by
  have hB0 : Below w.heap.size w (w.alloc (.cells #[.int .i64 V, .slice a0 fs.length cap] 29)) := (Below.refl _ w).alloc (Nat.le_refl _) _
  have Hx := hid (hx.later hB0 hB0.size)
  by_cases hC : IsC V fs
  · by_cases hd : d ∈ fs
    · refine freeFace_mono (show isFreeR V fs d = (decide (freeG fs d.toNat ≠ 0), 0) by unfold isFreeR; rw [isCB_true hC, if_pos rfl, if_pos hd]) ?_
      have HC := hid hC
      have Hd := hid hd
      have Hf := hid hC.range63
      have hdr := hC.range63 d hd
      obtain ⟨f, rfl⟩ : ∃ f : Nat, d = f := ⟨d.toNat, by omega⟩
      have hf64 : f < 64 := by omega
      rw [Int.toNat_natCast]
      have hgr := freeG_rng (f := f) Hf.out
      clear hC hd
      go_enter Try.func44, Try.ntmps44
      go_wp2_with fail
      refine (face_yes V a0 cap fs _ _ Hx.out hl HC.out Hd.out).mono ?_
      rintro e w1 ⟨rfl, hB1⟩
      have k0 : w1.cell? ⟨w.heap.size, 0, none⟩ = some (.int .i64 V) := (hB1.cell (p := ⟨w.heap.size, 0, none⟩) (by simp <;> omega)).trans (by simp [go_sem])
      have k1 : w1.cell? ⟨w.heap.size, 1, none⟩ = some (.slice a0 fs.length cap) := (hB1.cell (p := ⟨w.heap.size, 1, none⟩) (by simp <;> omega)).trans (by simp [go_sem])
      have hB01 := hB0.trans (hB1.mono (by simp <;> omega))
      have hx1 := hid (hx.later hB01 hB01.size)
      go_wp2_with fail
      refine (free_any V a0 cap fs f _ hx1.out hl Hf.out hf64).mono ?_
      rintro e w2 ⟨rfl, hB2⟩
      have HB := hid (hB01.trans (hB2.mono hB01.size))
      have He : Hid (decide (0 < freeG fs f) = decide (freeG fs f ≠ 0)) := hid (by rw [decide_eq_decide]; omega)
      go_wp2_with fail
      go_ret2
      exact ⟨by rw [← He.out]; rfl, HB.out⟩
    · refine freeFace_mono (show isFreeR V fs d = (false, 2) by unfold isFreeR; rw [isCB_true hC, if_pos rfl, if_neg hd]) ?_
      go_enter Try.func44, Try.ntmps44
      go_wp2_with fail
      refine (face_no V a0 cap fs _ _ Hx.out hl hC hd).mono ?_
      rintro e w1 ⟨rfl, hB1⟩
      go_wp2_with fail
      go_ret2
      exact ⟨rfl, hB0.trans (hB1.mono (by simp <;> omega))⟩
  · refine freeFace_mono (show isFreeR V fs d = (false, 1) by unfold isFreeR; rw [isCB_false hC, if_neg (by simp)]) ?_
    go_enter Try.func44, Try.ntmps44
    go_wp2_with fail
    refine (face_bad V a0 cap fs _ _ Hx.out hl hC).mono ?_
    rintro e w1 ⟨rfl, hB1⟩
    go_wp2_with fail
    go_ret2
    exact ⟨rfl, hB0.trans (hB1.mono (by simp <;> omega))⟩

/-- freePairOf in one. -/
noncomputable def fpR (V : Int) (fs : List Int) (f : Int) : (Int × Int) × Int := if isCB V fs then (if f ∈ fs then (fpOf fs f, 0) else ((0, 0), 2)) else ((0, 0), 1)
theorem fpo_any (V : Int) (a0 : Option Addr) (cap : Nat) (fs : List Int) (f : Int) (w : World) (hx : SlI w w.heap.size a0 fs) (hl : fs.length ≤ 1048576) (wd : (Lit.int .i64 f).wf = true) :
    Calls Try.prog 61 #[.agg #[.int .i64 V, .slice a0 fs.length cap], .int .i64 f] w fun e w' => e = .returned (.tuple #[.agg #[.int .i64 (fpR V fs f).1.1, .int .i64 (fpR V fs f).1.2], .int .i64 (fpR V fs f).2]) ∧ Below w.heap.size w w' := by
  unfold fpR
  by_cases hC : IsC V fs
  · rw [isCB_true hC, if_pos rfl]
    by_cases hd : f ∈ fs
    · rw [if_pos hd]; exact fpo_yes V a0 cap fs f w hx hl hC hd
    · rw [if_neg hd]; exact fpo_no V a0 cap fs f w hx hl hC wd hd
  · rw [isCB_false hC, if_neg (by simp)]; exact fpo_bad V a0 cap fs f w hx hl hC

theorem fpR_free (V : Int) (fs : List Int) (f : Int) : isFreeR V fs f = ((!((fpR V fs f).1.1 == 0) || !((fpR V fs f).1.2 == 0)), (fpR V fs f).2) := by
  unfold isFreeR fpR
  by_cases hC : IsC V fs
  · rw [isCB_true hC, if_pos rfl, if_pos rfl]
    have hr := hC.range63
    by_cases hd : f ∈ fs
    · rw [if_pos hd, if_pos hd]
      have := hr f hd
      unfold fpOf
      by_cases h0 : freeG fs f.toNat = 0
      · rw [if_pos h0]; simp [h0]
      · rw [if_neg h0]; simp [h0]
    · rw [if_neg hd, if_neg hd]; simp
  · rw [isCB_false hC, if_neg (by simp), if_neg (by simp)]; simp

set_option maxRecDepth 100000 in
set_option maxHeartbeats 2000000 in
theorem implIsFreeFace (V : Int) (a0 : Option Addr) (cap : Nat) (fs : List Int) (d : Int) (w : World) (hx : SlI w w.heap.size a0 fs) (hl : fs.length ≤ 1048576) (wd : (Lit.int .i64 d).wf = true) :
    Calls Try.prog 45 #[.agg #[.int .i64 V, .slice a0 fs.length cap], .int .i64 d] w fun e w' => e = .returned (.tuple #[.bool (isFreeR V fs d).1, .int .i64 (isFreeR V fs d).2]) ∧ Below w.heap.size w w' := by
  have hB0 : Below w.heap.size w (w.alloc (.cells #[.int .i64 V, .slice a0 fs.length cap] 29)) := (Below.refl _ w).alloc (Nat.le_refl _) _
  have Hx := hid (hx.later hB0 hB0.size)
  refine freeFace_mono (fpR_free V fs d) ?_
  obtain ⟨R, hR⟩ : ∃ R, R = fpR V fs d := ⟨_, rfl⟩
  have Hc := fpo_any V a0 cap fs d _ Hx.out hl wd
  rw [← hR] at Hc ⊢
  obtain ⟨⟨x, y⟩, c⟩ := R
  simp only at Hc ⊢
  have HC := hid Hc
  clear Hc hR
  have Heq := eq_pairF
  go_enter Try.func45, Try.ntmps45
  go_wp2_with fail
  refine HC.out.mono ?_
  rintro e w1 ⟨rfl, hB1⟩
  have HB := hid (hB0.trans (hB1.mono hB0.size))
  go_wp2_with fail
  go_ret2
  exact ⟨rfl, HB.out.alloc HB.out.size _⟩

theorem cp_mono {P : Program} {f : FuncId} {args : Array Value} {w : World} {r : Int × List Int × Int} {U : Int} {xs : List Int} {c : Int} (hr : r = (U, xs, c))
    (h : Calls P f args w fun e w' => ∃ v, e = .returned (.tuple #[.agg #[.int .i64 U, v], .int .i64 c]) ∧ Res w w' v xs) : Calls P f args w fun e w' => ∃ v, e = .returned (.tuple #[.agg #[.int .i64 r.1, v], .int .i64 r.2.2]) ∧ Res w w' v r.2.1 := by
  subst hr; exact h

set_option maxRecDepth 100000 in
set_option maxHeartbeats 2000000 in
theorem specCollapsePair (V : Int) (a : Option Addr) (cap : Nat) (fs : List Int) (d : Int) (_wd : (Lit.int .i64 d).wf = true) (w : World) (hx : SlI w w.heap.size a fs) (hl : fs.length ≤ 1048576) :
    Calls Try.prog 24 #[.agg #[.int .i64 V, .slice a fs.length cap], .int .i64 d] w fun e w' => ∃ v, e = .returned (.tuple #[.agg #[.int .i64 (colPairR V fs d).1, v], .int .i64 (colPairR V fs d).2.2]) ∧ Res w w' v (colPairR V fs d).2.1 := by
  have hB0 : Below w.heap.size w ((w.alloc (.cells #[.int .i64 V, .slice a fs.length cap] 29)).alloc (.cells #[.int .i64 0, .slice none 0 0] 29)) := ((Below.refl _ w).alloc (Nat.le_refl _) _).alloc (by simp) _
  have Hx := hid (hx.later hB0 (by simp <;> omega))
  by_cases hC : IsC V fs
  · have Hf := hid hC.range63
    have HC := hid hC
    by_cases hd : d ∈ fs
    · have hdr := hC.range63 d hd
      obtain ⟨s, rfl⟩ : ∃ s : Nat, d = s := ⟨d.toNat, by omega⟩
      have hs : s < 64 := by omega
      have Hd := hid hd
      by_cases hg : freeG fs s = 0
      · refine cp_mono (show colPairR V fs (s : Int) = (0, [], 5) by unfold colPairR; rw [isCB_true hC, if_pos rfl, if_pos hd, Int.toNat_natCast, if_pos hg]) ?_
        clear hC hd
        go_enter Try.func24, Try.ntmps24
        go_wp2_with fail
        refine (face_yes V a cap fs _ _ Hx.out hl HC.out Hd.out).mono ?_
        rintro e w1 ⟨rfl, hB1⟩
        have k0 : w1.cell? ⟨w.heap.size, 0, none⟩ = some (.int .i64 V) := (hB1.cell (p := ⟨w.heap.size, 0, none⟩) (by simp <;> omega)).trans (by simp [go_sem])
        have k1 : w1.cell? ⟨w.heap.size, 1, none⟩ = some (.slice a fs.length cap) := (hB1.cell (p := ⟨w.heap.size, 1, none⟩) (by simp <;> omega)).trans (by simp [go_sem])
        have r1 : w1.heap[w.heap.size + 1]? = some (.cells #[.int .i64 0, .slice none 0 0] 29 (0, 0)) := (hB1.block _ (by simp <;> omega)).trans (new2 _ _ _)
        have hB01 := hB0.trans (hB1.mono (by simp <;> omega))
        have hx1 := hid (hx.later hB01 hB01.size)
        have R1 := hid r1
        clear r1
        go_wp2_with fail
        refine (free_any V a cap fs s _ hx1.out hl Hf.out hs).mono ?_
        rintro e w2 ⟨rfl, hB2⟩
        rw [hg]
        have r2 := (hB2.block _ (lt_get R1.out)).trans R1.out
        obtain ⟨c0, c1, f0, f1⟩ := two_of r2
        have R2 := hid r2
        clear r2
        go_wp2_with fail
        (try simp only [Exit.inBlock, Exit.then])
        have R3 := two_of (two_set R2.out (.int .i64 0) (.slice none 0 0))
        refine done_cx (p := 4) (u := 5) (by kernel_rfl) rfl rfl R3.1 R3.2.1 rfl ⟨_, rfl, ?_⟩
        exact (res_nil _ _ (hB01.trans (hB2.mono hB01.size))).set2 R2.out (by decide) (by omega) _ _
      · refine cp_mono (show colPairR V fs (s : Int) = (V, takeL fs s, 0) by unfold colPairR; rw [isCB_true hC, if_pos rfl, if_pos hd, Int.toNat_natCast, if_neg hg]) ?_
        have hg0 : (freeG fs s == 0) = false := by simpa using hg
        clear hC hd
        go_enter Try.func24, Try.ntmps24
        go_wp2_with fail
        refine (face_yes V a cap fs _ _ Hx.out hl HC.out Hd.out).mono ?_
        rintro e w1 ⟨rfl, hB1⟩
        have k0 : w1.cell? ⟨w.heap.size, 0, none⟩ = some (.int .i64 V) := (hB1.cell (p := ⟨w.heap.size, 0, none⟩) (by simp <;> omega)).trans (by simp [go_sem])
        have k1 : w1.cell? ⟨w.heap.size, 1, none⟩ = some (.slice a fs.length cap) := (hB1.cell (p := ⟨w.heap.size, 1, none⟩) (by simp <;> omega)).trans (by simp [go_sem])
        have r1 : w1.heap[w.heap.size + 1]? = some (.cells #[.int .i64 0, .slice none 0 0] 29 (0, 0)) := (hB1.block _ (by simp <;> omega)).trans (new2 _ _ _)
        have q1 : w1.heap[w.heap.size]? = some (.cells #[.int .i64 V, .slice a fs.length cap] 29 (0, 0)) := (hB1.block _ (by simp <;> omega)).trans ((Below.heap_alloc _ _ _ (by simp)).trans (heap_alloc_new _ _))
        have hB01 := hB0.trans (hB1.mono (by simp <;> omega))
        have hx1 := hid (hx.later hB01 hB01.size)
        have R1 := hid r1
        have Q1 := hid q1
        clear r1 q1
        go_wp2_with fail
        refine (free_any V a cap fs s _ hx1.out hl Hf.out hs).mono ?_
        rintro e w2 ⟨rfl, hB2⟩
        have r2 := (hB2.block _ (lt_get R1.out)).trans R1.out
        obtain ⟨c0, c1, f0, f1⟩ := two_of r2
        obtain ⟨j0, j1, _, _⟩ := two_of ((hB2.block _ (lt_get Q1.out)).trans Q1.out)
        have hB02 := hB01.trans (hB2.mono hB01.size)
        have hx2 := hid (hx.later hB02 hB02.size)
        have R2 := hid r2
        clear r2 k0 k1
        go_wp2_with fail
        refine (take_any V a cap fs s _ hx2.out hl Hf.out hs).mono ?_
        rintro e w3 ⟨v, rfl, hr⟩
        obtain ⟨_, av, cv, rfl, _⟩ := ownsRow_slI hr.1
        have r3 := (hr.2.block _ (lt_get R2.out)).trans R2.out
        obtain ⟨d0, d1, e0, e1⟩ := two_of r3
        have R3 := hid r3
        clear r3
        go_wp2_with fail
        (try simp only [Exit.inBlock, Exit.then])
        have R4 := two_of (two_set R3.out (.int .i64 V) (.slice av (takeL fs s).length cv))
        refine done_cx (p := 4) (u := 5) (by kernel_rfl) rfl rfl R4.1 R4.2.1 rfl ⟨_, rfl, ?_⟩
        exact (hr.later hB02).set2 R3.out (by decide) (by omega) _ _
    · refine cp_mono (show colPairR V fs d = (0, [], 2) by unfold colPairR; rw [isCB_true hC, if_pos rfl, if_neg hd]) ?_
      clear hC
      go_enter Try.func24, Try.ntmps24
      go_wp2_with fail
      refine (face_no V a cap fs _ _ Hx.out hl HC.out hd).mono ?_
      rintro e w1 ⟨rfl, hB1⟩
      have r1 : w1.heap[w.heap.size + 1]? = some (.cells #[.int .i64 0, .slice none 0 0] 29 (0, 0)) := (hB1.block _ (by simp <;> omega)).trans (new2 _ _ _)
      have hB01 := hB0.trans (hB1.mono (by simp <;> omega))
      obtain ⟨c0, c1, f0, f1⟩ := two_of r1
      have R1 := hid r1
      clear r1
      go_wp2_with fail
      (try simp only [Exit.inBlock, Exit.then])
      have R3 := two_of (two_set R1.out (.int .i64 0) (.slice none 0 0))
      refine done_cx (p := 4) (u := 5) (by kernel_rfl) rfl rfl R3.1 R3.2.1 rfl ⟨_, rfl, ?_⟩
      exact (res_nil _ _ hB01).set2 R1.out (by decide) (by omega) _ _
  · refine cp_mono (show colPairR V fs d = (0, [], 1) by unfold colPairR; rw [isCB_false hC, if_neg (by simp)]) ?_
    go_enter Try.func24, Try.ntmps24
    go_wp2_with fail
    refine (face_bad V a cap fs _ _ Hx.out hl hC).mono ?_
    rintro e w1 ⟨rfl, hB1⟩
    have r1 : w1.heap[w.heap.size + 1]? = some (.cells #[.int .i64 0, .slice none 0 0] 29 (0, 0)) := (hB1.block _ (by simp <;> omega)).trans (new2 _ _ _)
    have hB01 := hB0.trans (hB1.mono (by simp <;> omega))
    obtain ⟨c0, c1, f0, f1⟩ := two_of r1
    have R1 := hid r1
    clear r1
    go_wp2_with fail
    (try simp only [Exit.inBlock, Exit.then])
    have R3 := two_of (two_set R1.out (.int .i64 0) (.slice none 0 0))
    refine done_cx (p := 4) (u := 5) (by kernel_rfl) rfl rfl R3.1 R3.2.1 rfl ⟨_, rfl, ?_⟩
    exact (res_nil _ _ hB01).set2 R1.out (by decide) (by omega) _ _

end Go.Proofs.Ytojnpacklcajpaa

/-! CollapsePair, the program's. -/
namespace Go.Proofs.Ytojnpacklcajpaa
open Go.RowKit

/-- A pair in a block of its own, read as two integers. -/
theorem pair_slI {w : World} {b : Nat} {x y : Int} (h : w.heap[b]? = some (.cells #[.int .i64 x, .int .i64 y] 63 (0, 0))) : SlI w w.heap.size (some ⟨b, 0, none⟩) [x, y] := by
  refine .inr ⟨b, 0, lt_get h, rfl, fun i hi => ?_⟩
  have : i = 0 ∨ i = 1 := by simp at hi; omega
  rcases this with rfl | rfl <;> simp [World.cell?, h]

set_option maxRecDepth 100000 in
set_option maxHeartbeats 4000000 in
theorem implCollapsePair (V : Int) (a : Option Addr) (cap : Nat) (fs : List Int) (d : Int) (wd : (Lit.int .i64 d).wf = true) (w : World) (hx : SlI w w.heap.size a fs) (hl : fs.length ≤ 1048576) :
    Calls Try.prog 25 #[.agg #[.int .i64 V, .slice a fs.length cap], .int .i64 d] w fun e w' => ∃ v, e = .returned (.tuple #[.agg #[.int .i64 (colPairR V fs d).1, v], .int .i64 (colPairR V fs d).2.2]) ∧ Res w w' v (colPairR V fs d).2.1 := by
  have hB0 : Below w.heap.size w ((w.alloc (.cells #[.int .i64 V, .slice a fs.length cap] 29)).alloc (.cells #[.int .i64 0, .slice none 0 0] 29)) := ((Below.refl _ w).alloc (Nat.le_refl _) _).alloc (by simp) _
  have Hx := hid (hx.later hB0 (by simp <;> omega))
  have Heq := eq_pairF
  by_cases hC : IsC V fs
  · have Hf := hid hC.range63
    have HC := hid hC
    by_cases hd : d ∈ fs
    · have hdr := hC.range63 d hd
      have Hd := hid hd
      by_cases hg : freeG fs d.toNat = 0
      · refine cp_mono (show colPairR V fs d = (0, [], 5) by unfold colPairR; rw [isCB_true hC, if_pos rfl, if_pos hd, if_pos hg]) ?_
        have Hc := fpo_yes V a cap fs d _ Hx.out hl hC hd
        unfold fpOf at Hc
        rw [if_pos hg] at Hc
        have HCC := hid Hc
        clear hC hd Hc
        go_enter Try.func25, Try.ntmps25
        go_wp2_with fail
        refine HCC.out.mono ?_
        rintro e w1 ⟨rfl, hB1⟩
        have r1 : w1.heap[w.heap.size + 1]? = some (.cells #[.int .i64 0, .slice none 0 0] 29 (0, 0)) := (hB1.block _ (by simp <;> omega)).trans (new2 _ _ _)
        have hB01 := hB0.trans (hB1.mono (by simp <;> omega))
        have R1 := hid ((Below.heap_alloc w1 (.cells #[.int .i64 0, .int .i64 0] 63) _ (lt_get r1)).trans r1)
        obtain ⟨c0, c1, f0, f1⟩ := two_of R1.out
        clear r1
        go_wp2_with fail
        (try simp only [Exit.inBlock, Exit.then])
        have R3 := two_of (two_set R1.out (.int .i64 0) (.slice none 0 0))
        refine done_cx (p := 4) (u := 5) (by kernel_rfl) rfl rfl R3.1 R3.2.1 rfl ⟨_, rfl, ?_⟩
        exact (res_nil _ _ (hB01.alloc hB01.size _)).set2 R1.out (by decide) (by omega) _ _
      · refine cp_mono (show colPairR V fs d = (V, takeL fs d, 0) by unfold colPairR; rw [isCB_true hC, if_pos rfl, if_pos hd, if_neg hg]) ?_
        have Hc := fpo_yes V a cap fs d _ Hx.out hl hC hd
        unfold fpOf at Hc
        rw [if_neg hg] at Hc
        have HT := hid (take_free (p := (d, freeG fs d.toNat)) hC.range63 hd hg rfl)
        obtain ⟨G, hG⟩ : ∃ G, G = freeG fs d.toNat := ⟨_, rfl⟩
        obtain ⟨ys, hys⟩ : ∃ ys, ys = takeL fs d := ⟨_, rfl⟩
        rw [← hG] at Hc HT
        simp only at HT
        rw [← hys] at HT
        rw [← hys]
        have HCC := hid Hc
        have hd0 : (d == 0) = false := by simp; omega
        clear hC hd Hc hG hys hg
        go_enter Try.func25, Try.ntmps25
        go_wp2_with fail
        refine HCC.out.mono ?_
        rintro e w1 ⟨rfl, hB1⟩
        have q1 : w1.heap[w.heap.size]? = some (.cells #[.int .i64 V, .slice a fs.length cap] 29 (0, 0)) := (hB1.block _ (by simp <;> omega)).trans ((Below.heap_alloc _ _ _ (by simp)).trans (heap_alloc_new _ _))
        have r1 : w1.heap[w.heap.size + 1]? = some (.cells #[.int .i64 0, .slice none 0 0] 29 (0, 0)) := (hB1.block _ (by simp <;> omega)).trans (new2 _ _ _)
        have hB01 := hB0.trans (hB1.mono (by simp <;> omega))
        obtain ⟨w2, hw2⟩ : ∃ w2, w2 = w1.alloc (.cells #[.int .i64 d, .int .i64 G] 63) := ⟨_, rfl⟩
        have R1 := hid (show w2.heap[w.heap.size + 1]? = some (.cells #[.int .i64 0, .slice none 0 0] 29 (0, 0)) by rw [hw2]; exact (Below.heap_alloc w1 (.cells #[.int .i64 d, .int .i64 G] 63) _ (lt_get r1)).trans r1)
        have Q1 := hid (show w2.heap[w.heap.size]? = some (.cells #[.int .i64 V, .slice a fs.length cap] 29 (0, 0)) by rw [hw2]; exact (Below.heap_alloc w1 (.cells #[.int .i64 d, .int .i64 G] 63) _ (lt_get q1)).trans q1)
        have P1 := hid (show w2.heap[w1.heap.size]? = some (.cells #[.int .i64 d, .int .i64 G] 63 (0, 0)) by rw [hw2]; exact heap_alloc_new _ _)
        have HB2 := hid (show Below w.heap.size w w2 by rw [hw2]; exact hB01.alloc hB01.size _)
        obtain ⟨k0, k1, _, _⟩ := two_of Q1.out
        obtain ⟨p0, p1, _, _⟩ := two_of P1.out
        have HW2 := hid hw2
        clear r1 q1 hw2
        go_wp2_with fail
        rw [← HW2.out]
        have HxW := hid (hx.later HB2.out HB2.out.size)
        have HpW := hid (pair_slI P1.out)
        go_region_with (go_at_call 62; refine (wo_any V a cap fs _ 2 [d, G] w2.drew HxW.out HpW.out hl (by simp)).mono ?_; rintro e w3 ⟨v, rfl, hr⟩; rw [← HT.out] at hr; obtain ⟨_, av, cv, rfl, _⟩ := ownsRow_slI hr.1; have hrb : Below w2.heap.size w2 w3 := ⟨hr.2.os, hr.2.tape, hr.2.output, hr.2.size, hr.2.block⟩; have r3 := (hrb.block _ (lt_get R1.out)).trans R1.out; obtain ⟨c0, c1, f0, f1⟩ := two_of r3; have k03 := (hrb.cell (p := ⟨w.heap.size, 0, none⟩) (lt_get Q1.out)).trans k0; have k13 := (hrb.cell (p := ⟨w.heap.size, 1, none⟩) (lt_get Q1.out)).trans k1; have R3 := hid r3; clear r3 hrb)
        all_goals
          go_wp2_with fail
          (try simp only [Exit.inBlock, Exit.then])
          have R4 := two_of (two_set R3.out (.int .i64 V) (.slice av ys.length cv))
          refine done_cx (p := 4) (u := 5) (by kernel_rfl) rfl rfl R4.1 R4.2.1 rfl ⟨_, rfl, ?_⟩
          exact (Res.later hr ⟨HB2.out.os, HB2.out.tape, HB2.out.output, HB2.out.size, HB2.out.block⟩).set2 R3.out (by decide) (by omega) _ _
    · refine cp_mono (show colPairR V fs d = (0, [], 2) by unfold colPairR; rw [isCB_true hC, if_pos rfl, if_neg hd]) ?_
      have HCC := hid (fpo_no V a cap fs d _ Hx.out hl hC wd hd)
      clear hC
      go_enter Try.func25, Try.ntmps25
      go_wp2_with fail
      refine HCC.out.mono ?_
      rintro e w1 ⟨rfl, hB1⟩
      have r1 : w1.heap[w.heap.size + 1]? = some (.cells #[.int .i64 0, .slice none 0 0] 29 (0, 0)) := (hB1.block _ (by simp <;> omega)).trans (new2 _ _ _)
      have hB01 := hB0.trans (hB1.mono (by simp <;> omega))
      have R1 := hid ((Below.heap_alloc w1 (.cells #[.int .i64 0, .int .i64 0] 63) _ (lt_get r1)).trans r1)
      obtain ⟨c0, c1, f0, f1⟩ := two_of R1.out
      clear r1
      go_wp2_with fail
      (try simp only [Exit.inBlock, Exit.then])
      have R3 := two_of (two_set R1.out (.int .i64 0) (.slice none 0 0))
      refine done_cx (p := 4) (u := 5) (by kernel_rfl) rfl rfl R3.1 R3.2.1 rfl ⟨_, rfl, ?_⟩
      exact (res_nil _ _ (hB01.alloc hB01.size _)).set2 R1.out (by decide) (by omega) _ _
  · refine cp_mono (show colPairR V fs d = (0, [], 1) by unfold colPairR; rw [isCB_false hC, if_neg (by simp)]) ?_
    have HCC := hid (fpo_bad V a cap fs d _ Hx.out hl hC)
    go_enter Try.func25, Try.ntmps25
    go_wp2_with fail
    refine HCC.out.mono ?_
    rintro e w1 ⟨rfl, hB1⟩
    have r1 : w1.heap[w.heap.size + 1]? = some (.cells #[.int .i64 0, .slice none 0 0] 29 (0, 0)) := (hB1.block _ (by simp <;> omega)).trans (new2 _ _ _)
    have hB01 := hB0.trans (hB1.mono (by simp <;> omega))
    have R1 := hid ((Below.heap_alloc w1 (.cells #[.int .i64 0, .int .i64 0] 63) _ (lt_get r1)).trans r1)
    obtain ⟨c0, c1, f0, f1⟩ := two_of R1.out
    clear r1
    go_wp2_with fail
    (try simp only [Exit.inBlock, Exit.then])
    have R3 := two_of (two_set R1.out (.int .i64 0) (.slice none 0 0))
    refine done_cx (p := 4) (u := 5) (by kernel_rfl) rfl rfl R3.1 R3.2.1 rfl ⟨_, rfl, ?_⟩
    exact (res_nil _ _ (hB01.alloc hB01.size _)).set2 R1.out (by decide) (by omega) _ _

end Go.Proofs.Ytojnpacklcajpaa

/-! The program's collapse. -/
namespace Go.Proofs.Ytojnpacklcajpaa
open Go.RowKit

theorem row_ne_any {W : World} {base e t s : Nat} {v : Value} {n : Nat} {xs : List Value} {b : Nat} {cs : Array Value} {fz : Nat × Nat} (h : W.ownsRow base e s v n xs) (hb : W.heap[b]? = some (.cells cs t fz)) (hne : e ≠ t) : some b ≠ v.ownBlock := by
  intro he
  rcases h.2 with ⟨rfl, _⟩ | ⟨g, cap, cur, rfl, _, hg, _⟩
  · simp [Value.ownBlock] at he
  · simp [Value.ownBlock] at he
    subst he
    rw [hb] at hg
    simp at hg
    exact hne hg.2.1.symm

/-- The world of a collapse that is under way. -/
structure ColW (w W : World) (V1 : Int) (s1 : Value) (NL : Nat) (V : Int) (cur : List Int) (av : Option Addr) (cv : Nat) (P : List (Int × Int)) (q : Value) : Prop where
  lbox : W.heap[w.heap.size + 1]? = some (.cells #[.int .i64 V1, s1] 29 (0, 0))
  res : W.heap[w.heap.size + 1 + 1]? = some (.cells #[.int .i64 0, .slice none 0 0] 29 (0, 0))
  left : W.heap[NL]? = some (.cells #[.int .i64 V, .slice av cur.length cv] 29 (0, 0))
  row : W.ownsRow w.heap.size 2 1 (.slice av cur.length cv) cur.length (cur.map (Value.int .i64))
  prs : W.ownsRow w.heap.size 63 2 q P.length ((flatP P).map (Value.int .i64))
  below : Below w.heap.size w W
  nl : w.heap.size ≤ NL ∧ NL ≠ w.heap.size + 1 ∧ NL ≠ w.heap.size + 1 + 1

section
variable {w W W' : World} {V1 : Int} {s1 : Value} {NL : Nat} {V : Int} {cur : List Int} {av : Option Addr} {cv : Nat} {P : List (Int × Int)} {q : Value}

theorem ColW.keep (h : ColW w W V1 s1 NL V cur av cv P q) (hB : Below W.heap.size W W') : ColW w W' V1 s1 NL V cur av cv P q where
  lbox := (hB.block _ (lt_get h.lbox)).trans h.lbox
  res := (hB.block _ (lt_get h.res)).trans h.res
  left := (hB.block _ (lt_get h.left)).trans h.left
  row := ownsRow_below h.row hB (fun g hg => (h.row.lt g hg).2)
  prs := ownsRow_below h.prs hB (fun g hg => (h.prs.lt g hg).2)
  below := h.below.trans (hB.mono h.below.size)
  nl := h.nl

theorem ColW.push (h : ColW w W V1 s1 NL V cur av cv P q) (hg : W.grownBy W' q.ownBlock) {P' : List (Int × Int)} {q' : Value} (hown : W'.ownsRow w.heap.size 63 2 q' P'.length ((flatP P').map (Value.int .i64))) : ColW w W' V1 s1 NL V cur av cv P' q' where
  lbox := (hg.block _ (lt_get h.lbox) (row_ne_any h.prs h.lbox (by decide))).trans h.lbox
  res := (hg.block _ (lt_get h.res) (row_ne_any h.prs h.res (by decide))).trans h.res
  left := (hg.block _ (lt_get h.left) (row_ne_any h.prs h.left (by decide))).trans h.left
  row := h.row.kept hg (by
    cases hv : (Value.slice av cur.length cv).ownBlock with
    | none => exact .inl rfl
    | some g => exact .inr (fun e => apart_ty h.row h.prs (by decide) g hv e.symm))
  prs := hown
  below := h.below.grown hg h.below.size (fun k e => (h.prs.lt k e).1)
  nl := h.nl

theorem ColW.put (h : ColW w W V1 s1 NL V cur av cv P q) {ys : List Int} {a2 : Option Addr} {c2 : Nat} (hr : W.ownsRow w.heap.size 2 1 (.slice a2 ys.length c2) ys.length (ys.map (Value.int .i64))) :
    ColW w ((W.setCell ⟨NL, 0, none⟩ (.int .i64 V)).setCell ⟨NL, 1, none⟩ (.slice a2 ys.length c2)) V1 s1 NL V ys a2 c2 P q := by
  have hn := h.nl
  obtain ⟨n1, n2, n3⟩ := h.nl
  have e : ∀ k, k ≠ NL → ((W.setCell ⟨NL, 0, none⟩ (.int .i64 V)).setCell ⟨NL, 1, none⟩ (.slice a2 ys.length c2)).heap[k]? = W.heap[k]? := fun k hk => (Below.heap_setCell _ _ _ _ hk).trans (Below.heap_setCell _ _ _ _ hk)
  refine ⟨(e _ (by omega)).trans h.lbox, (e _ (by omega)).trans h.res, two_set h.left _ _, ?_, ?_, ?_, hn⟩
  · have hx := row_ne_any hr h.left (by decide)
    exact ownsRow_set (ownsRow_set hr (fun e => hx e.symm) _) (fun e => hx e.symm) _
  · have hx := row_ne_any h.prs h.left (by decide)
    exact ownsRow_set (ownsRow_set h.prs (fun e => hx e.symm) _) (fun e => hx e.symm) _
  · exact (h.below.setCell (p := ⟨NL, 0, none⟩) (by show w.heap.size ≤ NL; omega) _).setCell (p := ⟨NL, 1, none⟩) (by show w.heap.size ≤ NL; omega) _
end

set_option maxRecDepth 100000 in
set_option maxHeartbeats 8000000 in
theorem colI_any (V : Int) (a0 : Option Addr) (cap : Nat) (fs : List Int) (V1 : Int) (a1 : Option Addr) (cap1 : Nat) (ls : List Int) (w : World) (hx : SlI w w.heap.size a0 fs) (hx1 : SlI w w.heap.size a1 ls) (hl : fs.length ≤ 1048576) (hl1 : ls.length ≤ 1048576) (hf : ∀ x ∈ fs, 1 ≤ x ∧ x ≤ 63) :
    Calls Try.prog 66 #[.agg #[.int .i64 V, .slice a0 fs.length cap], .agg #[.int .i64 V1, .slice a1 ls.length cap1]] w fun e w' => ∃ v q, e = .returned (.tuple #[.agg #[.int .i64 V, v], q]) ∧ Res w w' v (colE ls fs).1 ∧ ResP w w' q (colE ls fs).2 ∧ Apart v q := by
  have hB0 : Below w.heap.size w (((w.alloc (.cells #[.int .i64 V, .slice a0 fs.length cap] 29)).alloc (.cells #[.int .i64 V1, .slice a1 ls.length cap1] 29)).alloc (.cells #[.int .i64 0, .slice none 0 0] 29)) := (((Below.refl _ w).alloc (Nat.le_refl _) _).alloc (by simp) _).alloc (by simp <;> omega) _
  obtain ⟨W, hW⟩ : ∃ W, W = ((w.alloc (.cells #[.int .i64 V, .slice a0 fs.length cap] 29)).alloc (.cells #[.int .i64 V1, .slice a1 ls.length cap1] 29)).alloc (.cells #[.int .i64 0, .slice none 0 0] 29) := ⟨_, rfl⟩
  have k0 : W.cell? ⟨w.heap.size, 0, none⟩ = some (.int .i64 V) := by rw [hW]; simp [go_sem]
  have k1 : W.cell? ⟨w.heap.size, 1, none⟩ = some (.slice a0 fs.length cap) := by rw [hW]; simp [go_sem]
  have Q1 := hid (show W.heap[w.heap.size + 1]? = some (.cells #[.int .i64 V1, .slice a1 ls.length cap1] 29 (0, 0)) by rw [hW, Below.heap_alloc _ _ _ (by simp)]; exact new2 _ _ _)
  have R1 := hid (show W.heap[w.heap.size + 1 + 1]? = some (.cells #[.int .i64 0, .slice none 0 0] 29 (0, 0)) by rw [hW]; exact new3 _ _ _ _)
  have HBW : Hid (Below w.heap.size w W) := hid (by rw [hW]; exact hB0)
  have HW := hid hW
  have Hx0 := hid hx
  have Hx1 := hid hx1
  have Hf := hid hf
  have hfilt : (fs.filter fun x => decide (x ∉ ([] : List Int))) = fs := by simp
  have hwo := wo_any V a0 cap fs none 0 [] W (Hx0.out.later HBW.out HBW.out.size) (.inl rfl) hl (by simp)
  rw [hfilt] at hwo
  have HWO := hid hwo
  clear hf hx hx1 hB0 hW hwo hfilt
  go_enter Try.func66, Try.ntmps66
  go_wp2_with fail
  rw [← HW.out]
  refine HWO.out.mono ?_
  rintro e w2 ⟨v2, rfl, hr2⟩
  obtain ⟨_, av2, cv2, rfl, _⟩ := ownsRow_slI hr2.1
  obtain ⟨NL, hNL⟩ : ∃ NL, NL = w2.heap.size := ⟨_, rfl⟩
  have H0 : Hid (ColW w (w2.alloc (.cells #[.int .i64 V, .slice av2 fs.length cv2] 29)) V1 (.slice a1 ls.length cap1) NL V fs av2 cv2 [] (.slice none 0 0)) := hid (by
    have hB := HBW.out.trans (hr2.2.mono HBW.out.size)
    have hs := lt_get R1.out
    have hs2 := hr2.2.size
    have al := fun k (hk : k < w2.heap.size) => Below.heap_alloc w2 (.cells #[.int .i64 V, .slice av2 fs.length cv2] 29) k hk
    refine ⟨(al _ (by omega)).trans ((hr2.2.block _ (lt_get Q1.out)).trans Q1.out), (al _ (by omega)).trans ((hr2.2.block _ hs).trans R1.out), by rw [hNL]; exact heap_alloc_new _ _, ?_, World.ownsRow_nil _ _ _ _, hB.alloc hB.size _, by omega, by omega, by omega⟩
    exact (ownsRow_base hr2.1 HBW.out.size).alloc _)
  clear hr2 k0 k1 Q1 R1 HWO
  go_wp2_with fail
  rw [← hNL]
  clear hNL
  go_loopg [7] fs.length (fun g p wr => ∃ (n : Nat) (cur : List Int) (P : List (Int × Int)) (av : Option Addr) (cv : Nat), Hid (cur.length ≤ g) ∧ Hid (ColAt ls fs n cur P) ∧ Hid (ColW w wr V1 (.slice a1 ls.length cap1) NL V cur av cv P p))
  case atStart => exact ⟨0, fs, [], av2, cv2, hid (Nat.le_refl _), hid (ColAt.start ls fs), H0⟩
  case round =>
    clear H0
    obtain ⟨n, cur, P, av, cv, Hg, HA, HC⟩ := hrel
    obtain ⟨k0, k1, _, _⟩ := two_of HC.out.left
    obtain ⟨l0, l1, _, _⟩ := two_of HC.out.lbox
    have hcl : cur.length ≤ 1048576 := Nat.le_trans HA.out.sub.length_le hl
    have Hcf := hid (fun x hx => Hf.out x (HA.out.sub.subset hx))
    have HFI := hid (first_any V av cv cur V1 a1 cap1 ls wr (owned_slI HC.out.row) (Hx1.out.later HC.out.below HC.out.below.size) hcl hl1 Hcf.out)
    have Heq := eq_pairF
    cases hfp : firstP cur ls with
    | none =>
      rw [hfp] at HFI
      simp only [prO, Option.getD_none] at HFI
      have HE := hid (HA.out.stop hfp)
      clear hfp
      go_wp2_with fail
      refine HFI.out.mono ?_
      rintro e w3 ⟨rfl, hB3⟩
      have HC3 := hid (HC.out.keep (hB3.alloc hB3.size (.cells #[.int .i64 0, .int .i64 0] 63)))
      obtain ⟨c0, c1, f0, f1⟩ := two_of HC3.out.res
      obtain ⟨j0, j1, _, _⟩ := two_of HC3.out.left
      clear k0 k1 l0 l1 hB3
      go_wp2_with fail
      (try simp only [Exit.inBlock, Exit.then])
      have R3 := two_of (two_set HC3.out.res (.int .i64 V) (.slice av cur.length cv))
      refine done_cx (p := 4) (u := 5) (by kernel_rfl) rfl rfl R3.1 R3.2.1 rfl ?_
      have hx := row_ne_any HC3.out.row HC3.out.res (by decide)
      have hy := row_ne_any HC3.out.prs HC3.out.res (by decide)
      have hBf := (HC3.out.below.setCell (p := ⟨w.heap.size + 1 + 1, 0, none⟩) (by show w.heap.size ≤ w.heap.size + 1 + 1; omega) (.int .i64 V)).setCell (p := ⟨w.heap.size + 1 + 1, 1, none⟩) (by show w.heap.size ≤ w.heap.size + 1 + 1; omega) (.slice av cur.length cv)
      have hr3 := ownsRow_set (ownsRow_set HC3.out.row (a := ⟨w.heap.size + 1 + 1, 0, none⟩) (fun e => hx e.symm) (.int .i64 V)) (a := ⟨w.heap.size + 1 + 1, 1, none⟩) (fun e => hx e.symm) (.slice av cur.length cv)
      have hp3 := ownsRow_set (ownsRow_set HC3.out.prs (a := ⟨w.heap.size + 1 + 1, 0, none⟩) (fun e => hy e.symm) (.int .i64 V)) (a := ⟨w.heap.size + 1 + 1, 1, none⟩) (fun e => hy e.symm) (.slice av cur.length cv)
      rw [HE.out]
      exact ⟨_, _, rfl, ⟨hr3, hBf⟩, ⟨hp3, hBf⟩, apart_ty hr3 hp3 (by decide)⟩
    | some p =>
      rw [hfp] at HFI
      obtain ⟨x, y⟩ := p
      simp only [prO, Option.getD_some] at HFI
      have hfs := firstP_some hfp
      have hxr := Hcf.out x hfs.1
      have HT := hid (take_free (p := (x, y)) Hcf.out hfs.1 hfs.2.1 hfs.2.2.1)
      have HA2 := hid (HA.out.step hfp)
      have Hlt := hid (take_lt hfs.1)
      have hx0 : (x == 0) = false := by simp; omega
      have hPl : P.length ≤ 1048576 := by have := HA.out.plen; have := HA.out.len; omega
      simp only at HT HA2 Hlt
      obtain ⟨ys, hys⟩ : ∃ ys, ys = takeL cur x := ⟨_, rfl⟩
      rw [← hys] at HT HA2 Hlt
      clear hfp hfs hys
      go_wp2_with fail
      refine HFI.out.mono ?_
      rintro e w3 ⟨rfl, hB3⟩
      obtain ⟨w4, hw4⟩ : ∃ w4, w4 = w3.alloc (.cells #[.int .i64 x, .int .i64 y] 63) := ⟨_, rfl⟩
      have HC4 := hid (show ColW w w4 V1 (.slice a1 ls.length cap1) NL V cur av cv P _ by rw [hw4]; exact HC.out.keep (hB3.alloc hB3.size (.cells #[.int .i64 x, .int .i64 y] 63)))
      have P4 := hid (show w4.heap[w3.heap.size]? = some (.cells #[.int .i64 x, .int .i64 y] 63 (0, 0)) by rw [hw4]; exact heap_alloc_new _ _)
      have HW4 := hid hw4
      obtain ⟨j0, j1, _, _⟩ := two_of HC4.out.left
      obtain ⟨p0, p1, _, _⟩ := two_of P4.out
      have hs3 := hB3.size
      clear k0 k1 l0 l1 hB3 hw4
      go_wp2_with fail
      rw [← HW4.out]
      have HpW := hid (pair_slI P4.out)
      have HrW := hid (owned_slI HC4.out.row)
      go_region_with (go_at_call 62; refine (wo_any V av cv cur _ 2 [x, y] w4.drew HrW.out HpW.out hcl (by simp)).mono ?_; rintro e w5 ⟨v, rfl, hr⟩; rw [← HT.out] at hr; obtain ⟨_, a5, c5, rfl, _⟩ := ownsRow_slI hr.1; have hrb : Below w4.heap.size w4 w5 := ⟨hr.2.os, hr.2.tape, hr.2.output, hr.2.size, hr.2.block⟩; have HC5 := hid (HC4.out.keep hrb); obtain ⟨i0, i1, g0, g1⟩ := two_of HC5.out.left; have hr5 := hid hr.1; have P5 := hid ((hrb.block _ (lt_get P4.out)).trans P4.out); clear hr hrb)
      all_goals
        obtain ⟨w6, hw6⟩ : ∃ w6, w6 = (w5.setCell ⟨NL, 0, none⟩ (.int .i64 V)).setCell ⟨NL, 1, none⟩ (.slice a5 ys.length c5) := ⟨_, rfl⟩
        have HC6 := hid (HC5.out.put (ownsRow_base hr5.out HC4.out.below.size))
        have hne : w3.heap.size ≠ NL := by
          intro e
          have h1 := P5.out
          rw [e, HC5.out.left] at h1
          simp at h1
        have P6 := hid (show w6.heap[w3.heap.size]? = some (.cells #[.int .i64 x, .int .i64 y] 63 (0, 0)) by rw [hw6]; exact (Below.heap_setCell _ _ _ _ hne).trans ((Below.heap_setCell _ _ _ _ hne).trans P5.out))
        rw [← hw6] at HC6
        rw [← hw6]
        obtain ⟨b0, b1, _, _⟩ := two_of P6.out
        have hown6 := HC6.out.prs
        have hs6 := HC6.out.below.size
        clear i0 i1 g0 g1 j0 j1 p0 p1 hw6 HC5 P5 hr5
        go_wp2_with (at_builtin; refine append_pair rfl rfl hown6 hs6 (by omega) rfl rfl ?_; intro v' w7 hown7 hgrow7 hB7)
        go_roundg ys.length
        case measure => have h1 := Hg.out; have h2 := Hlt.out; omega
        case rel => exact ⟨n + 1, ys, P ++ [(x, y)], a5, c5, hid (Nat.le_refl _), HA2, hid (HC6.out.push hgrow7 hown7)⟩

end Go.Proofs.Ytojnpacklcajpaa
