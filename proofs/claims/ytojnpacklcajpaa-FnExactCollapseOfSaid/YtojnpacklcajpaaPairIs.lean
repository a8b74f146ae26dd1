import Derived.Test.YtojnpacklcajpaaPairS2
import Derived.Test.YtojnpacklcajpaaSortedF
/-! The model's test of a pairing. -/
namespace Go.Proofs.Ytojnpacklcajpaa
open Go.RowKit Go.Sort

/-- Two pairs have a face in common. -/
def clashB (x y x' y' : Int) : Bool := decide (x = x') || decide (x = y') || decide (y = x') || decide (y = y')

/-- The first k pairs are pairs, in order, and the pair i has no face of an earlier one. -/
def OkTo (fs ps : List Int) (k : Nat) : Prop := ∀ i, i < k → pairB fs (at0 ps (i * 2)) (at0 ps (i * 2 + 1)) = true ∧ (1 ≤ i → lessP (at0 ps ((i - 1) * 2)) (at0 ps ((i - 1) * 2 + 1)) (at0 ps (i * 2)) (at0 ps (i * 2 + 1)) = true) ∧ ∀ j, j < i → clashB (at0 ps (i * 2)) (at0 ps (i * 2 + 1)) (at0 ps (j * 2)) (at0 ps (j * 2 + 1)) = false

noncomputable def pairingB (fs ps : List Int) (n : Nat) : Bool := @decide (OkTo fs ps n) (Classical.propDecidable _)
theorem pairingB_true {fs ps : List Int} {n : Nat} (h : OkTo fs ps n) : pairingB fs ps n = true := by unfold pairingB; exact @decide_eq_true _ (Classical.propDecidable _) h
theorem pairingB_false {fs ps : List Int} {n : Nat} (h : ¬ OkTo fs ps n) : pairingB fs ps n = false := by unfold pairingB; exact @decide_eq_false _ (Classical.propDecidable _) h

set_option maxRecDepth 100000 in
set_option maxHeartbeats 8000000 in
theorem pis_some (V : Int) (a : Option Addr) (cap : Nat) (fs : List Int) (b off n c2 : Nat) (ps : List Int) (w : World) (hx : SlI w w.heap.size a fs) (hl : fs.length ≤ 1048576) (hf : ∀ x ∈ fs, 1 ≤ x ∧ x ≤ 63)
    (hb : b < w.heap.size) (hc : ∀ i, i < ps.length → w.cell? ⟨b, off + i, none⟩ = some (.int .i64 (ps[i]?.getD 0))) (hp : ps.length = 2 * n) (hn : n ≤ 1048576) :
    Calls Try.prog 108 #[.agg #[.int .i64 V, .slice a fs.length cap], .slice (some ⟨b, off, none⟩) n c2] w fun e w' => e = .returned (.bool (pairingB fs ps n)) ∧ Below w.heap.size w w' := by
  obtain ⟨W0, hW0⟩ : ∃ W0, W0 = w.alloc (.cells #[.int .i64 V, .slice a fs.length cap] 29) := ⟨_, rfl⟩
  have HW0 : Hid (Below w.heap.size w W0) := hid (by rw [hW0]; exact (Below.refl _ w).alloc (Nat.le_refl _) _)
  have hs0 : W0.heap.size = w.heap.size + 1 := by rw [hW0]; simp
  have q0 : W0.heap[w.heap.size]? = some (.cells #[.int .i64 V, .slice a fs.length cap] 29 (0, 0)) := by rw [hW0]; exact heap_alloc_new _ _
  obtain ⟨k0, k1, _, _⟩ := two_of q0
  have K0 := hid k0
  have K1 := hid k1
  have Hs0 := hid hs0
  have Hx := hid hx
  have Hc := hid hc
  have Hp := hid hp
  have Hf := hid hf
  have HW := hid hW0
  clear hc hp hf hx q0 k0 k1 hs0
  go_enter Try.func108, Try.ntmps108
  go_wp2_with fail
  rw [← HW.out]
  clear hW0
  go_loopw [5] (fun i wr => ∃ k : Nat, k ≤ n ∧ i = .int .i64 k ∧ Hid (OkTo fs ps k) ∧ Below (w.heap.size + 1) W0 wr) (fun i _ => n - (intOf i).toNat)
  case atStart => exact ⟨0, Nat.zero_le _, rfl, hid (fun i hi => by omega), Below.refl _ _⟩
  case round =>
    obtain ⟨k, hk, rfl, Hk, hB⟩ := hrel
    have HB := hid hB
    clear hB
    by_cases hlt : k < n
    · have hc0 : wr.cell? ⟨w.heap.size, 0, none⟩ = some (.int .i64 V) := (HB.out.cell (p := ⟨w.heap.size, 0, none⟩) (by simp)).trans K0.out
      have hc1 : wr.cell? ⟨w.heap.size, 1, none⟩ = some (.slice a fs.length cap) := (HB.out.cell (p := ⟨w.heap.size, 1, none⟩) (by simp)).trans K1.out
      have HBw : Hid (Below w.heap.size w wr) := hid (HW0.out.trans (HB.out.mono (Nat.le_succ _)))
      have hc2 : wr.cell? ⟨b, off + k * 2, none⟩ = some (.int .i64 (at0 ps (k * 2))) := (HBw.out.cell (p := ⟨b, off + k * 2, none⟩) hb).trans (Hc.out _ (by have := Hp.out; omega))
      have hc3 : wr.cell? ⟨b, off + k * 2 + 1, none⟩ = some (.int .i64 (at0 ps (k * 2 + 1))) := (HBw.out.cell (p := ⟨b, off + (k * 2 + 1), none⟩) hb).trans (Hc.out _ (by have := Hp.out; omega))
      obtain ⟨x, hx⟩ : ∃ x, x = at0 ps (k * 2) := ⟨_, rfl⟩
      obtain ⟨y, hy⟩ : ∃ y, y = at0 ps (k * 2 + 1) := ⟨_, rfl⟩
      rw [← hx] at hc2
      rw [← hy] at hc3
      have HX := hid hx
      have HY := hid hy
      clear hx hy
      have hi0 : (0 : Int) ≤ (k : Int) := by omega
      have hi1 : (k : Int) < (n : Int) := by omega
      have r0 := cell_regrown hc0
      have r1 := cell_regrown hc1
      have r2 := cell_regrown hc2
      have r3 := cell_regrown hc3
      have cP : ∀ d os, Calls Try.prog 120 #[.agg #[.int .i64 V, .slice a fs.length cap], .agg #[.int .i64 x, .int .i64 y]] (grow (redrawn wr d) os) fun e w'' => e = .returned (.bool (pairB fs x y)) ∧ ∃ p : Regrown, w'' = grow (redrawn wr p.d) p.os := fun d os => Calls.regrown_of (pair_any V a cap fs x y _ ((Hx.out.later HBw.out HBw.out.size).later (below_regrown wr d os) (below_regrown wr d os).size) hl Hf.out)
      have CP := hid cP
      clear cP
      by_cases hq : pairB fs x y = true
      · rw [hq] at CP
        have Hq := hid hq
        clear hq hc0 hc1 hc2 hc3
        by_cases hk0 : 0 < k
        rotate_left
        · have hd : decide (0 < k) = false := decide_eq_false hk0
          have Hk0 := hid hk0
          clear hk0
          go_wp2_with fail
          refine wp_region_quiet_below (by kernel_rfl) (by kernel_rfl) ?_
          iterate 5 (with_reducible refine wpQuiet_step (fun K hK => ?_); have HK := hid hK; clear hK; go_simp; (first | with_reducible refine HK.out _ ?_ | (rw [if_neg (by decide)]; with_reducible refine HK.out _ ?_)); clear HK K)
          (with_reducible refine wpQuiet_step (fun K hK => ?_); have HK := hid hK; clear hK; go_simp; apply Exists.intro; with_reducible refine ⟨fun _ => ?_, HK.out _ ?_⟩; exact CP.out _ _; clear HK K)
          iterate 18 (with_reducible refine wpQuiet_step (fun K hK => ?_); have HK := hid hK; clear hK; go_simp; (first | with_reducible refine HK.out _ ?_ | (rw [if_neg (by decide)]; with_reducible refine HK.out _ ?_)); clear HK K)
          with_reducible refine wpQuiet_nil ?_
          intro _ hw'
          obtain ⟨⟨dq, osq⟩, hw''⟩ := hw'
          subst hw''
          go_wp2_with fail
          have HB' : Hid (Below (w.heap.size + 1) W0 (grow (redrawn wr dq) osq)) := hid (HB.out.trans ((below_regrown wr dq osq).mono (by rw [← Hs0.out]; exact HB.out.size)))
          refine wp_loop_rounds 1 ?_; rw [rounds_succ]
          go_wp2_with fail
          go_roundw
          case rel =>
            have hk0 := Hk0.out
            refine ⟨k + 1, by omega, by go_num, fun i hi => ?_, HB'.out⟩
            obtain rfl : i = k := by omega
            exact ⟨by rw [← HX.out, ← HY.out]; exact Hq.out, fun h => by omega, fun j hj => by omega⟩
          case measure => simp [intOf]; omega
        · obtain ⟨m, rfl⟩ : ∃ m : Nat, k = m + 1 := ⟨k - 1, by omega⟩
          clear hk0
          have hd2 : wr.cell? ⟨b, off + m * 2, none⟩ = some (.int .i64 (at0 ps (m * 2))) := (HBw.out.cell (p := ⟨b, off + m * 2, none⟩) hb).trans (Hc.out _ (by have := Hp.out; omega))
          have hd3 : wr.cell? ⟨b, off + m * 2 + 1, none⟩ = some (.int .i64 (at0 ps (m * 2 + 1))) := (HBw.out.cell (p := ⟨b, off + (m * 2 + 1), none⟩) hb).trans (Hc.out _ (by have := Hp.out; omega))
          obtain ⟨x', hx'⟩ : ∃ x, x = at0 ps (m * 2) := ⟨_, rfl⟩
          obtain ⟨y', hy'⟩ : ∃ y, y = at0 ps (m * 2 + 1) := ⟨_, rfl⟩
          rw [← hx'] at hd2
          rw [← hy'] at hd3
          have HX' := hid hx'
          have HY' := hid hy'
          clear hx' hy'
          have s2 := cell_regrown hd2
          have s3 := cell_regrown hd3
          clear hd2 hd3
          have hi2 : (0 : Int) ≤ (m : Int) := by omega
          have hi3 : (m : Int) < (n : Int) := by omega
          have hw1 : IntKind.i64.wrap (m : Int) = m := by rw [IntKind.wrap_i64]; omega
          have hw2 : IntKind.i64.wrap ((m : Int) + 1 - 1) = m := by rw [show (m : Int) + 1 - 1 = m by omega]; exact hw1
          have hw3 : wrap64 (m : Int) = m := IntWalk.wrap64_in _ ⟨by omega, by omega⟩
          have hj0 : (0 : Int) ≤ (m : Int) + 1 := by omega
          have hj1 : (m : Int) + 1 < (n : Int) := by omega
          have hgt : (0 : Int) < (m : Int) + 1 := by omega
          have CL : Hid (∀ d os, Calls Try.prog 121 #[.agg #[.int .i64 x', .int .i64 y'], .agg #[.int .i64 x, .int .i64 y]] (grow (redrawn wr d) os) fun e w'' => e = .returned (.bool (lessP x' y' x y)) ∧ ∃ p : Regrown, w'' = grow (redrawn wr p.d) p.os) := hid (fun d os => Calls.regrown_of (less_any x' y' x y _))
          by_cases hql : lessP x' y' x y = true
          · rw [hql] at CL
            have Hql := hid hql
            clear hql
            go_wp2_with fail
            refine wp_region_quiet_below (by kernel_rfl) (by kernel_rfl) ?_
            iterate 5 (with_reducible refine wpQuiet_step (fun K hK => ?_); have HK := hid hK; clear hK; go_simp; (first | with_reducible refine HK.out _ ?_ | (rw [if_neg (by decide)]; with_reducible refine HK.out _ ?_)); clear HK K)
            (with_reducible refine wpQuiet_step (fun K hK => ?_); have HK := hid hK; clear hK; go_simp; apply Exists.intro; with_reducible refine ⟨fun _ => ?_, HK.out _ ?_⟩; exact CP.out _ _; clear HK K)
            iterate 14 (with_reducible refine wpQuiet_step (fun K hK => ?_); have HK := hid hK; clear hK; go_simp; (first | with_reducible refine HK.out _ ?_ | (rw [if_neg (by decide)]; with_reducible refine HK.out _ ?_)); clear HK K)
            (with_reducible refine wpQuiet_step (fun K hK => ?_); have HK := hid hK; clear hK; go_simp; apply Exists.intro; with_reducible refine ⟨fun _ => ?_, HK.out _ ?_⟩; exact CL.out _ _; clear HK K)
            iterate 3 (with_reducible refine wpQuiet_step (fun K hK => ?_); have HK := hid hK; clear hK; go_simp; (first | with_reducible refine HK.out _ ?_ | (rw [if_neg (by decide)]; with_reducible refine HK.out _ ?_)); clear HK K)
            with_reducible refine wpQuiet_nil ?_
            intro _ hw'
            obtain ⟨⟨dq, osq⟩, hw''⟩ := hw'
            subst hw''
            go_wp2_with fail
            have HB' : Hid (Below (w.heap.size + 1) W0 (grow (redrawn wr dq) osq)) := hid (HB.out.trans ((below_regrown wr dq osq).mono (by rw [← Hs0.out]; exact HB.out.size)))
            clear HB r0 r1 r2 r3 s2 s3 CP CL HBw
            go_loopw [6] (fun j wx => ∃ i : Nat, i ≤ m + 1 ∧ j = .int .i64 i ∧ Hid (∀ t, t < i → clashB x y (at0 ps (t * 2)) (at0 ps (t * 2 + 1)) = false) ∧ Below (w.heap.size + 1) W0 wx) (fun j _ => m + 1 - (intOf j).toNat)
            case atStart => exact ⟨0, Nat.zero_le _, rfl, hid (fun t ht => by omega), HB'.out⟩
            case round =>
              obtain ⟨i, hi, rfl, Hcl, hBx⟩ := hrel
              have HBx := hid hBx
              clear hBx HB'
              by_cases hlt2 : i < m + 1
              · have HBv : Hid (Below w.heap.size w wr) := hid (HW0.out.trans (HBx.out.mono (Nat.le_succ _)))
                have hc2 : wr.cell? ⟨b, off + (m + 1) * 2, none⟩ = some (.int .i64 x) := ((HBv.out.cell (p := ⟨b, off + (m + 1) * 2, none⟩) hb).trans (Hc.out _ (by have := Hp.out; omega))).trans (by rw [HX.out]; rfl)
                have hc3 : wr.cell? ⟨b, off + (m + 1) * 2 + 1, none⟩ = some (.int .i64 y) := ((HBv.out.cell (p := ⟨b, off + ((m + 1) * 2 + 1), none⟩) hb).trans (Hc.out _ (by have := Hp.out; omega))).trans (by rw [HY.out]; rfl)
                have hd2 : wr.cell? ⟨b, off + i * 2, none⟩ = some (.int .i64 (at0 ps (i * 2))) := (HBv.out.cell (p := ⟨b, off + i * 2, none⟩) hb).trans (Hc.out _ (by have := Hp.out; omega))
                have hd3 : wr.cell? ⟨b, off + i * 2 + 1, none⟩ = some (.int .i64 (at0 ps (i * 2 + 1))) := (HBv.out.cell (p := ⟨b, off + (i * 2 + 1), none⟩) hb).trans (Hc.out _ (by have := Hp.out; omega))
                obtain ⟨u, hu⟩ : ∃ u, u = at0 ps (i * 2) := ⟨_, rfl⟩
                obtain ⟨v, hv⟩ : ∃ v, v = at0 ps (i * 2 + 1) := ⟨_, rfl⟩
                rw [← hu] at hd2
                rw [← hv] at hd3
                have HU := hid hu
                have HV := hid hv
                clear hu hv
                have hi4 : (0 : Int) ≤ (i : Int) := by omega
                have hi5 : (i : Int) < (n : Int) := by omega
                have hi6 : (i : Int) < (m : Int) + 1 := by omega
                have Hbad : Hid (clashB x y u v = true → pairingB fs ps n = false) := hid (fun h => pairingB_false (fun ho => by have := (ho (m + 1) hlt).2.2 i hlt2; rw [← HX.out, ← HY.out, ← HU.out, ← HV.out, h] at this; cases this))
                by_cases h0 : x = u
                · have g0 : (x == u) = true := by simp [h0]
                  have He : Hid (pairingB fs ps n = false) := hid (Hbad.out (by unfold clashB; simp [h0]))
                  clear h0
                  go_wp2_with fail
                  refine wp_region_quiet_lit (by kernel_rfl) (by kernel_rfl) ?_
                  iterate 50 (with_reducible refine wpQuiet_step (fun K hK => ?_); have HK := hid hK; clear hK; go_simp; (first | with_reducible refine HK.out _ ?_ | (rw [if_neg (by decide)]; with_reducible refine HK.out _ ?_)); clear HK K)
                  with_reducible refine wpQuiet_nil ?_
                  intro _ hw'
                  obtain ⟨nq, hw''⟩ := hw'
                  subst hw''
                  go_wp2_with fail
                  go_ret
                  exact ⟨ret_bool He.out.symm, HBv.out.trans ⟨rfl, rfl, rfl, Nat.le_refl _, fun _ _ => rfl⟩⟩
                · have g0 : (x == u) = false := by simp [h0]
                  by_cases h1 : x = v
                  · have g1 : (x == v) = true := by simp [h1]
                    have He : Hid (pairingB fs ps n = false) := hid (Hbad.out (by unfold clashB; simp [h1]))
                    clear h0 h1
                    go_wp2_with fail
                    refine wp_region_quiet_lit (by kernel_rfl) (by kernel_rfl) ?_
                    iterate 50 (with_reducible refine wpQuiet_step (fun K hK => ?_); have HK := hid hK; clear hK; go_simp; (first | with_reducible refine HK.out _ ?_ | (rw [if_neg (by decide)]; with_reducible refine HK.out _ ?_)); clear HK K)
                    with_reducible refine wpQuiet_nil ?_
                    intro _ hw'
                    obtain ⟨nq, hw''⟩ := hw'
                    subst hw''
                    go_wp2_with fail
                    go_ret
                    exact ⟨ret_bool He.out.symm, HBv.out.trans ⟨rfl, rfl, rfl, Nat.le_refl _, fun _ _ => rfl⟩⟩
                  · have g1 : (x == v) = false := by simp [h1]
                    by_cases h2 : y = u
                    · have g2 : (y == u) = true := by simp [h2]
                      have He : Hid (pairingB fs ps n = false) := hid (Hbad.out (by unfold clashB; simp [h2]))
                      clear h0 h1 h2
                      go_wp2_with fail
                      refine wp_region_quiet_lit (by kernel_rfl) (by kernel_rfl) ?_
                      iterate 50 (with_reducible refine wpQuiet_step (fun K hK => ?_); have HK := hid hK; clear hK; go_simp; (first | with_reducible refine HK.out _ ?_ | (rw [if_neg (by decide)]; with_reducible refine HK.out _ ?_)); clear HK K)
                      with_reducible refine wpQuiet_nil ?_
                      intro _ hw'
                      obtain ⟨nq, hw''⟩ := hw'
                      subst hw''
                      go_wp2_with fail
                      go_ret
                      exact ⟨ret_bool He.out.symm, HBv.out.trans ⟨rfl, rfl, rfl, Nat.le_refl _, fun _ _ => rfl⟩⟩
                    · have g2 : (y == u) = false := by simp [h2]
                      by_cases h3 : y = v
                      · have g3 : (y == v) = true := by simp [h3]
                        have He : Hid (pairingB fs ps n = false) := hid (Hbad.out (by unfold clashB; simp [h3]))
                        clear h0 h1 h2 h3
                        go_wp2_with fail
                        refine wp_region_quiet_lit (by kernel_rfl) (by kernel_rfl) ?_
                        iterate 50 (with_reducible refine wpQuiet_step (fun K hK => ?_); have HK := hid hK; clear hK; go_simp; (first | with_reducible refine HK.out _ ?_ | (rw [if_neg (by decide)]; with_reducible refine HK.out _ ?_)); clear HK K)
                        with_reducible refine wpQuiet_nil ?_
                        intro _ hw'
                        obtain ⟨nq, hw''⟩ := hw'
                        subst hw''
                        go_wp2_with fail
                        go_ret
                        exact ⟨ret_bool He.out.symm, HBv.out.trans ⟨rfl, rfl, rfl, Nat.le_refl _, fun _ _ => rfl⟩⟩
                      · have g3 : (y == v) = false := by simp [h3]
                        have He : Hid (∀ t, t < i + 1 → clashB x y (at0 ps (t * 2)) (at0 ps (t * 2 + 1)) = false) := hid (fun t ht => by
                          by_cases hti : t < i
                          · exact Hcl.out t hti
                          · obtain rfl : t = i := by omega
                            rw [← HU.out, ← HV.out]; unfold clashB; simp only [decide_eq_false h0, decide_eq_false h1, decide_eq_false h2, decide_eq_false h3]; rfl)
                        clear h0 h1 h2 h3
                        go_wp2_with fail
                        refine wp_region_quiet_lit (by kernel_rfl) (by kernel_rfl) ?_
                        iterate 50 (with_reducible refine wpQuiet_step (fun K hK => ?_); have HK := hid hK; clear hK; go_simp; (first | with_reducible refine HK.out _ ?_ | (rw [if_neg (by decide)]; with_reducible refine HK.out _ ?_)); clear HK K)
                        with_reducible refine wpQuiet_nil ?_
                        intro _ hw'
                        obtain ⟨nq, hw''⟩ := hw'
                        subst hw''
                        go_wp2_with fail
                        go_roundw
                        case rel => exact ⟨i + 1, by omega, by go_num, He.out, HBx.out.trans ⟨rfl, rfl, rfl, Nat.le_refl _, fun _ _ => rfl⟩⟩
                        case measure => simp [intOf]; omega
              · obtain rfl : i = m + 1 := by omega
                go_wp2_with fail
                go_roundw
                case rel =>
                  refine ⟨m + 1 + 1, by omega, by go_num, fun i hi => ?_, HBx.out⟩
                  by_cases him : i < m + 1
                  · exact Hk.out i him
                  · obtain rfl : i = m + 1 := by omega
                    refine ⟨by rw [← HX.out, ← HY.out]; exact Hq.out, fun _ => ?_, fun j hj => ?_⟩
                    · rw [Nat.add_sub_cancel, ← HX.out, ← HY.out, ← HX'.out, ← HY'.out]; exact Hql.out
                    · rw [← HX.out, ← HY.out]; exact Hcl.out j hj
                case measure => simp [intOf]; omega
          · have hql' : lessP x' y' x y = false := by simpa using hql
            rw [hql'] at CL
            have He : Hid (pairingB fs ps n = false) := hid (pairingB_false (fun h => by have := (h (m + 1) hlt).2.1 (by omega); rw [Nat.add_sub_cancel, ← HX.out, ← HY.out, ← HX'.out, ← HY'.out, hql'] at this; cases this))
            clear hql hql'
            go_wp2_with fail
            refine wp_region_quiet_below (by kernel_rfl) (by kernel_rfl) ?_
            iterate 5 (with_reducible refine wpQuiet_step (fun K hK => ?_); have HK := hid hK; clear hK; go_simp; (first | with_reducible refine HK.out _ ?_ | (rw [if_neg (by decide)]; with_reducible refine HK.out _ ?_)); clear HK K)
            (with_reducible refine wpQuiet_step (fun K hK => ?_); have HK := hid hK; clear hK; go_simp; apply Exists.intro; with_reducible refine ⟨fun _ => ?_, HK.out _ ?_⟩; exact CP.out _ _; clear HK K)
            iterate 14 (with_reducible refine wpQuiet_step (fun K hK => ?_); have HK := hid hK; clear hK; go_simp; (first | with_reducible refine HK.out _ ?_ | (rw [if_neg (by decide)]; with_reducible refine HK.out _ ?_)); clear HK K)
            (with_reducible refine wpQuiet_step (fun K hK => ?_); have HK := hid hK; clear hK; go_simp; apply Exists.intro; with_reducible refine ⟨fun _ => ?_, HK.out _ ?_⟩; exact CL.out _ _; clear HK K)
            iterate 3 (with_reducible refine wpQuiet_step (fun K hK => ?_); have HK := hid hK; clear hK; go_simp; (first | with_reducible refine HK.out _ ?_ | (rw [if_neg (by decide)]; with_reducible refine HK.out _ ?_)); clear HK K)
            with_reducible refine wpQuiet_nil ?_
            intro _ hw'
            obtain ⟨⟨dq, osq⟩, hw''⟩ := hw'
            subst hw''
            go_wp2_with fail
            go_ret
            exact ⟨ret_bool He.out.symm, HBw.out.trans ((below_regrown wr dq osq).mono HBw.out.size)⟩
      · have hq' : pairB fs x y = false := by simpa using hq
        have He : Hid (pairingB fs ps n = false) := hid (pairingB_false (fun h => by have := (h k hlt).1; rw [← HX.out, ← HY.out, hq'] at this; cases this))
        rw [hq'] at CP
        clear hq hq' hc0 hc1 hc2 hc3
        go_wp2_with fail
        refine wp_region_quiet_below (by kernel_rfl) (by kernel_rfl) ?_
        iterate 5 (with_reducible refine wpQuiet_step (fun K hK => ?_); have HK := hid hK; clear hK; go_simp; (first | with_reducible refine HK.out _ ?_ | (rw [if_neg (by decide)]; with_reducible refine HK.out _ ?_)); clear HK K)
        (with_reducible refine wpQuiet_step (fun K hK => ?_); have HK := hid hK; clear hK; go_simp; apply Exists.intro; with_reducible refine ⟨fun _ => ?_, HK.out _ ?_⟩; exact CP.out _ _; clear HK K)
        iterate 18 (with_reducible refine wpQuiet_step (fun K hK => ?_); have HK := hid hK; clear hK; go_simp; (first | with_reducible refine HK.out _ ?_ | (rw [if_neg (by decide)]; with_reducible refine HK.out _ ?_)); clear HK K)
        with_reducible refine wpQuiet_nil ?_
        intro _ hw'
        obtain ⟨⟨dq, osq⟩, hw''⟩ := hw'
        subst hw''
        go_wp2_with fail
        go_ret
        exact ⟨ret_bool He.out.symm, HBw.out.trans ((below_regrown wr dq osq).mono HBw.out.size)⟩
    · obtain rfl : k = n := by omega
      have He : Hid (pairingB fs ps k = true) := hid (pairingB_true Hk.out)
      go_wp2
      go_ret
      exact ⟨ret_bool He.out.symm, HW0.out.trans (HB.out.mono (Nat.le_succ _))⟩

end Go.Proofs.Ytojnpacklcajpaa
