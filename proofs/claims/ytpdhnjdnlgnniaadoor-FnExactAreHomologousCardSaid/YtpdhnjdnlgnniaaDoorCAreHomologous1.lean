import Derived.Test.YtpdhnjdnlgnniaaDoorMB6
/-! AreHomologous, both doors. -/
namespace Go.Proofs.YtpdhnjdnlgnniaaDoor
open Go.RowKit

set_option maxRecDepth 100000 in
set_option maxHeartbeats 4000000 in
theorem specAreHomologous (V : Int) (a0 : Option Addr) (cap : Nat) (fs : List Int) (a1 : Option Addr) (cap1 : Nat) (us : List Int) (a2 : Option Addr) (cap2 : Nat) (vs : List Int) (w : World) (hx : SlI w w.heap.size a0 fs) (hx1 : SlI w w.heap.size a1 us) (hx2 : SlI w w.heap.size a2 vs) (hl : fs.length ≤ 1048576) (hg : us.length ≤ 1048576) (hh : vs.length ≤ 1048576) :
    Calls Tryd.prog 12 #[.agg #[.int .i64 V, .slice a0 fs.length cap], .slice a1 us.length cap1, .slice a2 vs.length cap2] w fun e w' => e = .returned (.tuple #[.bool (homR V fs us vs).1, .int .i64 (homR V fs us vs).2]) ∧ Below w.heap.size w w' := by
  obtain ⟨W0, hW0⟩ : ∃ W0, W0 = w.alloc (.cells #[.int .i64 V, .slice a0 fs.length cap] 28) := ⟨_, rfl⟩
  have hB0 : Below w.heap.size w W0 := by rw [hW0]; exact (Below.refl _ w).alloc (Nat.le_refl _) _
  have Hk0 : Hid (W0.heap[w.heap.size]? = some (.cells #[.int .i64 V, .slice a0 fs.length cap] 28 (0, 0))) := hid (by rw [hW0]; exact heap_alloc_new _ _)
  have Hx := hid hx
  have Hy := hid hx1
  have Hz := hid hx2
  have HB0 := hid hB0
  have HI := hid (chain3_any V a0 cap fs a1 cap1 us W0 (hx.later hB0 hB0.size) (hx1.later hB0 hB0.size) hl hg)
  rw [hW0] at HI
  have HJ := hid (fun W (h : Below w.heap.size w W) => chain3_any V a0 cap fs a2 cap2 vs W (Hx.out.later h h.size) (Hz.out.later h h.size) hl hh)
  clear hx hx1 hx2 hB0
  by_cases h0 : chnR V fs us = 0
  · rw [h0] at HI
    obtain ⟨hc, hch⟩ := chn_zero h0
    have hC := isCB_iff.1 hc
    by_cases h1 : chnR V fs vs = 0
    · obtain ⟨_, hch2⟩ := chn_zero h1
      rw [h1] at HJ
      have HR : Hid (homR V fs us vs = if clashB us vs then (false, 5) else (boundsB fs (symL fs us vs), 0)) := hid (by unfold homR; rw [if_pos h0, if_pos h1])
      have HSm := hid (fun W (h : Below w.heap.size w W) => sum_any a1 cap1 us a2 cap2 vs W (Hy.out.later h h.size) (Hz.out.later h h.size) hg hh)
      rw [sum_sym hC hch hch2] at HSm
      have hsl := symL_len fs us vs
      have HBd := hid (fun (hcl : clashB us vs = false) W (h : Below w.heap.size w W) a c (hs : SlI W W.heap.size a (symL fs us vs)) => bdsS_bds V a0 cap fs a c (symL fs us vs) W (Hx.out.later h h.size) hs hl (by omega) hC (sym_dim hC hch hch2 hcl))
      have HCm := hid (show (∀ x ∈ us, 1 ≤ x ∧ x ≤ 63) ∧ (∀ x ∈ vs, 1 ≤ x ∧ x ≤ 63) from ⟨chain_len hC hch, chain_len hC hch2⟩)
      obtain ⟨L, hL⟩ : ∃ L, L = symL fs us vs := ⟨_, rfl⟩
      rw [← hL] at HR HSm HBd
      clear h0 h1 hc hch hch2 hC hsl hL
      have dims : ∀ (xs : List Int) (a : Option Addr), SlI w w.heap.size a xs → xs ≠ [] → (∀ x ∈ xs, 1 ≤ x ∧ x ≤ 63) → ∃ (b o f : Nat), b < w.heap.size ∧ a = some ⟨b, o, none⟩ ∧ w.cell? ⟨b, o, none⟩ = some (.int .i64 (f : Int)) ∧ f < 64 ∧ dimC xs = (ones f : Int) - 1 := by
        intro xs a h hne hr
        have hlen : 0 < xs.length := List.length_pos_iff.2 hne
        rcases h with h | ⟨b, o, hb, rfl, hc⟩
        · exact absurd h hne
        · have hm := hr _ (getD_mem hlen)
          refine ⟨b, o, (xs[0]?.getD 0).toNat, hb, rfl, ?_, by omega, rfl⟩
          have e : (((xs[0]?.getD 0 : Int).toNat : Nat) : Int) = xs[0]?.getD 0 := by omega
          rw [e]
          exact hc 0 hlen
      have HDm := hid dims
      clear dims
      go_enter Tryd.func12, Tryd.ntmps12
      go_wp2_with fail
      refine HI.out.mono ?_
      rintro e w1 ⟨rfl, hB1⟩
      rw [← hW0] at hB1
      have HB1 := hid (HB0.out.trans (hB1.mono HB0.out.size))
      have Hk1 := hid ((hB1.block _ (lt_get Hk0.out)).trans Hk0.out)
      obtain ⟨k0, k1, _, _⟩ := two_of Hk1.out
      clear hB1
      go_wp2_with fail
      refine (HJ.out w1 HB1.out).mono ?_
      rintro e w2 ⟨rfl, hB2⟩
      have HB2 := hid (HB1.out.trans (hB2.mono HB1.out.size))
      have Hk2 := hid ((hB2.block _ (lt_get Hk1.out)).trans Hk1.out)
      clear hB2 k0 k1
      obtain ⟨k0, k1, _, _⟩ := two_of Hk2.out
      have tail : ∀ (hcl : clashB us vs = false) (n : Nat) (v : Value) (w3 : World), Res (w2.drewN n) w3 v L → ∃ a c, v = .slice a L.length c ∧ w3.cell? ⟨w.heap.size, 0, none⟩ = some (.int .i64 V) ∧ w3.cell? ⟨w.heap.size, 1, none⟩ = some (.slice a0 fs.length cap) ∧ Calls Tryd.prog 16 #[.agg #[.int .i64 V, .slice a0 fs.length cap], .slice a L.length c] w3 fun e w' => e = .returned (.bool (boundsB fs L)) ∧ Below w.heap.size w w' := by
        intro hcl n v w3 hr
        obtain ⟨_, a, c, rfl, hs⟩ := ownsRow_slI hr.1
        have hb := HB2.out.trans (((show Below w2.heap.size w2 (w2.drewN n) from ⟨rfl, rfl, rfl, Nat.le_refl _, fun _ _ => rfl⟩).trans hr.2).mono HB2.out.size)
        have hk := two_of ((hr.2.block _ (lt_get (show (w2.drewN n).heap[w.heap.size]? = _ from Hk2.out))).trans Hk2.out)
        exact ⟨a, c, rfl, hk.1, hk.2.1, (HBd.out hcl w3 hb a c hs).mono fun e w' h => ⟨h.1, hb.trans (h.2.mono hb.size)⟩⟩
      have HT := hid tail
      clear tail HBd HJ HI
      by_cases e1 : us = []
      · have hcl : clashB us vs = false := by unfold clashB; rw [e1]; simp
        rw [hcl] at HR
        have hu0 : us.length = 0 := by rw [e1]; rfl
        have HT := hid (HT.out hcl)
        clear e1 hcl HDm
        rw [hu0] at HSm ⊢
        go_wp2_with fail
        go_quiet (fail)
        go_wp2_with fail
        have HSm2 := hid (HSm.out (w2.drewN (nq + 1)) (HB2.out.trans ⟨rfl, rfl, rfl, Nat.le_refl _, fun _ _ => rfl⟩))
        go_region_with (first
          | (have h := HCb.out; clear h; go_at_call 16; refine HCb.out.mono ?_; rintro e w4 ⟨rfl, hb4⟩; have HB4 := hid hb4; clear hb4)
          | (go_at_call 20; refine HSm2.out.mono ?_; rintro e w3 ⟨v3, rfl, hr3⟩; obtain ⟨a3, c3, rfl, n0, n1, hcb⟩ := HT.out (nq + 1) v3 w3 hr3; have HCb := hid hcb; clear hr3 hcb))
        all_goals
          go_wp2_with fail
          go_ret2
          rw [HR.out]
          exact ⟨rfl, HB4.out⟩
      · have hu0 : (0 : Int) < (us.length : Int) := by have := List.length_pos_iff.2 e1; omega
        have hud : decide (0 < us.length) = true := decide_eq_true (List.length_pos_iff.2 e1)
        by_cases e2 : vs = []
        · have hcl : clashB us vs = false := by unfold clashB; rw [e2]; simp
          rw [hcl] at HR
          have hv0 : vs.length = 0 := by rw [e2]; rfl
          have HT := hid (HT.out hcl)
          clear e1 e2 hcl HDm
          rw [hv0] at HSm ⊢
          go_wp2_with fail
          go_quiet (fail)
          go_wp2_with fail
          have HSm2 := hid (HSm.out (w2.drewN (nq + 1)) (HB2.out.trans ⟨rfl, rfl, rfl, Nat.le_refl _, fun _ _ => rfl⟩))
          go_region_with (first
            | (have h := HCb.out; clear h; go_at_call 16; refine HCb.out.mono ?_; rintro e w4 ⟨rfl, hb4⟩; have HB4 := hid hb4; clear hb4)
            | (go_at_call 20; refine HSm2.out.mono ?_; rintro e w3 ⟨v3, rfl, hr3⟩; obtain ⟨a3, c3, rfl, n0, n1, hcb⟩ := HT.out (nq + 1) v3 w3 hr3; have HCb := hid hcb; clear hr3 hcb))
          all_goals
            go_wp2_with fail
            go_ret2
            rw [HR.out]
            exact ⟨rfl, HB4.out⟩
        · have hv0 : (0 : Int) < (vs.length : Int) := by have := List.length_pos_iff.2 e2; omega
          have hvd : decide (0 < vs.length) = true := decide_eq_true (List.length_pos_iff.2 e2)
          obtain ⟨b1, o1, f1, hb1, rfl, hc1, hf1, hd1⟩ := HDm.out us a1 Hy.out e1 HCm.out.1
          obtain ⟨b2, o2, f2, hb2, rfl, hc2, hf2, hd2⟩ := HDm.out vs a2 Hz.out e2 HCm.out.2
          have hq1 := (HB2.out.cell (p := ⟨b1, o1, none⟩) hb1).trans hc1
          have hq2 := (HB2.out.cell (p := ⟨b2, o2, none⟩) hb2).trans hc2
          have hcl : clashB us vs = ((ones f1 : Int) != (ones f2 : Int)) := by
            unfold clashB
            rw [decide_eq_true e1, decide_eq_true e2, hd1, hd2, Bool.eq_iff_iff]
            simp
          have HO1 := hid (fun W => ones_any f1 W hf1)
          have HO2 := hid (fun W => ones_any f2 W hf2)
          obtain ⟨n1', hn1⟩ : ∃ n, n = (ones f1 : Int) := ⟨_, rfl⟩
          obtain ⟨n2', hn2⟩ : ∃ n, n = (ones f2 : Int) := ⟨_, rfl⟩
          rw [← hn1, ← hn2] at hcl
          rw [← hn1] at HO1
          rw [← hn2] at HO2
          clear hn1 hn2 hd1 hd2 hc1 hc2 e1 e2 HDm
          by_cases hne : (n1' != n2') = true
          · rw [hcl, hne] at HR
            have hne2 := hne
            clear hcl
            go_wp2_with fail
            go_quiet ((go_at_call 19; first | with_reducible_and_instances exact quiet_of_eq (HO1.out _) | with_reducible_and_instances exact quiet_of_eq (HO2.out _)))
            go_wp2_with fail
            go_ret2
            rw [HR.out]
            exact ⟨rfl, HB2.out.trans ⟨rfl, rfl, rfl, Nat.le_refl _, fun _ _ => rfl⟩⟩
          · have hne2 : (n1' != n2') = false := by simpa using hne
            rw [hne2] at hcl
            rw [hcl] at HR
            have HT := hid (HT.out hcl)
            clear hcl hne
            go_wp2_with fail
            go_quiet ((go_at_call 19; first | with_reducible_and_instances exact quiet_of_eq (HO1.out _) | with_reducible_and_instances exact quiet_of_eq (HO2.out _)))
            go_wp2_with fail
            have HSm2 := hid (HSm.out (w2.drewN (nq + 1)) (HB2.out.trans ⟨rfl, rfl, rfl, Nat.le_refl _, fun _ _ => rfl⟩))
            go_region_with (first
              | (have h := HCb.out; clear h; go_at_call 16; refine HCb.out.mono ?_; rintro e w4 ⟨rfl, hb4⟩; have HB4 := hid hb4; clear hb4)
              | (go_at_call 20; refine HSm2.out.mono ?_; rintro e w3 ⟨v3, rfl, hr3⟩; obtain ⟨a3, c3, rfl, n0, n1, hcb⟩ := HT.out (nq + 1) v3 w3 hr3; have HCb := hid hcb; clear hr3 hcb))
            all_goals
              go_wp2_with fail
              go_ret2
              rw [HR.out]
              exact ⟨rfl, HB4.out⟩
    · obtain ⟨c, hcc⟩ : ∃ c, c = chnR V fs vs := ⟨_, rfl⟩
      have HR : Hid (homR V fs us vs = (false, c)) := hid (by unfold homR; rw [if_pos h0, if_neg h1, hcc])
      rw [← hcc] at h1 HJ
      clear hcc hc hch hC
      have hn : (c != 0) = true := by simpa using h1
      go_enter Tryd.func12, Tryd.ntmps12
      go_wp2_with fail
      refine HI.out.mono ?_
      rintro e w1 ⟨rfl, hB1⟩
      rw [← hW0] at hB1
      have HB1 := hid (HB0.out.trans (hB1.mono HB0.out.size))
      obtain ⟨k0, k1, _, _⟩ := two_of ((hB1.block _ (lt_get Hk0.out)).trans Hk0.out)
      clear hB1 h0 h1
      go_wp2_with fail
      refine (HJ.out w1 HB1.out).mono ?_
      rintro e w2 ⟨rfl, hB2⟩
      have HB2 := hid (HB1.out.trans (hB2.mono HB1.out.size))
      clear hB2
      go_wp2_with fail
      go_ret2
      rw [HR.out]
      exact ⟨rfl, HB2.out⟩
  · obtain ⟨c, hcc⟩ : ∃ c, c = chnR V fs us := ⟨_, rfl⟩
    have HR : Hid (homR V fs us vs = (false, c)) := hid (by unfold homR; rw [if_neg h0, hcc])
    rw [← hcc] at h0 HI
    clear hcc
    have hn : (c != 0) = true := by simpa using h0
    go_enter Tryd.func12, Tryd.ntmps12
    go_wp2_with fail
    refine HI.out.mono ?_
    rintro e w1 ⟨rfl, hB1⟩
    rw [← hW0] at hB1
    have HB1 := hid (HB0.out.trans (hB1.mono HB0.out.size))
    clear hB1 h0
    go_wp2_with fail
    go_ret2
    rw [HR.out]
    exact ⟨rfl, HB1.out⟩

end Go.Proofs.YtpdhnjdnlgnniaaDoor

/-! AreHomologous: the program's. -/
namespace Go.Proofs.YtpdhnjdnlgnniaaDoor
open Go.RowKit

set_option maxRecDepth 100000 in
set_option maxHeartbeats 2000000 in
theorem symWanted (b1 b2 : Nat) (a1 : Option Addr) (cap1 : Nat) (us : List Int) (a2 : Option Addr) (cap2 : Nat) (vs : List Int) (x : Int) (W : World) (h1 : W.cell? ⟨b1, 0, none⟩ = some (.slice a1 us.length cap1)) (h2 : W.cell? ⟨b2, 0, none⟩ = some (.slice a2 vs.length cap2)) (hx1 : SlI W W.heap.size a1 us) (hx2 : SlI W W.heap.size a2 vs) (hg : us.length ≤ 1048576) (hh : vs.length ≤ 1048576) :
    Calls Tryd.prog 23 #[.int .i64 x, .pointer (some ⟨b1, 0, none⟩), .pointer (some ⟨b2, 0, none⟩)] W fun e w' => e = .returned (.bool (decide (x ∈ us) != decide (x ∈ vs))) ∧ Below W.heap.size W w' := by
  have H1 := hid (fun W' (h : Below W.heap.size W W') => contains_any a1 cap1 us x W' (hx1.later h h.size) hg)
  have H2 := hid (fun W' (h : Below W.heap.size W W') => contains_any a2 cap2 vs x W' (hx2.later h h.size) hh)
  obtain ⟨p, hp⟩ : ∃ p, p = decide (x ∈ us) := ⟨_, rfl⟩
  obtain ⟨q, hq⟩ : ∃ q, q = decide (x ∈ vs) := ⟨_, rfl⟩
  rw [← hp] at H1 ⊢
  rw [← hq] at H2 ⊢
  clear hp hq hx1 hx2
  go_enter Tryd.func23, Tryd.ntmps23
  go_wp2_with fail
  go_quiet ((go_at_call 24; first | ((with_reducible_and_instances refine quiet_of_eq (H1.out _ ?_)); exact ⟨rfl, rfl, rfl, Nat.le_refl _, fun _ _ => rfl⟩) | ((with_reducible_and_instances refine quiet_of_eq (H2.out _ ?_)); exact ⟨rfl, rfl, rfl, Nat.le_refl _, fun _ _ => rfl⟩) | fail))
  go_wp2_with fail
  go_ret
  exact ⟨rfl, ⟨rfl, rfl, rfl, Nat.le_refl _, fun _ _ => rfl⟩⟩

set_option maxRecDepth 100000 in
set_option maxHeartbeats 4000000 in
theorem implAreHomologous (V : Int) (a0 : Option Addr) (cap : Nat) (fs : List Int) (a1 : Option Addr) (cap1 : Nat) (us : List Int) (a2 : Option Addr) (cap2 : Nat) (vs : List Int) (w : World) (hx : SlI w w.heap.size a0 fs) (hx1 : SlI w w.heap.size a1 us) (hx2 : SlI w w.heap.size a2 vs) (hl : fs.length ≤ 1048576) (hg : us.length ≤ 1048576) (hh : vs.length ≤ 1048576)
    (pv : Value) (hG : w.cell? ⟨0, 0, none⟩ = some (.iface 74 pv)) :
    Calls Tryd.prog 13 #[.agg #[.int .i64 V, .slice a0 fs.length cap], .slice a1 us.length cap1, .slice a2 vs.length cap2] w fun e w' => e = .returned (.tuple #[.bool (homR V fs us vs).1, .int .i64 (homR V fs us vs).2]) ∧ Below w.heap.size w w' := by
  obtain ⟨W0, hW0⟩ : ∃ W0, W0 = (((w.alloc (.cells #[.int .i64 V, .slice a0 fs.length cap] 28)).alloc (.cells #[.slice a1 us.length cap1] 22)).alloc (.cells #[.slice a2 vs.length cap2] 22)).alloc (.cells #[.slice a1 us.length cap1, .slice a2 vs.length cap2] 22) := ⟨_, rfl⟩
  have hB0 : Below w.heap.size w W0 := by rw [hW0]; exact ((((Below.refl _ w).alloc (Nat.le_refl _) _).alloc (by simp) _).alloc (by simp <;> omega) _).alloc (by simp <;> omega) _
  have hs0 : W0.heap.size = w.heap.size + 4 := by rw [hW0]; simp
  have Hk0 : Hid (W0.heap[w.heap.size]? = some (.cells #[.int .i64 V, .slice a0 fs.length cap] 28 (0, 0)) ∧ W0.heap[w.heap.size + 1]? = some (.cells #[.slice a1 us.length cap1] 22 (0, 0)) ∧ W0.heap[w.heap.size + 1 + 1]? = some (.cells #[.slice a2 vs.length cap2] 22 (0, 0))) := hid (by
    rw [hW0]
    exact ⟨(Below.heap_alloc _ _ _ (by simp <;> omega)).trans ((Below.heap_alloc _ _ _ (by simp <;> omega)).trans ((Below.heap_alloc _ _ _ (by simp)).trans (heap_alloc_new w _))),
      (Below.heap_alloc _ _ _ (by simp <;> omega)).trans ((Below.heap_alloc _ _ _ (by simp <;> omega)).trans (new2 _ _ _)),
      (Below.heap_alloc _ _ _ (by simp <;> omega)).trans (new3 _ _ _ _)⟩)
  have hk2 : W0.cell? ⟨w.heap.size + 1 + 1 + 1, 0, none⟩ = some (.slice a1 us.length cap1) := by rw [hW0]; simp [go_sem]
  have hk3 : W0.cell? ⟨w.heap.size + 1 + 1 + 1, 1, none⟩ = some (.slice a2 vs.length cap2) := by rw [hW0]; simp [go_sem]
  have HI : Hid (Calls Tryd.prog 17 #[.agg #[.int .i64 V, .slice a0 fs.length cap], .slice (some ⟨w.heap.size + 1 + 1 + 1, 0, none⟩) 2 2] W0 fun e w' => e = .returned (.int .i64 (chnsR V fs [us, vs])) ∧ Below W0.heap.size W0 w') :=
    hid (code_any V a0 cap fs (w.heap.size + 1 + 1 + 1) 2 [(a1, cap1, us), (a2, cap2, vs)] W0 pv (hx.later hB0 hB0.size) hl (by omega) (fun i a c xs hi => by
      match i, hi with
      | 0, hi => simp at hi; obtain ⟨rfl, rfl, rfl⟩ := hi; exact ⟨hk2, hx1.later hB0 hB0.size, hg⟩
      | 1, hi => simp at hi; obtain ⟨rfl, rfl, rfl⟩ := hi; exact ⟨hk3, hx2.later hB0 hB0.size, hh⟩) (by simp) ((hB0.cell (p := ⟨0, 0, none⟩) (World.block_lt_of_cell? w _ hG)).trans hG))
  have Hx := hid hx
  have Hy := hid hx1
  have Hz := hid hx2
  have HB0 := hid hB0
  rw [hW0] at HI
  clear hx hx1 hx2 hB0 hk2 hk3 hG hs0
  by_cases h0 : chnsR V fs [us, vs] = 0
  · have hall : isCB V fs = true ∧ chainB fs us = true ∧ chainB fs vs = true := by
      unfold chnsR at h0
      by_cases e1 : isCB V fs = true
      · rw [if_pos e1] at h0
        by_cases e2 : [us, vs].all (chainB fs) = true
        · simp at e2; exact ⟨e1, e2⟩
        · rw [if_neg e2] at h0; simp at h0
      · rw [if_neg e1] at h0; simp at h0
    obtain ⟨hc, hch, hch2⟩ := hall
    have hC := isCB_iff.1 hc
    have hz1 : chnR V fs us = 0 := by unfold chnR; rw [if_pos hc, if_pos hch]
    have hz2 : chnR V fs vs = 0 := by unfold chnR; rw [if_pos hc, if_pos hch2]
    have HR : Hid (homR V fs us vs = if clashB us vs then (false, 5) else (boundsB fs (symL fs us vs), 0)) := hid (by unfold homR; rw [if_pos hz1, if_pos hz2])
    rw [h0] at HI
    have hsl := symL_len fs us vs
    have HBd := hid (fun (hcl : clashB us vs = false) W (h : Below w.heap.size w W) a c (hs : SlI W W.heap.size a (symL fs us vs)) => isBd_any V a0 cap fs a c (symL fs us vs) W (Hx.out.later h h.size) hs hl (by omega) hC (sym_dim hC hch hch2 hcl))
    have HCm := hid (show (∀ x ∈ us, 1 ≤ x ∧ x ≤ 63) ∧ (∀ x ∈ vs, 1 ≤ x ∧ x ≤ 63) from ⟨chain_len hC hch, chain_len hC hch2⟩)
    have HSm := hid (fun W (h : Below w.heap.size w W) (g1 : W.cell? ⟨w.heap.size + 1, 0, none⟩ = some (.slice a1 us.length cap1)) (g2 : W.cell? ⟨w.heap.size + 1 + 1, 0, none⟩ = some (.slice a2 vs.length cap2)) (hsz : w.heap.size + 1 + 1 < W.heap.size) =>
      fw_any2 V a0 cap fs W 23 (.pointer (some ⟨w.heap.size + 1, 0, none⟩)) (.pointer (some ⟨w.heap.size + 1 + 1, 0, none⟩)) (fun x => decide (x ∈ us) != decide (x ∈ vs)) (Hx.out.later h h.size) hl (enters_of Tryd.func23 (by kernel_rfl) rfl)
        (fun W' x hW' _ => symWanted _ _ a1 cap1 us a2 cap2 vs x W' ((hW'.cell (p := ⟨w.heap.size + 1, 0, none⟩) (by simp only; omega)).trans g1) ((hW'.cell (p := ⟨w.heap.size + 1 + 1, 0, none⟩) (by simp only; omega)).trans g2) (Hy.out.later (h.trans (hW'.mono h.size)) (h.trans (hW'.mono h.size)).size) (Hz.out.later (h.trans (hW'.mono h.size)) (h.trans (hW'.mono h.size)).size) hg hh))
    have HSl : Hid (fs.filter (fun x => decide (x ∈ us) != decide (x ∈ vs)) = symL fs us vs) := hid rfl
    obtain ⟨L, hL⟩ : ∃ L, L = symL fs us vs := ⟨_, rfl⟩
    rw [← hL] at HR HBd HSl
    rw [HSl.out] at HSm
    clear h0 hc hch hch2 hC hsl hL hz1 hz2 HSl
    go_enter Tryd.func13, Tryd.ntmps13
    go_wp2_with fail
    refine HI.out.mono ?_
    rintro e w2 ⟨rfl, hB2⟩
    rw [← hW0] at hB2
    have HB2 := hid (HB0.out.trans (hB2.mono HB0.out.size))
    have Hk2 := hid (show w2.heap[w.heap.size]? = some (.cells #[.int .i64 V, .slice a0 fs.length cap] 28 (0, 0)) ∧ w2.heap[w.heap.size + 1]? = some (.cells #[.slice a1 us.length cap1] 22 (0, 0)) ∧ w2.heap[w.heap.size + 1 + 1]? = some (.cells #[.slice a2 vs.length cap2] 22 (0, 0)) from ⟨(hB2.block _ (lt_get Hk0.out.1)).trans Hk0.out.1, (hB2.block _ (lt_get Hk0.out.2.1)).trans Hk0.out.2.1, (hB2.block _ (lt_get Hk0.out.2.2)).trans Hk0.out.2.2⟩)
    obtain ⟨k0, k1, _, _⟩ := two_of Hk2.out.1
    have k2 := (box_cell Hk2.out.2.1).1
    have k3 := (box_cell Hk2.out.2.2).1
    clear hB2
    have HSm2 := hid (fun n => HSm.out (w2.drewN n) (HB2.out.trans ⟨rfl, rfl, rfl, Nat.le_refl _, fun _ _ => rfl⟩) k2 k3 (lt_get Hk2.out.2.2))
    have tail : ∀ (hcl : clashB us vs = false) (n : Nat) (v : Value) (w3 : World), Res (w2.drewN n) w3 v L → ∃ a c, v = .slice a L.length c ∧ w3.cell? ⟨w.heap.size, 0, none⟩ = some (.int .i64 V) ∧ w3.cell? ⟨w.heap.size, 1, none⟩ = some (.slice a0 fs.length cap) ∧ Calls Tryd.prog 18 #[.agg #[.int .i64 V, .slice a0 fs.length cap], .slice a L.length c] w3 fun e w' => e = .returned (.bool (boundsB fs L)) ∧ Below w.heap.size w w' := by
      intro hcl n v w3 hr
      obtain ⟨_, a, c, rfl, hs⟩ := ownsRow_slI hr.1
      have hb := HB2.out.trans (((show Below w2.heap.size w2 (w2.drewN n) from ⟨rfl, rfl, rfl, Nat.le_refl _, fun _ _ => rfl⟩).trans hr.2).mono HB2.out.size)
      have hk := two_of ((hr.2.block _ (lt_get (show (w2.drewN n).heap[w.heap.size]? = _ from Hk2.out.1))).trans Hk2.out.1)
      exact ⟨a, c, rfl, hk.1, hk.2.1, (HBd.out hcl w3 hb a c hs).mono fun e w' h => ⟨h.1, hb.trans (h.2.mono hb.size)⟩⟩
    have HT := hid tail
    have dims : ∀ (xs : List Int) (a : Option Addr), SlI w w.heap.size a xs → xs ≠ [] → (∀ x ∈ xs, 1 ≤ x ∧ x ≤ 63) → ∃ (b o f : Nat), b < w.heap.size ∧ a = some ⟨b, o, none⟩ ∧ w.cell? ⟨b, o, none⟩ = some (.int .i64 (f : Int)) ∧ f < 64 ∧ dimC xs = (ones f : Int) - 1 := by
      intro xs a h hne hr
      have hlen : 0 < xs.length := List.length_pos_iff.2 hne
      rcases h with h | ⟨b, o, hb, rfl, hc⟩
      · exact absurd h hne
      · have hm := hr _ (getD_mem hlen)
        refine ⟨b, o, (xs[0]?.getD 0).toNat, hb, rfl, ?_, by omega, rfl⟩
        have e : (((xs[0]?.getD 0 : Int).toNat : Nat) : Int) = xs[0]?.getD 0 := by omega
        rw [e]
        exact hc 0 hlen
    have HDm := hid dims
    clear tail HBd HSm HI dims
    by_cases e1 : us = []
    · have hcl : clashB us vs = false := by unfold clashB; rw [e1]; simp
      rw [hcl] at HR
      have hu0 : us.length = 0 := by rw [e1]; rfl
      have HT := hid (HT.out hcl)
      clear e1 hcl HDm
      rw [hu0] at k2 ⊢
      go_wp2_with fail
      go_quiet (fail)
      go_wp2_with fail
      refine (HSm2.out nq).mono ?_
      rintro e w3 ⟨v3, rfl, hr3⟩
      obtain ⟨a3, c3, rfl, n0, n1, hcb⟩ := HT.out nq v3 w3 hr3
      have HCb := hid hcb
      clear hr3 hcb
      go_wp2_with fail
      refine HCb.out.mono ?_
      rintro e w4 ⟨rfl, hb4⟩
      have HB4 := hid hb4
      clear hb4
      go_wp2_with fail
      go_ret2
      rw [HR.out]
      exact ⟨rfl, HB4.out⟩
    · have hu0 : (0 : Int) < (us.length : Int) := by have := List.length_pos_iff.2 e1; omega
      have hud : decide (0 < us.length) = true := decide_eq_true (List.length_pos_iff.2 e1)
      by_cases e2 : vs = []
      · have hcl : clashB us vs = false := by unfold clashB; rw [e2]; simp
        rw [hcl] at HR
        have hv0 : vs.length = 0 := by rw [e2]; rfl
        have HT := hid (HT.out hcl)
        clear e1 e2 hcl HDm
        rw [hv0] at k3 ⊢
        go_wp2_with fail
        go_quiet (fail)
        go_wp2_with fail
        refine (HSm2.out nq).mono ?_
        rintro e w3 ⟨v3, rfl, hr3⟩
        obtain ⟨a3, c3, rfl, n0, n1, hcb⟩ := HT.out nq v3 w3 hr3
        have HCb := hid hcb
        clear hr3 hcb
        go_wp2_with fail
        refine HCb.out.mono ?_
        rintro e w4 ⟨rfl, hb4⟩
        have HB4 := hid hb4
        clear hb4
        go_wp2_with fail
        go_ret2
        rw [HR.out]
        exact ⟨rfl, HB4.out⟩
      · have hv0 : (0 : Int) < (vs.length : Int) := by have := List.length_pos_iff.2 e2; omega
        have hvd : decide (0 < vs.length) = true := decide_eq_true (List.length_pos_iff.2 e2)
        obtain ⟨b1, o1, f1, hb1, rfl, hc1, hf1, hd1⟩ := HDm.out us a1 Hy.out e1 HCm.out.1
        obtain ⟨b2, o2, f2, hb2, rfl, hc2, hf2, hd2⟩ := HDm.out vs a2 Hz.out e2 HCm.out.2
        have hq1 := (HB2.out.cell (p := ⟨b1, o1, none⟩) hb1).trans hc1
        have hq2 := (HB2.out.cell (p := ⟨b2, o2, none⟩) hb2).trans hc2
        have hcl : clashB us vs = ((ones f1 : Int) - 1 != (ones f2 : Int) - 1) := by
          unfold clashB
          rw [decide_eq_true e1, decide_eq_true e2, hd1, hd2, Bool.eq_iff_iff]
          simp
        have HO1 := hid (fun W => dim_any f1 W hf1)
        have HO2 := hid (fun W => dim_any f2 W hf2)
        obtain ⟨n1', hn1⟩ : ∃ n, n = (ones f1 : Int) - 1 := ⟨_, rfl⟩
        obtain ⟨n2', hn2⟩ : ∃ n, n = (ones f2 : Int) - 1 := ⟨_, rfl⟩
        rw [← hn1, ← hn2] at hcl
        rw [← hn1] at HO1
        rw [← hn2] at HO2
        clear hn1 hn2 hd1 hd2 hc1 hc2 e1 e2 HDm
        by_cases hne : (n1' != n2') = true
        · rw [hcl, hne] at HR
          have hne2 := hne
          clear hcl
          go_wp2_with fail
          go_quiet ((go_at_call 21; first | with_reducible_and_instances exact quiet_of_eq (HO1.out _) | with_reducible_and_instances exact quiet_of_eq (HO2.out _)))
          go_wp2_with fail
          go_ret2
          rw [HR.out]
          exact ⟨rfl, HB2.out.trans ⟨rfl, rfl, rfl, Nat.le_refl _, fun _ _ => rfl⟩⟩
        · have hne2 : (n1' != n2') = false := by simpa using hne
          rw [hne2] at hcl
          rw [hcl] at HR
          have HT := hid (HT.out hcl)
          clear hcl hne
          go_wp2_with fail
          go_quiet ((go_at_call 21; first | with_reducible_and_instances exact quiet_of_eq (HO1.out _) | with_reducible_and_instances exact quiet_of_eq (HO2.out _)))
          go_wp2_with fail
          refine (HSm2.out nq).mono ?_
          rintro e w3 ⟨v3, rfl, hr3⟩
          obtain ⟨a3, c3, rfl, n0, n1, hcb⟩ := HT.out nq v3 w3 hr3
          have HCb := hid hcb
          clear hr3 hcb
          go_wp2_with fail
          refine HCb.out.mono ?_
          rintro e w4 ⟨rfl, hb4⟩
          have HB4 := hid hb4
          clear hb4
          go_wp2_with fail
          go_ret2
          rw [HR.out]
          exact ⟨rfl, HB4.out⟩
  · obtain ⟨c, hcc⟩ : ∃ c, c = chnsR V fs [us, vs] := ⟨_, rfl⟩
    have hhom : homR V fs us vs = (false, chnsR V fs [us, vs]) := by
      unfold homR chnR chnsR
      unfold chnsR at h0
      by_cases e1 : isCB V fs = true
      · simp only [e1, if_true] at h0 ⊢
        by_cases e2 : chainB fs us = true
        · by_cases e3 : chainB fs vs = true
          · simp [e2, e3] at h0
          · simp [e2, e3]
        · simp [e2]
      · simp [e1]
    have HR : Hid (homR V fs us vs = (false, c)) := hid (by rw [hhom, hcc])
    rw [← hcc] at h0 HI
    clear hcc hhom
    have hn : (c != 0) = true := by simpa using h0
    go_enter Tryd.func13, Tryd.ntmps13
    go_wp2_with fail
    refine HI.out.mono ?_
    rintro e w2 ⟨rfl, hB2⟩
    rw [← hW0] at hB2
    have HB2 := hid (HB0.out.trans (hB2.mono HB0.out.size))
    clear hB2 h0
    go_wp2_with fail
    go_ret2
    rw [HR.out]
    exact ⟨rfl, HB2.out⟩

end Go.Proofs.YtpdhnjdnlgnniaaDoor

/-! The law on AreHomologous, walked. -/
namespace Go.Proofs.YtpdhnjdnlgnniaaDoor
open Go.RowKit

set_option maxRecDepth 100000 in
set_option maxHeartbeats 8000000 in
theorem law_AreHomologous (V0 : Int) (a0 : Option Addr) (cap0 : Nat) (xs0 : List Int) (a1 : Option Addr) (cap1 : Nat) (gs1 : List Int) (a2 : Option Addr) (cap2 : Nat) (gs2 : List Int) (w : World) (hx0 : SlI w w.heap.size a0 xs0) (hx1 : SlI w w.heap.size a1 gs1) (hx2 : SlI w w.heap.size a2 gs2)  (hn0 : xs0.length ≤ 9223372036854775807)  (pv : Value) (hG : w.cell? ⟨0, 0, none⟩ = some (.iface 74 pv)) :
    Calls Tryd.prog 4 #[.agg #[.int .i64 V0, .slice a0 xs0.length cap0], .slice a1 gs1.length cap1, .slice a2 gs2.length cap2] w fun e w' => e = .returned (.bool true) ∧ Below w.heap.size w w' := by
  have HG := hid hG
  have HGl := hid (World.block_lt_of_cell? w _ hG)
  clear hG
  have F0 : Book w w [(a0, xs0), (a1, gs1), (a2, gs2)] [] [] := ⟨Below.refl _ _, by simp; exact ⟨hx0, hx1, hx2⟩, by simp, by simp⟩
  have F0 := F0.alloc (.cells #[.int .i64 V0, .slice a0 xs0.length cap0] 24)
  (try simp only [World.size_alloc] at F0)
  have B0 := hid F0
  clear F0 hx0 hx1 hx2
  obtain ⟨r0, hr0⟩ : ∃ r, r = szR 1048576 xs0.length := ⟨_, rfl⟩
  have Hr0 := hid hr0
  by_cases hbL1 : 1048576 < gs1.length
  · clear hr0
    have hbi1 : (gs1.length : Int) > 1048576 := by omega
    go_enter Tryd.func4, Tryd.ntmps4
    go_wp2_with fail
    go_ret
    exact ⟨rfl, B0.out.from0⟩
  have hl1 : gs1.length ≤ 1048576 := by omega
  have hbi1 : ¬ (gs1.length : Int) > 1048576 := by omega
  by_cases hbL2 : 1048576 < gs2.length
  · clear hr0
    have hbi2 : (gs2.length : Int) > 1048576 := by omega
    go_enter Tryd.func4, Tryd.ntmps4
    go_wp2_with fail
    go_ret
    exact ⟨rfl, B0.out.from0⟩
  have hl2 : gs2.length ≤ 1048576 := by omega
  have hbi2 : ¬ (gs2.length : Int) > 1048576 := by omega
  by_cases hb0 : 1048576 < xs0.length
  · have hm0 : r0 = -1 := by rw [hr0]; exact szR_big (by omega)
    clear hb0
    clear hr0
    go_enter Tryd.func4, Tryd.ntmps4
    go_wp2_with fail
    refine (szCx V0 a0 xs0.length cap0 1048576 _ (by omega) (by omega) hn0).mono ?_
    rintro e s0 ⟨rfl, hB⟩
    have zs0 := hB.size
    (try simp only [World.size_alloc] at zs0)
    have B0 := hid (B0.out.below hB)
    clear hB
    rw [← Hr0.out]
    go_wp2_with fail
    go_ret
    exact ⟨rfl, B0.out.from0⟩
  · have hv0 : r0 = 1048576 - xs0.length := by rw [hr0, szR_fit (by omega)]
    have hg0 : 0 ≤ r0 := by omega
    have hu0 : r0 ≤ 1048576 := by omega
    have hl0 : xs0.length ≤ 1048576 := by omega
    clear hr0 hb0
    have Hv0 := hid hv0
    clear hv0
    obtain ⟨R, hR⟩ : ∃ R, R = homR V0 xs0 gs1 gs2 := ⟨_, rfl⟩
    obtain ⟨bb, c⟩ := R
    have HS : Hid (∀ a0 cap0 a1 cap1 a2 cap2 w', SlI w' w'.heap.size a0 xs0 → SlI w' w'.heap.size a1 gs1 → SlI w' w'.heap.size a2 gs2 → Calls Tryd.prog 12 #[.agg #[.int .i64 V0, .slice a0 xs0.length cap0], .slice a1 gs1.length cap1, .slice a2 gs2.length cap2] w' fun e w'' => e = .returned (.tuple #[.bool bb, .int .i64 c]) ∧ Below w'.heap.size w' w'') :=
      hid (fun a0 cap0 a1 cap1 a2 cap2 w' hs0 hs1 hs2 => by have := specAreHomologous V0 a0 cap0 xs0 a1 cap1 gs1 a2 cap2 gs2 w' hs0 hs1 hs2 hl0 hl1 hl2; rwa [← hR] at this)
    have HI : Hid (∀ a0 cap0 a1 cap1 a2 cap2 w', SlI w' w'.heap.size a0 xs0 → SlI w' w'.heap.size a1 gs1 → SlI w' w'.heap.size a2 gs2 → w'.cell? ⟨0, 0, none⟩ = some (.iface 74 pv) → Calls Tryd.prog 13 #[.agg #[.int .i64 V0, .slice a0 xs0.length cap0], .slice a1 gs1.length cap1, .slice a2 gs2.length cap2] w' fun e w'' => e = .returned (.tuple #[.bool bb, .int .i64 c]) ∧ Below w'.heap.size w' w'') :=
      hid (fun a0 cap0 a1 cap1 a2 cap2 w' hs0 hs1 hs2 hG' => by have := implAreHomologous V0 a0 cap0 xs0 a1 cap1 gs1 a2 cap2 gs2 w' hs0 hs1 hs2 hl0 hl1 hl2 pv hG'; rwa [← hR] at this)
    have hcc : (c != c) = false := by simp
    clear hR
    go_enter Tryd.func4, Tryd.ntmps4
    go_wp2_with fail
    refine (szCx V0 a0 xs0.length cap0 1048576 _ (by omega) (by omega) hn0).mono ?_
    rintro e s0 ⟨rfl, hB⟩
    have zs0 := hB.size
    (try simp only [World.size_alloc] at zs0)
    have B0 := hid (B0.out.below hB)
    clear hB
    rw [← Hr0.out]
    obtain ⟨q0, q1⟩ := B0.out.two (.head _)
    go_wp2_with fail
    clear q0 q1
    refine (toCx V0 a0 cap0 xs0 _ (B0.out.arg (.head _)) hl0).mono ?_
    rintro e u0 ⟨gu0, rfl, hown, hB⟩
    have zu0 := hB.size
    (try simp only [World.size_alloc] at zu0)
    have B0 := hid (B0.out.row hown hB)
    clear hown hB
    (try simp only [World.size_alloc] at B0)
    go_wp2_with fail
    refine (toInts a1 cap1 gs1 _ (B0.out.arg (.tail _ (.head _))) hl1).mono ?_
    rintro e u1 ⟨rfl, hown, hB⟩
    have zu1 := hB.size
    (try simp only [World.size_alloc] at zu1)
    have B0 := hid (B0.out.row hown hB)
    clear hown hB
    (try simp only [World.size_alloc] at B0)
    go_wp2_with fail
    refine (toInts a2 cap2 gs2 _ (B0.out.arg (.tail _ (.tail _ (.head _)))) hl2).mono ?_
    rintro e u2 ⟨rfl, hown, hB⟩
    have zu2 := hB.size
    (try simp only [World.size_alloc] at zu2)
    have B0 := hid (B0.out.row hown hB)
    clear hown hB
    (try simp only [World.size_alloc] at B0)
    go_wp2_with fail
    refine (HS.out _ _ _ _ _ _ _ (B0.out.slI (.tail _ (.tail _ (.head _)))) (B0.out.slI (.tail _ (.head _))) (B0.out.slI (.head _))).mono ?_
    rintro e u9 ⟨rfl, hB⟩
    have zu9 := hB.size
    (try simp only [World.size_alloc] at zu9)
    have B0 := hid (B0.out.below hB)
    clear hB
    obtain ⟨q0, q1⟩ := B0.out.two (.head _)
    go_wp2_with fail
    clear q0 q1
    refine (toCx V0 a0 cap0 xs0 _ (B0.out.arg (.head _)) hl0).mono ?_
    rintro e x0 ⟨gx0, rfl, hown, hB⟩
    have zx0 := hB.size
    (try simp only [World.size_alloc] at zx0)
    have B0 := hid (B0.out.row hown hB)
    clear hown hB
    (try simp only [World.size_alloc] at B0)
    have B0 := hid (B0.out.alloc (.cells #[.int .i64 V0, .slice (some ⟨gx0, 0, none⟩) xs0.length xs0.length] 28))
    go_wp2_with fail
    refine (toInts a1 cap1 gs1 _ (B0.out.arg (.tail _ (.head _))) hl1).mono ?_
    rintro e x1 ⟨rfl, hown, hB⟩
    have zx1 := hB.size
    (try simp only [World.size_alloc] at zx1)
    have B0 := hid (B0.out.row hown hB)
    clear hown hB
    (try simp only [World.size_alloc] at B0)
    go_wp2_with fail
    refine (toInts a2 cap2 gs2 _ (B0.out.arg (.tail _ (.tail _ (.head _)))) hl2).mono ?_
    rintro e x2 ⟨rfl, hown, hB⟩
    have zx2 := hB.size
    (try simp only [World.size_alloc] at zx2)
    have B0 := hid (B0.out.row hown hB)
    clear hown hB
    (try simp only [World.size_alloc] at B0)
    obtain ⟨p00, p01⟩ := B0.out.two (.head _)
    go_wp2_with fail
    clear p00 p01
    refine (HI.out _ _ _ _ _ _ _ (B0.out.slI (.tail _ (.tail _ (.head _)))) (B0.out.slI (.tail _ (.head _))) (B0.out.slI (.head _)) ((B0.out.from0.cell (p := ⟨0, 0, none⟩) HGl.out).trans HG.out)).mono ?_
    rintro e v9 ⟨rfl, hB⟩
    have zv9 := hB.size
    (try simp only [World.size_alloc] at zv9)
    have B0 := hid (B0.out.below hB)
    clear hB
    clear HS HI
    cases bb
    all_goals
      obtain ⟨lxb00, lxb01⟩ := B0.out.two (.head _)
      obtain ⟨lk00, lk01⟩ := B0.out.two (.tail _ (.head _))
      go_wp2_with fail
      go_region_with (first
        | (go_at_call 7; refine (toCx V0 a0 cap0 xs0 _ (B0.out.drew.arg (.head _)) hl0).mono ?_; rintro e f0 ⟨gf0, rfl, hown, hB⟩; have zf0 := hB.size; have C0 := hid (B0.out.drew.row hown hB); clear hown hB; obtain ⟨m00, m01⟩ := C0.out.two (.head _))
        | (go_at_call 10; refine (eqCx_yes V0 _ _ _ _ xs0 xs0 _ (C0.out.slI (.tail _ (.tail _ (.tail _ (.head _))))) (C0.out.slI (.head _)) hl0 hl0 rfl).mono ?_; rintro e h0 ⟨rfl, hB⟩))
      all_goals
        have zh0 := hB.size
        have D0 := hid (C0.out.below hB)
        clear hB C0 B0 m00 m01
        clear lxb00 lxb01
        clear lk00 lk01
        have B0 := D0
        clear D0
        skip
        go_wp2_with fail
        refine (toInts a1 cap1 gs1 _ (B0.out.arg (.tail _ (.head _))) hl1).mono ?_
        rintro e f1 ⟨rfl, hown, hB⟩
        have zf1 := hB.size
        (try simp only [World.size_alloc] at zf1)
        have B0 := hid (B0.out.row hown hB)
        clear hown hB
        (try simp only [World.size_alloc] at B0)
        go_wp2_with fail
        refine (eqInts_yes _ _ _ _ gs1 gs1 _ (B0.out.slI (.tail _ (.tail _ (.tail _ (.head _))))) (B0.out.slI (.head _)) hl1 hl1 rfl).mono ?_
        rintro e h1 ⟨rfl, hB⟩
        have zh1 := hB.size
        (try simp only [World.size_alloc] at zh1)
        have B0 := hid (B0.out.below hB)
        clear hB
        go_wp2_with fail
        refine (toInts a2 cap2 gs2 _ (B0.out.arg (.tail _ (.tail _ (.head _)))) hl2).mono ?_
        rintro e f2 ⟨rfl, hown, hB⟩
        have zf2 := hB.size
        (try simp only [World.size_alloc] at zf2)
        have B0 := hid (B0.out.row hown hB)
        clear hown hB
        (try simp only [World.size_alloc] at B0)
        go_wp2_with fail
        refine (eqInts_yes _ _ _ _ gs2 gs2 _ (B0.out.slI (.tail _ (.tail _ (.tail _ (.head _))))) (B0.out.slI (.head _)) hl2 hl2 rfl).mono ?_
        rintro e h2 ⟨rfl, hB⟩
        have zh2 := hB.size
        (try simp only [World.size_alloc] at zh2)
        have B0 := hid (B0.out.below hB)
        clear hB
        go_wp2_with fail
        go_ret
        exact ⟨rfl, B0.out.from0⟩

end Go.Proofs.YtpdhnjdnlgnniaaDoor
