import Derived.Lib.QuietBelow
import Derived.WideKeyPair
import Derived.Test.YtbgkalkipalndaaMM1
import Derived.Test.YtbgkalkipalndaaMM2
/-! The model's test of a pair of faces. -/
namespace Go.Proofs.Ytbgkalkipalndaa
open Go.RowKit Go.Sort

/-- Two faces are a pair. -/
def pairB (fs : List Int) (x y : Int) : Bool := decide (x ∈ fs) && decide (y ∈ fs) && decide (x.toNat &&& y.toNat = x.toNat) && decide (ones y.toNat = ones x.toNat + 1)

set_option maxRecDepth 100000 in
set_option maxHeartbeats 4000000 in
theorem pair_any (V : Int) (a : Option Addr) (cap : Nat) (fs : List Int) (x y : Int) (w : World) (hx : SlI w w.heap.size a fs) (hl : fs.length ≤ 1048576) (hf : ∀ x ∈ fs, 1 ≤ x ∧ x ≤ 63) :
    Calls Try.prog 167 #[.agg #[.int .i64 V, .slice a fs.length cap], .agg #[.int .i64 x, .int .i64 y]] w fun e w' => e = .returned (.bool (pairB fs x y)) ∧ Below w.heap.size w w' := by
  obtain ⟨W, hW⟩ : ∃ W, W = (w.alloc (.cells #[.int .i64 V, .slice a fs.length cap] 30)).alloc (.cells #[.int .i64 x, .int .i64 y] 77) := ⟨_, rfl⟩
  have HB : Hid (Below w.heap.size w W) := hid (by rw [hW]; exact ((Below.refl _ w).alloc (Nat.le_refl _) _).alloc (by simp) _)
  have q0 : W.heap[w.heap.size]? = some (.cells #[.int .i64 V, .slice a fs.length cap] 30 (0, 0)) := by rw [hW]; exact (Below.heap_alloc _ _ _ (by simp)).trans (heap_alloc_new _ _)
  have q1 : W.heap[w.heap.size + 1]? = some (.cells #[.int .i64 x, .int .i64 y] 77 (0, 0)) := by rw [hW]; exact new2 _ _ _
  have HW := hid hW
  have Hx := hid (hx.later HB.out HB.out.size)
  obtain ⟨k0, k1, _, _⟩ := two_of q0
  obtain ⟨p0, p1, _, _⟩ := two_of q1
  clear hW q0 q1 hx
  have Hf := hid hf
  clear hf
  have cX : ∀ d os, Calls Try.prog 76 #[.agg #[.int .i64 V, .slice a fs.length cap], .int .i64 x] (grow (redrawn W d) os) fun e w'' => e = .returned (.bool (decide (x ∈ fs))) ∧ ∃ p : Regrown, w'' = grow (redrawn W p.d) p.os := fun d os => Calls.regrown_of (has_any V x a cap fs _ (Hx.out.later (below_regrown W d os) (below_regrown W d os).size) hl)
  have cY : ∀ d os, Calls Try.prog 76 #[.agg #[.int .i64 V, .slice a fs.length cap], .int .i64 y] (grow (redrawn W d) os) fun e w'' => e = .returned (.bool (decide (y ∈ fs))) ∧ ∃ p : Regrown, w'' = grow (redrawn W p.d) p.os := fun d os => Calls.regrown_of (has_any V y a cap fs _ (Hx.out.later (below_regrown W d os) (below_regrown W d os).size) hl)
  have CX := hid cX
  have CY := hid cY
  have r0 := cell_regrown k0
  have r1 := cell_regrown k1
  have r2 := cell_regrown p0
  have r3 := cell_regrown p1
  clear cX cY k0 k1 p0 p1 Hx
  by_cases hx1 : x ∈ fs
  · rw [decide_eq_true hx1] at CX
    by_cases hy1 : y ∈ fs
    · rw [decide_eq_true hy1] at CY
      have hxr := Hf.out x hx1
      have hyr := Hf.out y hy1
      have He : Hid (pairB fs x y = (decide (x.toNat &&& y.toNat = x.toNat) && decide (ones y.toNat = ones x.toNat + 1))) := hid (by unfold pairB; rw [decide_eq_true hx1, decide_eq_true hy1]; simp)
      clear hx1 hy1
      obtain ⟨x, rfl⟩ : ∃ n : Nat, x = n := ⟨x.toNat, by omega⟩
      obtain ⟨y, rfl⟩ : ∃ n : Nat, y = n := ⟨y.toNat, by omega⟩
      have hx64 : x < 64 := by omega
      have hy64 : y < 64 := by omega
      simp only [Int.toNat_natCast] at He
      have hbits : bits BinOp.and IntKind.i64 (x : Int) (y : Int) = ((x &&& y : Nat) : Int) := (bits_nat .i64 6 (by decide) (fun n h0 h1 => by rw [IntKind.wrap_i64]; omega) x y (by omega) (by omega)).1
      have ho := ones_le x
      have ho' := ones_le y
      have cO : ∀ (f : Nat), f < 64 → ∀ d os, Calls Try.prog 118 #[.int .i64 (f : Int)] (grow (redrawn W d) os) fun e w'' => e = .returned (.int .i64 (ones f : Int)) ∧ ∃ p : Regrown, w'' = grow (redrawn W p.d) p.os := fun f hf d os => Calls.regrown_of ((ones_any f _ hf).mono fun _ _ ⟨he, hw⟩ => ⟨he, by rw [← hw]; exact Below.refl _ _⟩)
      have COx := hid (cO x hx64)
      have COy := hid (cO y hy64)
      have hw : IntKind.i64.wrap (((ones x : Nat) : Int) + 1) = ((ones x : Nat) : Int) + 1 := by rw [IntKind.wrap_i64]; omega
      clear cO
      by_cases hb : x &&& y = x
      · have hd : (((x &&& y : Nat) : Int) == (x : Int)) = true := by simp; omega
        have He2 : Hid (pairB fs x y = decide (ones y = ones x + 1)) := hid (by rw [He.out, decide_eq_true hb]; simp)
        have Ho : Hid ((((ones y : Nat) : Int) == ((ones x : Nat) : Int) + 1) = decide (ones y = ones x + 1)) := hid (by rw [Bool.eq_iff_iff]; simp; omega)
        clear hb
        go_enter Try.func167, Try.ntmps167
        go_wp2_with fail
        rw [← HW.out]
        refine wp_region_quiet_below (by kernel_rfl) (by kernel_rfl) ?_
        iterate 3 (with_reducible refine wpQuiet_step (fun K hK => ?_); have HK := hid hK; clear hK; go_simp; with_reducible refine HK.out _ ?_; clear HK K)
        (with_reducible refine wpQuiet_step (fun K hK => ?_); have HK := hid hK; clear hK; go_simp; apply Exists.intro; with_reducible refine ⟨fun _ => ?_, HK.out _ ?_⟩; exact CX.out _ _; clear HK K)
        iterate 4 (with_reducible refine wpQuiet_step (fun K hK => ?_); have HK := hid hK; clear hK; go_simp; with_reducible refine HK.out _ ?_; clear HK K)
        (with_reducible refine wpQuiet_step (fun K hK => ?_); have HK := hid hK; clear hK; go_simp; apply Exists.intro; with_reducible refine ⟨fun _ => ?_, HK.out _ ?_⟩; exact CY.out _ _; clear HK K)
        iterate 14 (with_reducible refine wpQuiet_step (fun K hK => ?_); have HK := hid hK; clear hK; go_simp; with_reducible refine HK.out _ ?_; clear HK K)
        (with_reducible refine wpQuiet_step (fun K hK => ?_); have HK := hid hK; clear hK; go_simp; apply Exists.intro; with_reducible refine ⟨fun _ => ?_, HK.out _ ?_⟩; exact COy.out _ _; clear HK K)
        iterate 2 (with_reducible refine wpQuiet_step (fun K hK => ?_); have HK := hid hK; clear hK; go_simp; with_reducible refine HK.out _ ?_; clear HK K)
        (with_reducible refine wpQuiet_step (fun K hK => ?_); have HK := hid hK; clear hK; go_simp; apply Exists.intro; with_reducible refine ⟨fun _ => ?_, HK.out _ ?_⟩; exact COx.out _ _; clear HK K)
        iterate 4 (with_reducible refine wpQuiet_step (fun K hK => ?_); have HK := hid hK; clear hK; go_simp; with_reducible refine HK.out _ ?_; clear HK K)
        with_reducible refine wpQuiet_nil ?_
        intro _ hw'
        obtain ⟨⟨dq, osq⟩, hw''⟩ := hw'
        subst hw''
        go_wp2_with fail
        go_ret
        exact ⟨ret_bool (by rw [He2.out]; exact Ho.out), HB.out.trans ((below_regrown W dq osq).mono HB.out.size)⟩
      · have hd : (((x &&& y : Nat) : Int) == (x : Int)) = false := by simp; omega
        have He2 : Hid (pairB fs x y = false) := hid (by rw [He.out, decide_eq_false hb]; simp)
        clear hb
        go_enter Try.func167, Try.ntmps167
        go_wp2_with fail
        rw [← HW.out]
        refine wp_region_quiet_below (by kernel_rfl) (by kernel_rfl) ?_
        iterate 3 (with_reducible refine wpQuiet_step (fun K hK => ?_); have HK := hid hK; clear hK; go_simp; with_reducible refine HK.out _ ?_; clear HK K)
        (with_reducible refine wpQuiet_step (fun K hK => ?_); have HK := hid hK; clear hK; go_simp; apply Exists.intro; with_reducible refine ⟨fun _ => ?_, HK.out _ ?_⟩; exact CX.out _ _; clear HK K)
        iterate 4 (with_reducible refine wpQuiet_step (fun K hK => ?_); have HK := hid hK; clear hK; go_simp; with_reducible refine HK.out _ ?_; clear HK K)
        (with_reducible refine wpQuiet_step (fun K hK => ?_); have HK := hid hK; clear hK; go_simp; apply Exists.intro; with_reducible refine ⟨fun _ => ?_, HK.out _ ?_⟩; exact CY.out _ _; clear HK K)
        iterate 22 (with_reducible refine wpQuiet_step (fun K hK => ?_); have HK := hid hK; clear hK; go_simp; with_reducible refine HK.out _ ?_; clear HK K)
        with_reducible refine wpQuiet_nil ?_
        intro _ hw'
        obtain ⟨⟨dq, osq⟩, hw''⟩ := hw'
        subst hw''
        go_wp2_with fail
        go_ret
        exact ⟨ret_bool He2.out.symm, HB.out.trans ((below_regrown W dq osq).mono HB.out.size)⟩
    · rw [decide_eq_false hy1] at CY
      have He : Hid (pairB fs x y = false) := hid (by unfold pairB; rw [decide_eq_false hy1]; simp)
      clear hx1 hy1
      go_enter Try.func167, Try.ntmps167
      go_wp2_with fail
      rw [← HW.out]
      refine wp_region_quiet_below (by kernel_rfl) (by kernel_rfl) ?_
      iterate 3 (with_reducible refine wpQuiet_step (fun K hK => ?_); have HK := hid hK; clear hK; go_simp; with_reducible refine HK.out _ ?_; clear HK K)
      (with_reducible refine wpQuiet_step (fun K hK => ?_); have HK := hid hK; clear hK; go_simp; apply Exists.intro; with_reducible refine ⟨fun _ => ?_, HK.out _ ?_⟩; exact CX.out _ _; clear HK K)
      iterate 4 (with_reducible refine wpQuiet_step (fun K hK => ?_); have HK := hid hK; clear hK; go_simp; with_reducible refine HK.out _ ?_; clear HK K)
      (with_reducible refine wpQuiet_step (fun K hK => ?_); have HK := hid hK; clear hK; go_simp; apply Exists.intro; with_reducible refine ⟨fun _ => ?_, HK.out _ ?_⟩; exact CY.out _ _; clear HK K)
      iterate 22 (with_reducible refine wpQuiet_step (fun K hK => ?_); have HK := hid hK; clear hK; go_simp; with_reducible refine HK.out _ ?_; clear HK K)
      with_reducible refine wpQuiet_nil ?_
      intro _ hw'
      obtain ⟨⟨dq, osq⟩, hw''⟩ := hw'
      subst hw''
      go_wp2_with fail
      go_ret
      exact ⟨ret_bool He.out.symm, HB.out.trans ((below_regrown W dq osq).mono HB.out.size)⟩
  · rw [decide_eq_false hx1] at CX
    have He : Hid (pairB fs x y = false) := hid (by unfold pairB; rw [decide_eq_false hx1]; simp)
    clear hx1
    go_enter Try.func167, Try.ntmps167
    go_wp2_with fail
    rw [← HW.out]
    refine wp_region_quiet_below (by kernel_rfl) (by kernel_rfl) ?_
    iterate 3 (with_reducible refine wpQuiet_step (fun K hK => ?_); have HK := hid hK; clear hK; go_simp; with_reducible refine HK.out _ ?_; clear HK K)
    (with_reducible refine wpQuiet_step (fun K hK => ?_); have HK := hid hK; clear hK; go_simp; apply Exists.intro; with_reducible refine ⟨fun _ => ?_, HK.out _ ?_⟩; exact CX.out _ _; clear HK K)
    iterate 27 (with_reducible refine wpQuiet_step (fun K hK => ?_); have HK := hid hK; clear hK; go_simp; with_reducible refine HK.out _ ?_; clear HK K)
    with_reducible refine wpQuiet_nil ?_
    intro _ hw'
    obtain ⟨⟨dq, osq⟩, hw''⟩ := hw'
    subst hw''
    go_wp2_with fail
    go_ret
    exact ⟨ret_bool He.out.symm, HB.out.trans ((below_regrown W dq osq).mono HB.out.size)⟩

end Go.Proofs.Ytbgkalkipalndaa

/-! The model's test of a pairing. -/
namespace Go.Proofs.Ytbgkalkipalndaa
open Go.RowKit Go.Sort

/-- Two pairs have a face in common. -/
def clashB (x y x' y' : Int) : Bool := decide (x = x') || decide (x = y') || decide (y = x') || decide (y = y')

/-- The first k pairs are pairs, in order, and the pair i has no face of an earlier one. -/
def OkTo (fs ps : List Int) (k : Nat) : Prop := ∀ i, i < k → pairB fs (at0 ps (i * 2)) (at0 ps (i * 2 + 1)) = true ∧ (1 ≤ i → lessP (at0 ps ((i - 1) * 2)) (at0 ps ((i - 1) * 2 + 1)) (at0 ps (i * 2)) (at0 ps (i * 2 + 1)) = true) ∧ ∀ j, j < i → clashB (at0 ps (i * 2)) (at0 ps (i * 2 + 1)) (at0 ps (j * 2)) (at0 ps (j * 2 + 1)) = false

noncomputable def pairingB (fs ps : List Int) (n : Nat) : Bool := @decide (OkTo fs ps n) (Classical.propDecidable _)
theorem pairingB_true {fs ps : List Int} {n : Nat} (h : OkTo fs ps n) : pairingB fs ps n = true := by unfold pairingB; exact @decide_eq_true _ (Classical.propDecidable _) h
theorem pairingB_false {fs ps : List Int} {n : Nat} (h : ¬ OkTo fs ps n) : pairingB fs ps n = false := by unfold pairingB; exact @decide_eq_false _ (Classical.propDecidable _) h

set_option maxRecDepth 100000 in
set_option maxHeartbeats 8000000 in
theorem pis_some (V : Int) (a : Option Addr) (cap : Nat) (fs : List Int) (b off n c2 : Nat) (ps : List Int) (w : World) (hx : SlI w w.heap.size a fs) (hl : fs.length ≤ 1048576) (hf : ∀ x ∈ fs, 1 ≤ x ∧ x ≤ 63)
    (hb : b < w.heap.size) (hc : ∀ i, i < ps.length → w.cell? ⟨b, off + i, none⟩ = some (.int .i64 (ps[i]?.getD 0))) (hp : ps.length = 2 * n) (hn : n ≤ 1048576) :
    Calls Try.prog 105 #[.agg #[.int .i64 V, .slice a fs.length cap], .slice (some ⟨b, off, none⟩) n c2] w fun e w' => e = .returned (.bool (pairingB fs ps n)) ∧ Below w.heap.size w w' := by
  obtain ⟨W0, hW0⟩ : ∃ W0, W0 = w.alloc (.cells #[.int .i64 V, .slice a fs.length cap] 30) := ⟨_, rfl⟩
  have HW0 : Hid (Below w.heap.size w W0) := hid (by rw [hW0]; exact (Below.refl _ w).alloc (Nat.le_refl _) _)
  have hs0 : W0.heap.size = w.heap.size + 1 := by rw [hW0]; simp
  have q0 : W0.heap[w.heap.size]? = some (.cells #[.int .i64 V, .slice a fs.length cap] 30 (0, 0)) := by rw [hW0]; exact heap_alloc_new _ _
  obtain ⟨k0, k1, _, _⟩ := two_of q0
  have K0 := hid k0
  have K1 := hid k1
  have Hs0 := hid hs0
  have Hx := hid hx
  have Hc := hid hc
  have Hp := hid hp
  have Hf := hid hf
  have HW := hid hW0
  clear hc hp hf hx q0 k0 k1 hs0
  go_enter Try.func105, Try.ntmps105
  go_wp2_with fail
  rw [← HW.out]
  clear hW0
  go_loopw [5] (fun i wr => ∃ k : Nat, k ≤ n ∧ i = .int .i64 k ∧ Hid (OkTo fs ps k) ∧ Below (w.heap.size + 1) W0 wr) (fun i _ => n - (intOf i).toNat)
  case atStart => exact ⟨0, Nat.zero_le _, rfl, hid (fun i hi => by omega), Below.refl _ _⟩
  case round =>
    obtain ⟨k, hk, rfl, Hk, hB⟩ := hrel
    have HB := hid hB
    clear hB
    by_cases hlt : k < n
    · have hc0 : wr.cell? ⟨w.heap.size, 0, none⟩ = some (.int .i64 V) := (HB.out.cell (p := ⟨w.heap.size, 0, none⟩) (by simp)).trans K0.out
      have hc1 : wr.cell? ⟨w.heap.size, 1, none⟩ = some (.slice a fs.length cap) := (HB.out.cell (p := ⟨w.heap.size, 1, none⟩) (by simp)).trans K1.out
      have HBw : Hid (Below w.heap.size w wr) := hid (HW0.out.trans (HB.out.mono (Nat.le_succ _)))
      have hc2 : wr.cell? ⟨b, off + k * 2, none⟩ = some (.int .i64 (at0 ps (k * 2))) := (HBw.out.cell (p := ⟨b, off + k * 2, none⟩) hb).trans (Hc.out _ (by have := Hp.out; omega))
      have hc3 : wr.cell? ⟨b, off + k * 2 + 1, none⟩ = some (.int .i64 (at0 ps (k * 2 + 1))) := (HBw.out.cell (p := ⟨b, off + (k * 2 + 1), none⟩) hb).trans (Hc.out _ (by have := Hp.out; omega))
      obtain ⟨x, hx⟩ : ∃ x, x = at0 ps (k * 2) := ⟨_, rfl⟩
      obtain ⟨y, hy⟩ : ∃ y, y = at0 ps (k * 2 + 1) := ⟨_, rfl⟩
      rw [← hx] at hc2
      rw [← hy] at hc3
      have HX := hid hx
      have HY := hid hy
      clear hx hy
      have hi0 : (0 : Int) ≤ (k : Int) := by omega
      have hi1 : (k : Int) < (n : Int) := by omega
      have r0 := cell_regrown hc0
      have r1 := cell_regrown hc1
      have r2 := cell_regrown hc2
      have r3 := cell_regrown hc3
      have cP : ∀ d os, Calls Try.prog 167 #[.agg #[.int .i64 V, .slice a fs.length cap], .agg #[.int .i64 x, .int .i64 y]] (grow (redrawn wr d) os) fun e w'' => e = .returned (.bool (pairB fs x y)) ∧ ∃ p : Regrown, w'' = grow (redrawn wr p.d) p.os := fun d os => Calls.regrown_of (pair_any V a cap fs x y _ ((Hx.out.later HBw.out HBw.out.size).later (below_regrown wr d os) (below_regrown wr d os).size) hl Hf.out)
      have CP := hid cP
      clear cP
      by_cases hq : pairB fs x y = true
      · rw [hq] at CP
        have Hq := hid hq
        clear hq hc0 hc1 hc2 hc3
        by_cases hk0 : 0 < k
        rotate_left
        · have hd : decide (0 < k) = false := decide_eq_false hk0
          have Hk0 := hid hk0
          clear hk0
          go_wp2_with fail
          refine wp_region_quiet_below (by kernel_rfl) (by kernel_rfl) ?_
          iterate 5 (with_reducible refine wpQuiet_step (fun K hK => ?_); have HK := hid hK; clear hK; go_simp; (first | with_reducible refine HK.out _ ?_ | (rw [if_neg (by decide)]; with_reducible refine HK.out _ ?_)); clear HK K)
          (with_reducible refine wpQuiet_step (fun K hK => ?_); have HK := hid hK; clear hK; go_simp; apply Exists.intro; with_reducible refine ⟨fun _ => ?_, HK.out _ ?_⟩; exact CP.out _ _; clear HK K)
          iterate 18 (with_reducible refine wpQuiet_step (fun K hK => ?_); have HK := hid hK; clear hK; go_simp; (first | with_reducible refine HK.out _ ?_ | (rw [if_neg (by decide)]; with_reducible refine HK.out _ ?_)); clear HK K)
          with_reducible refine wpQuiet_nil ?_
          intro _ hw'
          obtain ⟨⟨dq, osq⟩, hw''⟩ := hw'
          subst hw''
          go_wp2_with fail
          have HB' : Hid (Below (w.heap.size + 1) W0 (grow (redrawn wr dq) osq)) := hid (HB.out.trans ((below_regrown wr dq osq).mono (by rw [← Hs0.out]; exact HB.out.size)))
          refine wp_loop_rounds 1 ?_; rw [rounds_succ]
          go_wp2_with fail
          go_roundw
          case rel =>
            have hk0 := Hk0.out
            refine ⟨k + 1, by omega, by go_num, fun i hi => ?_, HB'.out⟩
            obtain rfl : i = k := by omega
            exact ⟨by rw [← HX.out, ← HY.out]; exact Hq.out, fun h => by omega, fun j hj => by omega⟩
          case measure => simp [intOf]; omega
        · obtain ⟨m, rfl⟩ : ∃ m : Nat, k = m + 1 := ⟨k - 1, by omega⟩
          clear hk0
          have hd2 : wr.cell? ⟨b, off + m * 2, none⟩ = some (.int .i64 (at0 ps (m * 2))) := (HBw.out.cell (p := ⟨b, off + m * 2, none⟩) hb).trans (Hc.out _ (by have := Hp.out; omega))
          have hd3 : wr.cell? ⟨b, off + m * 2 + 1, none⟩ = some (.int .i64 (at0 ps (m * 2 + 1))) := (HBw.out.cell (p := ⟨b, off + (m * 2 + 1), none⟩) hb).trans (Hc.out _ (by have := Hp.out; omega))
          obtain ⟨x', hx'⟩ : ∃ x, x = at0 ps (m * 2) := ⟨_, rfl⟩
          obtain ⟨y', hy'⟩ : ∃ y, y = at0 ps (m * 2 + 1) := ⟨_, rfl⟩
          rw [← hx'] at hd2
          rw [← hy'] at hd3
          have HX' := hid hx'
          have HY' := hid hy'
          clear hx' hy'
          have s2 := cell_regrown hd2
          have s3 := cell_regrown hd3
          clear hd2 hd3
          have hi2 : (0 : Int) ≤ (m : Int) := by omega
          have hi3 : (m : Int) < (n : Int) := by omega
          have hw1 : IntKind.i64.wrap (m : Int) = m := by rw [IntKind.wrap_i64]; omega
          have hw2 : IntKind.i64.wrap ((m : Int) + 1 - 1) = m := by rw [show (m : Int) + 1 - 1 = m by omega]; exact hw1
          have hw3 : wrap64 (m : Int) = m := IntWalk.wrap64_in _ ⟨by omega, by omega⟩
          have hj0 : (0 : Int) ≤ (m : Int) + 1 := by omega
          have hj1 : (m : Int) + 1 < (n : Int) := by omega
          have hgt : (0 : Int) < (m : Int) + 1 := by omega
          have CL : Hid (∀ d os, Calls Try.prog 120 #[.agg #[.int .i64 x', .int .i64 y'], .agg #[.int .i64 x, .int .i64 y]] (grow (redrawn wr d) os) fun e w'' => e = .returned (.bool (lessP x' y' x y)) ∧ ∃ p : Regrown, w'' = grow (redrawn wr p.d) p.os) := hid (fun d os => Calls.regrown_of (less_any x' y' x y _))
          by_cases hql : lessP x' y' x y = true
          · rw [hql] at CL
            have Hql := hid hql
            clear hql
            go_wp2_with fail
            refine wp_region_quiet_below (by kernel_rfl) (by kernel_rfl) ?_
            iterate 5 (with_reducible refine wpQuiet_step (fun K hK => ?_); have HK := hid hK; clear hK; go_simp; (first | with_reducible refine HK.out _ ?_ | (rw [if_neg (by decide)]; with_reducible refine HK.out _ ?_)); clear HK K)
            (with_reducible refine wpQuiet_step (fun K hK => ?_); have HK := hid hK; clear hK; go_simp; apply Exists.intro; with_reducible refine ⟨fun _ => ?_, HK.out _ ?_⟩; exact CP.out _ _; clear HK K)
            iterate 14 (with_reducible refine wpQuiet_step (fun K hK => ?_); have HK := hid hK; clear hK; go_simp; (first | with_reducible refine HK.out _ ?_ | (rw [if_neg (by decide)]; with_reducible refine HK.out _ ?_)); clear HK K)
            (with_reducible refine wpQuiet_step (fun K hK => ?_); have HK := hid hK; clear hK; go_simp; apply Exists.intro; with_reducible refine ⟨fun _ => ?_, HK.out _ ?_⟩; exact CL.out _ _; clear HK K)
            iterate 3 (with_reducible refine wpQuiet_step (fun K hK => ?_); have HK := hid hK; clear hK; go_simp; (first | with_reducible refine HK.out _ ?_ | (rw [if_neg (by decide)]; with_reducible refine HK.out _ ?_)); clear HK K)
            with_reducible refine wpQuiet_nil ?_
            intro _ hw'
            obtain ⟨⟨dq, osq⟩, hw''⟩ := hw'
            subst hw''
            go_wp2_with fail
            have HB' : Hid (Below (w.heap.size + 1) W0 (grow (redrawn wr dq) osq)) := hid (HB.out.trans ((below_regrown wr dq osq).mono (by rw [← Hs0.out]; exact HB.out.size)))
            clear HB r0 r1 r2 r3 s2 s3 CP CL HBw
            go_loopw [6] (fun j wx => ∃ i : Nat, i ≤ m + 1 ∧ j = .int .i64 i ∧ Hid (∀ t, t < i → clashB x y (at0 ps (t * 2)) (at0 ps (t * 2 + 1)) = false) ∧ Below (w.heap.size + 1) W0 wx) (fun j _ => m + 1 - (intOf j).toNat)
            case atStart => exact ⟨0, Nat.zero_le _, rfl, hid (fun t ht => by omega), HB'.out⟩
            case round =>
              obtain ⟨i, hi, rfl, Hcl, hBx⟩ := hrel
              have HBx := hid hBx
              clear hBx HB'
              by_cases hlt2 : i < m + 1
              · have HBv : Hid (Below w.heap.size w wr) := hid (HW0.out.trans (HBx.out.mono (Nat.le_succ _)))
                have hc2 : wr.cell? ⟨b, off + (m + 1) * 2, none⟩ = some (.int .i64 x) := ((HBv.out.cell (p := ⟨b, off + (m + 1) * 2, none⟩) hb).trans (Hc.out _ (by have := Hp.out; omega))).trans (by rw [HX.out]; rfl)
                have hc3 : wr.cell? ⟨b, off + (m + 1) * 2 + 1, none⟩ = some (.int .i64 y) := ((HBv.out.cell (p := ⟨b, off + ((m + 1) * 2 + 1), none⟩) hb).trans (Hc.out _ (by have := Hp.out; omega))).trans (by rw [HY.out]; rfl)
                have hd2 : wr.cell? ⟨b, off + i * 2, none⟩ = some (.int .i64 (at0 ps (i * 2))) := (HBv.out.cell (p := ⟨b, off + i * 2, none⟩) hb).trans (Hc.out _ (by have := Hp.out; omega))
                have hd3 : wr.cell? ⟨b, off + i * 2 + 1, none⟩ = some (.int .i64 (at0 ps (i * 2 + 1))) := (HBv.out.cell (p := ⟨b, off + (i * 2 + 1), none⟩) hb).trans (Hc.out _ (by have := Hp.out; omega))
                obtain ⟨u, hu⟩ : ∃ u, u = at0 ps (i * 2) := ⟨_, rfl⟩
                obtain ⟨v, hv⟩ : ∃ v, v = at0 ps (i * 2 + 1) := ⟨_, rfl⟩
                rw [← hu] at hd2
                rw [← hv] at hd3
                have HU := hid hu
                have HV := hid hv
                clear hu hv
                have hi4 : (0 : Int) ≤ (i : Int) := by omega
                have hi5 : (i : Int) < (n : Int) := by omega
                have hi6 : (i : Int) < (m : Int) + 1 := by omega
                have Hbad : Hid (clashB x y u v = true → pairingB fs ps n = false) := hid (fun h => pairingB_false (fun ho => by have := (ho (m + 1) hlt).2.2 i hlt2; rw [← HX.out, ← HY.out, ← HU.out, ← HV.out, h] at this; cases this))
                by_cases h0 : x = u
                · have g0 : (x == u) = true := by simp [h0]
                  have He : Hid (pairingB fs ps n = false) := hid (Hbad.out (by unfold clashB; simp [h0]))
                  clear h0
                  go_wp2_with fail
                  refine wp_region_quiet_lit (by kernel_rfl) (by kernel_rfl) ?_
                  iterate 50 (with_reducible refine wpQuiet_step (fun K hK => ?_); have HK := hid hK; clear hK; go_simp; (first | with_reducible refine HK.out _ ?_ | (rw [if_neg (by decide)]; with_reducible refine HK.out _ ?_)); clear HK K)
                  with_reducible refine wpQuiet_nil ?_
                  intro _ hw'
                  obtain ⟨nq, hw''⟩ := hw'
                  subst hw''
                  go_wp2_with fail
                  go_ret
                  exact ⟨ret_bool He.out.symm, HBv.out.trans ⟨rfl, rfl, rfl, Nat.le_refl _, fun _ _ => rfl⟩⟩
                · have g0 : (x == u) = false := by simp [h0]
                  by_cases h1 : x = v
                  · have g1 : (x == v) = true := by simp [h1]
                    have He : Hid (pairingB fs ps n = false) := hid (Hbad.out (by unfold clashB; simp [h1]))
                    clear h0 h1
                    go_wp2_with fail
                    refine wp_region_quiet_lit (by kernel_rfl) (by kernel_rfl) ?_
                    iterate 50 (with_reducible refine wpQuiet_step (fun K hK => ?_); have HK := hid hK; clear hK; go_simp; (first | with_reducible refine HK.out _ ?_ | (rw [if_neg (by decide)]; with_reducible refine HK.out _ ?_)); clear HK K)
                    with_reducible refine wpQuiet_nil ?_
                    intro _ hw'
                    obtain ⟨nq, hw''⟩ := hw'
                    subst hw''
                    go_wp2_with fail
                    go_ret
                    exact ⟨ret_bool He.out.symm, HBv.out.trans ⟨rfl, rfl, rfl, Nat.le_refl _, fun _ _ => rfl⟩⟩
                  · have g1 : (x == v) = false := by simp [h1]
                    by_cases h2 : y = u
                    · have g2 : (y == u) = true := by simp [h2]
                      have He : Hid (pairingB fs ps n = false) := hid (Hbad.out (by unfold clashB; simp [h2]))
                      clear h0 h1 h2
                      go_wp2_with fail
                      refine wp_region_quiet_lit (by kernel_rfl) (by kernel_rfl) ?_
                      iterate 50 (with_reducible refine wpQuiet_step (fun K hK => ?_); have HK := hid hK; clear hK; go_simp; (first | with_reducible refine HK.out _ ?_ | (rw [if_neg (by decide)]; with_reducible refine HK.out _ ?_)); clear HK K)
                      with_reducible refine wpQuiet_nil ?_
                      intro _ hw'
                      obtain ⟨nq, hw''⟩ := hw'
                      subst hw''
                      go_wp2_with fail
                      go_ret
                      exact ⟨ret_bool He.out.symm, HBv.out.trans ⟨rfl, rfl, rfl, Nat.le_refl _, fun _ _ => rfl⟩⟩
                    · have g2 : (y == u) = false := by simp [h2]
                      by_cases h3 : y = v
                      · have g3 : (y == v) = true := by simp [h3]
                        have He : Hid (pairingB fs ps n = false) := hid (Hbad.out (by unfold clashB; simp [h3]))
                        clear h0 h1 h2 h3
                        go_wp2_with fail
                        refine wp_region_quiet_lit (by kernel_rfl) (by kernel_rfl) ?_
                        iterate 50 (with_reducible refine wpQuiet_step (fun K hK => ?_); have HK := hid hK; clear hK; go_simp; (first | with_reducible refine HK.out _ ?_ | (rw [if_neg (by decide)]; with_reducible refine HK.out _ ?_)); clear HK K)
                        with_reducible refine wpQuiet_nil ?_
                        intro _ hw'
                        obtain ⟨nq, hw''⟩ := hw'
                        subst hw''
                        go_wp2_with fail
                        go_ret
                        exact ⟨ret_bool He.out.symm, HBv.out.trans ⟨rfl, rfl, rfl, Nat.le_refl _, fun _ _ => rfl⟩⟩
                      · have g3 : (y == v) = false := by simp [h3]
                        have He : Hid (∀ t, t < i + 1 → clashB x y (at0 ps (t * 2)) (at0 ps (t * 2 + 1)) = false) := hid (fun t ht => by
                          by_cases hti : t < i
                          · exact Hcl.out t hti
                          · obtain rfl : t = i := by omega
                            rw [← HU.out, ← HV.out]; unfold clashB; simp only [decide_eq_false h0, decide_eq_false h1, decide_eq_false h2, decide_eq_false h3]; rfl)
                        clear h0 h1 h2 h3
                        go_wp2_with fail
                        refine wp_region_quiet_lit (by kernel_rfl) (by kernel_rfl) ?_
                        iterate 50 (with_reducible refine wpQuiet_step (fun K hK => ?_); have HK := hid hK; clear hK; go_simp; (first | with_reducible refine HK.out _ ?_ | (rw [if_neg (by decide)]; with_reducible refine HK.out _ ?_)); clear HK K)
                        with_reducible refine wpQuiet_nil ?_
                        intro _ hw'
                        obtain ⟨nq, hw''⟩ := hw'
                        subst hw''
                        go_wp2_with fail
                        go_roundw
                        case rel => exact ⟨i + 1, by omega, by go_num, He.out, HBx.out.trans ⟨rfl, rfl, rfl, Nat.le_refl _, fun _ _ => rfl⟩⟩
                        case measure => simp [intOf]; omega
              · obtain rfl : i = m + 1 := by omega
                go_wp2_with fail
                go_roundw
                case rel =>
                  refine ⟨m + 1 + 1, by omega, by go_num, fun i hi => ?_, HBx.out⟩
                  by_cases him : i < m + 1
                  · exact Hk.out i him
                  · obtain rfl : i = m + 1 := by omega
                    refine ⟨by rw [← HX.out, ← HY.out]; exact Hq.out, fun _ => ?_, fun j hj => ?_⟩
                    · rw [Nat.add_sub_cancel, ← HX.out, ← HY.out, ← HX'.out, ← HY'.out]; exact Hql.out
                    · rw [← HX.out, ← HY.out]; exact Hcl.out j hj
                case measure => simp [intOf]; omega
          · have hql' : lessP x' y' x y = false := by simpa using hql
            rw [hql'] at CL
            have He : Hid (pairingB fs ps n = false) := hid (pairingB_false (fun h => by have := (h (m + 1) hlt).2.1 (by omega); rw [Nat.add_sub_cancel, ← HX.out, ← HY.out, ← HX'.out, ← HY'.out, hql'] at this; cases this))
            clear hql hql'
            go_wp2_with fail
            refine wp_region_quiet_below (by kernel_rfl) (by kernel_rfl) ?_
            iterate 5 (with_reducible refine wpQuiet_step (fun K hK => ?_); have HK := hid hK; clear hK; go_simp; (first | with_reducible refine HK.out _ ?_ | (rw [if_neg (by decide)]; with_reducible refine HK.out _ ?_)); clear HK K)
            (with_reducible refine wpQuiet_step (fun K hK => ?_); have HK := hid hK; clear hK; go_simp; apply Exists.intro; with_reducible refine ⟨fun _ => ?_, HK.out _ ?_⟩; exact CP.out _ _; clear HK K)
            iterate 14 (with_reducible refine wpQuiet_step (fun K hK => ?_); have HK := hid hK; clear hK; go_simp; (first | with_reducible refine HK.out _ ?_ | (rw [if_neg (by decide)]; with_reducible refine HK.out _ ?_)); clear HK K)
            (with_reducible refine wpQuiet_step (fun K hK => ?_); have HK := hid hK; clear hK; go_simp; apply Exists.intro; with_reducible refine ⟨fun _ => ?_, HK.out _ ?_⟩; exact CL.out _ _; clear HK K)
            iterate 3 (with_reducible refine wpQuiet_step (fun K hK => ?_); have HK := hid hK; clear hK; go_simp; (first | with_reducible refine HK.out _ ?_ | (rw [if_neg (by decide)]; with_reducible refine HK.out _ ?_)); clear HK K)
            with_reducible refine wpQuiet_nil ?_
            intro _ hw'
            obtain ⟨⟨dq, osq⟩, hw''⟩ := hw'
            subst hw''
            go_wp2_with fail
            go_ret
            exact ⟨ret_bool He.out.symm, HBw.out.trans ((below_regrown wr dq osq).mono HBw.out.size)⟩
      · have hq' : pairB fs x y = false := by simpa using hq
        have He : Hid (pairingB fs ps n = false) := hid (pairingB_false (fun h => by have := (h k hlt).1; rw [← HX.out, ← HY.out, hq'] at this; cases this))
        rw [hq'] at CP
        clear hq hq' hc0 hc1 hc2 hc3
        go_wp2_with fail
        refine wp_region_quiet_below (by kernel_rfl) (by kernel_rfl) ?_
        iterate 5 (with_reducible refine wpQuiet_step (fun K hK => ?_); have HK := hid hK; clear hK; go_simp; (first | with_reducible refine HK.out _ ?_ | (rw [if_neg (by decide)]; with_reducible refine HK.out _ ?_)); clear HK K)
        (with_reducible refine wpQuiet_step (fun K hK => ?_); have HK := hid hK; clear hK; go_simp; apply Exists.intro; with_reducible refine ⟨fun _ => ?_, HK.out _ ?_⟩; exact CP.out _ _; clear HK K)
        iterate 18 (with_reducible refine wpQuiet_step (fun K hK => ?_); have HK := hid hK; clear hK; go_simp; (first | with_reducible refine HK.out _ ?_ | (rw [if_neg (by decide)]; with_reducible refine HK.out _ ?_)); clear HK K)
        with_reducible refine wpQuiet_nil ?_
        intro _ hw'
        obtain ⟨⟨dq, osq⟩, hw''⟩ := hw'
        subst hw''
        go_wp2_with fail
        go_ret
        exact ⟨ret_bool He.out.symm, HBw.out.trans ((below_regrown wr dq osq).mono HBw.out.size)⟩
    · obtain rfl : k = n := by omega
      have He : Hid (pairingB fs ps k = true) := hid (pairingB_true Hk.out)
      go_wp2
      go_ret
      exact ⟨ret_bool He.out.symm, HW0.out.trans (HB.out.mono (Nat.le_succ _))⟩

end Go.Proofs.Ytbgkalkipalndaa

/-! slices.Contains on a list of int64. -/
namespace Go.Proofs.Ytbgkalkipalndaa
open Go.RowKit

set_option maxRecDepth 100000 in
set_option maxHeartbeats 1000000 in
theorem index_any (a : Option Addr) (cap : Nat) (xs : List Int) (x : Int) (w : World) (hx : SlI w w.heap.size a xs) (hl : xs.length ≤ 1048576) :
    Calls Try.prog 196 #[.slice a xs.length cap, .int .i64 x] w fun e w' => ∃ i : Int, e = .returned (.int .i64 i) ∧ -1 ≤ i ∧ (0 ≤ i ↔ x ∈ xs) ∧ w = w' := by
  rcases hx with rfl | ⟨b, off, hb, rfl, hc⟩
  · go_enter Try.func196, Try.ntmps196
    go_wp2
    refine wp_loop_rounds 1 ?_; rw [rounds_succ]
    go_wp2
    go_ret
    exact ⟨-1, rfl, by decide, by simp, rfl⟩
  · have Hc := hid hc
    clear hc
    go_enter Try.func196, Try.ntmps196
    go_wp2
    go_loop [8] (fun i => ∃ k : Nat, k ≤ xs.length ∧ i = .int .i64 k ∧ Hid (x ∉ xs.take k)) (fun i => xs.length - (intOf i).toNat)
    case atStart => exact ⟨0, Nat.zero_le _, rfl, hid (by simp)⟩
    case round =>
      obtain ⟨k, hk, rfl, Hk⟩ := hrel
      by_cases hlt : k < xs.length
      · obtain ⟨y, hy⟩ : ∃ y, y = xs[k]?.getD 0 := ⟨_, rfl⟩
        have hck : w.cell? ⟨b, off + k, none⟩ = some (.int .i64 y) := by rw [hy]; exact Hc.out k hlt
        have Hy := hid hy
        have hi0 : (0 : Int) ≤ (k : Int) := by omega
        have hi1 : (k : Int) < (xs.length : Int) := by omega
        clear hy
        by_cases hxy : x = y
        · have hd : (x == y) = true := by simp [hxy]
          have He : Hid (x ∈ xs) := hid (by rw [hxy, Hy.out]; exact getD_mem hlt)
          clear hxy
          go_wp2
          go_ret
          exact ⟨k, rfl, by omega, ⟨fun _ => He.out, fun _ => by omega⟩, rfl⟩
        · have hd : (x == y) = false := by simp [hxy]
          have He : Hid (x ∉ xs.take (k + 1)) := hid (by
            rw [take_snoc hlt, ← Hy.out]
            intro h
            rcases List.mem_append.1 h with h | h
            · exact Hk.out h
            · simp at h; exact hxy h)
          clear hxy
          go_wp2
          go_round
          case rel => exact ⟨k + 1, by omega, by go_num, He.out⟩
          case measure => simp [intOf]; omega
      · have He : Hid (x ∉ xs) := hid (by have := Hk.out; rwa [List.take_of_length_le (by omega)] at this)
        go_wp2
        go_ret
        exact ⟨-1, rfl, by decide, ⟨fun h => absurd h (by decide), fun h => absurd h He.out⟩, rfl⟩

set_option maxRecDepth 100000 in
set_option maxHeartbeats 1000000 in
theorem contains_any (a : Option Addr) (cap : Nat) (xs : List Int) (x : Int) (w : World) (hx : SlI w w.heap.size a xs) (hl : xs.length ≤ 1048576) :
    Calls Try.prog 165 #[.slice a xs.length cap, .int .i64 x] w fun e w' => e = .returned (.bool (decide (x ∈ xs))) ∧ w = w' := by
  have HI := hid (index_any a cap xs x w hx hl)
  obtain ⟨c, hc⟩ : ∃ c, c = decide (x ∈ xs) := ⟨_, rfl⟩
  have Hc := hid hc
  rw [← hc]
  clear hc hx
  go_enter Try.func165, Try.ntmps165
  go_wp2_with fail
  refine HI.out.mono ?_
  rintro e w' ⟨i, rfl, h1, h2, rfl⟩
  have Hi := hid h2
  have H1 := hid h1
  clear h1 h2
  by_cases h0 : 0 ≤ i
  · have He : Hid (c = true) := hid (by rw [Hc.out]; exact decide_eq_true (Hi.out.1 h0))
    go_wp2_with fail
    go_ret
    exact ⟨ret_bool (by rw [He.out]), rfl⟩
  · have He : Hid (c = false) := hid (by rw [Hc.out]; exact decide_eq_false (fun h => h0 (Hi.out.2 h)))
    have hlt : i < 0 := by omega
    go_wp2_with fail
    go_ret
    exact ⟨ret_bool (by rw [He.out]; simp [hlt]), rfl⟩

end Go.Proofs.Ytbgkalkipalndaa

/-! Lists of pairs: all pairs of a complex; maps whose keys are pairs. -/
namespace Go.Proofs.Ytbgkalkipalndaa
open Go.RowKit

def flatP (L : List (Int × Int)) : List Int := L.flatMap fun p => [p.1, p.2]
theorem flatP_snoc (L : List (Int × Int)) (p : Int × Int) : flatP (L ++ [p]) = flatP L ++ [p.1, p.2] := by simp [flatP]
theorem flatP_len : ∀ L : List (Int × Int), (flatP L).length = 2 * L.length
  | [] => rfl
  | p :: L => by have := flatP_len L; unfold flatP at *; simp only [List.flatMap_cons, List.length_append, List.length_cons, List.length_nil]; omega
theorem flatP_at : ∀ (L : List (Int × Int)) (i : Nat), i < L.length → at0 (flatP L) (i * 2) = (L[i]?.getD (0, 0)).1 ∧ at0 (flatP L) (i * 2 + 1) = (L[i]?.getD (0, 0)).2
  | [], i, h => by simp at h
  | p :: L, 0, _ => by simp [flatP, at0]
  | p :: L, i + 1, h => by
    have ih := flatP_at L i (by simpa using h)
    have e : flatP (p :: L) = p.1 :: p.2 :: flatP L := by simp [flatP]
    have e1 : (i + 1) * 2 = i * 2 + 1 + 1 := by omega
    rw [e, e1]
    unfold at0 at *
    simpa using ih

/-- The pairs of a low face, over the first vertices. -/
def upS (fs : List Int) (x m : Nat) : List (Int × Int) := ((List.range m).filter fun v => decide (x ||| 2 ^ v ≠ x) && decide (((x ||| 2 ^ v : Nat) : Int) ∈ fs)).map fun v => ((x : Int), ((x ||| 2 ^ v : Nat) : Int))
theorem upS_succ (fs : List Int) (x m : Nat) (c : Bool) (h : (decide (x ||| 2 ^ m ≠ x) && decide (((x ||| 2 ^ m : Nat) : Int) ∈ fs)) = c) : upS fs x (m + 1) = upS fs x m ++ (if c then [((x : Int), ((x ||| 2 ^ m : Nat) : Int))] else []) := by
  unfold upS
  rw [List.range_succ, List.filter_append, List.map_append]
  cases c
  · rw [List.filter_cons, if_neg (by rw [h]; simp)]; simp
  · rw [List.filter_cons, if_pos h]; simp
theorem upS_len (fs : List Int) (x m : Nat) : (upS fs x m).length ≤ m := by
  unfold upS
  rw [List.length_map]
  exact Nat.le_trans (List.length_filter_le _ _) (by simp)

/-- All pairs whose low faces are among the first k faces. -/
def pairsL (fs : List Int) (V k : Nat) : List (Int × Int) := (fs.take k).flatMap fun x => upS fs x.toNat V
theorem pairsL_succ {fs : List Int} {V k : Nat} (hlt : k < fs.length) : pairsL fs V (k + 1) = pairsL fs V k ++ upS fs (fs[k]?.getD 0).toNat V := by
  unfold pairsL
  rw [take_snoc hlt, List.flatMap_append]
  simp
theorem pairsL_len (fs : List Int) (V : Nat) : ∀ k, k ≤ fs.length → (pairsL fs V k).length ≤ k * V
  | 0, _ => by simp [pairsL]
  | k + 1, h => by
    have h1 := pairsL_len fs V k (by omega)
    have h2 := upS_len fs (fs[k]?.getD 0).toNat V
    rw [pairsL_succ (by omega), List.length_append, Nat.add_mul]
    omega

theorem up_pair : ∀ x : Fin 64, ∀ v : Fin 6, x.val ||| 2 ^ v.val ≠ x.val → x.val &&& (x.val ||| 2 ^ v.val) = x.val ∧ ones (x.val ||| 2 ^ v.val) = ones x.val + 1 := by decide +kernel
theorem pair_up : ∀ x : Fin 64, ∀ y : Fin 64, x.val &&& y.val = x.val → ones y.val = ones x.val + 1 → ∃ v : Fin 6, x.val ||| 2 ^ v.val = y.val ∧ y.val ≠ x.val := by decide +kernel

theorem mem_pairsL {V : Int} {fs : List Int} (hC : IsC V fs) (x y : Int) : (x, y) ∈ pairsL fs V.toNat fs.length ↔ pairB fs x y = true := by
  have hr := hC.range63
  have hlo := hC.lo
  have hhi := hC.hi
  unfold pairsL upS pairB
  rw [List.take_of_length_le (Nat.le_refl _)]
  simp only [List.mem_flatMap, List.mem_map, List.mem_filter, List.mem_range, Bool.and_eq_true, decide_eq_true_eq, Prod.mk.injEq]
  constructor
  · rintro ⟨x0, hx0, v, ⟨hv, hne, hm⟩, rfl, rfl⟩
    have h0 := hr x0 hx0
    have hu := up_pair ⟨x0.toNat, by omega⟩ ⟨v, by omega⟩ hne
    rw [Int.toNat_of_nonneg (by omega)]
    simp only [Int.toNat_natCast]
    exact ⟨⟨⟨hx0, hm⟩, hu.1⟩, hu.2⟩
  · rintro ⟨⟨⟨hx, hy⟩, hb⟩, ho⟩
    have h0 := hr x hx
    have h1 := hr y hy
    obtain ⟨v, hv, hne⟩ := pair_up ⟨x.toNat, by omega⟩ ⟨y.toNat, by omega⟩ hb ho
    simp only at hv hne
    have hyr := (hC.range y hy).2
    have hle : 2 ^ v.val ≤ y.toNat := by rw [← hv]; exact Nat.right_le_or
    refine ⟨x, hx, v.val, ⟨?_, by rw [hv]; exact hne, by rw [hv, Int.toNat_of_nonneg (by omega)]; exact hy⟩, Int.toNat_of_nonneg (by omega), by rw [hv, Int.toNat_of_nonneg (by omega)]⟩
    rcases Nat.lt_or_ge v.val V.toNat with h | h
    · exact h
    · exfalso
      have hp := Nat.pow_le_pow_right (n := 2) (by decide) h
      unfold allV at hyr
      have e : ((2 : Int) ^ V.toNat) = ((2 ^ V.toNat : Nat) : Int) := by simp
      rw [e] at hyr
      generalize (2 : Nat) ^ V.toNat = q at *
      generalize (2 : Nat) ^ v.val = q' at *
      omega

/-! ### maps whose keys are pairs -/

theorem arrP : Go.WideMaps.ArrKey Try.prog 77 2 2 := ⟨Try.underlying77, by kernel_rfl, by kernel_rfl, by kernel_rfl⟩
theorem keyedP : Maps.Keyed Try.prog 77 := Maps.Keyed.of_law arrP.law
def keyP (p : Int × Int) : Lit := .string (keyBytes [.int .i64 p.1, .int .i64 p.2])
def wfP (p : Int × Int) : Prop := (Lit.int .i64 p.1).wf = true ∧ (Lit.int .i64 p.2).wf = true
theorem keyOfP {p : Int × Int} (h : wfP p) : keyOf Try.prog 77 (.agg #[.int .i64 p.1, .int .i64 p.2]) = some (keyP p) :=
  Go.WideMaps.keyOf_pair arrP Try.underlying2 ⟨Try.prog.types.size - 1, by kernel_rfl⟩ h.1 h.2
theorem keyP_inj {p q : Int × Int} (hp : wfP p) (hq : wfP q) (h : keyP p = keyP q) : p = q := by
  have := keyedP.inj (keyOfP hp) (by rw [h]; exact keyOfP hq)
  simp only [Value.agg.injEq, Array.mk.injEq, List.cons.injEq, Value.int.injEq, true_and, and_true] at this
  exact Prod.ext this.1 this.2

def pknFrom (D : DataW Unit) (pre : List (Int × Int)) : DataW Unit := pre.foldl (fun D p => D.put (keyP p) (.lit (.bool true))) D
def pknD (pre : List (Int × Int)) : DataW Unit := pknFrom (.map []) pre
theorem pknD_snoc (pre : List (Int × Int)) (p : Int × Int) : pknD (pre ++ [p]) = (pknD pre).put (keyP p) (.lit (.bool true)) := by simp [pknD, pknFrom]
theorem isKey_keyP (p : Int × Int) (h : wfP p) : WideAt.IsKeyLit (keyP p) := keyedP.key (keyOfP h)
theorem pknFrom_at (p : Int × Int) (hp : wfP p) : ∀ (pre : List (Int × Int)) (D : DataW Unit), (∀ q ∈ pre, wfP q) → Maps.IsMap D → (pknFrom D pre).atKey (keyP p) (.lit (.bool false)) = if p ∈ pre then .lit (.bool true) else D.atKey (keyP p) (.lit (.bool false))
  | [], D, _, _ => by simp [pknFrom]
  | x :: pre, D, hw, hD => by
    have ih := pknFrom_at p hp pre (D.put (keyP x) (.lit (.bool true))) (fun q hq => hw q (by simp [hq])) (hD.put _ _)
    have e : pknFrom D (x :: pre) = pknFrom (D.put (keyP x) (.lit (.bool true))) pre := rfl
    rw [e, ih]
    by_cases hm : p ∈ pre
    · simp [hm]
    · by_cases hx : p = x
      · subst hx
        rw [if_neg hm, if_pos (by simp), Maps.atKey_put_same hD (isKey_keyP p hp)]
      · rw [if_neg hm, if_neg (by simp [hm, hx]), Maps.atKey_put_other (fun e => hx (keyP_inj hp (hw x (by simp)) e))]

theorem pknD_at (p : Int × Int) (hp : wfP p) (pre : List (Int × Int)) (hw : ∀ q ∈ pre, wfP q) : (pknD pre).atKey (keyP p) (.lit (.bool false)) = .lit (.bool (decide (p ∈ pre))) := by
  unfold pknD
  rw [pknFrom_at p hp pre _ hw Maps.isMap_empty]
  by_cases h : p ∈ pre
  · simp [h]
  · simp [h]
    rfl

/-- The map of pairs. -/
def MapP (w' : World) (b n : Nat) (L : List (Int × Int)) : Prop := w'.ownsMap Try.prog 77 (plainElem (H := Unit) Try.prog 4) b n (pknD L)

theorem MapP.later {w w' : World} {b n : Nat} {L : List (Int × Int)} (h : MapP w b n L) (hB : Below w.heap.size w w') : MapP w' b n L :=
  World.ownsMap.kept h (row := none) ⟨hB.os, hB.tape, hB.output, hB.size, fun k hk _ => hB.block k hk⟩ (by simp)

theorem lookup_pair {w : World} {b n : Nat} {L : List (Int × Int)} (hown : MapP w b n L) (hw : ∀ q ∈ L, wfP q) {p : Int × Int} (hp : wfP p) :
    (Instr.lookup 157 (.map (some b)) (.agg #[.int .i64 p.1, .int .i64 p.2]) false).run Try.prog w = .ok (.bool (decide (p ∈ L))) w := by
  obtain ⟨v, ps, hrun, hv⟩ := World.ownsMap.lookup hown keyedP Try.underlying157 (zero_bool w) (plainElem_bool Try.underlying4 false) (keyOfP hp)
  rw [pknD_at p hp L hw] at hv
  rw [bool_inv hv] at hrun
  exact hrun

end Go.Proofs.Ytbgkalkipalndaa

/-! The laws' helpers for lists of pairs: a list of n pairs is read as 2 * n integers. -/
namespace Go.Proofs.Ytbgkalkipalndaa
open Go.RowKit

set_option maxRecDepth 100000 in
set_option maxHeartbeats 400000 in
theorem szPairs (a : Option Addr) (n cap : Nat) (left : Int) (w : World) (h1 : 0 ≤ left) (h2 : left ≤ 1048576) (hn : n ≤ 9223372036854775807) :
    Calls Try.prog 17 #[.slice a n cap, .int .i64 left] w fun e w' => e = .returned (.int .i64 (szR left n)) ∧ w = w' := by
  by_cases h : left < n
  · have H := hid (szR_big h)
    go_enter Try.func17, Try.ntmps17
    go_wp2
    go_ret
    exact ⟨ret_int (by rw [H.out]), rfl⟩
  · have H := hid (szR_fit h)
    go_enter Try.func17, Try.ntmps17
    go_wp2
    go_ret
    exact ⟨ret_int (by rw [H.out]), rfl⟩

set_option maxRecDepth 100000 in
set_option maxHeartbeats 400000 in
theorem toPair_any (x y : Int) (w : World) :
    Calls Try.prog 54 #[.agg #[.int .i64 x, .int .i64 y]] w fun e w' => e = .returned (.agg #[.int .i64 x, .int .i64 y]) ∧ Below w.heap.size w w' := by
  go_enter Try.func54, Try.ntmps54
  go_wp2
  refine wp_loop_rounds 3 ?_; rw [rounds_succ]
  go_wp2
  rw [rounds_succ]
  go_wp2
  rw [rounds_succ]
  go_wp2
  exact bodyPost_ret (v := .agg #[.int .i64 x, .int .i64 y]) (by simp [results, Try.results54, go_sem]) rfl ⟨rfl, ((((Below.refl _ w).alloc (Nat.le_refl _) _).alloc (by simp) _).alloc (by simp <;> omega) _)⟩

set_option maxRecDepth 100000 in
set_option maxHeartbeats 400000 in
theorem eqPair_any (x y x' y' : Int) (w : World) :
    Calls Try.prog 57 #[.agg #[.int .i64 x, .int .i64 y], .agg #[.int .i64 x', .int .i64 y']] w fun e w' => e = .returned (.bool (decide (x = x' ∧ y = y'))) ∧ Below w.heap.size w w' := by
  go_enter Try.func57, Try.ntmps57
  go_wp2
  refine wp_loop_rounds 3 ?_; rw [rounds_succ]
  go_wp2
  go_quiet (fail)
  have hB : ∀ n, Below w.heap.size w (((w.alloc (.cells #[.int .i64 x, .int .i64 y] 77)).alloc (.cells #[.int .i64 x', .int .i64 y'] 77)).drewN n) := fun n => Below.trans (((Below.refl _ w).alloc (Nat.le_refl _) _).alloc (by simp) _) ⟨rfl, rfl, rfl, Nat.le_refl _, fun _ _ => rfl⟩
  have HB := hid hB
  clear hB
  by_cases hx : x = x'
  · have hd : (x != x') = false := by simp [hx]
    have Hx := hid hx
    clear hx
    go_wp2_with fail
    rw [rounds_succ]
    go_wp2_with fail
    go_quiet (fail)
    by_cases hy : y = y'
    · have hd2 : (y != y') = false := by simp [hy]
      have Hy := hid hy
      clear hy
      go_wp2_with fail
      rw [rounds_succ]
      go_wp2_with fail
      go_ret
      exact ⟨ret_bool (decide_eq_true ⟨Hx.out, Hy.out⟩).symm, HB.out _⟩
    · have hd2 : (y != y') = true := by simp [hy]
      have Hy := hid hy
      clear hy
      go_wp2_with fail
      go_ret
      refine ⟨ret_bool (decide_eq_false (fun h => Hy.out h.2)).symm, ?_⟩
      first | exact HB.out _ | exact (HB.out 0).trans ⟨rfl, rfl, rfl, Nat.le_refl _, fun _ _ => rfl⟩
  · have hd : (x != x') = true := by simp [hx]
    have Hx := hid hx
    clear hx
    go_wp2_with fail
    go_ret
    exact ⟨ret_bool (decide_eq_false (fun h => Hx.out h.1)).symm, HB.out _⟩

theorem info_pair : (Try.prog.info? 77).map (fun i => (i.zero, i.size, i.bytes)) = some (some (.agg #[.int .i64 0, .int .i64 0]), 2, 16) := by kernel_rfl

theorem made_two (m : Nat) : (madeCells #[Value.int .i64 0, Value.int .i64 0] m).toList = (List.replicate m (0 : Int)).map (Value.int .i64) := by
  refine List.ext_getElem (by simp [madeCells]) (fun i h1 h2 => ?_)
  have : i % 2 = 0 ∨ i % 2 = 1 := Nat.mod_two_eq_zero_or_one i
  rcases this with h | h <;> simp [madeCells, h]

/-- 'make([]Pair, n)'. -/
theorem make_pair {w : World} {ops : Array Oper} {rest : List Oper} {o : Oper} {a : Act} {Q : Exit → Act → World → Prop} (hgd : o.guard = none) {l c : Operand} (hop : o.op = Op.makeSlice 31 l c)
    {n : Nat} (hl : a.eval l = .int .i64 (n : Int)) (hc : a.eval c = .int .i64 (n : Int)) (hn : n ≤ 1048576)
    (hK : ∀ w', w'.ownsRow w.heap.size 77 2 (.slice (some ⟨w.heap.size, 0, none⟩) n n) n ((List.replicate (2 * n) (0 : Int)).map (Value.int .i64)) → Below w.heap.size w w' →
      wpList Try.prog ops Q rest (a.put o.dst (.slice (some ⟨w.heap.size, 0, none⟩) n n)) w') :
    wpList Try.prog ops Q (o :: rest) a w := by
  obtain ⟨i0, hi, hz0, hz1, hz2⟩ := info_parts info_pair
  refine wpList_make_full w hgd l c 31 hop w.heap.size 77 i0 (.agg #[.int .i64 0, .int .i64 0]) 2 Try.underlying31 hi hz0 hz1 .i64 .i64 _ _ n hl hc rfl rfl (by rw [hz2]; omega) (by unfold maxLen; omega) (Nat.le_refl _) ?_
  intro w' hown hg
  rw [show (Value.agg #[Value.int .i64 0, Value.int .i64 0]).cells = #[Value.int .i64 0, Value.int .i64 0] by kernel_rfl, made_two, Nat.mul_comm] at hown
  exact hK w' hown ((Below.refl _ w).grown hg (Nat.le_refl _) (fun k hk => by cases hk))

set_option maxRecDepth 100000 in
set_option maxHeartbeats 400000 in
theorem toPairs (a : Option Addr) (n cap : Nat) (ps : List Int) (w : World) (hx : SlI w w.heap.size a ps) (hp : ps.length = 2 * n) (hl : n ≤ 1048576) :
    Calls Try.prog 20 #[.slice a n cap] w fun e w' =>
      e = .returned (.slice (some ⟨w.heap.size, 0, none⟩) n n) ∧ w'.ownsRow w.heap.size 77 2 (.slice (some ⟨w.heap.size, 0, none⟩) n n) n (ps.map (Value.int .i64)) ∧ Below w.heap.size w w' := by
  go_enter Try.func20, Try.ntmps20
  go_wp2_with (at_make; refine make_pair rfl rfl rfl rfl (by omega) ?_; intro w1 hown hB)
  rcases hx with rfl | ⟨b, off, hb, rfl, hc⟩
  · obtain rfl : n = 0 := by simp at hp; omega
    refine wp_loop_rounds 1 ?_; rw [rounds_succ]
    go_wp2
    go_ret
    exact ⟨rfl, hown, hB⟩
  · go_loopw [4] (fun i wr => ∃ k : Nat, k ≤ n ∧ i = .int .i64 k ∧ wr.ownsRow w.heap.size 77 2 (.slice (some ⟨w.heap.size, 0, none⟩) n n) n ((ps.take (k * 2) ++ List.replicate (ps.length - k * 2) (0 : Int)).map (Value.int .i64)) ∧ Below w.heap.size w wr) (fun i _ => n - (intOf i).toNat)
    case atStart => exact ⟨0, Nat.zero_le _, rfl, by simpa [hp] using hown, hB⟩
    case round =>
      obtain ⟨k, hk, rfl, hown, hB⟩ := hrel
      by_cases hlt : k < n
      · obtain ⟨x, hx⟩ : ∃ x, x = ps[k * 2]?.getD 0 := ⟨_, rfl⟩
        obtain ⟨y, hy⟩ : ∃ y, y = ps[k * 2 + 1]?.getD 0 := ⟨_, rfl⟩
        have hck : wr.cell? ⟨b, off + k * 2, none⟩ = some (.int .i64 x) := by rw [hx]; exact (hB.cell (p := ⟨b, off + k * 2, none⟩) hb).trans (hc (k * 2) (by omega))
        have hck2 : wr.cell? ⟨b, off + k * 2 + 1, none⟩ = some (.int .i64 y) := by rw [hy]; exact (hB.cell (p := ⟨b, off + (k * 2 + 1), none⟩) hb).trans (hc (k * 2 + 1) (by omega))
        have hg0 : wr.cell? ⟨w.heap.size, k * 2, none⟩ = some (.int .i64 0) := by
          rw [hown.cellAt (k * 2) (by omega)]
          rw [List.getElem?_map, List.getElem?_append_right (by simp <;> omega)]
          simp [List.getElem?_replicate, Nat.min_eq_left (show k * 2 ≤ ps.length by omega)]
          omega
        have hg1 : wr.cell? ⟨w.heap.size, k * 2 + 1, none⟩ = some (.int .i64 0) := by
          rw [hown.cellAt (k * 2 + 1) (by omega)]
          rw [List.getElem?_map, List.getElem?_append_right (by simp <;> omega)]
          simp [List.getElem?_replicate, Nat.min_eq_left (show k * 2 ≤ ps.length by omega)]
          omega
        have hf0 := hown.frozenAt (k * 2)
        have hf1 := hown.frozenAt (k * 2 + 1)
        have Hx := hid hx
        have Hy := hid hy
        have Hc := hid hc
        have Hown := hid hown
        have HB := hid hB
        clear hx hy hc hown hB
        go_wp2_with fail
        refine (toPair_any x y wr).mono ?_
        rintro e w2 ⟨rfl, hB2⟩
        have hwb : w.heap.size < wr.heap.size := World.block_lt_of_cell? wr _ hg0
        have hg02 := (hB2.cell (p := ⟨w.heap.size, k * 2, none⟩) hwb).trans hg0
        have hg12 := (hB2.cell (p := ⟨w.heap.size, k * 2 + 1, none⟩) hwb).trans hg1
        have hf02 := (hB2.frozen (p := ⟨w.heap.size, k * 2, none⟩) hwb).trans hf0
        have hf12 := (hB2.frozen (p := ⟨w.heap.size, k * 2 + 1, none⟩) hwb).trans hf1
        have Hown2 := hid (ownsRow_below Hown.out hB2 (fun g hg => by simp [Value.ownBlock] at hg; omega))
        have HB2 := hid (HB.out.trans (hB2.mono HB.out.size))
        clear hg0 hg1 hf0 hf1 Hown HB hB2
        go_wp2_with fail
        go_roundw
        case rel =>
          refine ⟨k + 1, by omega, by go_num, ?_, (HB2.out.setCell (p := ⟨w.heap.size, k * 2, none⟩) (Nat.le_refl _) _).setCell (p := ⟨w.heap.size, k * 2 + 1, none⟩) (Nat.le_refl _) _⟩
          have h := ((Hown2.out.stored (k * 2) (.int .i64 x)).1.stored (k * 2 + 1) (.int .i64 y)).1
          rw [Hx.out, fill_step (by omega), Hy.out, fill_step (by omega), ← Hx.out, ← Hy.out] at h
          rw [show (k + 1) * 2 = k * 2 + 1 + 1 by omega]
          exact h
        case measure => simp [intOf]; omega
      · go_wp2
        go_ret
        obtain rfl : k = n := by omega
        rw [Nat.mul_comm, ← hp] at hown
        exact ⟨rfl, by simpa using hown, hB⟩

set_option maxRecDepth 100000 in
set_option maxHeartbeats 400000 in
theorem eqPairs_yes (a1 a2 : Option Addr) (n c1 c2 : Nat) (ps : List Int) (w : World) (hx : SlI w w.heap.size a1 ps) (hy : SlI w w.heap.size a2 ps) (hp : ps.length = 2 * n) (hl : n ≤ 1048576) :
    Calls Try.prog 24 #[.slice a1 n c1, .slice a2 n c2] w fun e w' => e = .returned (.bool true) ∧ Below w.heap.size w w' := by
  by_cases h0 : n = 0
  · subst h0
    clear hx hy
    go_enter Try.func24, Try.ntmps24
    go_wp2
    refine wp_loop_rounds 1 ?_; rw [rounds_succ]
    go_wp2
    go_ret
    exact ⟨rfl, Below.refl _ _⟩
  · obtain ⟨b, off, hb, rfl, hc⟩ : ∃ b off, b < w.heap.size ∧ a1 = some ⟨b, off, none⟩ ∧ ∀ i, i < ps.length → w.cell? ⟨b, off + i, none⟩ = some (.int .i64 (ps[i]?.getD 0)) := by
      rcases hx with rfl | h
      · simp at hp; omega
      · exact h
    obtain ⟨b2, off2, hb2, rfl, hc2⟩ : ∃ b off, b < w.heap.size ∧ a2 = some ⟨b, off, none⟩ ∧ ∀ i, i < ps.length → w.cell? ⟨b, off + i, none⟩ = some (.int .i64 (ps[i]?.getD 0)) := by
      rcases hy with rfl | h
      · simp at hp; omega
      · exact h
    have Hc := hid hc
    have Hc2 := hid hc2
    have hne : ((n : Int) != (n : Int)) = false := by simp
    clear hc hc2 hx hy h0
    go_enter Try.func24, Try.ntmps24
    go_wp2
    go_loopw [5] (fun i wr => ∃ k : Nat, k ≤ n ∧ i = .int .i64 k ∧ Below w.heap.size w wr) (fun i _ => n - (intOf i).toNat)
    case atStart => exact ⟨0, Nat.zero_le _, rfl, Below.refl _ _⟩
    case round =>
      obtain ⟨k, hk, rfl, hB⟩ := hrel
      by_cases hlt : k < n
      · obtain ⟨x, hx⟩ : ∃ x, x = ps[k * 2]?.getD 0 := ⟨_, rfl⟩
        obtain ⟨y, hy⟩ : ∃ y, y = ps[k * 2 + 1]?.getD 0 := ⟨_, rfl⟩
        have hck : wr.cell? ⟨b, off + k * 2, none⟩ = some (.int .i64 x) := by rw [hx]; exact (hB.cell (p := ⟨b, off + k * 2, none⟩) hb).trans (Hc.out (k * 2) (by omega))
        have hck2 : wr.cell? ⟨b, off + k * 2 + 1, none⟩ = some (.int .i64 y) := by rw [hy]; exact (hB.cell (p := ⟨b, off + (k * 2 + 1), none⟩) hb).trans (Hc.out (k * 2 + 1) (by omega))
        have hdk : wr.cell? ⟨b2, off2 + k * 2, none⟩ = some (.int .i64 x) := by rw [hx]; exact (hB.cell (p := ⟨b2, off2 + k * 2, none⟩) hb2).trans (Hc2.out (k * 2) (by omega))
        have hdk2 : wr.cell? ⟨b2, off2 + k * 2 + 1, none⟩ = some (.int .i64 y) := by rw [hy]; exact (hB.cell (p := ⟨b2, off2 + (k * 2 + 1), none⟩) hb2).trans (Hc2.out (k * 2 + 1) (by omega))
        have hi0 : (0 : Int) ≤ (k : Int) := by omega
        have hi1 : (k : Int) < (n : Int) := by omega
        have HB := hid hB
        clear hx hy hB
        go_wp2_with fail
        go_region_with (go_at_call 57; refine (eqPair_any x y x y _).mono ?_; rintro e w2 ⟨rfl, hB2⟩; rw [decide_eq_true (And.intro rfl rfl)])
        all_goals
          have HB2 := hid (HB.out.trans (Below.mono (w := wr) ⟨hB2.os, hB2.tape, hB2.output, hB2.size, hB2.block⟩ HB.out.size))
          clear hB2
          go_wp2_with fail
          go_roundw
          case rel => exact ⟨k + 1, by omega, by go_num, HB2.out⟩
          case measure => simp [intOf]; omega
      · go_wp2
        go_ret
        exact ⟨rfl, hB⟩

set_option maxRecDepth 100000 in
set_option maxHeartbeats 1000000 in
theorem markPairs (base : Nat) (a : Option Addr) (n cap : Nat) (ps : List Int) (k : Int) (w : World) (hown : w.ownsRow base 77 2 (.slice a n cap) n (ps.map (Value.int .i64))) (hl : n ≤ 1048576) (h0 : 0 ≤ k) (h1 : k ≤ 1099511627776) :
    Calls Try.prog 26 #[.slice a n cap, .int .i64 k] w fun e w' => e = .returned (.int .i64 (k + 2 * n)) ∧
      w'.ownsRow base 77 2 (.slice a n cap) n ((count k (n * 2)).map (Value.int .i64)) ∧ w.grownBy w' (Value.ownBlock (.slice a n cap)) := by
  have hp : ps.length = n * 2 := by simpa using hown.1
  rcases hown.2 with ⟨hv, hn⟩ | ⟨g, cap', cur, hv, hb, hg, rest⟩
  · subst hn
    obtain rfl : ps = [] := List.eq_nil_of_length_eq_zero (by omega)
    have Hown := hid hown
    clear hown hv
    go_enter Try.func26, Try.ntmps26
    go_wp2
    refine wp_loop_rounds 1 ?_; rw [rounds_succ]
    go_wp2
    go_ret
    exact ⟨ret_int (by simp), Hown.out, ⟨rfl, rfl, rfl, Nat.le_refl _, fun _ _ _ => rfl⟩⟩
  · cases hv
    clear hb hg rest
    go_enter Try.func26, Try.ntmps26
    go_wp2
    go_loopw [1, 5] (fun m i wr => ∃ j : Nat, j ≤ n ∧ i = .int .i64 j ∧ m = .int .i64 (k + 2 * j) ∧ wr.ownsRow base 77 2 (.slice (some ⟨g, 0, none⟩) n cap) n ((count k (j * 2) ++ ps.drop (j * 2)).map (Value.int .i64)) ∧ w.grownBy wr (some g)) (fun _ i _ => n - (intOf i).toNat)
    case atStart => exact ⟨0, Nat.zero_le _, rfl, by simp, by simpa [count] using hown, ⟨rfl, rfl, rfl, Nat.le_refl _, fun _ _ _ => rfl⟩⟩
    case round =>
      obtain ⟨j, hj, rfl, rfl, hown, hgr⟩ := hrel
      by_cases hlt : j < n
      · have hcg : ∃ u, wr.cell? ⟨g, j * 2, none⟩ = some (.int .i64 u) := by
          rw [hown.cellAt (j * 2) (by omega)]
          refine ⟨ps[j * 2]?.getD 0, ?_⟩
          rw [List.getElem?_map, List.getElem?_append_right (by rw [count_len]; exact Nat.le_refl _), count_len, Nat.sub_self]
          simp [show j * 2 < ps.length by omega]
        have hcg2 : ∃ u, wr.cell? ⟨g, j * 2 + 1, none⟩ = some (.int .i64 u) := by
          rw [hown.cellAt (j * 2 + 1) (by omega)]
          refine ⟨ps[j * 2 + 1]?.getD 0, ?_⟩
          rw [List.getElem?_map, List.getElem?_append_right (by rw [count_len]; omega), count_len]
          simp [show j * 2 + 1 < ps.length by omega]
        obtain ⟨u, hcu⟩ := hcg
        obtain ⟨u2, hcu2⟩ := hcg2
        have hfg := hown.frozenAt (j * 2)
        have hfg2 := hown.frozenAt (j * 2 + 1)
        have hst := hown.stored (j * 2) (.int .i64 (k + 2 * j))
        have hst2 := hst.1.stored (j * 2 + 1) (.int .i64 (k + 2 * j + 1))
        have hm1 := mark_step (k := k) (xs := ps) (j := j * 2) (by omega)
        have hm2 := mark_step (k := k) (xs := ps) (j := j * 2 + 1) (by omega)
        rw [show k + ((j * 2 : Nat) : Int) = k + 2 * j by omega] at hm1
        rw [show k + ((j * 2 + 1 : Nat) : Int) = k + 2 * j + 1 by omega] at hm2
        rw [hm1, hm2] at hst2
        have Hst := hid hst2
        have Hst1 := hid hst.2
        have Hgr := hid hgr
        have hi0 : (0 : Int) ≤ (j : Int) := by omega
        have hi1 : (j : Int) < (n : Int) := by omega
        clear hst hst2 hown hgr hm1 hm2
        go_wp2
        refine wp_loop_rounds 3 ?_; rw [rounds_succ]
        go_wp2
        rw [rounds_succ]
        go_wp2
        rw [rounds_succ]
        go_wp2
        go_roundw
        case rel =>
          exact ⟨j + 1, by omega, by go_num, by go_num, by rw [show (j + 1) * 2 = j * 2 + 1 + 1 by omega]; exact Hst.out.1, (Hgr.out.trans Hst1.out).trans Hst.out.2⟩
        case measure => simp [intOf]; omega
      · go_wp2
        go_ret
        obtain rfl : j = n := by omega
        exact ⟨rfl, by simpa [hp, List.drop_of_length_le] using hown, hgr⟩

set_option maxRecDepth 100000 in
set_option maxHeartbeats 1000000 in
theorem heldPairs (a : Option Addr) (cap : Nat) (n : Nat) (ps : List Int) (k : Int) (w : World) (hps : ps = count k (n * 2)) (hx : SlI w w.heap.size a ps) (hl : n ≤ 1048576) (h0 : 0 ≤ k) (h1 : k ≤ 1099511627776) :
    Calls Try.prog 36 #[.slice a n cap, .int .i64 k] w fun e w' => e = .returned (.int .i64 (k + 2 * n)) ∧ Below w.heap.size w w' := by
  have hlen : ps.length = n * 2 := by rw [hps, count_len]
  rcases hx with rfl | ⟨b, off, hb, rfl, hc⟩
  · obtain rfl : n = 0 := by simp at hlen; omega
    clear hps hlen
    go_enter Try.func36, Try.ntmps36
    go_wp2
    refine wp_loop_rounds 1 ?_; rw [rounds_succ]
    go_wp2
    go_ret
    exact ⟨ret_int (by simp), Below.refl _ _⟩
  · have Hc := hid hc
    have Hps := hid hps
    have Hlen := hid hlen
    clear hc hps hlen
    go_enter Try.func36, Try.ntmps36
    go_wp2
    go_loop [1, 5] (fun m i => ∃ j : Nat, j ≤ n ∧ i = .int .i64 j ∧ m = .int .i64 (k + 2 * j)) (fun _ i => n - (intOf i).toNat)
    case atStart => exact ⟨0, Nat.zero_le _, rfl, by simp⟩
    case round =>
      obtain ⟨j, hj, rfl, rfl⟩ := hrel
      by_cases hlt : j < n
      · have hck : w.cell? ⟨b, off + j * 2, none⟩ = some (.int .i64 (k + 2 * j)) := by
          have := Hc.out (j * 2) (by rw [Hlen.out]; omega)
          rw [Hps.out, count_get _ _ _ (by omega), show k + ((j * 2 : Nat) : Int) = k + 2 * j by omega] at this
          exact this
        have hck2 : w.cell? ⟨b, off + j * 2 + 1, none⟩ = some (.int .i64 (k + 2 * j + 1)) := by
          have := Hc.out (j * 2 + 1) (by rw [Hlen.out]; omega)
          rw [Hps.out, count_get _ _ _ (by omega), show k + ((j * 2 + 1 : Nat) : Int) = k + 2 * j + 1 by omega] at this
          exact this
        have hi0 : (0 : Int) ≤ (j : Int) := by omega
        have hi1 : (j : Int) < (n : Int) := by omega
        go_wp2
        refine wp_loop_rounds 3 ?_; rw [rounds_succ]
        go_wp2
        rw [rounds_succ]
        go_wp2
        rw [rounds_succ]
        go_wp2
        go_round
        case rel => exact ⟨j + 1, by omega, by go_num, by go_num⟩
        case measure => simp [intOf]; omega
      · go_wp2
        go_ret
        obtain rfl : j = n := by omega
        exact ⟨rfl, Below.refl _ _⟩

end Go.Proofs.Ytbgkalkipalndaa

/-! The program's list of all pairs. -/
namespace Go.Proofs.Ytbgkalkipalndaa
open Go.RowKit

/-- 'out = append(out, p)' on a list of pairs that the call itself has made. -/
theorem append_pair {w : World} {ops : Array Oper} {rest : List Oper} {o : Oper} {a : Act} {Q : Exit → Act → World → Prop} (hgd : o.guard = none) {s y : Operand}
    (ho : o.op = .call { callee := .builtin .append, args := #[s, y], argTypes := #[31, 31] })
    {base : Nat} {v : Value} {L : List (Int × Int)} {x x' : Int} (hown : w.ownsRow base 77 2 v L.length ((flatP L).map (Value.int .i64))) (hbase : base ≤ w.heap.size) (hl : L.length ≤ 1099511627776)
    (hs : a.eval s = v) (hy : a.eval y = .slice (some ⟨w.heap.size, 0, none⟩) 1 1)
    (hK : ∀ v' w', w'.ownsRow base 77 2 v' (L ++ [(x, x')]).length ((flatP (L ++ [(x, x')])).map (Value.int .i64)) → w.grownBy w' v.ownBlock → Below base w w' → wpList Try.prog ops Q rest (a.put o.dst v') w') :
    wpList Try.prog ops Q (o :: rest) a (w.alloc (.cells #[.int .i64 x, .int .i64 x'] 77)) := by
  obtain ⟨i0, hi, hz0, hz1, hz2⟩ := info_parts info_pair
  refine wpList_append_own _ hgd s y 31 ho base 77 i0 (.agg #[.int .i64 0, .int .i64 0]) 2 16 Try.underlying31 hi hz0 hz1 hz2 rfl (by decide) v _ _ hs (hown.alloc _) ⟨w.heap.size, 0, none⟩ 1 1 [.int .i64 x, .int .i64 x'] hy rfl ?_ (by simp [Value.oneCell']) (by unfold maxLen; omega) (by omega) (by simp; omega) ?_
  · intro j u hj
    match j, hj with
    | 0, hj => simp at hj; subst hj; simp [go_sem, Addr.add]
    | 1, hj => simp at hj; subst hj; simp [go_sem, Addr.add]
    | j + 2, hj => simp at hj
  · intro v' w1 hown1 hgrow1 _
    have hg : w.grownBy w1 v.ownBlock := (World.grownBy_alloc w _ _).trans hgrow1
    refine hK v' w1 (by rw [flatP_snoc]; simpa using hown1) hg ((Below.refl base w).grown hg hbase (fun k hk => (hown.lt k hk).1))

set_option maxRecDepth 100000 in
set_option maxHeartbeats 4000000 in
theorem pairsOf_any (vn : Nat) (a0 : Option Addr) (cap : Nat) (fs : List Int) (w : World) (hx : SlI w w.heap.size a0 fs) (hl : fs.length ≤ 1048576) (hC : IsC (vn : Int) fs) :
    Calls Try.prog 102 #[.agg #[.int .i64 vn, .slice a0 fs.length cap]] w fun e w' => ∃ v, e = .returned v ∧ w'.ownsRow (w.heap.size + 1) 77 2 v (pairsL fs vn fs.length).length ((flatP (pairsL fs vn fs.length)).map (Value.int .i64)) ∧ Below w.heap.size w w' := by
  have hB0 : Hid (Below w.heap.size w (w.alloc (.cells #[.int .i64 vn, .slice a0 fs.length cap] 30))) := hid ((Below.refl _ w).alloc (Nat.le_refl _) _)
  have hvn : vn ≤ 6 := by have := hC.hi; omega
  have Hf := hid hC.range63
  clear hC
  rcases hx with rfl | ⟨b, off, hb, rfl, hc⟩
  · go_enter Try.func102, Try.ntmps102
    go_wp2
    refine wp_loop_rounds 1 ?_; rw [rounds_succ]
    go_wp2
    go_ret
    exact ⟨_, rfl, World.ownsRow_nil _ _ _ _, hB0.out⟩
  · have Hc := hid hc
    clear hc
    go_enter Try.func102, Try.ntmps102
    go_wp2
    go_loopw [3, 11] (fun v i wr => ∃ k : Nat, k ≤ fs.length ∧ i = .int .i64 k ∧ wr.ownsRow (w.heap.size + 1) 77 2 v (pairsL fs vn k).length ((flatP (pairsL fs vn k)).map (Value.int .i64)) ∧
        Below (w.heap.size + 1) (w.alloc (.cells #[.int .i64 vn, .slice (some ⟨b, off, none⟩) fs.length cap] 30)) wr) (fun _ i _ => fs.length - (intOf i).toNat)
    case atStart => exact ⟨0, Nat.zero_le _, rfl, World.ownsRow_nil _ _ _ _, Below.refl _ _⟩
    case round =>
      obtain ⟨k, hk, rfl, hown, hB⟩ := hrel
      by_cases hlt : k < fs.length
      · have hfk := Hf.out _ (getD_mem hlt)
        obtain ⟨x, hx⟩ : ∃ x : Nat, (x : Int) = fs[k]?.getD 0 := ⟨(fs[k]?.getD 0).toNat, by omega⟩
        have hx64 : x < 64 := by omega
        have hck : wr.cell? ⟨b, off + k, none⟩ = some (.int .i64 (x : Int)) := by rw [hx]; exact ((hB0.out.trans (hB.mono (Nat.le_succ _))).cell (p := ⟨b, off + k, none⟩) hb).trans (Hc.out k hlt)
        have c0 : wr.cell? ⟨w.heap.size, 0, none⟩ = some (.int .i64 vn) := (hB.cell (p := ⟨w.heap.size, 0, none⟩) (by simp)).trans (by simp [go_sem])
        have Hsn : Hid (pairsL fs vn (k + 1) = pairsL fs vn k ++ upS fs x vn) := hid (by rw [pairsL_succ hlt, ← hx]; rfl)
        have hi0 : (0 : Int) ≤ (k : Int) := by omega
        have hi1 : (k : Int) < (fs.length : Int) := by omega
        have Hpl := hid (pairsL_len fs vn k hk)
        have HB := hid hB
        have Hown := hid hown
        clear hx hfk hB hown
        go_wp2
        clear hck c0 hi0 hi1
        go_loopw [3, 17] (fun v j wr => ∃ m : Nat, m ≤ vn ∧ j = .int .i64 m ∧ wr.ownsRow (w.heap.size + 1) 77 2 v (pairsL fs vn k ++ upS fs x m).length ((flatP (pairsL fs vn k ++ upS fs x m)).map (Value.int .i64)) ∧
            Below (w.heap.size + 1) (w.alloc (.cells #[.int .i64 vn, .slice (some ⟨b, off, none⟩) fs.length cap] 30)) wr) (fun _ j _ => vn - (intOf j).toNat)
        case atStart => exact ⟨0, Nat.zero_le _, rfl, by simpa [upS] using Hown.out, HB.out⟩
        case round =>
          clear HB Hown
          obtain ⟨m, hm, rfl, hown, hB⟩ := hrel
          by_cases hltm : m < vn
          · have c0 : wr.cell? ⟨w.heap.size, 0, none⟩ = some (.int .i64 vn) := (hB.cell (p := ⟨w.heap.size, 0, none⟩) (by simp)).trans (by simp [go_sem])
            have c1 : wr.cell? ⟨w.heap.size, 1, none⟩ = some (.slice (some ⟨b, off, none⟩) fs.length cap) := (hB.cell (p := ⟨w.heap.size, 1, none⟩) (by simp)).trans (by simp [go_sem])
            have hp2 : (2 : Nat) ^ m ≤ 32 := by have := Nat.pow_le_pow_right (n := 2) (by decide) (show m ≤ 5 by omega); omega
            have hor : bits BinOp.or IntKind.i64 (x : Int) (wrap64 (2 ^ m)) = ((x ||| 2 ^ m : Nat) : Int) := by rw [pow_wrap (show m ≤ 62 by omega)]; exact (bits_nat .i64 6 (by decide) (fun n h0 h1 => by rw [IntKind.wrap_i64]; omega) x (2 ^ m) (by omega) (by omega)).2
            have Hup := hid (upS_succ fs x m)
            have Hln : Hid ((pairsL fs vn k ++ upS fs x m).length ≤ 1099511627776) := hid (by
              have := Hpl.out
              have h1 := upS_len fs x m
              have h2 := Nat.mul_le_mul hk hvn
              rw [List.length_append]
              omega)
            obtain ⟨y, hy⟩ : ∃ y, y = x ||| 2 ^ m := ⟨_, rfl⟩
            rw [← hy] at hor Hup
            have hy64 : y < 64 := by rw [hy]; exact Nat.or_lt_two_pow (n := 6) (by omega) (by omega)
            have hm0 : (0 : Int) ≤ (m : Int) := by omega
            have hm1 : (m : Int) < (vn : Int) := by omega
            have hsz := hB.size
            simp only [World.size_alloc] at hsz
            have Hx1 : Hid (SlI wr wr.heap.size (some ⟨b, off, none⟩) fs) := hid (SlI.later (w := w) (Or.inr ⟨b, off, hb, rfl, Hc.out⟩) (hB0.out.trans (hB.mono (Nat.le_succ _))) (hB0.out.trans (hB.mono (Nat.le_succ _))).size)
            have Hown := hid hown
            have HB := hid hB
            clear hy hown hB hp2
            by_cases hyx : y = x
            · have hd : ((y : Int) != (x : Int)) = false := by simp [hyx]
              have He := hid (Hup.out false (by simp [hyx]))
              clear hyx Hup
              go_wp2_with fail
              go_roundw
              case rel => exact ⟨m + 1, by omega, by go_num, by rw [He.out]; simpa using Hown.out, HB.out⟩
              case measure => simp [intOf]; omega
            · have hd : ((y : Int) != (x : Int)) = true := by simp; omega
              by_cases hym : (y : Int) ∈ fs
              · have He := hid (Hup.out true (by simp [hyx, hym]))
                have CC := hid (contains_any (some ⟨b, off, none⟩) cap fs (y : Int) wr Hx1.out hl)
                rw [decide_eq_true hym] at CC
                clear hyx hym Hup Hx1
                go_wp2_with (first
                  | (go_at_call 165; refine CC.out.mono ?_; rintro e w' ⟨rfl, rfl⟩)
                  | (at_builtin; refine append_pair rfl rfl Hown.out hsz Hln.out rfl rfl ?_; intro v' w2 hown2 hgrow2 hB2))
                go_roundw
                case rel => exact ⟨m + 1, by omega, by go_num, by rw [He.out, if_pos trivial, ← List.append_assoc]; exact hown2, HB.out.trans hB2⟩
                case measure => simp [intOf]; omega
              · have He := hid (Hup.out false (by simp [hym]))
                have CC := hid (contains_any (some ⟨b, off, none⟩) cap fs (y : Int) wr Hx1.out hl)
                rw [decide_eq_false hym] at CC
                clear hyx hym Hup Hx1
                go_wp2_with (go_at_call 165; refine CC.out.mono ?_; rintro e w' ⟨rfl, rfl⟩)
                go_roundw
                case rel => exact ⟨m + 1, by omega, by go_num, by rw [He.out]; simpa using Hown.out, HB.out⟩
                case measure => simp [intOf]; omega
          · obtain rfl : m = vn := by omega
            have Hown := hid hown
            have HB := hid hB
            clear hown hB
            go_wp2
            go_roundw
            case rel => exact ⟨k + 1, by omega, by go_num, by rw [Hsn.out]; exact Hown.out, HB.out⟩
            case measure => simp [intOf]; omega
      · obtain rfl : k = fs.length := by omega
        go_wp2
        go_ret
        exact ⟨_, rfl, hown, hB0.out.trans (hB.mono (Nat.le_succ _))⟩

end Go.Proofs.Ytbgkalkipalndaa

/-! The faces as keys of a map: the program's facesHaving. -/
namespace Go.Proofs.Ytbgkalkipalndaa
open Go.RowKit

theorem wf_face {x : Int} (h0 : 1 ≤ x) (h1 : x ≤ 63) : (Lit.int .i64 x).wf = true := WalkArith.wf_i64 (by omega)

/-- The map of faces. -/
def MapW (w' : World) (b n : Nat) (fs : List Int) : Prop := w'.ownsMap Try.prog 2 (plainElem (H := Unit) Try.prog 4) b n (knownD fs)

theorem MapW.later {w w' : World} {b n : Nat} {fs : List Int} (h : MapW w b n fs) (hB : Below w.heap.size w w') : MapW w' b n fs :=
  World.ownsMap.kept h (row := none) ⟨hB.os, hB.tape, hB.output, hB.size, fun k hk _ => hB.block k hk⟩ (by simp)

theorem MapW.lt {w : World} {b n : Nat} {fs : List Int} (h : MapW w b n fs) : b < w.heap.size := World.ownsMap.lt h

set_option maxRecDepth 100000 in
set_option maxHeartbeats 2000000 in
theorem fh_in (V : Int) (a0 : Option Addr) (cap : Nat) (fs : List Int) (f : Int) (w : World) (hx : SlI w w.heap.size a0 fs) (hl : fs.length ≤ 1048576) (hC : IsC V fs) (hwf : (Lit.int .i64 f).wf = true) (c : Bool) (hc : decide (f ∈ fs) = c) :
    Calls Try.prog 133 #[.agg #[.int .i64 V, .slice a0 fs.length cap], .int .i64 f] w fun e w' => ∃ b, e = .returned (if c then .tuple #[.map (some b), .int .i64 0] else .tuple #[.map none, .int .i64 2]) ∧ (∃ n, MapW w' b n fs) ∧ w.heap.size ≤ b ∧ Below w.heap.size w w' := by
  have hB0 : Below w.heap.size w (w.alloc (.cells #[.int .i64 V, .slice a0 fs.length cap] 30)) := (Below.refl _ w).alloc (Nat.le_refl _) _
  have Hx := hid (hx.later hB0 (by simp <;> omega))
  have Hx0 := hid hx
  have Hf := hid hC.range63
  have HC := hid hC
  clear hx hC
  have hmm := @run_makeMap Try.prog
  go_enter Try.func133, Try.ntmps133
  go_wp2_with fail
  refine (isc_yes V a0 cap fs _ Hx.out hl HC.out).mono ?_
  rintro e w1 ⟨rfl, hB1⟩
  have k0 : w1.cell? ⟨w.heap.size, 0, none⟩ = some (.int .i64 V) := (hB1.cell (p := ⟨w.heap.size, 0, none⟩) (by simp <;> omega)).trans (by simp [go_sem])
  have k1 : w1.cell? ⟨w.heap.size, 1, none⟩ = some (.slice a0 fs.length cap) := (hB1.cell (p := ⟨w.heap.size, 1, none⟩) (by simp <;> omega)).trans (by simp [go_sem])
  have hB01 := hid (hB0.trans (hB1.mono (by simp <;> omega)))
  have hs1 : w.heap.size < w1.heap.size := by have := hB1.size; simp at this; omega
  clear hB0 hB1
  go_wp2_with fail
  clear hmm
  go_loopw [16] (fun i wr => ∃ (k : Nat), k ≤ fs.length ∧ i = .int .i64 k ∧ MapW wr w1.heap.size k (fs.take k) ∧ Below w.heap.size w wr) (fun i _ => fs.length - (intOf i).toNat)
  case atStart => exact ⟨0, Nat.zero_le _, rfl, World.ownsMap_made w1 Try.prog 2 _, hB01.out.trans ((Below.refl _ w1).alloc (by omega) _)⟩
  case round =>
    obtain ⟨k, hk, rfl, hown, hB⟩ := hrel
    by_cases hlt : k < fs.length
    · obtain ⟨b, off, hb, rfl, hc⟩ : ∃ b off, b < w.heap.size ∧ a0 = some ⟨b, off, none⟩ ∧ ∀ i, i < fs.length → w.cell? ⟨b, off + i, none⟩ = some (.int .i64 (fs[i]?.getD 0)) := by
        rcases Hx0.out with rfl | h
        · simp at hlt
        · exact h
      obtain ⟨x, hx⟩ : ∃ x, x = fs[k]?.getD 0 := ⟨_, rfl⟩
      have hxr := Hf.out _ (getD_mem hlt)
      rw [← hx] at hxr
      have hck : wr.cell? ⟨b, off + k, none⟩ = some (.int .i64 x) := by rw [hx]; exact (hB.cell (p := ⟨b, off + k, none⟩) hb).trans (hc k hlt)
      have Hsn : Hid (fs.take (k + 1) = fs.take k ++ [x]) := hid (by rw [take_snoc hlt, ← hx])
      have hi0 : (0 : Int) ≤ (k : Int) := by omega
      have hi1 : (k : Int) < (fs.length : Int) := by omega
      have hkm : k < maxLen := by unfold maxLen; omega
      have hwx := wf_face hxr.1 hxr.2
      have Hown := hid hown
      have HB := hid hB
      clear hc hx hown hB
      go_wp2_with (first | (at_mapUpdate; refine wpList_mapUpdate_own _ rfl _ _ _ 107 rfl 2 4 (Maps.int_keyed Try.underlying2) Try.underlying107 _ w1.heap.size _ _ rfl Hown.out hkm _ _ _ rfl rfl (Maps.keyOf_int_mk Try.underlying2 hwx) _ [] (plainElem_bool Try.underlying4 true) ?_; intro w2 hown2 hgrow2) | go_in)
      go_roundw
      case rel =>
        refine ⟨k + 1, by omega, by go_num, ?_, HB.out.grown hgrow2 HB.out.size (fun r e => by cases e; omega)⟩
        rw [Hsn.out]
        unfold MapW
        rw [knownD_snoc]
        exact hown2
      case measure => simp [intOf]; omega
    · obtain rfl : k = fs.length := by omega
      rw [List.take_of_length_le (Nat.le_refl _)] at hown
      have hlook := lookup_known hown hwf
      rw [hc] at hlook
      have Hown := hid hown
      have HB := hid hB
      clear hown hB
      cases c
      · go_wp2_with (simp only [hlook])
        go_ret2
        exact ⟨rfl, w1.heap.size, ⟨_, Hown.out⟩, by omega, HB.out⟩
      · go_wp2_with fail
        go_ret2
        exact ⟨w1.heap.size, rfl, ⟨_, Hown.out⟩, by omega, HB.out⟩

theorem fh_yes (V : Int) (a0 : Option Addr) (cap : Nat) (fs : List Int) (f : Int) (w : World) (hx : SlI w w.heap.size a0 fs) (hl : fs.length ≤ 1048576) (hC : IsC V fs) (hm : f ∈ fs) :
    Calls Try.prog 133 #[.agg #[.int .i64 V, .slice a0 fs.length cap], .int .i64 f] w fun e w' => ∃ b, e = .returned (.tuple #[.map (some b), .int .i64 0]) ∧ (∃ n, MapW w' b n fs) ∧ w.heap.size ≤ b ∧ Below w.heap.size w w' :=
  fh_in V a0 cap fs f w hx hl hC (wf_face (hC.range63 f hm).1 (hC.range63 f hm).2) true (decide_eq_true hm)

theorem fh_no (V : Int) (a0 : Option Addr) (cap : Nat) (fs : List Int) (f : Int) (w : World) (hx : SlI w w.heap.size a0 fs) (hl : fs.length ≤ 1048576) (hC : IsC V fs) (hwf : (Lit.int .i64 f).wf = true) (hm : f ∉ fs) :
    Calls Try.prog 133 #[.agg #[.int .i64 V, .slice a0 fs.length cap], .int .i64 f] w fun e w' => e = .returned (.tuple #[.map none, .int .i64 2]) ∧ Below w.heap.size w w' :=
  (fh_in V a0 cap fs f w hx hl hC hwf false (decide_eq_false hm)).mono fun _ _ ⟨_, he, _, _, hB⟩ => ⟨he, hB⟩

theorem fh_bad (V : Int) (a0 : Option Addr) (cap : Nat) (fs : List Int) (f : Int) (w : World) (hx : SlI w w.heap.size a0 fs) (hl : fs.length ≤ 1048576) (hC : ¬ IsC V fs) :
    Calls Try.prog 133 #[.agg #[.int .i64 V, .slice a0 fs.length cap], .int .i64 f] w fun e w' => e = .returned (.tuple #[.map none, .int .i64 1]) ∧ Below w.heap.size w w' := by
  have hB0 : Below w.heap.size w (w.alloc (.cells #[.int .i64 V, .slice a0 fs.length cap] 30)) := (Below.refl _ w).alloc (Nat.le_refl _) _
  have Hx := hid (hx.later hB0 (by simp <;> omega))
  go_enter Try.func133, Try.ntmps133
  go_wp2_with fail
  refine (isc_no V a0 cap fs _ Hx.out hl hC).mono ?_
  rintro e w1 ⟨rfl, hB1⟩
  have hB01 := hid (hB0.trans (hB1.mono (by simp <;> omega)))
  go_wp2_with fail
  go_ret2
  exact ⟨rfl, hB01.out⟩


/-! The model's test of a face. -/

theorem face_yes (V : Int) (a0 : Option Addr) (cap : Nat) (fs : List Int) (f : Int) (w : World) (hx : SlI w w.heap.size a0 fs) (hl : fs.length ≤ 1048576) (hC : IsC V fs) (hm : f ∈ fs) :
    Calls Try.prog 72 #[.agg #[.int .i64 V, .slice a0 fs.length cap], .int .i64 f] w fun e w' => e = .returned (.int .i64 0) ∧ Below w.heap.size w w' := by
  have hB0 : Below w.heap.size w (w.alloc (.cells #[.int .i64 V, .slice a0 fs.length cap] 30)) := (Below.refl _ w).alloc (Nat.le_refl _) _
  have Hx := hid (hx.later hB0 (by simp <;> omega))
  have HC := hid hC
  clear hC
  go_enter Try.func72, Try.ntmps72
  go_wp2_with fail
  refine (is_yes V a0 cap fs _ Hx.out hl HC.out).mono ?_
  rintro e w1 ⟨rfl, hB1⟩
  have k0 : w1.cell? ⟨w.heap.size, 0, none⟩ = some (.int .i64 V) := (hB1.cell (p := ⟨w.heap.size, 0, none⟩) (by simp <;> omega)).trans (by simp [go_sem])
  have k1 : w1.cell? ⟨w.heap.size, 1, none⟩ = some (.slice a0 fs.length cap) := (hB1.cell (p := ⟨w.heap.size, 1, none⟩) (by simp <;> omega)).trans (by simp [go_sem])
  have hB01 := hB0.trans (hB1.mono (by simp <;> omega))
  have hx1 := hid (hx.later hB01 hB01.size)
  go_wp2_with fail
  refine (has_yes V f a0 cap fs _ hx1.out hl hm).mono ?_
  rintro e w2 ⟨rfl, hB2⟩
  have hB02 := hid (hB01.trans (hB2.mono hB01.size))
  go_wp2_with fail
  go_ret
  exact ⟨rfl, hB02.out⟩

theorem face_no (V : Int) (a0 : Option Addr) (cap : Nat) (fs : List Int) (f : Int) (w : World) (hx : SlI w w.heap.size a0 fs) (hl : fs.length ≤ 1048576) (hC : IsC V fs) (hm : f ∉ fs) :
    Calls Try.prog 72 #[.agg #[.int .i64 V, .slice a0 fs.length cap], .int .i64 f] w fun e w' => e = .returned (.int .i64 2) ∧ Below w.heap.size w w' := by
  have hB0 : Below w.heap.size w (w.alloc (.cells #[.int .i64 V, .slice a0 fs.length cap] 30)) := (Below.refl _ w).alloc (Nat.le_refl _) _
  have Hx := hid (hx.later hB0 (by simp <;> omega))
  have HC := hid hC
  clear hC
  go_enter Try.func72, Try.ntmps72
  go_wp2_with fail
  refine (is_yes V a0 cap fs _ Hx.out hl HC.out).mono ?_
  rintro e w1 ⟨rfl, hB1⟩
  have k0 : w1.cell? ⟨w.heap.size, 0, none⟩ = some (.int .i64 V) := (hB1.cell (p := ⟨w.heap.size, 0, none⟩) (by simp <;> omega)).trans (by simp [go_sem])
  have k1 : w1.cell? ⟨w.heap.size, 1, none⟩ = some (.slice a0 fs.length cap) := (hB1.cell (p := ⟨w.heap.size, 1, none⟩) (by simp <;> omega)).trans (by simp [go_sem])
  have hB01 := hB0.trans (hB1.mono (by simp <;> omega))
  have hx1 := hid (hx.later hB01 hB01.size)
  go_wp2_with fail
  refine (has_no V f a0 cap fs _ hx1.out hl hm).mono ?_
  rintro e w2 ⟨rfl, hB2⟩
  have hB02 := hid (hB01.trans (hB2.mono hB01.size))
  go_wp2_with fail
  go_ret
  exact ⟨rfl, hB02.out⟩

theorem face_bad (V : Int) (a0 : Option Addr) (cap : Nat) (fs : List Int) (f : Int) (w : World) (hx : SlI w w.heap.size a0 fs) (hl : fs.length ≤ 1048576) (hC : ¬ IsC V fs) :
    Calls Try.prog 72 #[.agg #[.int .i64 V, .slice a0 fs.length cap], .int .i64 f] w fun e w' => e = .returned (.int .i64 1) ∧ Below w.heap.size w w' := by
  have hB0 : Below w.heap.size w (w.alloc (.cells #[.int .i64 V, .slice a0 fs.length cap] 30)) := (Below.refl _ w).alloc (Nat.le_refl _) _
  have Hx := hid (hx.later hB0 (by simp <;> omega))
  go_enter Try.func72, Try.ntmps72
  go_wp2_with fail
  refine (is_no V a0 cap fs _ Hx.out hl hC).mono ?_
  rintro e w1 ⟨rfl, hB1⟩
  have hB01 := hid (hB0.trans (hB1.mono (by simp <;> omega)))
  go_wp2_with fail
  go_ret
  exact ⟨rfl, hB01.out⟩


end Go.Proofs.Ytbgkalkipalndaa

/-! All pairs as keys of a map. -/
namespace Go.Proofs.Ytbgkalkipalndaa
open Go.RowKit

theorem row_pair {w : World} {base g cap : Nat} {L : List (Int × Int)} (h : w.ownsRow base 77 2 (.slice (some ⟨g, 0, none⟩) L.length cap) L.length ((flatP L).map (Value.int .i64))) {k : Nat} (hk : k < L.length) {x y : Int} (hx : L[k]?.getD (0, 0) = (x, y)) :
    w.cell? ⟨g, k * 2, none⟩ = some (.int .i64 x) ∧ w.cell? ⟨g, k * 2 + 1, none⟩ = some (.int .i64 y) := by
  have hlen := flatP_len L
  have ha := flatP_at L k hk
  rw [hx] at ha
  unfold at0 at ha
  simp only at ha
  have h0 : k * 2 < (flatP L).length := by omega
  have h1 : k * 2 + 1 < (flatP L).length := by omega
  constructor
  · rw [h.cellAt (k * 2) (by omega), List.getElem?_map, List.getElem?_eq_getElem h0, ← ha.1, List.getElem?_eq_getElem h0]; rfl
  · rw [h.cellAt (k * 2 + 1) (by omega), List.getElem?_map, List.getElem?_eq_getElem h1, ← ha.2, List.getElem?_eq_getElem h1]; rfl

set_option maxRecDepth 100000 in
set_option maxHeartbeats 4000000 in
theorem known_any (vn : Nat) (a0 : Option Addr) (cap : Nat) (fs : List Int) (w : World) (hx : SlI w w.heap.size a0 fs) (hl : fs.length ≤ 1048576) (hC : IsC (vn : Int) fs) :
    Calls Try.prog 198 #[.agg #[.int .i64 vn, .slice a0 fs.length cap]] w fun e w' => ∃ b n, e = .returned (.map (some b)) ∧ MapP w' b n (pairsL fs vn fs.length) ∧ w.heap.size ≤ b ∧ Below w.heap.size w w' := by
  have hB0 : Hid (Below w.heap.size w ((w.alloc (.cells #[.int .i64 vn, .slice a0 fs.length cap] 30)).alloc (.map #[] 0))) := hid (((Below.refl _ w).alloc (Nat.le_refl _) _).alloc (by simp) _)
  have Hx := hid (hx.later hB0.out hB0.out.size)
  have hvn : vn ≤ 6 := by have := hC.hi; omega
  have Hf := hid hC.range63
  have HC := hid hC
  have Hpl := hid (pairsL_len fs vn fs.length (Nat.le_refl _))
  have Hwf : Hid (∀ q ∈ pairsL fs vn fs.length, wfP q) := hid (fun q hq => by
    obtain ⟨x, y⟩ := q
    have h := (mem_pairsL HC.out x y).1 (by simpa using hq)
    unfold pairB at h
    simp only [Bool.and_eq_true, decide_eq_true_eq] at h
    have h0 := Hf.out x h.1.1.1
    have h1 := Hf.out y h.1.1.2
    exact ⟨wf_face h0.1 h0.2, wf_face h1.1 h1.2⟩)
  have hw0 := World.ownsMap_made (H := Unit) (w.alloc (.cells #[.int .i64 vn, .slice a0 fs.length cap] 30)) Try.prog 77 (plainElem (H := Unit) Try.prog 4)
  have Hw0 := hid hw0
  obtain ⟨L, hL⟩ : ∃ L, L = pairsL fs vn fs.length := ⟨_, rfl⟩
  rw [← hL] at Hwf Hpl ⊢
  have HL := hid hL
  clear hL
  have hmm := @run_makeMap Try.prog
  clear hx hC hw0
  go_enter Try.func198, Try.ntmps198
  go_wp2_with fail
  refine (pairsOf_any vn a0 cap fs _ Hx.out hl HC.out).mono ?_
  rintro e w1 ⟨v, rfl, hrow, hB1⟩
  rw [← HL.out] at hrow
  have hB01 := hid (hB0.out.trans (hB1.mono (by simp <;> omega)))
  have hm1 : w1.ownsMap Try.prog 77 (plainElem (H := Unit) Try.prog 4) (w.heap.size + 1) 0 (.map []) := by
    have := World.ownsMap.kept Hw0.out (row := none) ⟨hB1.os, hB1.tape, hB1.output, hB1.size, fun k hk _ => hB1.block k hk⟩ (by simp)
    simpa using this
  have Hm1 := hid hm1
  have hrow1 := ownsRow_base hrow (show w.heap.size + 1 + 1 ≤ _ by simp)
  have Hrow := hid hrow1
  clear hB1 hrow hm1 hmm hrow1 Hw0 Hx hB0
  rcases Hrow.out.2 with ⟨rfl, hn⟩ | ⟨g, cp, _, rfl, _⟩
  · have hLn : L = [] := List.length_eq_zero_iff.1 hn
    subst hLn
    clear hn
    go_wp2
    refine wp_loop_rounds 1 ?_; rw [rounds_succ]
    go_wp2
    go_ret
    exact ⟨_, _, rfl, Hm1.out, by omega, hB01.out⟩
  · go_wp2
    go_loopw [10] (fun i wr => ∃ k : Nat, k ≤ L.length ∧ i = .int .i64 k ∧ MapP wr (w.heap.size + 1) k (L.take k) ∧ wr.ownsRow (w.heap.size + 1 + 1) 77 2 (.slice (some ⟨g, 0, none⟩) L.length cp) L.length ((flatP L).map (Value.int .i64)) ∧ Below w.heap.size w wr) (fun i _ => L.length - (intOf i).toNat)
    case atStart => exact ⟨0, Nat.zero_le _, rfl, Hm1.out, Hrow.out, hB01.out⟩
    case round =>
      obtain ⟨k, hk, rfl, hm, hr, hB⟩ := hrel
      clear Hrow hB01 Hm1
      by_cases hlt : k < L.length
      · obtain ⟨x, y, hxy⟩ : ∃ x y, L[k]?.getD (0, 0) = (x, y) := ⟨_, _, rfl⟩
        obtain ⟨hc0, hc1⟩ := row_pair hr hlt hxy
        have hmem : (x, y) ∈ L := by rw [← hxy, List.getElem?_eq_getElem hlt]; simp
        have Hsn : Hid (L.take (k + 1) = L.take k ++ [(x, y)]) := hid (by rw [List.take_add_one, ← hxy, List.getElem?_eq_getElem hlt]; rfl)
        have Hwk := hid (Hwf.out _ hmem)
        have hi0 : (0 : Int) ≤ (k : Int) := by omega
        have hi1 : (k : Int) < (L.length : Int) := by omega
        have hLl : L.length ≤ 6291456 := Nat.le_trans Hpl.out (Nat.le_trans (Nat.mul_le_mul hl hvn) (by decide))
        have hkm : k < maxLen := by unfold maxLen; omega
        have Hm := hid hm
        have Hr := hid hr
        have HB := hid hB
        clear hm hr hB hmem hxy
        have HmA := hid (World.ownsMap.alloc Hm.out (.cells #[.int .i64 x, .int .i64 y] 77))
        go_wp2_with (first | (at_mapUpdate; refine wpList_mapUpdate_own _ rfl _ _ _ 157 rfl 77 4 keyedP Try.underlying157 _ (w.heap.size + 1) _ _ rfl HmA.out hkm _ _ _ rfl rfl (keyOfP Hwk.out) _ [] (plainElem_bool Try.underlying4 true) ?_; intro w2 hown2 hgrow2) | go_in)
        go_roundw
        case rel =>
          have hgg : ∀ q, (some g : Option Nat) = some q → w.heap.size + 1 + 1 ≤ q ∧ q < wr.heap.size := fun q hq => Hr.out.lt q hq
          refine ⟨k + 1, by omega, by go_num, ?_, ?_, (HB.out.alloc HB.out.size _).grown hgrow2 (by have := HB.out.size; simp; omega) (fun r e => by cases e; omega)⟩
          · rw [Hsn.out]
            unfold MapP
            rw [pknD_snoc]
            exact hown2
          · exact (Hr.out.alloc _).kept hgrow2 (Or.inr (fun e => by have := hgg g rfl; simp [Value.ownBlock] at e; omega))
        case measure => simp [intOf]; omega
      · obtain rfl : k = L.length := by omega
        rw [List.take_of_length_le (Nat.le_refl _)] at hm
        go_wp2
        go_ret
        exact ⟨_, _, rfl, hm, by omega, hB⟩

end Go.Proofs.Ytbgkalkipalndaa

/-! The program's IsPairing. -/
namespace Go.Proofs.Ytbgkalkipalndaa
open Go.RowKit

/-- What the program has asked of the first k pairs. -/
def GoodTo (fs ps : List Int) (k : Nat) : Prop := ∀ i, i < k → pairB fs (at0 ps (i * 2)) (at0 ps (i * 2 + 1)) = true ∧ at0 ps (i * 2) ∉ ps.take (i * 2) ∧ at0 ps (i * 2 + 1) ∉ ps.take (i * 2)

theorem mem_take_at {ps : List Int} {m : Nat} {x : Int} (hm : m ≤ ps.length) : x ∈ ps.take m ↔ ∃ j, j < m ∧ at0 ps j = x := by
  rw [List.mem_iff_getElem?]
  constructor
  · rintro ⟨j, hj⟩
    rw [List.getElem?_take] at hj
    split at hj
    · next h => exact ⟨j, h, by unfold at0; rw [hj]; rfl⟩
    · cases hj
  · rintro ⟨j, h, rfl⟩
    refine ⟨j, ?_⟩
    rw [List.getElem?_take, if_pos h]
    unfold at0
    rw [List.getElem?_eq_getElem (by omega)]; rfl

theorem clash_iff {x y u v : Int} : clashB x y u v = false ↔ x ≠ u ∧ x ≠ v ∧ y ≠ u ∧ y ≠ v := by
  unfold clashB; simp [Bool.or_eq_false_iff, and_assoc]

theorem good_free {ps : List Int} {n i : Nat} (hp : ps.length = 2 * n) (hi : i < n) :
    (at0 ps (i * 2) ∉ ps.take (i * 2) ∧ at0 ps (i * 2 + 1) ∉ ps.take (i * 2)) ↔ ∀ j, j < i → clashB (at0 ps (i * 2)) (at0 ps (i * 2 + 1)) (at0 ps (j * 2)) (at0 ps (j * 2 + 1)) = false := by
  rw [mem_take_at (by omega), mem_take_at (by omega)]
  constructor
  · rintro ⟨h0, h1⟩ j hj
    rw [clash_iff]
    exact ⟨fun e => h0 ⟨j * 2, by omega, e.symm⟩, fun e => h0 ⟨j * 2 + 1, by omega, e.symm⟩, fun e => h1 ⟨j * 2, by omega, e.symm⟩, fun e => h1 ⟨j * 2 + 1, by omega, e.symm⟩⟩
  · intro h
    have key : ∀ j, j < i * 2 → at0 ps j ≠ at0 ps (i * 2) ∧ at0 ps j ≠ at0 ps (i * 2 + 1) := by
      intro j hj
      have hc := clash_iff.1 (h (j / 2) (by omega))
      rcases Nat.mod_two_eq_zero_or_one j with hm | hm
      · have e : j / 2 * 2 = j := by omega
        rw [e] at hc
        exact ⟨fun e => hc.1 e.symm, fun e => hc.2.2.1 e.symm⟩
      · have e : j / 2 * 2 + 1 = j := by omega
        rw [e] at hc
        exact ⟨fun e => hc.2.1 e.symm, fun e => hc.2.2.2 e.symm⟩
    exact ⟨fun ⟨j, hj, e⟩ => (key j hj).1 e, fun ⟨j, hj, e⟩ => (key j hj).2 e⟩

theorem less_asym {x y u v : Int} (h : lessP x y u v = true) : lessP u v x y = false := by
  unfold lessP at *
  simp only [Bool.or_eq_true, Bool.and_eq_true, decide_eq_true_eq, Bool.or_eq_false_iff, Bool.and_eq_false_iff, decide_eq_false_iff_not] at *
  omega

theorem okTo_good {fs ps : List Int} {n : Nat} (hp : ps.length = 2 * n) (h : OkTo fs ps n) : NoDrop ps n 1 ∧ GoodTo fs ps n :=
  ⟨fun j _ h2 h3 => less_asym ((h j h3).2.1 h2), fun i hi => ⟨(h i hi).1, (good_free hp hi).2 (h i hi).2.2⟩⟩

theorem good_okTo {fs ps : List Int} {n : Nat} (hp : ps.length = 2 * n) (hs : NoDrop ps n 1) (h : GoodTo fs ps n) : OkTo fs ps n := by
  intro i hi
  have hc := (good_free hp hi).1 (h i hi).2
  refine ⟨(h i hi).1, fun h1 => ?_, hc⟩
  have hd := hs i h1 h1 hi
  have hn := clash_iff.1 (hc (i - 1) (by omega))
  unfold lessP at *
  simp only [Bool.or_eq_true, Bool.and_eq_true, decide_eq_true_eq, Bool.or_eq_false_iff, Bool.and_eq_false_iff, decide_eq_false_iff_not] at *
  omega

/-- The answer. -/
noncomputable def isPairingR (V : Int) (fs : List Int) (n : Nat) (ps : List Int) : Bool × Int := if isCB V fs then (pairingB fs ps n, 0) else (false, 1)

theorem two_mono {P : Program} {f : FuncId} {args : Array Value} {w : World} {r : Bool × Int} {b : Bool} {c : Int} (hr : r = (b, c))
    (h : Calls P f args w fun e w' => e = .returned (.tuple #[.bool b, .int .i64 c]) ∧ Below w.heap.size w w') : Calls P f args w fun e w' => e = .returned (.tuple #[.bool r.1, .int .i64 r.2]) ∧ Below w.heap.size w w' := by
  subst hr; exact h

set_option maxRecDepth 100000 in
set_option maxHeartbeats 4000000 in
theorem implIsPairing (V : Int) (a0 : Option Addr) (cap : Nat) (fs : List Int) (a1 : Option Addr) (n cap1 : Nat) (ps : List Int) (w : World) (hx : SlI w w.heap.size a0 fs) (hx1 : SlI w w.heap.size a1 ps) (hl : fs.length ≤ 1048576) (hp : ps.length = 2 * n) (hn : n ≤ 1048576) (hw : ∀ x ∈ ps, (Lit.int .i64 x).wf = true) :
    Calls Try.prog 166 #[.agg #[.int .i64 V, .slice a0 fs.length cap], .slice a1 n cap1] w fun e w' => e = .returned (.tuple #[.bool (isPairingR V fs n ps).1, .int .i64 (isPairingR V fs n ps).2]) ∧ Below w.heap.size w w' := by
  have hB0 : Below w.heap.size w (w.alloc (.cells #[.int .i64 V, .slice a0 fs.length cap] 30)) := (Below.refl _ w).alloc (Nat.le_refl _) _
  have Hx := hid (hx.later hB0 hB0.size)
  have Hx0 := hid hx
  have Hy := hid hx1
  clear hx hx1
  by_cases hC : IsC V fs
  · obtain ⟨vn, rfl⟩ : ∃ vn : Nat, V = vn := ⟨V.toNat, by have := hC.lo; omega⟩
    refine two_mono (show isPairingR vn fs n ps = (pairingB fs ps n, 0) by unfold isPairingR; rw [isCB_true hC, if_pos rfl]) ?_
    have HC := hid hC
    have Hp := hid hp
    have Hw := hid hw
    clear hC hp hw
    have hent : ∀ args w, (callFunc 69 args).run Try.prog w = .ok (.enter 69 args) w := enters_of Try.func69 (by kernel_rfl) rfl
    go_enter Try.func166, Try.ntmps166
    go_wp2_with fail
    refine (isc_yes (vn : Int) a0 cap fs _ Hx.out hl HC.out).mono ?_
    rintro e w1 ⟨rfl, hB1⟩
    have HB1 := hid (hB0.trans (hB1.mono (by simp)))
    have k0 : w1.cell? ⟨w.heap.size, 0, none⟩ = some (.int .i64 vn) := (hB1.cell (p := ⟨w.heap.size, 0, none⟩) (by simp)).trans (by simp [go_sem])
    have k1 : w1.cell? ⟨w.heap.size, 1, none⟩ = some (.slice a0 fs.length cap) := (hB1.cell (p := ⟨w.heap.size, 1, none⟩) (by simp)).trans (by simp [go_sem])
    have hs1 : w.heap.size < w1.heap.size := by have := hB1.size; simp at this; omega
    clear hB0 hB1
    go_wp2_with fail
    refine (sorted_any a1 n cap1 ps _ (Hy.out.later HB1.out HB1.out.size) Hp.out hn).mono ?_
    rintro e w2 ⟨rfl, hB2⟩
    by_cases hnd : NoDrop ps n 1
    rotate_left
    · rw [noDropB_false hnd]
      have He := hid (pairingB_false (fs := fs) (fun h => hnd (okTo_good Hp.out h).1))
      clear hnd
      go_wp2_with fail
      go_ret2
      exact ⟨by rw [He.out]; rfl, HB1.out.trans (hB2.mono HB1.out.size)⟩
    · rw [noDropB_true hnd]
      have Hnd := hid hnd
      have HB2 := hid (HB1.out.trans (hB2.mono HB1.out.size))
      have k02 := (hB2.cell (p := ⟨w.heap.size, 0, none⟩) hs1).trans k0
      have k12 := (hB2.cell (p := ⟨w.heap.size, 1, none⟩) hs1).trans k1
      have hs2 : w1.heap.size ≤ w2.heap.size := hB2.size
      clear hnd hB2 k0 k1 HB1 hent
      have hmm := @run_makeMap Try.prog
      go_wp2_with fail
      refine (known_any vn a0 cap fs _ (Hx0.out.later HB2.out HB2.out.size) hl HC.out).mono ?_
      rintro e w3 ⟨bm, nm, rfl, hm, hbm, hB3⟩
      have HB3 := hid (HB2.out.trans (hB3.mono HB2.out.size))
      have Hm := hid hm
      obtain ⟨L, hL⟩ : ∃ L, L = pairsL fs vn fs.length := ⟨_, rfl⟩
      have HL : Hid (∀ x y : Int, (x, y) ∈ L ↔ pairB fs x y = true) := hid (fun x y => by rw [hL]; exact mem_pairsL HC.out x y)
      have Hwl : Hid (∀ q ∈ L, wfP q) := hid (fun q hq => by
        obtain ⟨x, y⟩ := q
        have h := (HL.out x y).1 hq
        unfold pairB at h
        simp only [Bool.and_eq_true, decide_eq_true_eq] at h
        have h0 := HC.out.range63 x h.1.1.1
        have h1 := HC.out.range63 y h.1.1.2
        exact ⟨wf_face h0.1 h0.2, wf_face h1.1 h1.2⟩)
      have hbm3 : bm < w3.heap.size := World.ownsMap.lt hm
      rw [← hL] at Hm
      clear hm hB3 hL HB2 k02 k12
      go_wp2_with fail
      clear hmm
      go_loopw [21] (fun i wr => ∃ k : Nat, k ≤ n ∧ i = .int .i64 k ∧ Hid (GoodTo fs ps k) ∧ MapW wr w3.heap.size (k * 2) (ps.take (k * 2)) ∧ MapP wr bm nm L ∧ Below w.heap.size w wr) (fun i _ => n - (intOf i).toNat)
      case atStart => exact ⟨0, Nat.zero_le _, rfl, hid (fun i hi => by omega), World.ownsMap_made w3 Try.prog 2 _, World.ownsMap.alloc Hm.out _, HB3.out.alloc HB3.out.size _⟩
      case round =>
        obtain ⟨k, hk, rfl, Hg, hown, hm, hB⟩ := hrel
        by_cases hlt : k < n
        · obtain ⟨b, off, hb, rfl, hc⟩ : ∃ b off, b < w.heap.size ∧ a1 = some ⟨b, off, none⟩ ∧ ∀ i, i < ps.length → w.cell? ⟨b, off + i, none⟩ = some (.int .i64 (ps[i]?.getD 0)) := by
            rcases Hy.out with h | h
            · have := Hp.out; rw [h] at this; simp at this; omega
            · exact h
          have hc2 : wr.cell? ⟨b, off + k * 2, none⟩ = some (.int .i64 (at0 ps (k * 2))) := (hB.cell (p := ⟨b, off + k * 2, none⟩) hb).trans (hc _ (by have := Hp.out; omega))
          have hc3 : wr.cell? ⟨b, off + k * 2 + 1, none⟩ = some (.int .i64 (at0 ps (k * 2 + 1))) := (hB.cell (p := ⟨b, off + (k * 2 + 1), none⟩) hb).trans (hc _ (by have := Hp.out; omega))
          obtain ⟨x, hx⟩ : ∃ x, x = at0 ps (k * 2) := ⟨_, rfl⟩
          obtain ⟨y, hy⟩ : ∃ y, y = at0 ps (k * 2 + 1) := ⟨_, rfl⟩
          have hlen := Hp.out
          have hwx : (Lit.int .i64 x).wf = true := Hw.out x (by rw [hx]; exact getD_mem (by omega))
          have hwy : (Lit.int .i64 y).wf = true := Hw.out y (by rw [hy]; exact getD_mem (by omega))
          have Hsn : Hid (ps.take ((k + 1) * 2) = ps.take (k * 2) ++ [x] ++ [y]) := hid (by
            rw [show (k + 1) * 2 = k * 2 + 1 + 1 by omega, take_snoc (show k * 2 + 1 < ps.length by omega), take_snoc (show k * 2 < ps.length by omega), hx, hy]; rfl)
          have Hgood : Hid (GoodTo fs ps n → pairB fs x y = true ∧ x ∉ ps.take (k * 2) ∧ y ∉ ps.take (k * 2)) := hid (fun h => by rw [hx, hy]; exact h k hlt)
          have Hgs : Hid (pairB fs x y = true → x ∉ ps.take (k * 2) → y ∉ ps.take (k * 2) → GoodTo fs ps (k + 1)) := hid (fun h0 h1 h2 i hi => by
            by_cases hik : i < k
            · exact Hg.out i hik
            · obtain rfl : i = k := by omega
              rw [← hx, ← hy]; exact ⟨h0, h1, h2⟩)
          rw [← hx] at hc2
          rw [← hy] at hc3
          have HmA : Hid (MapP (wr.alloc (.cells #[.int .i64 x, .int .i64 y] 77)) bm nm L) := hid (World.ownsMap.alloc hm _)
          have Hown := hid hown
          have HoA : Hid (MapW (wr.alloc (.cells #[.int .i64 x, .int .i64 y] 77)) w3.heap.size (k * 2) (ps.take (k * 2))) := hid (World.ownsMap.alloc hown _)
          have hlk := lookup_pair HmA.out Hwl.out (p := (x, y)) ⟨hwx, hwy⟩
          have hl0 := lookup_known HoA.out hwx
          have hl1 := lookup_known HoA.out hwy
          have hi0 : (0 : Int) ≤ (k : Int) := by omega
          have hi1 : (k : Int) < (n : Int) := by omega
          have HB := hid hB
          have Hbad : Hid (¬ GoodTo fs ps n → pairingB fs ps n = false) := hid (fun h => pairingB_false (fun ho => h (okTo_good Hp.out ho).2))
          clear hx hy hc hB hm hown hlen
          by_cases hxy : (x, y) ∈ L
          rotate_left
          · rw [decide_eq_false hxy] at hlk
            have He := hid (Hbad.out (fun h => hxy ((HL.out x y).2 (Hgood.out h).1)))
            clear hxy
            go_wp2_with (simp only [hlk, hl0, hl1])
            go_ret2
            exact ⟨by rw [He.out]; rfl, HB.out.alloc HB.out.size _⟩
          · rw [decide_eq_true hxy] at hlk
            have Hxy := hid ((HL.out x y).1 hxy)
            clear hxy
            by_cases h0 : x ∈ ps.take (k * 2)
            · rw [decide_eq_true h0] at hl0
              have He := hid (Hbad.out (fun h => (Hgood.out h).2.1 h0))
              clear h0
              go_wp2_with (simp only [hlk, hl0, hl1])
              go_ret2
              exact ⟨by rw [He.out]; rfl, HB.out.alloc HB.out.size _⟩
            · rw [decide_eq_false h0] at hl0
              by_cases h1 : y ∈ ps.take (k * 2)
              · rw [decide_eq_true h1] at hl1
                have He := hid (Hbad.out (fun h => (Hgood.out h).2.2 h1))
                clear h0 h1
                go_wp2_with (simp only [hlk, hl0, hl1])
                go_ret2
                exact ⟨by rw [He.out]; rfl, HB.out.alloc HB.out.size _⟩
              · rw [decide_eq_false h1] at hl1
                have He := hid (Hgs.out Hxy.out h0 h1)
                clear h0 h1
                go_wp2_with (simp only [hlk, hl0, hl1])
                have hu1 := World.ownsMap.update (w := World.drew (wr.alloc (.cells #[.int .i64 x, .int .i64 y] 77))) HoA.out (Maps.int_keyed Try.underlying2) Try.underlying107 (show k * 2 < maxLen by unfold maxLen; omega) (Maps.keyOf_int_mk Try.underlying2 hwx) (plainElem_bool Try.underlying4 true)
                obtain ⟨wa, hrun1, hwa, hga⟩ := hu1
                obtain ⟨wb, hrun2, hwb, hgb⟩ := World.ownsMap.update hwa (Maps.int_keyed Try.underlying2) Try.underlying107 (show k * 2 + 1 < maxLen by unfold maxLen; omega) (Maps.keyOf_int_mk Try.underlying2 hwy) (plainElem_bool Try.underlying4 true)
                have hlw : w3.heap.size < wr.heap.size := by have := World.ownsMap.lt HoA.out; have hne := World.ownsMap.lt (b := w3.heap.size) Hown.out; exact hne
                have hba : ∀ j, j ≠ w3.heap.size → j < wr.heap.size + 1 → wa.heap[j]? = (wr.alloc (.cells #[.int .i64 x, .int .i64 y] 77)).heap[j]? := fun j hj hlt => hga.block j (by show j < (wr.alloc _).heap.size; simp; omega) (by simpa using hj)
                have Hba := hid hba
                have qa : wa.heap[wr.heap.size]? = some (.cells #[.int .i64 x, .int .i64 y] 77 (0, 0)) := (Hba.out _ (by omega) (by omega)).trans (heap_alloc_new _ _)
                have qb : wb.heap[wr.heap.size]? = some (.cells #[.int .i64 x, .int .i64 y] 77 (0, 0)) := (hgb.block _ (lt_get qa) (by simp; omega)).trans qa
                obtain ⟨ca0, ca1, _, _⟩ := two_of qa
                obtain ⟨cb0, cb1, _, _⟩ := two_of qb
                have Hga := hid hga
                have Hgb := hid hgb
                have Hwb := hid hwb
                clear hga hgb hwb hwa hba qa qb
                go_region_held3 (fun w' => w'.cell? ⟨wr.heap.size, 0, none⟩ = some (.int .i64 x) ∧ w'.cell? ⟨wr.heap.size, 1, none⟩ = some (.int .i64 y)) (go_keep) (first
                  | (simp only [hrun1])
                  | (simp only [hrun2]))
                go_wp2_with fail
                go_roundw
                case rel =>
                  have hm2 : MapP wb bm nm L := World.ownsMap.kept (World.ownsMap.kept HmA.out (row := some w3.heap.size) ⟨Hga.out.os, Hga.out.tape, Hga.out.output, Hga.out.size, Hga.out.block⟩ (by simp; omega)) Hgb.out (by simp; omega)
                  have hBx : Below w.heap.size w wa := (HB.out.alloc HB.out.size _).grown (w := wr.alloc (.cells #[.int .i64 x, .int .i64 y] 77)) ⟨Hga.out.os, Hga.out.tape, Hga.out.output, Hga.out.size, Hga.out.block⟩ (by have := HB.out.size; simp; omega) (fun r e => by cases e; have := HB3.out.size; omega)
                  refine ⟨k + 1, by omega, by go_num, He.out, ?_, hm2, hBx.grown Hgb.out hBx.size (fun r e => by cases e; have := HB3.out.size; omega)⟩
                  rw [Hsn.out]
                  unfold MapW
                  rw [knownD_snoc, knownD_snoc, show (k + 1) * 2 = k * 2 + 1 + 1 by omega]
                  exact Hwb.out
                case measure => simp [intOf]; omega
        · obtain rfl : k = n := by omega
          have He := hid (pairingB_true (good_okTo Hp.out Hnd.out Hg.out))
          go_wp2
          go_ret2
          exact ⟨by rw [He.out]; rfl, hB⟩
  · refine two_mono (show isPairingR V fs n ps = (false, 1) by unfold isPairingR; rw [isCB_false hC, if_neg (by simp)]) ?_
    go_enter Try.func166, Try.ntmps166
    go_wp2_with fail
    refine (isc_no V a0 cap fs _ Hx.out hl hC).mono ?_
    rintro e w1 ⟨rfl, hB1⟩
    go_wp2_with fail
    go_ret2
    exact ⟨rfl, hB0.trans (hB1.mono (by simp))⟩

end Go.Proofs.Ytbgkalkipalndaa
