import Derived.Lib.QuietBelow
import Derived.Maps.OwnSet
import Derived.Deep.RegionHeld3
import Derived.Laws.StructEq
import Derived.Laws.Cover2
import Derived.ArgAppend
import Derived.Deep.LoopGhost
import Derived.Deep.CutRange
import Derived.WalkSmall
import Derived.Test.YtpdhnjdnlgnniaaGreatMC21
import Derived.Test.YtpdhnjdnlgnniaaGreatMC22
/-! The model's test of a pair of faces. -/
namespace Go.Proofs.YtpdhnjdnlgnniaaGreat
open Go.RowKit Go.Sort

/-- Two faces are a pair. -/
def pairB (fs : List Int) (x y : Int) : Bool := decide (x ∈ fs) && decide (y ∈ fs) && decide (x.toNat &&& y.toNat = x.toNat) && decide (ones y.toNat = ones x.toNat + 1)

set_option maxRecDepth 100000 in
set_option maxHeartbeats 4000000 in
theorem pair_any (V : Int) (a : Option Addr) (cap : Nat) (fs : List Int) (x y : Int) (w : World) (hx : SlI w w.heap.size a fs) (hl : fs.length ≤ 1048576) (hf : ∀ x ∈ fs, 1 ≤ x ∧ x ≤ 63) :
    Calls Tryz.prog 45 #[.agg #[.int .i64 V, .slice a fs.length cap], .agg #[.int .i64 x, .int .i64 y]] w fun e w' => e = .returned (.bool (pairB fs x y)) ∧ Below w.heap.size w w' := by
  obtain ⟨W, hW⟩ : ∃ W, W = (w.alloc (.cells #[.int .i64 V, .slice a fs.length cap] 30)).alloc (.cells #[.int .i64 x, .int .i64 y] 47) := ⟨_, rfl⟩
  have HB : Hid (Below w.heap.size w W) := hid (by rw [hW]; exact ((Below.refl _ w).alloc (Nat.le_refl _) _).alloc (by simp) _)
  have q0 : W.heap[w.heap.size]? = some (.cells #[.int .i64 V, .slice a fs.length cap] 30 (0, 0)) := by rw [hW]; exact (Below.heap_alloc _ _ _ (by simp)).trans (heap_alloc_new _ _)
  have q1 : W.heap[w.heap.size + 1]? = some (.cells #[.int .i64 x, .int .i64 y] 47 (0, 0)) := by rw [hW]; exact new2 _ _ _
  have HW := hid hW
  have Hx := hid (hx.later HB.out HB.out.size)
  obtain ⟨k0, k1, _, _⟩ := two_of q0
  obtain ⟨p0, p1, _, _⟩ := two_of q1
  clear hW q0 q1 hx
  have Hf := hid hf
  clear hf
  have cX : ∀ d os, Calls Tryz.prog 30 #[.agg #[.int .i64 V, .slice a fs.length cap], .int .i64 x] (grow (redrawn W d) os) fun e w'' => e = .returned (.bool (decide (x ∈ fs))) ∧ ∃ p : Regrown, w'' = grow (redrawn W p.d) p.os := fun d os => Calls.regrown_of (has_any V x a cap fs _ (Hx.out.later (below_regrown W d os) (below_regrown W d os).size) hl)
  have cY : ∀ d os, Calls Tryz.prog 30 #[.agg #[.int .i64 V, .slice a fs.length cap], .int .i64 y] (grow (redrawn W d) os) fun e w'' => e = .returned (.bool (decide (y ∈ fs))) ∧ ∃ p : Regrown, w'' = grow (redrawn W p.d) p.os := fun d os => Calls.regrown_of (has_any V y a cap fs _ (Hx.out.later (below_regrown W d os) (below_regrown W d os).size) hl)
  have CX := hid cX
  have CY := hid cY
  have r0 := cell_regrown k0
  have r1 := cell_regrown k1
  have r2 := cell_regrown p0
  have r3 := cell_regrown p1
  clear cX cY k0 k1 p0 p1 Hx
  by_cases hx1 : x ∈ fs
  · rw [decide_eq_true hx1] at CX
    by_cases hy1 : y ∈ fs
    · rw [decide_eq_true hy1] at CY
      have hxr := Hf.out x hx1
      have hyr := Hf.out y hy1
      have He : Hid (pairB fs x y = (decide (x.toNat &&& y.toNat = x.toNat) && decide (ones y.toNat = ones x.toNat + 1))) := hid (by unfold pairB; rw [decide_eq_true hx1, decide_eq_true hy1]; simp)
      clear hx1 hy1
      obtain ⟨x, rfl⟩ : ∃ n : Nat, x = n := ⟨x.toNat, by omega⟩
      obtain ⟨y, rfl⟩ : ∃ n : Nat, y = n := ⟨y.toNat, by omega⟩
      have hx64 : x < 64 := by omega
      have hy64 : y < 64 := by omega
      simp only [Int.toNat_natCast] at He
      have hbits : bits BinOp.and IntKind.i64 (x : Int) (y : Int) = ((x &&& y : Nat) : Int) := (bits_nat .i64 6 (by decide) (fun n h0 h1 => by rw [IntKind.wrap_i64]; omega) x y (by omega) (by omega)).1
      have ho := ones_le x
      have ho' := ones_le y
      have cO : ∀ (f : Nat), f < 64 → ∀ d os, Calls Tryz.prog 59 #[.int .i64 (f : Int)] (grow (redrawn W d) os) fun e w'' => e = .returned (.int .i64 (ones f : Int)) ∧ ∃ p : Regrown, w'' = grow (redrawn W p.d) p.os := fun f hf d os => Calls.regrown_of ((ones_any f _ hf).mono fun _ _ ⟨he, hw⟩ => ⟨he, by rw [← hw]; exact Below.refl _ _⟩)
      have COx := hid (cO x hx64)
      have COy := hid (cO y hy64)
      have hw : IntKind.i64.wrap (((ones x : Nat) : Int) + 1) = ((ones x : Nat) : Int) + 1 := by rw [IntKind.wrap_i64]; omega
      clear cO
      by_cases hb : x &&& y = x
      · have hd : (((x &&& y : Nat) : Int) == (x : Int)) = true := by simp; omega
        have He2 : Hid (pairB fs x y = decide (ones y = ones x + 1)) := hid (by rw [He.out, decide_eq_true hb]; simp)
        have Ho : Hid ((((ones y : Nat) : Int) == ((ones x : Nat) : Int) + 1) = decide (ones y = ones x + 1)) := hid (by rw [Bool.eq_iff_iff]; simp; omega)
        clear hb
        go_enter Tryz.func45, Tryz.ntmps45
        go_wp2_with fail
        rw [← HW.out]
        refine wp_region_quiet_below (by kernel_rfl) (by kernel_rfl) ?_
        iterate 3 (with_reducible refine wpQuiet_step (fun K hK => ?_); have HK := hid hK; clear hK; go_simp; with_reducible refine HK.out _ ?_; clear HK K)
        (with_reducible refine wpQuiet_step (fun K hK => ?_); have HK := hid hK; clear hK; go_simp; apply Exists.intro; with_reducible refine ⟨fun _ => ?_, HK.out _ ?_⟩; exact CX.out _ _; clear HK K)
        iterate 4 (with_reducible refine wpQuiet_step (fun K hK => ?_); have HK := hid hK; clear hK; go_simp; with_reducible refine HK.out _ ?_; clear HK K)
        (with_reducible refine wpQuiet_step (fun K hK => ?_); have HK := hid hK; clear hK; go_simp; apply Exists.intro; with_reducible refine ⟨fun _ => ?_, HK.out _ ?_⟩; exact CY.out _ _; clear HK K)
        iterate 14 (with_reducible refine wpQuiet_step (fun K hK => ?_); have HK := hid hK; clear hK; go_simp; with_reducible refine HK.out _ ?_; clear HK K)
        (with_reducible refine wpQuiet_step (fun K hK => ?_); have HK := hid hK; clear hK; go_simp; apply Exists.intro; with_reducible refine ⟨fun _ => ?_, HK.out _ ?_⟩; exact COy.out _ _; clear HK K)
        iterate 2 (with_reducible refine wpQuiet_step (fun K hK => ?_); have HK := hid hK; clear hK; go_simp; with_reducible refine HK.out _ ?_; clear HK K)
        (with_reducible refine wpQuiet_step (fun K hK => ?_); have HK := hid hK; clear hK; go_simp; apply Exists.intro; with_reducible refine ⟨fun _ => ?_, HK.out _ ?_⟩; exact COx.out _ _; clear HK K)
        iterate 4 (with_reducible refine wpQuiet_step (fun K hK => ?_); have HK := hid hK; clear hK; go_simp; with_reducible refine HK.out _ ?_; clear HK K)
        with_reducible refine wpQuiet_nil ?_
        intro _ hw'
        obtain ⟨⟨dq, osq⟩, hw''⟩ := hw'
        subst hw''
        go_wp2_with fail
        go_ret
        exact ⟨ret_bool (by rw [He2.out]; exact Ho.out), HB.out.trans ((below_regrown W dq osq).mono HB.out.size)⟩
      · have hd : (((x &&& y : Nat) : Int) == (x : Int)) = false := by simp; omega
        have He2 : Hid (pairB fs x y = false) := hid (by rw [He.out, decide_eq_false hb]; simp)
        clear hb
        go_enter Tryz.func45, Tryz.ntmps45
        go_wp2_with fail
        rw [← HW.out]
        refine wp_region_quiet_below (by kernel_rfl) (by kernel_rfl) ?_
        iterate 3 (with_reducible refine wpQuiet_step (fun K hK => ?_); have HK := hid hK; clear hK; go_simp; with_reducible refine HK.out _ ?_; clear HK K)
        (with_reducible refine wpQuiet_step (fun K hK => ?_); have HK := hid hK; clear hK; go_simp; apply Exists.intro; with_reducible refine ⟨fun _ => ?_, HK.out _ ?_⟩; exact CX.out _ _; clear HK K)
        iterate 4 (with_reducible refine wpQuiet_step (fun K hK => ?_); have HK := hid hK; clear hK; go_simp; with_reducible refine HK.out _ ?_; clear HK K)
        (with_reducible refine wpQuiet_step (fun K hK => ?_); have HK := hid hK; clear hK; go_simp; apply Exists.intro; with_reducible refine ⟨fun _ => ?_, HK.out _ ?_⟩; exact CY.out _ _; clear HK K)
        iterate 22 (with_reducible refine wpQuiet_step (fun K hK => ?_); have HK := hid hK; clear hK; go_simp; with_reducible refine HK.out _ ?_; clear HK K)
        with_reducible refine wpQuiet_nil ?_
        intro _ hw'
        obtain ⟨⟨dq, osq⟩, hw''⟩ := hw'
        subst hw''
        go_wp2_with fail
        go_ret
        exact ⟨ret_bool He2.out.symm, HB.out.trans ((below_regrown W dq osq).mono HB.out.size)⟩
    · rw [decide_eq_false hy1] at CY
      have He : Hid (pairB fs x y = false) := hid (by unfold pairB; rw [decide_eq_false hy1]; simp)
      clear hx1 hy1
      go_enter Tryz.func45, Tryz.ntmps45
      go_wp2_with fail
      rw [← HW.out]
      refine wp_region_quiet_below (by kernel_rfl) (by kernel_rfl) ?_
      iterate 3 (with_reducible refine wpQuiet_step (fun K hK => ?_); have HK := hid hK; clear hK; go_simp; with_reducible refine HK.out _ ?_; clear HK K)
      (with_reducible refine wpQuiet_step (fun K hK => ?_); have HK := hid hK; clear hK; go_simp; apply Exists.intro; with_reducible refine ⟨fun _ => ?_, HK.out _ ?_⟩; exact CX.out _ _; clear HK K)
      iterate 4 (with_reducible refine wpQuiet_step (fun K hK => ?_); have HK := hid hK; clear hK; go_simp; with_reducible refine HK.out _ ?_; clear HK K)
      (with_reducible refine wpQuiet_step (fun K hK => ?_); have HK := hid hK; clear hK; go_simp; apply Exists.intro; with_reducible refine ⟨fun _ => ?_, HK.out _ ?_⟩; exact CY.out _ _; clear HK K)
      iterate 22 (with_reducible refine wpQuiet_step (fun K hK => ?_); have HK := hid hK; clear hK; go_simp; with_reducible refine HK.out _ ?_; clear HK K)
      with_reducible refine wpQuiet_nil ?_
      intro _ hw'
      obtain ⟨⟨dq, osq⟩, hw''⟩ := hw'
      subst hw''
      go_wp2_with fail
      go_ret
      exact ⟨ret_bool He.out.symm, HB.out.trans ((below_regrown W dq osq).mono HB.out.size)⟩
  · rw [decide_eq_false hx1] at CX
    have He : Hid (pairB fs x y = false) := hid (by unfold pairB; rw [decide_eq_false hx1]; simp)
    clear hx1
    go_enter Tryz.func45, Tryz.ntmps45
    go_wp2_with fail
    rw [← HW.out]
    refine wp_region_quiet_below (by kernel_rfl) (by kernel_rfl) ?_
    iterate 3 (with_reducible refine wpQuiet_step (fun K hK => ?_); have HK := hid hK; clear hK; go_simp; with_reducible refine HK.out _ ?_; clear HK K)
    (with_reducible refine wpQuiet_step (fun K hK => ?_); have HK := hid hK; clear hK; go_simp; apply Exists.intro; with_reducible refine ⟨fun _ => ?_, HK.out _ ?_⟩; exact CX.out _ _; clear HK K)
    iterate 27 (with_reducible refine wpQuiet_step (fun K hK => ?_); have HK := hid hK; clear hK; go_simp; with_reducible refine HK.out _ ?_; clear HK K)
    with_reducible refine wpQuiet_nil ?_
    intro _ hw'
    obtain ⟨⟨dq, osq⟩, hw''⟩ := hw'
    subst hw''
    go_wp2_with fail
    go_ret
    exact ⟨ret_bool He.out.symm, HB.out.trans ((below_regrown W dq osq).mono HB.out.size)⟩

end Go.Proofs.YtpdhnjdnlgnniaaGreat

/-! The model's test of a pairing. -/
namespace Go.Proofs.YtpdhnjdnlgnniaaGreat
open Go.RowKit Go.Sort

/-- Two pairs have a face in common. -/
def clashB (x y x' y' : Int) : Bool := decide (x = x') || decide (x = y') || decide (y = x') || decide (y = y')

/-- The first k pairs are pairs, in order, and the pair i has no face of an earlier one. -/
def OkTo (fs ps : List Int) (k : Nat) : Prop := ∀ i, i < k → pairB fs (at0 ps (i * 2)) (at0 ps (i * 2 + 1)) = true ∧ (1 ≤ i → lessP (at0 ps ((i - 1) * 2)) (at0 ps ((i - 1) * 2 + 1)) (at0 ps (i * 2)) (at0 ps (i * 2 + 1)) = true) ∧ ∀ j, j < i → clashB (at0 ps (i * 2)) (at0 ps (i * 2 + 1)) (at0 ps (j * 2)) (at0 ps (j * 2 + 1)) = false

noncomputable def pairingB (fs ps : List Int) (n : Nat) : Bool := @decide (OkTo fs ps n) (Classical.propDecidable _)
theorem pairingB_true {fs ps : List Int} {n : Nat} (h : OkTo fs ps n) : pairingB fs ps n = true := by unfold pairingB; exact @decide_eq_true _ (Classical.propDecidable _) h
theorem pairingB_false {fs ps : List Int} {n : Nat} (h : ¬ OkTo fs ps n) : pairingB fs ps n = false := by unfold pairingB; exact @decide_eq_false _ (Classical.propDecidable _) h

set_option maxRecDepth 100000 in
set_option maxHeartbeats 8000000 in
theorem pis_some (V : Int) (a : Option Addr) (cap : Nat) (fs : List Int) (b off n c2 : Nat) (ps : List Int) (w : World) (hx : SlI w w.heap.size a fs) (hl : fs.length ≤ 1048576) (hf : ∀ x ∈ fs, 1 ≤ x ∧ x ≤ 63)
    (hb : b < w.heap.size) (hc : ∀ i, i < ps.length → w.cell? ⟨b, off + i, none⟩ = some (.int .i64 (ps[i]?.getD 0))) (hp : ps.length = 2 * n) (hn : n ≤ 1048576) :
    Calls Tryz.prog 29 #[.agg #[.int .i64 V, .slice a fs.length cap], .slice (some ⟨b, off, none⟩) n c2] w fun e w' => e = .returned (.bool (pairingB fs ps n)) ∧ Below w.heap.size w w' := by
  obtain ⟨W0, hW0⟩ : ∃ W0, W0 = w.alloc (.cells #[.int .i64 V, .slice a fs.length cap] 30) := ⟨_, rfl⟩
  have HW0 : Hid (Below w.heap.size w W0) := hid (by rw [hW0]; exact (Below.refl _ w).alloc (Nat.le_refl _) _)
  have hs0 : W0.heap.size = w.heap.size + 1 := by rw [hW0]; simp
  have q0 : W0.heap[w.heap.size]? = some (.cells #[.int .i64 V, .slice a fs.length cap] 30 (0, 0)) := by rw [hW0]; exact heap_alloc_new _ _
  obtain ⟨k0, k1, _, _⟩ := two_of q0
  have K0 := hid k0
  have K1 := hid k1
  have Hs0 := hid hs0
  have Hx := hid hx
  have Hc := hid hc
  have Hp := hid hp
  have Hf := hid hf
  have HW := hid hW0
  clear hc hp hf hx q0 k0 k1 hs0
  go_enter Tryz.func29, Tryz.ntmps29
  go_wp2_with fail
  rw [← HW.out]
  clear hW0
  go_loopw [5] (fun i wr => ∃ k : Nat, k ≤ n ∧ i = .int .i64 k ∧ Hid (OkTo fs ps k) ∧ Below (w.heap.size + 1) W0 wr) (fun i _ => n - (intOf i).toNat)
  case atStart => exact ⟨0, Nat.zero_le _, rfl, hid (fun i hi => by omega), Below.refl _ _⟩
  case round =>
    obtain ⟨k, hk, rfl, Hk, hB⟩ := hrel
    have HB := hid hB
    clear hB
    by_cases hlt : k < n
    · have hc0 : wr.cell? ⟨w.heap.size, 0, none⟩ = some (.int .i64 V) := (HB.out.cell (p := ⟨w.heap.size, 0, none⟩) (by simp)).trans K0.out
      have hc1 : wr.cell? ⟨w.heap.size, 1, none⟩ = some (.slice a fs.length cap) := (HB.out.cell (p := ⟨w.heap.size, 1, none⟩) (by simp)).trans K1.out
      have HBw : Hid (Below w.heap.size w wr) := hid (HW0.out.trans (HB.out.mono (Nat.le_succ _)))
      have hc2 : wr.cell? ⟨b, off + k * 2, none⟩ = some (.int .i64 (at0 ps (k * 2))) := (HBw.out.cell (p := ⟨b, off + k * 2, none⟩) hb).trans (Hc.out _ (by have := Hp.out; omega))
      have hc3 : wr.cell? ⟨b, off + k * 2 + 1, none⟩ = some (.int .i64 (at0 ps (k * 2 + 1))) := (HBw.out.cell (p := ⟨b, off + (k * 2 + 1), none⟩) hb).trans (Hc.out _ (by have := Hp.out; omega))
      obtain ⟨x, hx⟩ : ∃ x, x = at0 ps (k * 2) := ⟨_, rfl⟩
      obtain ⟨y, hy⟩ : ∃ y, y = at0 ps (k * 2 + 1) := ⟨_, rfl⟩
      rw [← hx] at hc2
      rw [← hy] at hc3
      have HX := hid hx
      have HY := hid hy
      clear hx hy
      have hi0 : (0 : Int) ≤ (k : Int) := by omega
      have hi1 : (k : Int) < (n : Int) := by omega
      have r0 := cell_regrown hc0
      have r1 := cell_regrown hc1
      have r2 := cell_regrown hc2
      have r3 := cell_regrown hc3
      have cP : ∀ d os, Calls Tryz.prog 45 #[.agg #[.int .i64 V, .slice a fs.length cap], .agg #[.int .i64 x, .int .i64 y]] (grow (redrawn wr d) os) fun e w'' => e = .returned (.bool (pairB fs x y)) ∧ ∃ p : Regrown, w'' = grow (redrawn wr p.d) p.os := fun d os => Calls.regrown_of (pair_any V a cap fs x y _ ((Hx.out.later HBw.out HBw.out.size).later (below_regrown wr d os) (below_regrown wr d os).size) hl Hf.out)
      have CP := hid cP
      clear cP
      by_cases hq : pairB fs x y = true
      · rw [hq] at CP
        have Hq := hid hq
        clear hq hc0 hc1 hc2 hc3
        by_cases hk0 : 0 < k
        rotate_left
        · have hd : decide (0 < k) = false := decide_eq_false hk0
          have Hk0 := hid hk0
          clear hk0
          go_wp2_with fail
          refine wp_region_quiet_below (by kernel_rfl) (by kernel_rfl) ?_
          iterate 5 (with_reducible refine wpQuiet_step (fun K hK => ?_); have HK := hid hK; clear hK; go_simp; (first | with_reducible refine HK.out _ ?_ | (rw [if_neg (by decide)]; with_reducible refine HK.out _ ?_)); clear HK K)
          (with_reducible refine wpQuiet_step (fun K hK => ?_); have HK := hid hK; clear hK; go_simp; apply Exists.intro; with_reducible refine ⟨fun _ => ?_, HK.out _ ?_⟩; exact CP.out _ _; clear HK K)
          iterate 18 (with_reducible refine wpQuiet_step (fun K hK => ?_); have HK := hid hK; clear hK; go_simp; (first | with_reducible refine HK.out _ ?_ | (rw [if_neg (by decide)]; with_reducible refine HK.out _ ?_)); clear HK K)
          with_reducible refine wpQuiet_nil ?_
          intro _ hw'
          obtain ⟨⟨dq, osq⟩, hw''⟩ := hw'
          subst hw''
          go_wp2_with fail
          have HB' : Hid (Below (w.heap.size + 1) W0 (grow (redrawn wr dq) osq)) := hid (HB.out.trans ((below_regrown wr dq osq).mono (by rw [← Hs0.out]; exact HB.out.size)))
          refine wp_loop_rounds 1 ?_; rw [rounds_succ]
          go_wp2_with fail
          go_roundw
          case rel =>
            have hk0 := Hk0.out
            refine ⟨k + 1, by omega, by go_num, fun i hi => ?_, HB'.out⟩
            obtain rfl : i = k := by omega
            exact ⟨by rw [← HX.out, ← HY.out]; exact Hq.out, fun h => by omega, fun j hj => by omega⟩
          case measure => simp [intOf]; omega
        · obtain ⟨m, rfl⟩ : ∃ m : Nat, k = m + 1 := ⟨k - 1, by omega⟩
          clear hk0
          have hd2 : wr.cell? ⟨b, off + m * 2, none⟩ = some (.int .i64 (at0 ps (m * 2))) := (HBw.out.cell (p := ⟨b, off + m * 2, none⟩) hb).trans (Hc.out _ (by have := Hp.out; omega))
          have hd3 : wr.cell? ⟨b, off + m * 2 + 1, none⟩ = some (.int .i64 (at0 ps (m * 2 + 1))) := (HBw.out.cell (p := ⟨b, off + (m * 2 + 1), none⟩) hb).trans (Hc.out _ (by have := Hp.out; omega))
          obtain ⟨x', hx'⟩ : ∃ x, x = at0 ps (m * 2) := ⟨_, rfl⟩
          obtain ⟨y', hy'⟩ : ∃ y, y = at0 ps (m * 2 + 1) := ⟨_, rfl⟩
          rw [← hx'] at hd2
          rw [← hy'] at hd3
          have HX' := hid hx'
          have HY' := hid hy'
          clear hx' hy'
          have s2 := cell_regrown hd2
          have s3 := cell_regrown hd3
          clear hd2 hd3
          have hi2 : (0 : Int) ≤ (m : Int) := by omega
          have hi3 : (m : Int) < (n : Int) := by omega
          have hw1 : IntKind.i64.wrap (m : Int) = m := by rw [IntKind.wrap_i64]; omega
          have hw2 : IntKind.i64.wrap ((m : Int) + 1 - 1) = m := by rw [show (m : Int) + 1 - 1 = m by omega]; exact hw1
          have hw3 : wrap64 (m : Int) = m := IntWalk.wrap64_in _ ⟨by omega, by omega⟩
          have hj0 : (0 : Int) ≤ (m : Int) + 1 := by omega
          have hj1 : (m : Int) + 1 < (n : Int) := by omega
          have hgt : (0 : Int) < (m : Int) + 1 := by omega
          have CL : Hid (∀ d os, Calls Tryz.prog 46 #[.agg #[.int .i64 x', .int .i64 y'], .agg #[.int .i64 x, .int .i64 y]] (grow (redrawn wr d) os) fun e w'' => e = .returned (.bool (lessP x' y' x y)) ∧ ∃ p : Regrown, w'' = grow (redrawn wr p.d) p.os) := hid (fun d os => Calls.regrown_of (less_any x' y' x y _))
          by_cases hql : lessP x' y' x y = true
          · rw [hql] at CL
            have Hql := hid hql
            clear hql
            go_wp2_with fail
            refine wp_region_quiet_below (by kernel_rfl) (by kernel_rfl) ?_
            iterate 5 (with_reducible refine wpQuiet_step (fun K hK => ?_); have HK := hid hK; clear hK; go_simp; (first | with_reducible refine HK.out _ ?_ | (rw [if_neg (by decide)]; with_reducible refine HK.out _ ?_)); clear HK K)
            (with_reducible refine wpQuiet_step (fun K hK => ?_); have HK := hid hK; clear hK; go_simp; apply Exists.intro; with_reducible refine ⟨fun _ => ?_, HK.out _ ?_⟩; exact CP.out _ _; clear HK K)
            iterate 14 (with_reducible refine wpQuiet_step (fun K hK => ?_); have HK := hid hK; clear hK; go_simp; (first | with_reducible refine HK.out _ ?_ | (rw [if_neg (by decide)]; with_reducible refine HK.out _ ?_)); clear HK K)
            (with_reducible refine wpQuiet_step (fun K hK => ?_); have HK := hid hK; clear hK; go_simp; apply Exists.intro; with_reducible refine ⟨fun _ => ?_, HK.out _ ?_⟩; exact CL.out _ _; clear HK K)
            iterate 3 (with_reducible refine wpQuiet_step (fun K hK => ?_); have HK := hid hK; clear hK; go_simp; (first | with_reducible refine HK.out _ ?_ | (rw [if_neg (by decide)]; with_reducible refine HK.out _ ?_)); clear HK K)
            with_reducible refine wpQuiet_nil ?_
            intro _ hw'
            obtain ⟨⟨dq, osq⟩, hw''⟩ := hw'
            subst hw''
            go_wp2_with fail
            have HB' : Hid (Below (w.heap.size + 1) W0 (grow (redrawn wr dq) osq)) := hid (HB.out.trans ((below_regrown wr dq osq).mono (by rw [← Hs0.out]; exact HB.out.size)))
            clear HB r0 r1 r2 r3 s2 s3 CP CL HBw
            go_loopw [6] (fun j wx => ∃ i : Nat, i ≤ m + 1 ∧ j = .int .i64 i ∧ Hid (∀ t, t < i → clashB x y (at0 ps (t * 2)) (at0 ps (t * 2 + 1)) = false) ∧ Below (w.heap.size + 1) W0 wx) (fun j _ => m + 1 - (intOf j).toNat)
            case atStart => exact ⟨0, Nat.zero_le _, rfl, hid (fun t ht => by omega), HB'.out⟩
            case round =>
              obtain ⟨i, hi, rfl, Hcl, hBx⟩ := hrel
              have HBx := hid hBx
              clear hBx HB'
              by_cases hlt2 : i < m + 1
              · have HBv : Hid (Below w.heap.size w wr) := hid (HW0.out.trans (HBx.out.mono (Nat.le_succ _)))
                have hc2 : wr.cell? ⟨b, off + (m + 1) * 2, none⟩ = some (.int .i64 x) := ((HBv.out.cell (p := ⟨b, off + (m + 1) * 2, none⟩) hb).trans (Hc.out _ (by have := Hp.out; omega))).trans (by rw [HX.out]; rfl)
                have hc3 : wr.cell? ⟨b, off + (m + 1) * 2 + 1, none⟩ = some (.int .i64 y) := ((HBv.out.cell (p := ⟨b, off + ((m + 1) * 2 + 1), none⟩) hb).trans (Hc.out _ (by have := Hp.out; omega))).trans (by rw [HY.out]; rfl)
                have hd2 : wr.cell? ⟨b, off + i * 2, none⟩ = some (.int .i64 (at0 ps (i * 2))) := (HBv.out.cell (p := ⟨b, off + i * 2, none⟩) hb).trans (Hc.out _ (by have := Hp.out; omega))
                have hd3 : wr.cell? ⟨b, off + i * 2 + 1, none⟩ = some (.int .i64 (at0 ps (i * 2 + 1))) := (HBv.out.cell (p := ⟨b, off + (i * 2 + 1), none⟩) hb).trans (Hc.out _ (by have := Hp.out; omega))
                obtain ⟨u, hu⟩ : ∃ u, u = at0 ps (i * 2) := ⟨_, rfl⟩
                obtain ⟨v, hv⟩ : ∃ v, v = at0 ps (i * 2 + 1) := ⟨_, rfl⟩
                rw [← hu] at hd2
                rw [← hv] at hd3
                have HU := hid hu
                have HV := hid hv
                clear hu hv
                have hi4 : (0 : Int) ≤ (i : Int) := by omega
                have hi5 : (i : Int) < (n : Int) := by omega
                have hi6 : (i : Int) < (m : Int) + 1 := by omega
                have Hbad : Hid (clashB x y u v = true → pairingB fs ps n = false) := hid (fun h => pairingB_false (fun ho => by have := (ho (m + 1) hlt).2.2 i hlt2; rw [← HX.out, ← HY.out, ← HU.out, ← HV.out, h] at this; cases this))
                by_cases h0 : x = u
                · have g0 : (x == u) = true := by simp [h0]
                  have He : Hid (pairingB fs ps n = false) := hid (Hbad.out (by unfold clashB; simp [h0]))
                  clear h0
                  go_wp2_with fail
                  refine wp_region_quiet_lit (by kernel_rfl) (by kernel_rfl) ?_
                  iterate 50 (with_reducible refine wpQuiet_step (fun K hK => ?_); have HK := hid hK; clear hK; go_simp; (first | with_reducible refine HK.out _ ?_ | (rw [if_neg (by decide)]; with_reducible refine HK.out _ ?_)); clear HK K)
                  with_reducible refine wpQuiet_nil ?_
                  intro _ hw'
                  obtain ⟨nq, hw''⟩ := hw'
                  subst hw''
                  go_wp2_with fail
                  go_ret
                  exact ⟨ret_bool He.out.symm, HBv.out.trans ⟨rfl, rfl, rfl, Nat.le_refl _, fun _ _ => rfl⟩⟩
                · have g0 : (x == u) = false := by simp [h0]
                  by_cases h1 : x = v
                  · have g1 : (x == v) = true := by simp [h1]
                    have He : Hid (pairingB fs ps n = false) := hid (Hbad.out (by unfold clashB; simp [h1]))
                    clear h0 h1
                    go_wp2_with fail
                    refine wp_region_quiet_lit (by kernel_rfl) (by kernel_rfl) ?_
                    iterate 50 (with_reducible refine wpQuiet_step (fun K hK => ?_); have HK := hid hK; clear hK; go_simp; (first | with_reducible refine HK.out _ ?_ | (rw [if_neg (by decide)]; with_reducible refine HK.out _ ?_)); clear HK K)
                    with_reducible refine wpQuiet_nil ?_
                    intro _ hw'
                    obtain ⟨nq, hw''⟩ := hw'
                    subst hw''
                    go_wp2_with fail
                    go_ret
                    exact ⟨ret_bool He.out.symm, HBv.out.trans ⟨rfl, rfl, rfl, Nat.le_refl _, fun _ _ => rfl⟩⟩
                  · have g1 : (x == v) = false := by simp [h1]
                    by_cases h2 : y = u
                    · have g2 : (y == u) = true := by simp [h2]
                      have He : Hid (pairingB fs ps n = false) := hid (Hbad.out (by unfold clashB; simp [h2]))
                      clear h0 h1 h2
                      go_wp2_with fail
                      refine wp_region_quiet_lit (by kernel_rfl) (by kernel_rfl) ?_
                      iterate 50 (with_reducible refine wpQuiet_step (fun K hK => ?_); have HK := hid hK; clear hK; go_simp; (first | with_reducible refine HK.out _ ?_ | (rw [if_neg (by decide)]; with_reducible refine HK.out _ ?_)); clear HK K)
                      with_reducible refine wpQuiet_nil ?_
                      intro _ hw'
                      obtain ⟨nq, hw''⟩ := hw'
                      subst hw''
                      go_wp2_with fail
                      go_ret
                      exact ⟨ret_bool He.out.symm, HBv.out.trans ⟨rfl, rfl, rfl, Nat.le_refl _, fun _ _ => rfl⟩⟩
                    · have g2 : (y == u) = false := by simp [h2]
                      by_cases h3 : y = v
                      · have g3 : (y == v) = true := by simp [h3]
                        have He : Hid (pairingB fs ps n = false) := hid (Hbad.out (by unfold clashB; simp [h3]))
                        clear h0 h1 h2 h3
                        go_wp2_with fail
                        refine wp_region_quiet_lit (by kernel_rfl) (by kernel_rfl) ?_
                        iterate 50 (with_reducible refine wpQuiet_step (fun K hK => ?_); have HK := hid hK; clear hK; go_simp; (first | with_reducible refine HK.out _ ?_ | (rw [if_neg (by decide)]; with_reducible refine HK.out _ ?_)); clear HK K)
                        with_reducible refine wpQuiet_nil ?_
                        intro _ hw'
                        obtain ⟨nq, hw''⟩ := hw'
                        subst hw''
                        go_wp2_with fail
                        go_ret
                        exact ⟨ret_bool He.out.symm, HBv.out.trans ⟨rfl, rfl, rfl, Nat.le_refl _, fun _ _ => rfl⟩⟩
                      · have g3 : (y == v) = false := by simp [h3]
                        have He : Hid (∀ t, t < i + 1 → clashB x y (at0 ps (t * 2)) (at0 ps (t * 2 + 1)) = false) := hid (fun t ht => by
                          by_cases hti : t < i
                          · exact Hcl.out t hti
                          · obtain rfl : t = i := by omega
                            rw [← HU.out, ← HV.out]; unfold clashB; simp only [decide_eq_false h0, decide_eq_false h1, decide_eq_false h2, decide_eq_false h3]; rfl)
                        clear h0 h1 h2 h3
                        go_wp2_with fail
                        refine wp_region_quiet_lit (by kernel_rfl) (by kernel_rfl) ?_
                        iterate 50 (with_reducible refine wpQuiet_step (fun K hK => ?_); have HK := hid hK; clear hK; go_simp; (first | with_reducible refine HK.out _ ?_ | (rw [if_neg (by decide)]; with_reducible refine HK.out _ ?_)); clear HK K)
                        with_reducible refine wpQuiet_nil ?_
                        intro _ hw'
                        obtain ⟨nq, hw''⟩ := hw'
                        subst hw''
                        go_wp2_with fail
                        go_roundw
                        case rel => exact ⟨i + 1, by omega, by go_num, He.out, HBx.out.trans ⟨rfl, rfl, rfl, Nat.le_refl _, fun _ _ => rfl⟩⟩
                        case measure => simp [intOf]; omega
              · obtain rfl : i = m + 1 := by omega
                go_wp2_with fail
                go_roundw
                case rel =>
                  refine ⟨m + 1 + 1, by omega, by go_num, fun i hi => ?_, HBx.out⟩
                  by_cases him : i < m + 1
                  · exact Hk.out i him
                  · obtain rfl : i = m + 1 := by omega
                    refine ⟨by rw [← HX.out, ← HY.out]; exact Hq.out, fun _ => ?_, fun j hj => ?_⟩
                    · rw [Nat.add_sub_cancel, ← HX.out, ← HY.out, ← HX'.out, ← HY'.out]; exact Hql.out
                    · rw [← HX.out, ← HY.out]; exact Hcl.out j hj
                case measure => simp [intOf]; omega
          · have hql' : lessP x' y' x y = false := by simpa using hql
            rw [hql'] at CL
            have He : Hid (pairingB fs ps n = false) := hid (pairingB_false (fun h => by have := (h (m + 1) hlt).2.1 (by omega); rw [Nat.add_sub_cancel, ← HX.out, ← HY.out, ← HX'.out, ← HY'.out, hql'] at this; cases this))
            clear hql hql'
            go_wp2_with fail
            refine wp_region_quiet_below (by kernel_rfl) (by kernel_rfl) ?_
            iterate 5 (with_reducible refine wpQuiet_step (fun K hK => ?_); have HK := hid hK; clear hK; go_simp; (first | with_reducible refine HK.out _ ?_ | (rw [if_neg (by decide)]; with_reducible refine HK.out _ ?_)); clear HK K)
            (with_reducible refine wpQuiet_step (fun K hK => ?_); have HK := hid hK; clear hK; go_simp; apply Exists.intro; with_reducible refine ⟨fun _ => ?_, HK.out _ ?_⟩; exact CP.out _ _; clear HK K)
            iterate 14 (with_reducible refine wpQuiet_step (fun K hK => ?_); have HK := hid hK; clear hK; go_simp; (first | with_reducible refine HK.out _ ?_ | (rw [if_neg (by decide)]; with_reducible refine HK.out _ ?_)); clear HK K)
            (with_reducible refine wpQuiet_step (fun K hK => ?_); have HK := hid hK; clear hK; go_simp; apply Exists.intro; with_reducible refine ⟨fun _ => ?_, HK.out _ ?_⟩; exact CL.out _ _; clear HK K)
            iterate 3 (with_reducible refine wpQuiet_step (fun K hK => ?_); have HK := hid hK; clear hK; go_simp; (first | with_reducible refine HK.out _ ?_ | (rw [if_neg (by decide)]; with_reducible refine HK.out _ ?_)); clear HK K)
            with_reducible refine wpQuiet_nil ?_
            intro _ hw'
            obtain ⟨⟨dq, osq⟩, hw''⟩ := hw'
            subst hw''
            go_wp2_with fail
            go_ret
            exact ⟨ret_bool He.out.symm, HBw.out.trans ((below_regrown wr dq osq).mono HBw.out.size)⟩
      · have hq' : pairB fs x y = false := by simpa using hq
        have He : Hid (pairingB fs ps n = false) := hid (pairingB_false (fun h => by have := (h k hlt).1; rw [← HX.out, ← HY.out, hq'] at this; cases this))
        rw [hq'] at CP
        clear hq hq' hc0 hc1 hc2 hc3
        go_wp2_with fail
        refine wp_region_quiet_below (by kernel_rfl) (by kernel_rfl) ?_
        iterate 5 (with_reducible refine wpQuiet_step (fun K hK => ?_); have HK := hid hK; clear hK; go_simp; (first | with_reducible refine HK.out _ ?_ | (rw [if_neg (by decide)]; with_reducible refine HK.out _ ?_)); clear HK K)
        (with_reducible refine wpQuiet_step (fun K hK => ?_); have HK := hid hK; clear hK; go_simp; apply Exists.intro; with_reducible refine ⟨fun _ => ?_, HK.out _ ?_⟩; exact CP.out _ _; clear HK K)
        iterate 18 (with_reducible refine wpQuiet_step (fun K hK => ?_); have HK := hid hK; clear hK; go_simp; (first | with_reducible refine HK.out _ ?_ | (rw [if_neg (by decide)]; with_reducible refine HK.out _ ?_)); clear HK K)
        with_reducible refine wpQuiet_nil ?_
        intro _ hw'
        obtain ⟨⟨dq, osq⟩, hw''⟩ := hw'
        subst hw''
        go_wp2_with fail
        go_ret
        exact ⟨ret_bool He.out.symm, HBw.out.trans ((below_regrown wr dq osq).mono HBw.out.size)⟩
    · obtain rfl : k = n := by omega
      have He : Hid (pairingB fs ps k = true) := hid (pairingB_true Hk.out)
      go_wp2
      go_ret
      exact ⟨ret_bool He.out.symm, HW0.out.trans (HB.out.mono (Nat.le_succ _))⟩

end Go.Proofs.YtpdhnjdnlgnniaaGreat

/-! pairsByLow: a map from low faces to their pairs. -/
namespace Go.Proofs.YtpdhnjdnlgnniaaGreat
open Go.RowKit

def pairV (x y : Int) : Value := .agg #[.int .i64 x, .int .i64 y]
def pairD (x y : Int) : DataW Unit := .agg [.lit (.int .i64 x), .lit (.int .i64 y)]
/-- How the map's values are read. -/
def pairElem (v : Value) : Option (DataW Unit × List MemPlace) := match v with
  | .agg a => match a.toList with
    | [.int .i64 x, .int .i64 y] => some (pairD x y, [])
    | _ => none
  | _ => none
theorem pairElem_mk (x y : Int) : pairElem (.agg #[.int .i64 x, .int .i64 y]) = some (pairD x y, []) := rfl
theorem pairElem_inv {v : Value} {x y : Int} {ps : List MemPlace} (h : pairElem v = some (pairD x y, ps)) : v = .agg #[.int .i64 x, .int .i64 y] := by
  unfold pairElem at h
  split at h
  · rename_i a
    split at h
    · rename_i x' y' he
      simp [pairD] at h
      obtain ⟨rfl, rfl⟩ := h.1
      have : a = #[.int .i64 x', .int .i64 y'] := by cases a; simp at he; simp [he]
      rw [this]
    · cases h
  · cases h
theorem zero_pair (w : World) : (zeroValue 47).run Tryz.prog w = .ok (.agg #[.int .i64 0, .int .i64 0]) w := by kernel_rfl

/-- The map with the first k pairs. -/
def lowsD (ps : List Int) : Nat → DataW Unit
  | 0 => .map []
  | k + 1 => (lowsD ps k).put (.int .i64 (at0 ps (k * 2))) (pairD (at0 ps (k * 2)) (at0 ps (k * 2 + 1)))
theorem lowsD_map (ps : List Int) : ∀ k, Maps.IsMap (lowsD ps k)
  | 0 => Maps.isMap_empty
  | k + 1 => (lowsD_map ps k).put _ _
/-- No two pairs have the same low face. -/
def LowsApart (ps : List Int) (n : Nat) : Prop := ∀ i j, i < j → j < n → at0 ps (i * 2) ≠ at0 ps (j * 2)
theorem okTo_apart {fs ps : List Int} {n : Nat} (h : OkTo fs ps n) : LowsApart ps n := by
  intro i j hij hj e
  have := (h j hj).2.2 i hij
  unfold clashB at this
  rw [decide_eq_true e.symm] at this
  simp at this
theorem lows_hit {ps : List Int} {a : Int} : ∀ (k i : Nat), LowsApart ps k → i < k → at0 ps (i * 2) = a → (∀ z, (lowsD ps k).atKey (.int .i64 a) z = pairD a (at0 ps (i * 2 + 1))) ∧ Maps.has (lowsD ps k) (.int .i64 a) = true
  | 0, _, _, h, _ => absurd h (Nat.not_lt_zero _)
  | k + 1, i, hd, hi, ha => by
    by_cases e : i = k
    · subst e
      unfold lowsD
      rw [ha]
      exact ⟨fun z => Maps.atKey_put_same (lowsD_map ps i) (show WideAt.IsKeyLit (.int .i64 a) from trivial) _ _, Maps.has_put_same (lowsD_map ps i) (show WideAt.IsKeyLit (.int .i64 a) from trivial) _⟩
    · have hne : a ≠ at0 ps (k * 2) := by rw [← ha]; exact hd i k (by omega) (by omega)
      obtain ⟨h1, h2⟩ := lows_hit k i (fun i j h1 h2 => hd i j h1 (by omega)) (by omega) ha
      unfold lowsD
      exact ⟨fun z => by rw [Maps.atKey_put_other (by simpa using hne)]; exact h1 z, by rw [Maps.has_put_other (by simpa using hne)]; exact h2⟩
theorem lows_miss {ps : List Int} {a : Int} : ∀ (k : Nat), (∀ i, i < k → at0 ps (i * 2) ≠ a) → (∀ z, (lowsD ps k).atKey (.int .i64 a) z = z) ∧ Maps.has (lowsD ps k) (.int .i64 a) = false
  | 0, _ => ⟨fun _ => rfl, rfl⟩
  | k + 1, h => by
    have hne : a ≠ at0 ps (k * 2) := fun e => h k (by omega) e.symm
    obtain ⟨h1, h2⟩ := lows_miss k (fun i hi => h i (by omega))
    unfold lowsD
    exact ⟨fun z => by rw [Maps.atKey_put_other (by simpa using hne)]; exact h1 z, by rw [Maps.has_put_other (by simpa using hne)]; exact h2⟩

/-- 'own, ok := lows[a]'. -/
theorem lows_look {w : World} {b N n : Nat} {ps : List Int} {a : Int} (hown : w.ownsMap Tryz.prog 2 pairElem b N (lowsD ps n)) (hd : LowsApart ps n) (ha : (Lit.int .i64 a).wf = true) :
    (∃ i, i < n ∧ at0 ps (i * 2) = a ∧ highOf ps n a = at0 ps (i * 2 + 1) ∧ (Instr.lookup 84 (.map (some b)) (.int .i64 a) true).run Tryz.prog w = .ok (.tuple #[.agg #[.int .i64 a, .int .i64 (highOf ps n a)], .bool true]) w) ∨
    (highOf ps n a = 0 ∧ (Instr.lookup 84 (.map (some b)) (.int .i64 a) true).run Tryz.prog w = .ok (.tuple #[.agg #[.int .i64 0, .int .i64 0], .bool false]) w) := by
  obtain ⟨v, qs, hrun, hv⟩ := hown.look_ok (Maps.int_keyed Tryz.underlying2) Tryz.underlying84 (zero_pair w) (pairElem_mk 0 0) (Maps.keyOf_int_mk Tryz.underlying2 ha)
  by_cases hex : ∃ i, i < n ∧ at0 ps (i * 2) = a
  · obtain ⟨i, hi, hia⟩ := hex
    have hh : highOf ps n a = at0 ps (i * 2 + 1) := highOf_some hi hia (fun j hj e => hd j i hj hi (e.trans hia.symm))
    obtain ⟨h1, h2⟩ := lows_hit n i hd hi hia
    rw [h1, ← hh] at hv
    rw [h2, pairElem_inv hv] at hrun
    exact .inl ⟨i, hi, hia, hh, hrun⟩
  · obtain ⟨h1, h2⟩ := lows_miss n (fun i hi e => hex ⟨i, hi, e⟩)
    rw [h1] at hv
    rw [h2, pairElem_inv hv] at hrun
    exact .inr ⟨highOf_none (fun i hi e => hex ⟨i, hi, e⟩), hrun⟩

set_option maxRecDepth 100000 in
set_option maxHeartbeats 4000000 in
theorem lows_any (a1 : Option Addr) (n cap1 : Nat) (ps : List Int) (w : World) (hx1 : SlI w w.heap.size a1 ps) (hp : ps.length = 2 * n) (hn : n ≤ 1048576) (hw : ∀ x ∈ ps, (Lit.int .i64 x).wf = true) :
    Calls Tryz.prog 68 #[.slice a1 n cap1] w fun e w' => e = .returned (.map (some w.heap.size)) ∧ w'.ownsMap Tryz.prog 2 pairElem w.heap.size n (lowsD ps n) ∧ Below w.heap.size w w' := by
  have Hy := hid hx1
  have Hp := hid hp
  have Hw := hid hw
  have hmm := @run_makeMap Tryz.prog
  clear hx1 hp hw
  have H0 : Hid ((w.alloc (.map #[] 0)).ownsMap Tryz.prog 2 pairElem w.heap.size 0 (lowsD ps 0)) := hid (World.ownsMap_made w Tryz.prog 2 pairElem)
  go_enter Tryz.func68, Tryz.ntmps68
  go_wp2_with fail
  clear hmm
  go_loopw [9] (fun i wr => ∃ k : Nat, k ≤ n ∧ i = .int .i64 k ∧ wr.ownsMap Tryz.prog 2 pairElem w.heap.size k (lowsD ps k) ∧ Below w.heap.size w wr) (fun i _ => n - (intOf i).toNat)
  case atStart => exact ⟨0, Nat.zero_le _, rfl, H0.out, (Below.refl _ w).alloc (Nat.le_refl _) _⟩
  case round =>
    obtain ⟨k, hk, rfl, hown, hB⟩ := hrel
    by_cases hlt : k < n
    · obtain ⟨b, off, hb, rfl, hc⟩ : ∃ b off, b < w.heap.size ∧ a1 = some ⟨b, off, none⟩ ∧ ∀ i, i < ps.length → w.cell? ⟨b, off + i, none⟩ = some (.int .i64 (ps[i]?.getD 0)) := by
        rcases Hy.out with h | h
        · have := Hp.out; rw [h] at this; simp at this; omega
        · exact h
      have hc2 : wr.cell? ⟨b, off + k * 2, none⟩ = some (.int .i64 (at0 ps (k * 2))) := (hB.cell (p := ⟨b, off + k * 2, none⟩) hb).trans (hc _ (by have := Hp.out; omega))
      have hc3 : wr.cell? ⟨b, off + k * 2 + 1, none⟩ = some (.int .i64 (at0 ps (k * 2 + 1))) := (hB.cell (p := ⟨b, off + (k * 2 + 1), none⟩) hb).trans (hc _ (by have := Hp.out; omega))
      obtain ⟨x, hx⟩ : ∃ x, x = at0 ps (k * 2) := ⟨_, rfl⟩
      obtain ⟨y, hy⟩ : ∃ y, y = at0 ps (k * 2 + 1) := ⟨_, rfl⟩
      have hlen := Hp.out
      have hwx : (Lit.int .i64 x).wf = true := Hw.out x (by rw [hx]; exact getD_mem (by omega))
      have Hsn : Hid (lowsD ps (k + 1) = (lowsD ps k).put (.int .i64 x) (pairD x y)) := hid (by rw [hx, hy]; rfl)
      rw [← hx] at hc2
      rw [← hy] at hc3
      have hi0 : (0 : Int) ≤ (k : Int) := by omega
      have hi1 : (k : Int) < (n : Int) := by omega
      have hlm := hown.lt
      obtain ⟨wa, hrun1, hwa, hga⟩ := World.ownsMap.update (w := wr.alloc (.cells #[.int .i64 x, .int .i64 y] 47)) (World.ownsMap.alloc hown _) (Maps.int_keyed Tryz.underlying2) Tryz.underlying84 (show k < maxLen by unfold maxLen; omega) (Maps.keyOf_int_mk Tryz.underlying2 hwx) (pairElem_mk x y)
      rw [← Hsn.out] at hwa
      have Hwa := hid hwa
      have HBa := hid (((hB.alloc hB.size (.cells #[.int .i64 x, .int .i64 y] 47))).grown hga (by have := hB.size; simp; omega) (fun r e => by cases e; exact Nat.le_refl _))
      clear hwa hga hx hy hc hlen hown hB
      go_wp2_with fail
      go_roundw
      case rel => exact ⟨k + 1, by omega, by go_num, Hwa.out, HBa.out⟩
      case measure => simp [intOf]; omega
    · obtain rfl : k = n := by omega
      have Hown := hid hown
      have HB := hid hB
      clear hown hB
      go_wp2_with fail
      go_ret
      exact ⟨rfl, Hown.out, HB.out⟩

end Go.Proofs.YtpdhnjdnlgnniaaGreat

/-! FacesOf, the model's and the program's. -/
namespace Go.Proofs.YtpdhnjdnlgnniaaGreat
open Go.RowKit

/-- The faces of a dimension. -/
def ofDim (fs : List Int) (d : Int) : List Int := fs.filter fun x => decide ((ones x.toNat : Int) = d + 1)

noncomputable def facesOfR (V : Int) (fs : List Int) (d : Int) : List Int × Int := if isCB V fs then (if 0 ≤ d ∧ d ≤ 5 then (ofDim fs d, 0) else ([], 2)) else ([], 1)

theorem facesOfR_len (V : Int) (fs : List Int) (d : Int) (h : fs.length ≤ 1048576) : (facesOfR V fs d).1.length ≤ 1048576 := by
  unfold facesOfR
  split
  · split
    · exact Nat.le_trans (List.length_filter_le _ _) h
    · simp
  · simp

theorem pair_mono {P : Program} {f : FuncId} {args : Array Value} {w : World} {r : List Int × Int} {xs : List Int} {c : Int} (hr : r = (xs, c))
    (h : Calls P f args w fun e w' => ∃ v, e = .returned (.tuple #[v, .int .i64 c]) ∧ Res w w' v xs) : Calls P f args w fun e w' => ∃ v, e = .returned (.tuple #[v, .int .i64 r.2]) ∧ Res w w' v r.1 := by
  subst hr; exact h



end Go.Proofs.YtpdhnjdnlgnniaaGreat

/-! The dimension of a complex, the model's and the program's. -/
namespace Go.Proofs.YtpdhnjdnlgnniaaGreat
open Go.RowKit

/-- The greater number, as the model has it. -/
def more (m y : Int) : Int := if m < y then y else m

/-- The dimension of a list of faces. -/
def top (fs : List Int) : Int := fs.foldl (fun m x => more m ((ones x.toNat : Int) - 1)) (-1)

theorem top_snoc (pre : List Int) (x : Int) : top (pre ++ [x]) = more (top pre) ((ones x.toNat : Int) - 1) := by simp [top]

theorem top_from (fs : List Int) : ∀ m : Int, -1 ≤ m → m ≤ 5 → -1 ≤ fs.foldl (fun m x => more m ((ones x.toNat : Int) - 1)) m ∧ fs.foldl (fun m x => more m ((ones x.toNat : Int) - 1)) m ≤ 5 ∧ m ≤ fs.foldl (fun m x => more m ((ones x.toNat : Int) - 1)) m ∧ ∀ x ∈ fs, (ones x.toNat : Int) - 1 ≤ fs.foldl (fun m x => more m ((ones x.toNat : Int) - 1)) m := by
  induction fs with
  | nil => intro m h0 h1; exact ⟨h0, h1, Int.le_refl _, by simp⟩
  | cons x fs ih =>
    intro m h0 h1
    have ho := ones_le x.toNat
    have hm : -1 ≤ more m ((ones x.toNat : Int) - 1) ∧ more m ((ones x.toNat : Int) - 1) ≤ 5 ∧ m ≤ more m ((ones x.toNat : Int) - 1) ∧ (ones x.toNat : Int) - 1 ≤ more m ((ones x.toNat : Int) - 1) := by
      unfold more
      split <;> omega
    obtain ⟨a1, a2, a3, a4⟩ := ih _ hm.1 hm.2.1
    simp only [List.foldl_cons]
    refine ⟨a1, a2, by omega, ?_⟩
    intro y hy
    rcases List.mem_cons.1 hy with rfl | hy
    · omega
    · exact a4 y hy

theorem top_lo (fs : List Int) : -1 ≤ top fs := (top_from fs (-1) (by omega) (by omega)).1
theorem top_hi (fs : List Int) : top fs ≤ 5 := (top_from fs (-1) (by omega) (by omega)).2.1
theorem top_ge (fs : List Int) {x : Int} (hx : x ∈ fs) : (ones x.toNat : Int) - 1 ≤ top fs := (top_from fs (-1) (by omega) (by omega)).2.2.2 x hx

theorem cell_alloc0 {W : World} {p : Addr} {v : Value} (h : W.cell? p = some v) (o : Obj) : (W.alloc o).cell? p = some v :=
  (World.cell?_alloc_some W p o (show (W.cell? p).isSome = true by rw [h]; rfl)).trans h



end Go.Proofs.YtpdhnjdnlgnniaaGreat

/-! stepsFrom: the steps from a face as an iterator. -/
namespace Go.Proofs.YtpdhnjdnlgnniaaGreat
open Go.RowKit Go.Shelf

attribute [local go_sem] Oper.semAt_some

/-- The sides that a step leads to: all but the face itself. -/
def otherF (a : Int) (l : List (Fin 64)) : List (Fin 64) := l.filter fun x => decide ((x.val : Int) ≠ a)
def stepsF (ps : List Int) (n : Nat) (a : Int) : List (Fin 64) := if highOf ps n a = 0 then [] else otherF a (sidesF (highOf ps n a).toNat)
theorem otherF_snoc (a : Int) (l : List (Fin 64)) (x : Fin 64) : otherF a (l ++ [x]) = otherF a l ++ (if (x.val : Int) = a then [] else [x]) := by
  unfold otherF
  rw [List.filter_append]
  by_cases h : (x.val : Int) = a <;> simp [h]
theorem otherF_prefix {a : Int} {l l' : List (Fin 64)} (h : l <+: l') : otherF a l <+: otherF a l' := by
  obtain ⟨t, rfl⟩ := h
  unfold otherF
  rw [List.filter_append]
  exact List.prefix_append _ _

set_option maxHeartbeats 1000000 in
/-- stepsFrom: its arguments are boxed; the function value captures the boxes. -/
theorem stepsFrom_in (n : Nat) (M : Nat) (a : Int) (w : World) :
    CallsIn Fence.wide n Tryz.prog 69 #[.map (some M), .int .i64 a] w fun e w' => e = .returned (.func (.func 82) #[] #[.pointer (some ⟨w.heap.size, 0, none⟩), .pointer (some ⟨w.heap.size + 1, 0, none⟩)]) ∧ w' = (w.alloc (  .cells #[.map (some M)] 84)).alloc (.cells #[.int .i64 a] 2) := by
  refine callsIn_of_wp Tryz.func69 rfl trivial ?_ rfl
  simp only [Tryz.ntmps69, List.size_toArray, List.length_cons, List.length_nil, Nat.reduceAdd, Nat.reduceSub, Array.replicate_succ, Array.replicate_zero, List.push_toArray, List.append_toArray, List.nil_append, List.cons_append]
  gi_wp2
  go_ret
  exact ⟨rfl, rfl⟩

/-- Two pairs are compared number by number. -/
theorem eq_pair (x y x' y' : Int) (w : World) : (Op.equalIn 10000 47 (.agg #[.int .i64 x, .int .i64 y]) (.agg #[.int .i64 x', .int .i64 y'])).run Tryz.prog w = .ok (x == x' && y == y') w := by
  have hu := Tryz.underlying2
  have hi := Tryz.isAgg2
  have hs := Tryz.sizeOf2
  rw [show (10000 : Nat) = 9999 + 1 from rfl, Op.equalIn]
  simp only [Sem.run_bind, run_underlying Tryz.underlying47, Result.andThen_ok]
  simp only [Std.Legacy.Range.forIn_eq_forIn_range', Std.Legacy.Range.size, Nat.sub_zero, Nat.add_sub_cancel, Nat.div_one, List.range'_succ, List.range'_zero, List.forIn_cons, List.forIn_nil]
  go_simp
  by_cases e1 : x = x' <;> by_cases e2 : y = y' <;> simp [e1, e2]

theorem KeepP.new {Bs : List Nat} {lo k : Nat} {W : World} (o : Obj) (hB : ∀ b ∈ Bs, b < W.heap.size) (hk : lo + k ≤ W.heap.size) : KeepP Bs lo k W (W.alloc o) :=
  ⟨by simp, fun r hr => Below.heap_alloc _ _ _ (by rcases hr with h | h; exact hB r h; omega)⟩
theorem stepsF_hit (ps : List Int) (n : Nat) (a : Int) : stepsF ps n a = otherF a (sidesF (highOf ps n a).toNat) := by
  unfold stepsF
  split
  · rename_i h
    rw [h]
    have : sidesF (0 : Int).toNat = [] := by decide
    rw [this]
    rfl
  · rfl

set_option maxRecDepth 100000 in
set_option maxHeartbeats 2000000 in
/-- Its iterator. -/
theorem steps_P (n : Nat) (hn : 4 ≤ n) (bm ba M N k : Nat) (ps : List Int) (a : Int) (w : World)
    (hcm : w.heap[bm]? = some (.cells #[.map (some M)] 84 (0, 0))) (hca : w.heap[ba]? = some (.cells #[.int .i64 a] 2 (0, 0)))
    (hown : w.ownsMap Tryz.prog 2 pairElem M N (lowsD ps k)) (hd : LowsApart ps k) (hh : HighsB ps k) (ha : (Lit.int .i64 a).wf = true) :
    SeqStopsP Fence.wide n Tryz.prog 82 #[.pointer (some ⟨bm, 0, none⟩), .pointer (some ⟨ba, 0, none⟩)] (fun x : Fin 64 => #[Value.int .i64 (x.val : Int)]) [] 5 (stepsF ps k a) w := by
  intro l J Jx W hW hJ hJx hY h0
  have hcmW := (hW.block bm (lt_of_get hcm)).trans hcm
  have hcaW := (hW.block ba (lt_of_get hca)).trans hca
  have cm := (box_cell hcmW).1
  have ca := (box_cell hcaW).1
  have hbm : bm < W.heap.size := lt_of_get hcmW
  have hba : ba < W.heap.size := lt_of_get hcaW
  have hMW : W.ownsMap Tryz.prog 2 pairElem M N (lowsD ps k) := by
    have hlt := hown.lt
    obtain ⟨es, clock, hb, F, hs, hD⟩ := hown
    exact ⟨es, clock, (hW.block M hlt).trans hb, F, hs, hD⟩
  have HY := hid hY
  have h1 : 1 ≤ n := by omega
  have cm1 : (W.alloc (.cells #[.func (.yield l) #[] #[]] 94)).cell? ⟨bm, 0, none⟩ = some (.map (some M)) := cell_alloc0 cm _
  have ca1 : (W.alloc (.cells #[.func (.yield l) #[] #[]] 94)).cell? ⟨ba, 0, none⟩ = some (.int .i64 a) := cell_alloc0 ca _
  have hlk := lows_look (w := W.alloc (.cells #[.func (.yield l) #[] #[]] 94)) (hMW.alloc _) hd ha
  clear hY hcmW hcaW hcm hca hown hMW cm ca
  show CallsIn Fence.wide n Tryz.prog 82 #[.func (.yield l) #[] #[], .pointer (some ⟨bm, 0, none⟩), .pointer (some ⟨ba, 0, none⟩)] W _
  rcases hlk with ⟨i, hi, hia, hio, hrun⟩ | ⟨hz, hrun⟩
  · obtain ⟨f, hf⟩ : ∃ f : Nat, highOf ps k a = f := ⟨(highOf ps k a).toNat, by have := hh a; omega⟩
    have hf64 : f < 64 := by have := hh a; omega
    rw [stepsF_hit, hf, Int.toNat_natCast] at HY ⊢
    rw [hf] at hrun
    clear hi hia hio hf hd hh
    refine callsIn_of_wp_marks Tryz.func82 rfl trivial ?_ rfl
    simp only [Tryz.ntmps82, List.size_toArray, List.length_cons, List.length_nil, Nat.reduceAdd, Nat.reduceSub, Array.replicate_succ, Array.replicate_zero, List.push_toArray, List.append_toArray, List.nil_append, List.cons_append]
    gi_wp2_with (first
      | (refine ⟨trivial, ?_⟩; gi_at_call 74; refine (sides_in _ _ _).mono ?_; rintro e w' ⟨rfl, rfl⟩))
    clear hrun cm1 ca1
    have hb1 := heap_alloc_new W (.cells #[.func (.yield l) #[] #[]] 94)
    have hb2 := heap_alloc_new (W.alloc (.cells #[.func (.yield l) #[] #[]] 94)) (.cells #[.int .i64 a, .int .i64 (f : Int)] 47)
    have hb3 := heap_alloc_new ((W.alloc (.cells #[.func (.yield l) #[] #[]] 94)).alloc (.cells #[.int .i64 a, .int .i64 (f : Int)] 47)) (.cells #[.int .i64 (f : Int)] 2)
    rw [World.size_alloc] at hb2
    rw [World.size_alloc, World.size_alloc] at hb3
    have hJ3 := hJ.alloc (.cells #[.int .i64 (f : Int)] 2) (hJ.alloc (.cells #[.int .i64 a, .int .i64 (f : Int)] 47) (hJ.alloc (.cells #[.func (.yield l) #[] #[]] 94) h0))
    refine wpIn_rangeFunc_P rfl h1 (gf := 87) (lb := #[.pointer (some ⟨W.heap.size + 1 + 1, 0, none⟩)]) rfl trivial (enters_of Tryz.func87 (by kernel_rfl) rfl)
      (sides_P (n - 1) (by omega) (W.heap.size + 1 + 1) f hf64 _ (by simp) hb3) (by simp) (Below.refl _ _) (fun _ => rfl)
      (fun pre W' => J (otherF a pre) W' ∧ W'.heap[W.heap.size]? = some (.cells #[.func (.yield l) #[] #[]] 94 (0, 0)) ∧ W'.heap[W.heap.size + 1]? = some (.cells #[.int .i64 a, .int .i64 (f : Int)] 47 (0, 0)))
      (fun c _ W' => c = .ret ∧ ∃ q, q <+: otherF a (sidesF f) ∧ Jx q W')
      (OwnIn.and ((hJ.map (otherF a)).less (by simp <;> omega) (by simp <;> omega)) (OwnIn.and (ownIn_block (β := List (Fin 64)) (fun _ => _) (by simp <;> omega)) (ownIn_block (β := List (Fin 64)) (fun _ => _) (by simp <;> omega))))
      (fun c s A B row hs hg hr => ⟨hs.1, by obtain ⟨q, hq, hx⟩ := hs.2; exact ⟨q, hq, (hJx.less (by simp <;> omega) (by simp <;> omega)) q A B row hx hg hr⟩⟩)
      ⟨hJ3, ?_, ?_⟩
      (fun x => { tmps := #[.func (.yield l) #[] #[], .pointer (some ⟨bm, 0, none⟩), .pointer (some ⟨ba, 0, none⟩), .pointer (some ⟨W.heap.size, 0, none⟩), .pointer (some ⟨W.heap.size + 1, 0, none⟩), .bool true, .int .i64 (x.val : Int), undef, .tuple #[.agg #[.int .i64 a, .int .i64 (f : Int)], .bool true], .map (some M), .int .i64 a, .tuple #[.agg #[.int .i64 a, .int .i64 (f : Int)], .bool true], .agg #[.int .i64 a, .int .i64 (f : Int)], .bool true, .bool true, .bool false, .pointer (some ⟨W.heap.size + 1, 1, none⟩), .int .i64 (f : Int), .func (.func 87) #[] #[.pointer (some ⟨W.heap.size + 1 + 1, 0, none⟩)], .int .i64 (x.val : Int), undef, undef, undef, undef, undef, undef, undef, undef, undef, undef, undef, undef, undef], defers := [] }) ?assign ?body ?done ?stop
    · exact (Below.heap_alloc _ _ _ (by simp <;> omega)).trans ((Below.heap_alloc _ _ _ (by simp <;> omega)).trans hb1)
    · exact (Below.heap_alloc _ _ _ (by simp <;> omega)).trans hb2
    case assign =>
      intro l' x W3 K hK
      gi_wp2
      exact hK
    case body =>
      rintro l' pre x W3 hpre hsz ⟨hj, hyb, hpb⟩
      simp only [World.size_alloc] at hsz
      have cy := (box_cell hyb).1
      obtain ⟨co0, co1, _, _⟩ := two_of hpb
      have d0 : ∀ o : Obj, (W3.alloc o).cell? ⟨W.heap.size + 1, 0, none⟩ = some (.int .i64 a) := fun o => cell_alloc0 co0 o
      have d1 : ∀ o : Obj, (W3.alloc o).cell? ⟨W.heap.size + 1, 1, none⟩ = some (.int .i64 (f : Int)) := fun o => cell_alloc0 co1 o
      have dy : ∀ o : Obj, (W3.alloc o).cell? ⟨W.heap.size, 0, none⟩ = some (.func (.yield l) #[] #[]) := fun o => cell_alloc0 cy o
      have Heq := eq_pair (x.val : Int) (f : Int) a (f : Int)
      have hff : ((f : Int) == (f : Int)) = true := by simp
      have Hpre := hid (otherF_prefix (a := a) hpre)
      have Hsn := hid (otherF_snoc a pre x)
      have Hyb := hid hyb
      have Hpb := hid hpb
      by_cases hxa : (x.val : Int) = a
      · have e : otherF a (pre ++ [x]) = otherF a pre := by rw [Hsn.out, if_pos hxa]; simp
        have HJ3 := hid hj
        have g1 : ((x.val : Int) == a) = true := by simp [hxa]
        rw [hxa] at Heq
        clear hyb hpb hj hpre
        gi_wp2
        refine ⟨(fun _ h => by cases h), ?_⟩
        gi_wp2
        refine ⟨KeepP.new _ (by simp; omega) (by simp; omega), ?_⟩
        exact ⟨by rw [e]; exact hJ.alloc _ HJ3.out, (Below.heap_alloc _ _ _ (by omega)).trans Hyb.out, (Below.heap_alloc _ _ _ (by omega)).trans Hpb.out⟩
      · have e : otherF a (pre ++ [x]) = otherF a pre ++ [x] := by rw [Hsn.out, if_neg hxa]
        have g1 : ((x.val : Int) == a) = false := by simpa using hxa
        have hys := HY.out (otherF a pre) x (W3.alloc (.cells #[.int .i64 (x.val : Int), .int .i64 (f : Int)] 47)) (by rw [← e]; exact Hpre.out) (by simp; omega) (hJ.alloc _ hj)
        rw [← e] at hys
        clear hyb hpb hj hpre
        obtain ⟨fn, tmps, assign, body, hy, hR⟩ := yieldRound (l0 := l') (yieldAny (n - 1 - 1 - 1) hys)
        have He := hid e
        clear e
        gi_wp2
        refine ⟨fun _ => by omega, hR.mono ?_⟩
        rintro e W4 ⟨hk, (⟨rfl, hj4⟩ | ⟨rfl, hx4⟩)⟩
        · have hpb4 := (hk.same (W.heap.size + 1) (.inr ⟨by omega, by omega⟩)).trans ((Below.heap_alloc _ _ _ (by omega)).trans Hpb.out)
          have hyb4 := (hk.same W.heap.size (.inr ⟨by omega, by omega⟩)).trans ((Below.heap_alloc _ _ _ (by omega)).trans Hyb.out)
          have Hk := hid hk
          have Hpb4 := hid hpb4
          have Hyb4 := hid hyb4
          have HJ4 := hid hj4
          clear hk hpb4 hyb4 hj4
          gi_wp2
          refine ⟨?_, HJ4.out, Hyb4.out, Hpb4.out⟩
          exact (KeepP.new _ (by simp; omega) (by simp; omega)).trans (Hk.out.less (fun b hb => by simp at hb; subst hb; exact .inr ⟨by omega, by omega⟩) (by simp <;> omega) (by simp <;> omega))
        · gi_wp2
          exact ⟨(KeepP.new _ (by simp; omega) (by simp; omega)).trans (hk.less (fun b hb => by simp at hb; subst hb; exact .inr ⟨by omega, by omega⟩) (by simp <;> omega) (by simp <;> omega)), rfl, _, Hpre.out, hx4⟩
    case done =>
      rintro W3 ⟨hj, _, _⟩ hD
      simp only [World.size_alloc] at hD
      gi_wp2
      refine leaves_marks (by simp) [_] _ (by simp) (fun D hD' => by simp only [List.mem_singleton] at hD'; subst hD'; simp only [World.size_alloc]; exact hD) (fun w' hw' => ?_)
      exact ⟨_, results_none rfl _ _ _, ⟨_, rfl⟩, .inl (hJ _ W3 w' (some (W.heap.size + 3)) hj (shut_grown hw' (by simp)) (fun r e => by cases e; exact ⟨by omega, .inl (by omega)⟩))⟩
    case stop =>
      rintro c pre W3 hpre ⟨rfl, q, hq, hx⟩ hD
      simp only [World.size_alloc] at hD
      gi_wp2
      refine leaves_marks (by simp) [_] _ (by simp) (fun D hD' => by simp only [List.mem_singleton] at hD'; subst hD'; simp only [World.size_alloc]; exact hD) (fun w' hw' => ?_)
      exact ⟨_, results_none rfl _ _ _, ⟨_, rfl⟩, .inr ⟨q, hq, hJx _ W3 w' (some (W.heap.size + 3)) hx (shut_grown hw' (by simp)) (fun r e => by cases e; exact ⟨by omega, .inl (by omega)⟩)⟩⟩
  · have hs0 : stepsF ps k a = [] := by unfold stepsF; rw [if_pos hz]
    rw [hs0]
    have hJ2 := hJ.alloc (.cells #[.int .i64 0, .int .i64 0] 47) (hJ.alloc (.cells #[.func (.yield l) #[] #[]] 94) h0)
    refine callsIn_of_wp_marks Tryz.func82 rfl trivial ?_ rfl
    simp only [Tryz.ntmps82, List.size_toArray, List.length_cons, List.length_nil, Nat.reduceAdd, Nat.reduceSub, Array.replicate_succ, Array.replicate_zero, List.push_toArray, List.append_toArray, List.nil_append, List.cons_append]
    gi_wp2
    refine leaves_marks (by simp) [] _ (by simp) (by simp) (fun w' hw' => ?_)
    exact ⟨_, results_none rfl _ _ _, ⟨_, rfl⟩, .inl (hJ _ _ w' none hJ2 ⟨hw'.os, hw'.tape, hw'.output, by rw [hw'.size]; exact Nat.le_refl _, fun j _ _ => hw'.block j (by simp)⟩ (fun r e => by cases e))⟩

end Go.Proofs.YtpdhnjdnlgnniaaGreat

/-! The program's search, the mathematics: a queue, and what has been met. -/
namespace Go.Proofs.YtpdhnjdnlgnniaaGreat
open Go.RowKit

/-- A number comes up: if it is new, it is met and waits. -/
def visit (s : List Int × List Int) (y : Int) : List Int × List Int := if y ∈ s.1 then s else (s.1 ++ [y], s.2 ++ [y])
def visits (s : List Int × List Int) (l : List (Fin 64)) : List Int × List Int := l.foldl (fun s x => visit s (x.val : Int)) s
theorem visits_snoc (s : List Int × List Int) (l : List (Fin 64)) (x : Fin 64) : visits s (l ++ [x]) = visit (visits s l) (x.val : Int) := by simp [visits]

/-- How many numbers below 64 have not been met. -/
def unmet (met : List Int) : Nat := (List.range 64).countP fun i : Nat => decide ((i : Int) ∉ met)
theorem countP_lt {l : List Nat} {p q : Nat → Bool} (h : ∀ x ∈ l, q x = true → p x = true) {y : Nat} (hy : y ∈ l) (hp : p y = true) (hq : q y = false) : l.countP q < l.countP p := by
  induction l with
  | nil => simp at hy
  | cons x l ih =>
    have hle : l.countP q ≤ l.countP p := List.countP_mono_left (fun z hz hqz => h z (List.mem_cons_of_mem _ hz) hqz)
    rw [List.countP_cons, List.countP_cons]
    by_cases e : y = x
    · subst e
      rw [hp, hq]
      simp
      omega
    · have hyl : y ∈ l := by
        rcases List.mem_cons.1 hy with h1 | h1
        · exact absurd h1 e
        · exact h1
      have := ih (fun z hz => h z (List.mem_cons_of_mem _ hz)) hyl
      by_cases hqx : q x = true
      · rw [hqx, h x (by simp) hqx]; omega
      · have hqx' : q x = false := by simpa using hqx
        rw [hqx']
        simp
        omega
theorem unmet_le (met : List Int) : unmet met ≤ 64 := by unfold unmet; exact Nat.le_trans List.countP_le_length (by simp)
theorem unmet_snoc {met : List Int} {y : Int} (h0 : 0 ≤ y) (h64 : y < 64) (hn : y ∉ met) : unmet (met ++ [y]) < unmet met := by
  unfold unmet
  refine countP_lt (y := y.toNat) (fun x _ hx => ?_) (by simp; omega) ?_ ?_
  · simp at hx ⊢
    exact hx.1
  · rw [show ((y.toNat : Nat) : Int) = y by omega]; simpa using hn
  · rw [show ((y.toNat : Nat) : Int) = y by omega]; simp

/-- The search's state. -/
structure Bfs (ps : List Int) (n : Nat) (a : Int) (met qs : List Int) : Prop where
  start : a ∈ met
  way : ∀ x ∈ met, x = a ∨ Way ps n a x
  sub : ∀ x ∈ qs, x ∈ met
  clos : ∀ x ∈ met, x ∈ qs ∨ ∀ y ∈ nextL ps n x, y ∈ met
  small : met.length + unmet met ≤ 65
  few : 2 * unmet met + qs.length ≤ 129
theorem Bfs.begin (ps : List Int) (n : Nat) (a : Int) : Bfs ps n a [a] [a] :=
  ⟨by simp, fun x hx => .inl (by simpa using hx), fun x hx => hx, fun x hx => .inl hx, by have := unmet_le [a]; simp; omega, by have := unmet_le [a]; simp; omega⟩

theorem visits_spec : ∀ (l : List (Fin 64)) (met qs : List Int), (∀ x ∈ qs, x ∈ met) →
    (∀ z, z ∈ (visits (met, qs) l).1 ↔ z ∈ met ∨ ∃ y ∈ l, z = (y.val : Int)) ∧ (∀ z ∈ (visits (met, qs) l).2, z ∈ (visits (met, qs) l).1) ∧ (∀ z ∈ (visits (met, qs) l).1, z ∈ met ∨ z ∈ (visits (met, qs) l).2) ∧ (∀ z ∈ qs, z ∈ (visits (met, qs) l).2) ∧
      2 * unmet (visits (met, qs) l).1 + (visits (met, qs) l).2.length ≤ 2 * unmet met + qs.length ∧ (visits (met, qs) l).1.length + unmet (visits (met, qs) l).1 ≤ met.length + unmet met
  | [], met, qs, hsub => ⟨fun z => by simp [visits], hsub, fun z hz => .inl hz, fun z hz => hz, Nat.le_refl _, Nat.le_refl _⟩
  | y :: l, met, qs, hsub => by
    have hv : visits (met, qs) (y :: l) = visits (visit (met, qs) (y.val : Int)) l := rfl
    rw [hv]
    by_cases hm : (y.val : Int) ∈ met
    · have e : visit (met, qs) (y.val : Int) = (met, qs) := by unfold visit; rw [if_pos hm]
      rw [e]
      obtain ⟨h1, h2, h3, h4, h5, h6⟩ := visits_spec l met qs hsub
      refine ⟨fun z => ?_, h2, h3, h4, h5, h6⟩
      rw [h1 z]
      constructor
      · rintro (h | ⟨u, hu, ez⟩)
        · exact .inl h
        · exact .inr ⟨u, List.mem_cons_of_mem _ hu, ez⟩
      · rintro (h | ⟨u, hu, ez⟩)
        · exact .inl h
        · rcases List.mem_cons.1 hu with rfl | hu
          · exact .inl (by rw [ez]; exact hm)
          · exact .inr ⟨u, hu, ez⟩
    · have e : visit (met, qs) (y.val : Int) = (met ++ [(y.val : Int)], qs ++ [(y.val : Int)]) := by unfold visit; rw [if_neg hm]
      rw [e]
      have hsub' : ∀ x ∈ qs ++ [(y.val : Int)], x ∈ met ++ [(y.val : Int)] := fun x hx => by
        rcases List.mem_append.1 hx with h | h
        · exact List.mem_append_left _ (hsub x h)
        · exact List.mem_append_right _ h
      obtain ⟨h1, h2, h3, h4, h5, h6⟩ := visits_spec l _ _ hsub'
      have hu := unmet_snoc (met := met) (y := (y.val : Int)) (by omega) (by have := y.isLt; omega) hm
      refine ⟨fun z => ?_, h2, fun z hz => ?_, fun z hz => h4 z (List.mem_append_left _ hz), ?_, ?_⟩
      · rw [h1 z]
        constructor
        · rintro (h | ⟨u, hu, ez⟩)
          · rcases List.mem_append.1 h with h | h
            · exact .inl h
            · exact .inr ⟨y, by simp, by simpa using h⟩
          · exact .inr ⟨u, List.mem_cons_of_mem _ hu, ez⟩
        · rintro (h | ⟨u, hu, ez⟩)
          · exact .inl (List.mem_append_left _ h)
          · rcases List.mem_cons.1 hu with rfl | hu
            · exact .inl (by rw [ez]; simp)
            · exact .inr ⟨u, hu, ez⟩
      · rcases h3 z hz with h | h
        · rcases List.mem_append.1 h with h | h
          · exact .inl h
          · exact .inr (h4 z (List.mem_append_right _ h))
        · exact .inr h
      · simp at h5; omega
      · simp at h6; omega

theorem sides_below : ∀ f : Fin 64, (sidesF f.val).map (fun x => (x.val : Int)) = (belowR f.val 63).reverse := by decide +kernel
theorem mem_stepsF {ps : List Int} {n : Nat} (hh : HighsB ps n) (a z : Int) : (∃ y ∈ stepsF ps n a, z = (y.val : Int)) ↔ z ∈ nextL ps n a := by
  unfold stepsF nextL
  split
  · simp
  · have h := hh a
    have e := sides_below ⟨(highOf ps n a).toNat, by omega⟩
    simp only at e
    have hz : ∀ z : Int, z ∈ belowR (highOf ps n a).toNat 63 ↔ ∃ y ∈ sidesF (highOf ps n a).toNat, (y.val : Int) = z := fun z => by
      rw [← List.mem_reverse, ← e, List.mem_map]
    unfold otherF
    simp only [List.mem_filter, hz, decide_eq_true_eq]
    constructor
    · rintro ⟨y, ⟨h1, h2⟩, rfl⟩
      exact ⟨⟨y, h1, rfl⟩, h2⟩
    · rintro ⟨⟨y, h1, rfl⟩, h2⟩
      exact ⟨y, ⟨h1, h2⟩, rfl⟩

/-- A round: the first that waits is gone through. -/
theorem Bfs.round {ps : List Int} {n : Nat} (hh : HighsB ps n) {a x : Int} {met qs : List Int} (h : Bfs ps n a met (x :: qs)) : Bfs ps n a (visits (met, qs) (stepsF ps n x)).1 (visits (met, qs) (stepsF ps n x)).2 := by
  have hxm := h.sub x (by simp)
  obtain ⟨h1, h2, h3, h4, h5, h6⟩ := visits_spec (stepsF ps n x) met qs (fun z hz => h.sub z (List.mem_cons_of_mem _ hz))
  refine ⟨(h1 a).2 (.inl h.start), fun z hz => ?_, h2, fun z hz => ?_, Nat.le_trans h6 h.small, ?_⟩
  · rcases (h1 z).1 hz with hz | hz
    · exact h.way z hz
    · have hn := (mem_stepsF hh x z).1 hz
      rcases h.way x hxm with rfl | hw
      · exact .inr (.one hn)
      · exact .inr (.more hw hn)
  · rcases h3 z hz with hz | hz
    · rcases h.clos z hz with hq | hc
      · rcases List.mem_cons.1 hq with rfl | hq
        · exact .inr (fun y hy => (h1 y).2 (.inr ((mem_stepsF hh z y).2 hy)))
        · exact .inl (h4 z hq)
      · exact .inr (fun y hy => (h1 y).2 (.inl (hc y hy)))
    · exact .inl hz
  · have := h.few
    simp at this
    omega
theorem Bfs.less {ps : List Int} {n : Nat} {a x : Int} {met qs : List Int} (h : Bfs ps n a met (x :: qs)) : 2 * unmet (visits (met, qs) (stepsF ps n x)).1 + (visits (met, qs) (stepsF ps n x)).2.length < 2 * unmet met + (x :: qs).length := by
  obtain ⟨_, _, _, _, h5, _⟩ := visits_spec (stepsF ps n x) met qs (fun z hz => h.sub z (List.mem_cons_of_mem _ hz))
  simp
  omega
/-- Nothing waits: what has been met is what is reached. -/
theorem Bfs.done {ps : List Int} {n : Nat} {a : Int} {met : List Int} (h : Bfs ps n a met []) (z : Int) : z ∈ met ↔ z = a ∨ Way ps n a z := by
  have hc : ∀ x ∈ met, ∀ y ∈ nextL ps n x, y ∈ met := fun x hx => (h.clos x hx).resolve_left (by simp)
  constructor
  · exact h.way z
  · rintro (rfl | hw)
    · exact h.start
    · induction hw with
      | one h1 => exact hc a h.start _ h1
      | more _ h2 ih => exact hc _ ih _ h2

end Go.Proofs.YtpdhnjdnlgnniaaGreat

/-! A queue: a row of int64 that is cut at its front and grows at its end. -/
namespace Go.Proofs.YtpdhnjdnlgnniaaGreat
open Go.RowKit

structure QAt (W : World) (base g off cap : Nat) (cur : Array Value) (xs : List Int) : Prop where
  base : base ≤ g
  heap : W.heap[g]? = some (.cells cur 2 (0, 0))
  len : xs.length ≤ cap
  size : off + cap ≤ cur.size
  at_ : ∀ i, i < xs.length → cur[off + i]? = some (.int .i64 (xs[i]?.getD 0))
def OwnsQ (W : World) (base : Nat) (v : Value) (xs : List Int) : Prop := ∃ g off cap cur, v = .slice (some ⟨g, off, none⟩) xs.length cap ∧ QAt W base g off cap cur xs

theorem QAt.cell {W : World} {base g off cap : Nat} {cur : Array Value} {xs : List Int} (h : QAt W base g off cap cur xs) {i : Nat} (hi : i < xs.length) : W.cell? ⟨g, off + i, none⟩ = some (.int .i64 (xs[i]?.getD 0)) := by
  rw [cell_of_row W g (off + i) cur _ (0, 0) h.heap]
  exact h.at_ i hi
theorem QAt.lt {W : World} {base g off cap : Nat} {cur : Array Value} {xs : List Int} (h : QAt W base g off cap cur xs) : g < W.heap.size := (Array.getElem?_eq_some_iff.1 h.heap).1
theorem OwnsQ.kept {W W' : World} {base : Nat} {v : Value} {xs : List Int} {row : Option Nat} (h : OwnsQ W base v xs) (hg : W.grownBy W' row) (hne : v.ownBlock ≠ row) : OwnsQ W' base v xs := by
  obtain ⟨g, off, cap, cur, rfl, q⟩ := h
  exact ⟨g, off, cap, cur, rfl, q.base, (hg.block g q.lt (by simpa [Value.ownBlock] using hne)).trans q.heap, q.len, q.size, q.at_⟩
theorem OwnsQ.lt {W : World} {base : Nat} {v : Value} {xs : List Int} (h : OwnsQ W base v xs) : ∃ g, v.ownBlock = some g ∧ base ≤ g ∧ g < W.heap.size := by
  obtain ⟨g, off, cap, cur, rfl, q⟩ := h
  exact ⟨g, rfl, q.base, q.lt⟩

theorem OwnsQ.form {W : World} {base : Nat} {v : Value} {xs : List Int} (h : OwnsQ W base v xs) : ∃ g off cap, v = .slice (some ⟨g, off, none⟩) xs.length cap := by
  obtain ⟨g, off, cap, _, e, _⟩ := h
  exact ⟨g, off, cap, e⟩

/-- 'append(queue, x)', as the run of the operation. -/
theorem OwnsQ.push {W : World} {base : Nat} {v : Value} {xs : List Int} (h : OwnsQ W base v xs) (hb : base ≤ W.heap.size) (hl : xs.length ≤ 1048576) (ty : TypeId) (ad : Addr) (c : Nat) (x : Int) (hx : W.cell? (ad.add 0) = some (.int .i64 x)) :
    ∃ v' W', (Builtin.append_ #[22, 22] ty #[v, .slice (some ad) 1 c]).run Tryz.prog W = .ok v' W' ∧ OwnsQ W' base v' (xs ++ [x]) ∧ W.grownBy W' v.ownBlock ∧ (v'.ownBlock = v.ownBlock ∨ ∃ k, v'.ownBlock = some k ∧ W.heap.size ≤ k) := by
  obtain ⟨i0, hi, hz0, hz1, hz2⟩ := info_parts info_i64
  obtain ⟨g, off, cap, cur, rfl, q⟩ := h
  have hnews : ∀ j u, [Value.int .i64 x][j]? = some u → W.cell? (ad.add j) = some u := by
    intro j u hj
    match j, hj with
    | 0, hj => simp at hj; subst hj; exact hx
  by_cases hroom : xs.length + 1 ≤ cap
  · have hcl : W.cell? ⟨g, off + xs.length, none⟩ = cur[off + xs.length]? := cell_of_row W g (off + xs.length) cur _ (0, 0) q.heap
    have hlt : off + xs.length < cur.size := by have := q.size; omega
    have hr := run_append_room_cells (P := Tryz.prog) W 22 ty 2 i0 Tryz.underlying22 hi g off xs.length cap ad 1 c [.int .i64 x] (by rw [hz1]; rfl) hnews (by simp [Value.oneCell']) hroom
      (fun j hj => by
        have : j = 0 := by simpa using hj
        subst this
        rw [hz1, Nat.mul_one, Nat.add_zero, hcl, Array.getElem?_eq_getElem hlt]; rfl)
      (fun j hj => by simp [World.frozen?, q.heap])
    rw [hz1, Nat.mul_one] at hr
    have hh : (W.setCell ⟨g, off + xs.length, none⟩ (.int .i64 x)).heap[g]? = some (.cells (cur.setIfInBounds (off + xs.length) (.int .i64 x)) 2 (0, 0)) := by
      simp only [World.setCell, Array.getElem?_modify, q.heap]
      simp
    refine ⟨_, _, hr, ⟨g, off, cap, cur.setIfInBounds (off + xs.length) (.int .i64 x), by simp, q.base, hh, by simp; omega, by simp; exact q.size, fun i hi => ?_⟩, grownBy_set W ⟨g, off + xs.length, none⟩ _, .inl rfl⟩
    by_cases e : i = xs.length
    · subst e
      simp [hlt]
    · have hil : i < xs.length := by simp at hi; omega
      rw [Array.getElem?_setIfInBounds_ne (by omega), q.at_ i hil, List.getElem?_append_left hil]
  · have hcap : cap = xs.length := by have := q.len; omega
    obtain ⟨v', W', hr, hown, hg⟩ := run_append_arg_grows (P := Tryz.prog) W 22 ty 2 i0 (.int .i64 0) 1 8 Tryz.underlying22 hi hz0 hz1 hz2 rfl (by decide) ⟨g, off, none⟩ xs.length cap (xs.map (Value.int .i64)) (by simp)
      (fun j u hj => by
        have hjl : j < xs.length := by have := (List.getElem?_eq_some_iff.1 hj).1; simpa using this
        have hadd : (⟨g, off, none⟩ : Addr).add j = ⟨g, off + j, none⟩ := by unfold Addr.add; split <;> simp_all
        rw [hadd, q.cell hjl]
        rw [List.getElem?_map, List.getElem?_eq_getElem hjl] at hj
        rw [List.getElem?_eq_getElem hjl]
        simpa using hj)
      ad 1 c [.int .i64 x] (by simp) hnews (by omega) (by unfold maxLen; omega) (by omega)
    rcases hown.2 with ⟨_, h0⟩ | ⟨g', cap', cur', rfl, hg', hh', h1, _, h3, h4⟩
    · omega
    · refine ⟨_, W', hr, ⟨g', 0, cap', cur', by simp, Nat.le_trans hb hg', hh', by simpa using h1, by omega, fun i hi => ?_⟩, ⟨hg.os, hg.tape, hg.output, hg.size, fun k hk _ => hg.block k hk (by simp)⟩, .inr ⟨g', rfl, hg'⟩⟩
      · have h5 : (cur'.toList.take ((xs.length + 1) * 1))[i]? = (xs.map (Value.int .i64) ++ [.int .i64 x])[i]? := by rw [h4]
        have hi' : i < xs.length + 1 := by simpa using hi
        rw [List.getElem?_take, if_pos (by omega)] at h5
        rw [Nat.zero_add, ← Array.getElem?_toList, h5]
        by_cases e : i = xs.length
        · subst e; simp
        · have hil : i < xs.length := by omega
          rw [List.getElem?_append_left (by simpa using hil), List.getElem?_append_left hil, List.getElem?_map, List.getElem?_eq_getElem hil]
          rfl

/-- 'queue[0]' and 'queue[1:]'. -/
theorem OwnsQ.pop {W : World} {base : Nat} {v : Value} {x : Int} {xs : List Int} (h : OwnsQ W base v (x :: xs)) :
    ∃ g off cap, v = .slice (some ⟨g, off, none⟩) (xs.length + 1) cap ∧ xs.length + 1 ≤ cap ∧ W.cell? ⟨g, off, none⟩ = some (.int .i64 x) ∧
      (cap ≠ 1 → OwnsQ W base (.slice (some ⟨g, off + 1, none⟩) xs.length (cap - 1)) xs) ∧ (cap = 1 → OwnsQ W base (.slice (some ⟨g, off, none⟩) xs.length 0) xs) := by
  obtain ⟨g, off, cap, cur, rfl, q⟩ := h
  have hl := q.len
  have hs := q.size
  simp only [List.length_cons] at hl
  refine ⟨g, off, cap, by simp, hl, by have := q.cell (i := 0) (by simp); simpa using this, fun hc => ⟨g, off + 1, cap - 1, cur, rfl, q.base, q.heap, by omega, by omega, fun i hi => ?_⟩, fun hc => ⟨g, off, 0, cur, rfl, q.base, q.heap, by omega, by omega, fun i hi => absurd hi (by omega)⟩⟩
  have := q.at_ (i + 1) (by simp; omega)
  rw [show off + 1 + i = off + (i + 1) by omega, this]
  simp
/-- '[]int64{a}'. -/
theorem OwnsQ.one {W : World} {base : Nat} (hb : base ≤ W.heap.size) (a : Int) : OwnsQ (W.alloc (.cells #[.int .i64 a] 2)) base (.slice (some ⟨W.heap.size, 0, none⟩) 1 1) [a] :=
  ⟨W.heap.size, 0, 1, #[.int .i64 a], rfl, hb, heap_alloc_new W _, by simp, by simp, fun i hi => by
    have : i = 0 := by simpa using hi
    subst this
    rfl⟩

end Go.Proofs.YtpdhnjdnlgnniaaGreat

/-! reachedFrom: the program's search. -/
namespace Go.Proofs.YtpdhnjdnlgnniaaGreat
open Go.RowKit Go.Shelf Go.ChangeMaps

attribute [local go_sem] Oper.semAt_some

/-- 'append(queue, x)', at the operation. -/
theorem wpListIn_append_q {F : Fence} {nF : Nat} {w : World} {ops : Array Oper} {rest : List Oper} {o : Oper} {a : Act} {Q : Exit → Act → World → Prop} (hgd : o.guard = none) {s y : Operand}
    (ho : o.op = .call { callee := .builtin .append, args := #[s, y], argTypes := #[22, 22] })
    {base : Nat} {v : Value} {xs : List Int} {x : Int} (hq : OwnsQ w base v xs) (hb : base ≤ w.heap.size) (hl : xs.length ≤ 1048576)
    (hs : a.eval s = v) (hy : a.eval y = .slice (some ⟨w.heap.size, 0, none⟩) 1 1)
    (hK : ∀ v' w', OwnsQ w' base v' (xs ++ [x]) → w.grownBy w' v.ownBlock → (v'.ownBlock = v.ownBlock ∨ ∃ k, v'.ownBlock = some k ∧ w.heap.size < k) → wpListIn F nF Tryz.prog ops Q rest (a.put o.dst v') w') :
    wpListIn F nF Tryz.prog ops Q (o :: rest) a (w.alloc (.cells #[.int .i64 x] 2)) := by
  refine wpListIn_plain hgd fun K hK' => ?_
  have hq1 : OwnsQ (w.alloc (.cells #[.int .i64 x] 2)) base v xs := hq.kept (World.grownBy_alloc w _ none) (by obtain ⟨g, e, _⟩ := hq.lt; rw [e]; simp)
  obtain ⟨v', w', hr, h1, h2, h3⟩ := hq1.push (by simp; omega) hl o.type ⟨w.heap.size, 0, none⟩ 1 x (by simp [go_sem, Addr.add])
  unfold Oper.wpIn
  refine ⟨by simp [Oper.about, ho, resolve, Target.leads, Sem.run_pure], ?_⟩
  rw [Oper.semAt_plain F _ _ (by rw [ho]; intro c hc'; cases hc')]
  simp [execOp, ho, resolve, invoke, builtin, hs, hy, hr, Result.andThen]
  refine hK' _ _ (hK v' w' h1 ((World.grownBy_alloc w _ _).trans h2) ?_)
  rcases h3 with h | ⟨k, h, hk⟩
  · exact .inl h
  · exact .inr ⟨k, h, by simp at hk; omega⟩

/-- What the search keeps of the world. -/
structure RfW (w W : World) (met qs : List Int) (v : Value) (Ds : List Nat) : Prop where
  below : Below w.heap.size w W
  own : W.ownsMap Tryz.prog 2 (plainElem (H := Unit) Tryz.prog 4) w.heap.size met.length (knownD met)
  b5 : W.heap[w.heap.size + 1]? = some (.cells #[.map (some w.heap.size)] 83 (0, 0))
  b6 : W.heap[w.heap.size + 3]? = some (.cells #[v] 22 (0, 0))
  q : OwnsQ W w.heap.size v qs
  ne : ∀ g, v.ownBlock = some g → g = w.heap.size + 2 ∨ w.heap.size + 4 ≤ g
  off : ∀ D ∈ Ds, v.ownBlock ≠ some D
  nodup : Ds.Nodup
  marks : ∀ D ∈ Ds, w.heap.size + 4 ≤ D ∧ W.heap[D]? = some (.deferred (some []))
theorem RfW.size {w W : World} {met qs : List Int} {v : Value} {Ds : List Nat} (h : RfW w W met qs v Ds) : w.heap.size + 4 ≤ W.heap.size := by
  have := lt_of_get h.b6; omega
/-- A turn of what lies beyond. -/
theorem RfW.turn {w W W' : World} {met qs : List Int} {v : Value} {Ds : List Nat} (h : RfW w W met qs v Ds) {row : Option Nat} (hg : W.grownBy W' row) (hr : ∀ r, row = some r → w.heap.size + 4 ≤ r ∧ r ∉ Ds ∧ v.ownBlock ≠ some r) : RfW w W' met qs v Ds where
  below := h.below.grown hg (by have := h.size; omega) (fun k e => by have := (hr k e).1; omega)
  own := h.own.kept hg (fun e => by have := (hr _ e.symm).1; omega)
  b5 := (hg.block _ (lt_of_get h.b5) (fun e => by have := (hr _ e.symm).1; omega)).trans h.b5
  b6 := (hg.block _ (lt_of_get h.b6) (fun e => by have := (hr _ e.symm).1; omega)).trans h.b6
  q := h.q.kept hg (fun e => by
    obtain ⟨g, e1, _⟩ := h.q.lt
    rw [e1] at e
    exact (hr g e.symm).2.2 e1)
  ne := h.ne
  off := h.off
  nodup := h.nodup
  marks := fun D hD => ⟨(h.marks D hD).1, (hg.block _ (lt_of_get (h.marks D hD).2) (fun e => (hr _ e.symm).2.1 hD)).trans (h.marks D hD).2⟩
/-- A number is met. -/
theorem RfW.meet {w W W' : World} {met qs : List Int} {v : Value} {Ds : List Nat} (h : RfW w W met qs v Ds) {y : Int} (hown : W'.ownsMap Tryz.prog 2 (plainElem (H := Unit) Tryz.prog 4) w.heap.size (met.length + 1) ((knownD met).put (.int .i64 y) (.lit (.bool true)))) (hg : W.grownBy W' (some w.heap.size)) :
    RfW w W' (met ++ [y]) qs v Ds where
  below := h.below.grown hg (by have := h.size; omega) (fun k e => by cases e; exact Nat.le_refl _)
  own := by rw [knownD_snoc]; simpa using hown
  b5 := (hg.block _ (lt_of_get h.b5) (fun e => by injection e with e; omega)).trans h.b5
  b6 := (hg.block _ (lt_of_get h.b6) (fun e => by injection e with e; omega)).trans h.b6
  q := h.q.kept hg (fun e => by have := h.ne _ e; omega)
  ne := h.ne
  off := h.off
  nodup := h.nodup
  marks := fun D hD => ⟨(h.marks D hD).1, (hg.block _ (lt_of_get (h.marks D hD).2) (fun e => by injection e with e; have := (h.marks D hD).1; omega)).trans (h.marks D hD).2⟩
/-- The queue is another one, and its variable holds it. -/
theorem RfW.queue {w W W' : World} {met qs qs' : List Int} {v v' : Value} {Ds : List Nat} (h : RfW w W met qs v Ds) (hq : OwnsQ W' w.heap.size v' qs') (hg : W.grownBy W' v.ownBlock) (hat : v'.ownBlock = v.ownBlock ∨ ∃ k, v'.ownBlock = some k ∧ W.heap.size ≤ k) :
    RfW w (W'.setCell ⟨w.heap.size + 3, 0, none⟩ v') met qs' v' Ds := by
  obtain ⟨g, eg, hg1, hg2⟩ := h.q.lt
  have hgn := h.ne g eg
  have hsz := h.size
  rw [eg] at hg hat
  have hne' : ∀ k, v'.ownBlock = some k → k = w.heap.size + 2 ∨ w.heap.size + 4 ≤ k := fun k hk => by
    rcases hat with e | ⟨j, e, hj⟩
    · rw [e] at hk; injection hk with hk; omega
    · rw [e] at hk; injection hk with hk; omega
  have b6' : W'.heap[w.heap.size + 3]? = some (.cells #[v] 22 (0, 0)) := (hg.block _ (lt_of_get h.b6) (fun e => by injection e with e; omega)).trans h.b6
  have hgs := grownBy_set W' ⟨w.heap.size + 3, 0, none⟩ v'
  refine ⟨?_, ?_, ?_, ?_, hq.kept hgs (fun e => by have := hne' _ e; simp only at this; omega), hne', fun D hD e => ?_, h.nodup, fun D hD => ⟨(h.marks D hD).1, ?_⟩⟩
  · have hb := h.below.grown hg (by omega) (fun k e => by cases e; omega)
    exact hb.grown hgs (by have := hb.size; omega) (fun k e => by cases e; simp only; omega)
  · exact (h.own.kept hg (fun e => by injection e with e; omega)).kept hgs (fun e => by injection e with e; simp only at e; omega)
  · exact (Below.heap_setCell _ _ _ _ (by simp only; omega)).trans ((hg.block _ (lt_of_get h.b5) (fun e => by injection e with e; omega)).trans h.b5)
  · simp only [World.setCell, Array.getElem?_modify, b6']
    simp
  · rcases hat with e1 | ⟨j, e1, hj⟩
    · exact h.off D hD (by rw [eg, ← e1]; exact e)
    · rw [e1] at e
      injection e with e
      have := lt_of_get (h.marks D hD).2
      omega
  · exact (Below.heap_setCell _ _ _ _ (by have := (h.marks D hD).1; simp only; omega)).trans ((hg.block _ (lt_of_get (h.marks D hD).2) (fun e => by injection e with e; exact h.off D hD (by rw [eg, ← e]))).trans (h.marks D hD).2)

theorem RfW.mark {w W : World} {met qs : List Int} {v : Value} {Ds : List Nat} (h : RfW w W met qs v Ds) {D : Nat} (hD : W.heap[D]? = some (.deferred (some []))) (hb : w.heap.size + 4 ≤ D) (hn : D ∉ Ds) (hv : v.ownBlock ≠ some D) : RfW w W met qs v (D :: Ds) where
  below := h.below
  own := h.own
  b5 := h.b5
  b6 := h.b6
  q := h.q
  ne := h.ne
  off := fun E hE => by
    rcases List.mem_cons.1 hE with rfl | hE
    · exact hv
    · exact h.off E hE
  nodup := List.nodup_cons.2 ⟨hn, h.nodup⟩
  marks := fun E hE => by
    rcases List.mem_cons.1 hE with rfl | hE
    · exact ⟨hb, hD⟩
    · exact h.marks E hE
theorem rf_ownIn {w : World} {Ds : List Nat} {lo k : Nat} (g : List (Fin 64) → List Int × List Int) (hlo : w.heap.size + 4 ≤ lo) (hD : ∀ D ∈ Ds, D < lo) :
    OwnIn lo k (fun pre W' => ∃ v, RfW w W' (g pre).1 (g pre).2 v Ds ∧ ∀ j, v.ownBlock = some j → j < lo ∨ lo + k ≤ j) := by
  rintro s A B row ⟨v, h, hb⟩ hg hr
  refine ⟨v, h.turn hg (fun r e => ?_), hb⟩
  obtain ⟨h1, h2⟩ := hr r e
  refine ⟨by omega, fun hm => by have := hD r hm; omega, fun ev => ?_⟩
  rcases hb r ev with h3 | h3
  · omega
  · rcases h2 with h2 | ⟨o, ho, hc⟩
    · omega
    · obtain ⟨g', off', cap', cur', rfl, q'⟩ := h.q
      simp [Value.ownBlock] at ev
      subst ev
      rw [q'.heap] at ho
      injection ho with ho
      rw [← ho] at hc
      simp [Obj.isCells] at hc

theorem wpIn_loop_ghost {F : Fence} {nF : Nat} {P : Program} {Q : Exit → Act → World → Prop} {a : Act} {w : World} {c : Code} (I : Nat → Act → World → Prop) (n₀ : Nat) (h₀ : I n₀ a w)
    (round : ∀ g a w, I g a w → c.wpIn F nF P (Exit.then (fun a' w' => ∃ g', g' < g ∧ I g' a' w') Q) a w) : (Code.loop c).wpIn F nF P Q a w := by
  refine wpIn_loop (fun a w => ∃ g, I g a w) (fun a w => Go.leastOf (fun g => I g a w)) ⟨n₀, h₀⟩ ?_
  intro a w hI
  refine wpIn_mono (round _ a w (Go.leastOf_spec hI).1) ?_
  intro e a' w' hq
  cases e with
  | normal =>
    obtain ⟨g', hlt, hI'⟩ := hq
    exact show (∃ g, I g a' w') ∧ Go.leastOf (fun g => I g a' w') < Go.leastOf (fun g => I g a w) from ⟨⟨g', hI'⟩, Nat.lt_of_le_of_lt ((Go.leastOf_spec ⟨g', hI'⟩).2 g' hI') hlt⟩
  | exit id => exact hq
  | goto l => exact hq
  | ret => exact hq
  | panic ch => exact hq
  | outgrown => exact hq

theorem Bfs.range {ps : List Int} {n : Nat} (hh : HighsB ps n) {a x : Int} (h : x = a ∨ Way ps n a x) : x = a ∨ (0 ≤ x ∧ x < 64) := by
  rcases h with h | h
  · exact .inl h
  · cases h with
    | one h1 => exact .inr (next_range hh h1)
    | more _ h1 => exact .inr (next_range hh h1)

/-- The loop's state ahead of a round. -/
def RfInv (w : World) (M n : Nat) (ps : List Int) (a : Int) (g : Nat) (a' : Act) (W : World) : Prop :=
  ∃ (met qs : List Int) (v : Value) (Ds : List Nat) (us : Nat → Value), a' = { tmps := #[.map (some M), .int .i64 a, undef, undef, .map none, .pointer (some ⟨w.heap.size + 1, 0, none⟩), .pointer (some ⟨w.heap.size + 1 + 1 + 1, 0, none⟩), us 7, us 8, .map (some w.heap.size), .int .i64 a, .map (some w.heap.size), .int .i64 a, .slice (some ⟨w.heap.size + 1 + 1, 0, none⟩) 1 1, us 14, us 15, us 16, us 17, us 18, us 19, us 20, us 21, us 22, us 23, us 24, us 25, us 26, us 27, us 28, us 29, us 30, us 31, us 32, us 33, us 34, us 35, us 36], defers := marks Ds } ∧ Hid (RfW w W met qs v Ds) ∧ Hid (Bfs ps n a met qs) ∧ 2 * unmet met + qs.length ≤ g
theorem rfInv_of {w W : World} {M n : Nat} {ps : List Int} {a : Int} {g : Nat} {met qs : List Int} {v : Value} {Ds : List Nat} (tm : Array Value) (ds : List Deferred) (hds : ds = marks Ds) (h : tm = #[.map (some M), .int .i64 a, undef, undef, .map none, .pointer (some ⟨w.heap.size + 1, 0, none⟩), .pointer (some ⟨w.heap.size + 1 + 1 + 1, 0, none⟩), tm.getD 7 undef, tm.getD 8 undef, .map (some w.heap.size), .int .i64 a, .map (some w.heap.size), .int .i64 a, .slice (some ⟨w.heap.size + 1 + 1, 0, none⟩) 1 1, tm.getD 14 undef, tm.getD 15 undef, tm.getD 16 undef, tm.getD 17 undef, tm.getD 18 undef, tm.getD 19 undef, tm.getD 20 undef, tm.getD 21 undef, tm.getD 22 undef, tm.getD 23 undef, tm.getD 24 undef, tm.getD 25 undef, tm.getD 26 undef, tm.getD 27 undef, tm.getD 28 undef, tm.getD 29 undef, tm.getD 30 undef, tm.getD 31 undef, tm.getD 32 undef, tm.getD 33 undef, tm.getD 34 undef, tm.getD 35 undef, tm.getD 36 undef]) (HW : Hid (RfW w W met qs v Ds)) (HB : Hid (Bfs ps n a met qs)) (hg : 2 * unmet met + qs.length ≤ g) :
    RfInv w M n ps a g { tmps := tm, defers := ds } W :=
  ⟨met, qs, v, Ds, fun i => tm.getD i undef, by rw [hds]; exact congrArg (fun t => ({ tmps := t, defers := marks Ds } : Act)) h, HW, HB, hg⟩


end Go.Proofs.YtpdhnjdnlgnniaaGreat

/-! l02Reached: the model's search. -/
namespace Go.Proofs.YtpdhnjdnlgnniaaGreat
open Go.RowKit

theorem info_boolR : (Tryz.prog.info? 4).map (fun i => (i.zero, i.size, i.bytes)) = some (some (.bool false), 1, 1) := by kernel_rfl
/-- 'make([]bool, n)'. -/
theorem make_runB (w : World) (n : Nat) (hn : n ≤ 1099511627776) : ∃ w', (Instr.makeSlice 56 (.int .i64 (n : Int)) (.int .i64 (n : Int))).run Tryz.prog w = .ok (.slice (some ⟨w.heap.size, 0, none⟩) n n) w' ∧
    w'.ownsRow w.heap.size 4 1 (.slice (some ⟨w.heap.size, 0, none⟩) n n) n ((List.replicate n false).map Value.bool) ∧ w.grownBy w' none ∧ Below w.heap.size w w' := by
  obtain ⟨i0, hi, hz0, hz1, hz2⟩ := info_parts info_boolR
  obtain ⟨w', hrun, hown, hg⟩ := run_make_full (P := Tryz.prog) w w.heap.size 56 4 i0 (.bool false) 1 Tryz.underlying56 hi hz0 hz1 .i64 .i64 n (by rw [hz2]; omega) (by unfold maxLen; omega) (Nat.le_refl _)
  have e : (madeCells (Value.bool false).cells (n * 1)).toList = (List.replicate n false).map Value.bool := by
    rw [Nat.mul_one]
    exact (toList_madeCells_one _ _).trans (by simp)
  rw [e] at hown
  exact ⟨w', hrun, hown, hg, (Below.refl _ w).grown hg (Nat.le_refl _) (fun k hk => by cases hk)⟩

theorem make_run64 (w : World) : ∃ w', (Instr.makeSlice 56 (.int .i64 64) (.int .i64 64)).run Tryz.prog w = .ok (.slice (some ⟨w.heap.size, 0, none⟩) 64 64) w' ∧
    w'.ownsRow w.heap.size 4 1 (.slice (some ⟨w.heap.size, 0, none⟩) 64 64) 64 ((List.replicate 64 false).map Value.bool) ∧ w.grownBy w' none ∧ Below w.heap.size w w' := make_runB w 64 (by omega)

/-- 'append(a, b...)' of numbers; where the row lies afterwards. -/
theorem append_ints_at {w : World} {ops : Array Oper} {rest : List Oper} {o : Oper} {a : Act} {Q : Exit → Act → World → Prop} (hgd : o.guard = none) {s y : Operand}
    (ho : o.op = .call { callee := .builtin .append, args := #[s, y], argTypes := #[22, 22] })
    {base : Nat} {v : Value} {xs ys : List Int} {g c : Nat} (hown : w.ownsRow base 2 1 v xs.length (xs.map (Value.int .i64))) (hbase : base ≤ w.heap.size) (hl : xs.length ≤ 1048576) (hly : ys.length ≤ 1048576)
    (hs : a.eval s = v) (hy : a.eval y = .slice (some ⟨g, 0, none⟩) ys.length c) (hc : ∀ i, i < ys.length → w.cell? ⟨g, i, none⟩ = some (.int .i64 (ys[i]?.getD 0)))
    (hK : ∀ v' w', w'.ownsRow base 2 1 v' (xs ++ ys).length ((xs ++ ys).map (Value.int .i64)) → w.grownBy w' v.ownBlock → (v'.ownBlock = v.ownBlock ∨ v'.ownBlock = some w.heap.size) → Below base w w' → wpList Tryz.prog ops Q rest (a.put o.dst v') w') :
    wpList Tryz.prog ops Q (o :: rest) a w := by
  obtain ⟨i0, hi, hz0, hz1, hz2⟩ := info_parts info_i64
  refine wpList_append_own_at w hgd s y 22 ho base 2 i0 (.int .i64 0) 1 8 Tryz.underlying22 hi hz0 hz1 hz2 rfl (by decide) v _ _ hs hown ⟨g, 0, none⟩ ys.length c (ys.map (Value.int .i64)) hy (by simp) (fun j u hj => ?_) (fun u hu => ?_) (by unfold maxLen; omega) (by omega) hbase ?_
  · have hjl : j < ys.length := by
      have := (List.getElem?_eq_some_iff.1 hj).1
      simpa using this
    have := hc j hjl
    rw [List.getElem?_map, List.getElem?_eq_getElem hjl] at hj
    rw [List.getElem?_eq_getElem hjl] at this
    simp at hj this
    have hadd : (⟨g, 0, none⟩ : Addr).add j = ⟨g, j, none⟩ := by unfold Addr.add; split <;> simp_all
    rw [hadd, this, hj]
  · obtain ⟨x, _, rfl⟩ := List.mem_map.1 hu
    rfl
  · intro v' w1 hown1 hgrow1 _ hat
    exact hK v' w1 (by simpa using hown1) hgrow1 hat ((Below.refl base w).grown hgrow1 hbase (fun k hk => (hown.lt k hk).1))

/-- The search's world: what has been met lies in block bo, what waits in v's. -/
structure RchW (w wr : World) (ps : List Int) (n : Nat) (a : Int) (bo : Nat) (met : List Bool) (st : List Int) (v : Value) : Prop where
  om : wr.ownsRow w.heap.size 4 1 (.slice (some ⟨bo, 0, none⟩) 64 64) 64 (met.map Value.bool)
  os : wr.ownsRow w.heap.size 2 1 v st.length (st.map (Value.int .i64))
  nn : v.ownBlock ≠ none
  ne : v.ownBlock ≠ some bo
  srch : Srch ps n a met st
  below : Below w.heap.size w wr

theorem snoc_of {st : List Int} (h : st ≠ []) : ∃ st' x, st = st' ++ [x] := by
  rcases List.eq_nil_or_concat st with h1 | ⟨st', x, h1⟩
  · exact absurd h1 h
  · exact ⟨st', x, by rw [h1, List.concat_eq_append]⟩
theorem RchW.pop {w wr : World} {ps : List Int} {n : Nat} {a : Int} {bo g c : Nat} {met : List Bool} {st : List Int} {x : Int} (h : RchW w wr ps n a bo met (st ++ [x]) (.slice (some ⟨g, 0, none⟩) (st.length + 1) c)) :
    wr.ownsRow w.heap.size 2 1 (.slice (some ⟨g, 0, none⟩) st.length c) st.length (st.map (Value.int .i64)) := by
  have h1 := h.os
  have e : (st ++ [x]).length = st.length + 1 := by simp
  rw [e] at h1
  exact ownsRow_pop (n := st.length) (xs := st.map (Value.int .i64)) (last := [.int .i64 x]) (by simp) (by simpa using h1)
theorem RchW.skip {w wr : World} {ps : List Int} {n : Nat} {a : Int} {bo g c : Nat} {met : List Bool} {st : List Int} {x : Int} (h : RchW w wr ps n a bo met (st ++ [x]) (.slice (some ⟨g, 0, none⟩) (st.length + 1) c)) (hx : metAt met x = true) :
    RchW w wr ps n a bo met st (.slice (some ⟨g, 0, none⟩) st.length c) :=
  ⟨h.om, h.pop, by simp [Value.ownBlock], h.ne, h.srch.skip hx, h.below⟩
theorem RchW.push {w wr w2 w3 : World} {ps : List Int} {n : Nat} {a : Int} {bo g c q : Nat} {met : List Bool} {st : List Int} (hh : HighsB ps n) (h : RchW w wr ps n a bo met (st ++ [(q : Int)]) (.slice (some ⟨g, 0, none⟩) (st.length + 1) c))
    (hx : metAt met (q : Int) = false) (hb : Below (wr.setCell ⟨bo, q, none⟩ (.bool true)).heap.size (wr.setCell ⟨bo, q, none⟩ (.bool true)) w2) {v' : Value}
    (hown : w3.ownsRow w.heap.size 2 1 v' (st ++ nextL ps n q).length ((st ++ nextL ps n q).map (Value.int .i64))) (hg : w2.grownBy w3 (some g)) (hat : v'.ownBlock = some g ∨ v'.ownBlock = some w2.heap.size) :
    RchW w w3 ps n a bo (met.set q true) (st ++ nextL ps n q) v' := by
  have hq : q < 64 := by have := h.srch.rng (q : Int) (by simp); omega
  have hst := h.om.stored q (.bool true)
  have hgb : g ≠ bo := fun e => h.ne (by rw [e]; rfl)
  have hbo := h.om.lt bo rfl
  have hgl := h.os.lt g rfl
  have hsz : (wr.setCell ⟨bo, q, none⟩ (.bool true)).heap.size = wr.heap.size := by simp [World.setCell]
  have hs2 := hb.size
  rw [hsz] at hs2
  have hm1 : (wr.setCell ⟨bo, q, none⟩ (.bool true)).ownsRow w.heap.size 4 1 (.slice (some ⟨bo, 0, none⟩) 64 64) 64 ((met.set q true).map Value.bool) := by rw [List.map_set]; exact hst.1
  have hm2 := ownsRow_below hm1 hb (fun k hk => (hm1.lt k hk).2)
  have hm3 := hm2.kept hg (.inr (by simp [Value.ownBlock]; exact fun e => hgb e.symm))
  have hbw : Below w.heap.size w (wr.setCell ⟨bo, q, none⟩ (.bool true)) := h.below.grown hst.2 h.below.size (fun r e => by cases e; exact hbo.1)
  refine ⟨hm3, hown, ?_, ?_, ?_, ?_⟩
  · rcases hat with e | e <;> rw [e] <;> simp
  · rcases hat with e | e
    · rw [e]; simpa using hgb
    · rw [e]; intro e'; injection e' with e'; omega
  · have := h.srch.step hh hx
    rwa [Int.toNat_natCast] at this
  · exact (hbw.trans (hb.mono hbw.size)).grown hg (hbw.trans (hb.mono hbw.size)).size (fun r e => by cases e; exact hgl.1)

set_option maxRecDepth 1000000 in
set_option maxHeartbeats 4000000 in
theorem reached_any (a1 : Option Addr) (n cap : Nat) (ps : List Int) (a : Int) (w : World) (hx : SlI w w.heap.size a1 ps) (hp : ps.length = 2 * n) (hl : n ≤ 1048576) (hh : HighsB ps n) :
    Calls Tryz.prog 32 #[.slice a1 n cap, .int .i64 a] w fun e w' => ∃ g met, e = .returned (.slice (some ⟨g, 0, none⟩) 64 64) ∧ w'.ownsRow w.heap.size 4 1 (.slice (some ⟨g, 0, none⟩) 64 64) 64 (met.map Value.bool) ∧ Hid (Srch ps n a met []) ∧ Below w.heap.size w w' := by
  have HH := hid hh
  have HN := hid (fun x w' (h : Below w.heap.size w w') => next_any a1 n cap ps x w' (hx.later h h.size) hp hl (hh x))
  have Hl := hid (fun x => nextL_len ps n x)
  clear hx hp hh
  obtain ⟨wm, hmk, hownm, hgm, hBm⟩ := make_run64 w.drew
  have hdr : Below w.heap.size w w.drew := below_drewN (Below.refl _ w) 1
  have HBw := hid hdr
  have HBwm : Hid (Below w.heap.size w wm) := hid (hdr.trans hBm)
  have HBm := hid hBm
  have Hownm := hid hownm
  clear hownm hgm hdr hBm
  go_enter Tryz.func32, Tryz.ntmps32
  go_wp2_with fail
  go_cut [5, 6] from 8 to 11 (fun p q wx => ∃ bo g c : Nat, p = .slice (some ⟨bo, 0, none⟩) 64 64 ∧ w.heap.size ≤ bo ∧ wx.ownsRow w.heap.size 4 1 (.slice (some ⟨bo, 0, none⟩) 64 64) 64 ((List.replicate 64 false).map Value.bool) ∧ q = .slice (some ⟨g, 0, none⟩) (nextL ps n a).length c ∧ wx.ownsRow w.heap.size 2 1 (.slice (some ⟨g, 0, none⟩) (nextL ps n a).length c) (nextL ps n a).length ((nextL ps n a).map (Value.int .i64)) ∧ g ≠ bo ∧ Below w.heap.size w wx)
  case first =>
    go_region_held3 (fun w' => True) (trivial) (first
      | (go_at_call 47; (with_reducible_and_instances refine (HN.out a wm HBwm.out).mono ?_); rintro e w2 ⟨g, c, rfl, hr⟩; have HR := hid hr; clear hr)
      | (go_at_call 47; (with_reducible_and_instances refine (HN.out a w.drew HBw.out).mono ?_); rintro e w2 ⟨g, c, rfl, hr⟩; obtain ⟨w3, hmk3, hown3, hg3, hB3⟩ := make_run64 w2; have HR := hid hr; have Hown3 := hid hown3; have HB3 := hid hB3; clear hr hown3 hg3 hB3)
      | (simp only [hmk3]))
    · go_wp2_with fail
      go_meet
      case rel =>
        have hlm := (Hownm.out.lt w.heap.size rfl).2
        refine ⟨w.heap.size, g, c, rfl, Nat.le_refl _, ownsRow_below Hownm.out HR.out.2 (fun g hg => (Hownm.out.lt g hg).2), rfl, ownsRow_base HR.out.1 HBwm.out.size, ?_, HBwm.out.trans (HR.out.2.mono HBwm.out.size)⟩
        have := (HR.out.1.lt g rfl).1
        omega
    · go_wp2_with fail
      go_meet
      case rel =>
        have hs2 : w.heap.size ≤ w2.heap.size := HR.out.2.size
        refine ⟨w2.heap.size, g, c, rfl, hs2, ownsRow_base Hown3.out hs2, rfl, ownsRow_base (ownsRow_below HR.out.1 HB3.out (fun g hg => (HR.out.1.lt g hg).2)) (Nat.le_refl _), ?_, (HBw.out.trans HR.out.2).trans (HB3.out.mono hs2)⟩
        have := (HR.out.1.lt g rfl).2
        omega
  case rest =>
    obtain ⟨bo, g, c, rfl, hbo, hmet, rfl, hst, hgb, hb⟩ := hcut
    have H0 : Hid (RchW w wc ps n a bo (List.replicate 64 false) (nextL ps n a) (.slice (some ⟨g, 0, none⟩) (nextL ps n a).length c)) := hid ⟨hmet, hst, by simp [Value.ownBlock], by simpa [Value.ownBlock] using hgb, Srch.start HH.out a, hb⟩
    clear hmet hst hgb hb HBw HBwm HBm Hownm hmk
    go_wp2_with fail
    go_loopg [6] 5000 (fun gg v wr => ∃ (met : List Bool) (st : List Int), Hid (RchW w wr ps n a bo met st v) ∧ st.length + 64 * met.countP (fun b => !b) ≤ gg)
    case atStart => exact ⟨_, _, H0, H0.out.srch.small⟩
    case round =>
      clear H0
      obtain ⟨met, st, HW, hgg⟩ := hrel
      by_cases hst : st = []
      · subst hst
        obtain ⟨g', c', rfl, _⟩ := owned_some HW.out.os HW.out.nn
        go_wp2_with fail
        go_ret
        exact ⟨bo, met, rfl, HW.out.om, hid HW.out.srch, HW.out.below⟩
      · obtain ⟨st', x, rfl⟩ := snoc_of hst
        obtain ⟨g', c', rfl, hcap⟩ := owned_some HW.out.os HW.out.nn
        have hxr := HW.out.srch.rng x (by simp)
        obtain ⟨q, rfl⟩ : ∃ q : Nat, x = q := ⟨x.toNat, by omega⟩
        obtain ⟨m, hm⟩ : ∃ m, m = st'.length := ⟨_, rfl⟩
        have el : (st' ++ [(q : Int)]).length = st'.length + 1 := by simp
        have hsm := HW.out.srch.small
        rw [el] at hcap HW hgg hsm ⊢
        have hcx : wr.cell? ⟨g', m, none⟩ = some (.int .i64 (q : Int)) := by
          have h := HW.out.os
          rw [el] at h
          rw [h.cellAt m (by omega), hm]
          simp
        have hml := HW.out.srch.len
        have hq64 : q < 64 := by omega
        obtain ⟨b, hb⟩ : ∃ b, b = metAt met (q : Int) := ⟨_, rfl⟩
        have hcm : wr.cell? ⟨bo, q, none⟩ = some (.bool b) := by
          rw [HW.out.om.cellAt q (by omega), hb]
          unfold metAt
          rw [Int.toNat_natCast, List.getElem?_eq_getElem (by omega : q < met.length)]
          simp [hml, hq64]
        have hfr := HW.out.om.frozenAt q
        have hi0 : (0 : Int) ≤ (q : Int) := by omega
        have hi1 : (q : Int) < 64 := by omega
        have hm0 : (0 : Int) ≤ (m : Int) := by omega
        have hm1 : (m : Int) < (m : Int) + 1 := by omega
        have hm2 : (m : Int) ≤ (c' : Int) := by omega
        have hw1 : IntKind.i64.wrap (m : Int) = m := by rw [IntKind.wrap_i64]; omega
        have hw2 : IntKind.i64.wrap ((m : Int) + 1 - 1) = m := by rw [show (m : Int) + 1 - 1 = m by omega]; exact hw1
        have hw3 : wrap64 (m : Int) = m := IntWalk.wrap64_in _ ⟨by omega, by omega⟩
        have hw4 : wrap64 ((m : Int) + 1 - 1) = m := by rw [show (m : Int) + 1 - 1 = m by omega]; exact hw3
        have HM := hid hm
        have Hb := hid hb
        rw [← hm] at HW ⊢
        clear hst el hsm hm hxr hcap hml hb
        cases b
        · have hst := HW.out.om.stored q (.bool true)
          have hbs : Below w.heap.size w (wr.setCell ⟨bo, q, none⟩ (.bool true)) := HW.out.below.grown hst.2 HW.out.below.size (fun r e => by cases e; exact hbo)
          have hW' := HW.out
          rw [HM.out] at hW'
          have hp : wr.ownsRow w.heap.size 2 1 (.slice (some ⟨g', 0, none⟩) m c') st'.length (st'.map (Value.int .i64)) := by rw [HM.out]; exact hW'.pop
          have HP := hid (ownsRow_set (a := ⟨bo, q, none⟩) hp HW.out.ne (.bool true))
          have HBs := hid hbs
          have hcq := HN.out (q : Int) _ hbs
          clear hst hbs hW' hp
          go_wp2_with fail
          refine hcq.mono ?_
          rintro e w2 ⟨g2, c2, rfl, hr⟩
          have hcs : ∀ i, i < (nextL ps n q).length → w2.cell? ⟨g2, i, none⟩ = some (.int .i64 ((nextL ps n q)[i]?.getD 0)) := fun i hi => by
            rcases owned_slI hr.1 with h | ⟨b, off, _, h1, h2⟩
            · rw [h] at hi; simp at hi
            · injection h1 with h1
              injection h1 with h1 h3
              subst h1
              subst h3
              have := h2 i hi
              rwa [Nat.zero_add] at this
          have hown2 := ownsRow_below HP.out hr.2 (fun k hk => (HP.out.lt k hk).2)
          have hsz2 : w.heap.size ≤ w2.heap.size := Nat.le_trans HBs.out.size hr.2.size
          have hly : (nextL ps n q).length ≤ 1048576 := by have := Hl.out (q : Int); omega
          have hlx : st'.length ≤ 1048576 := by have := HW.out.srch.small; simp at this; omega
          have HR := hid hr.2
          clear hr hcq
          go_wp2_with (at_builtin; refine append_ints_at rfl rfl hown2 hsz2 hlx hly rfl rfl hcs ?_; intro v' w3 hown3 hg3 hat3 hB3)
          go_roundg ((st' ++ nextL ps n q).length + 64 * (met.set q true).countP (fun b => !b))
          case measure =>
            have := HW.out.srch.less (x := (q : Int)) Hb.out.symm
            rw [Int.toNat_natCast] at this
            have e : (st' ++ [(q : Int)]).length = st'.length + 1 := by simp
            omega
          case rel =>
            have hW' := HW.out
            rw [HM.out] at hW'
            exact ⟨_, _, hid (hW'.push HH.out Hb.out.symm HR.out hown3 hg3 hat3), Nat.le_refl _⟩
        · go_wp2_with fail
          go_roundg (st'.length + 64 * met.countP (fun b => !b))
          case measure => omega
          case rel =>
            have hW' := HW.out
            rw [HM.out] at hW' ⊢
            exact ⟨_, _, hid (hW'.skip Hb.out.symm), Nat.le_refl _⟩

end Go.Proofs.YtpdhnjdnlgnniaaGreat

/-! l02Acyclic: the model's word on cycles. -/
namespace Go.Proofs.YtpdhnjdnlgnniaaGreat
open Go.RowKit

noncomputable def wayB (ps : List Int) (n : Nat) (a b : Int) : Bool := @decide (Way ps n a b) (Classical.propDecidable _)
theorem wayB_true {ps : List Int} {n : Nat} {a b : Int} (h : Way ps n a b) : wayB ps n a b = true := by unfold wayB; exact @decide_eq_true _ (Classical.propDecidable _) h
theorem wayB_false {ps : List Int} {n : Nat} {a b : Int} (h : ¬ Way ps n a b) : wayB ps n a b = false := by unfold wayB; exact @decide_eq_false _ (Classical.propDecidable _) h
theorem met_way {ps : List Int} {n : Nat} (hh : HighsB ps n) {a y : Int} {met : List Bool} (h : Srch ps n a met []) (hy : 0 ≤ y ∧ y < 64) : metAt met y = wayB ps n a y := by
  by_cases hw : Way ps n a y
  · rw [wayB_true hw]; exact h.done hh hw
  · rw [wayB_false hw]
    cases hm : metAt met y
    · rfl
    · have := h.good y.toNat (by omega) hm
      rw [show ((y.toNat : Nat) : Int) = y by omega] at this
      exact absurd this hw
/-- No low face of a pair lies on a cycle. -/
def NoCycle (ps : List Int) (n : Nat) : Prop := ∀ i, i < n → ¬ Way ps n (at0 ps (i * 2)) (at0 ps (i * 2))
noncomputable def acyB (ps : List Int) (n : Nat) : Bool := @decide (NoCycle ps n) (Classical.propDecidable _)
theorem acyB_true {ps : List Int} {n : Nat} (h : NoCycle ps n) : acyB ps n = true := by unfold acyB; exact @decide_eq_true _ (Classical.propDecidable _) h
theorem acyB_false {ps : List Int} {n : Nat} (h : ¬ NoCycle ps n) : acyB ps n = false := by unfold acyB; exact @decide_eq_false _ (Classical.propDecidable _) h

/-- What l02Reached says of a number. -/
theorem reached_at (a1 : Option Addr) (n cap : Nat) (ps : List Int) (a : Int) (y : Nat) (w : World) (hx : SlI w w.heap.size a1 ps) (hp : ps.length = 2 * n) (hl : n ≤ 1048576) (hh : HighsB ps n) (hy : y < 64) :
    Calls Tryz.prog 32 #[.slice a1 n cap, .int .i64 a] w fun e w' => ∃ g, e = .returned (.slice (some ⟨g, 0, none⟩) 64 64) ∧ w'.cell? ⟨g, y, none⟩ = some (.bool (wayB ps n a (y : Int))) ∧ Below w.heap.size w w' :=
  (reached_any a1 n cap ps a w hx hp hl hh).mono fun e w' ⟨g, met, he, hom, HS, hB⟩ => by
    refine ⟨g, he, ?_, hB⟩
    have hml := HS.out.len
    rw [hom.cellAt y (by omega), ← met_way hh HS.out (by omega)]
    unfold metAt
    rw [Int.toNat_natCast, List.getElem?_eq_getElem (by omega : y < met.length)]
    simp [hml, hy]

set_option maxRecDepth 1000000 in
set_option maxHeartbeats 4000000 in
theorem acyclicS_any (a1 : Option Addr) (n cap : Nat) (ps : List Int) (w : World) (hx : SlI w w.heap.size a1 ps) (hp : ps.length = 2 * n) (hl : n ≤ 1048576) (hh : HighsB ps n) (hlo : ∀ i, i < n → 0 ≤ at0 ps (i * 2) ∧ at0 ps (i * 2) < 64) :
    Calls Tryz.prog 20 #[.slice a1 n cap] w fun e w' => e = .returned (.bool (acyB ps n)) ∧ Below w.heap.size w w' := by
  obtain ⟨E, hE⟩ : ∃ E, E = acyB ps n := ⟨_, rfl⟩
  have HE := hid hE
  rw [← hE]
  clear hE
  have HR := hid (fun a y w' (h : Below w.heap.size w w') (hy : y < 64) => reached_at a1 n cap ps a y w' (hx.later h h.size) hp hl hh hy)
  have Hx := hid hx
  have Hp := hid hp
  have Hlo := hid hlo
  clear hx hp hh hlo
  go_enter Tryz.func20, Tryz.ntmps20
  go_wp2
  go_loopw [3] (fun i wr => ∃ k : Nat, k ≤ n ∧ i = .int .i64 k ∧ Hid (∀ j, j < k → ¬ Way ps n (at0 ps (j * 2)) (at0 ps (j * 2))) ∧ Below w.heap.size w wr) (fun i _ => n - (intOf i).toNat)
  case atStart => exact ⟨0, Nat.zero_le _, rfl, hid (fun j hj => absurd hj (Nat.not_lt_zero _)), Below.refl _ _⟩
  case round =>
    obtain ⟨k, hk, rfl, Hk, hB⟩ := hrel
    by_cases hlt : k < n
    · obtain ⟨b, off, hb, rfl, hc⟩ : ∃ b off, b < w.heap.size ∧ a1 = some ⟨b, off, none⟩ ∧ ∀ i, i < ps.length → w.cell? ⟨b, off + i, none⟩ = some (.int .i64 (ps[i]?.getD 0)) := by
        rcases Hx.out with h | h
        · have := Hp.out; rw [h] at this; simp at this; omega
        · exact h
      have hck : wr.cell? ⟨b, off + k * 2, none⟩ = some (.int .i64 (at0 ps (k * 2))) := (hB.cell (p := ⟨b, off + k * 2, none⟩) hb).trans (hc _ (by have := Hp.out; omega))
      have hxr := Hlo.out k hlt
      obtain ⟨x, hx⟩ : ∃ x : Nat, (x : Int) = at0 ps (k * 2) := ⟨(at0 ps (k * 2)).toNat, by omega⟩
      rw [← hx] at hck hxr
      have Hxx := hid hx
      have hx0 : (0 : Int) ≤ (x : Int) := by omega
      have hx64 : (x : Int) < 64 := by omega
      have hi0 : (0 : Int) ≤ (k : Int) := by omega
      have hi1 : (k : Int) < (n : Int) := by omega
      have HC := hid (HR.out (x : Int) x wr.drew (below_drewN hB 1) (by omega))
      have HB := hid hB
      have hbr : b < wr.heap.size := Nat.lt_of_lt_of_le hb hB.size
      obtain ⟨q, hq⟩ : ∃ q, q = wayB ps n (x : Int) (x : Int) := ⟨_, rfl⟩
      rw [← hq] at HC
      have Hq := hid hq
      clear hx hc hB hq hxr
      cases q
      · go_wp2_with fail
        go_region_with (first
          | (go_at_call 32; refine HC.out.mono ?_; rintro e w2 ⟨g, rfl, hcm, hB2⟩; have n0 := (hB2.cell (p := ⟨b, off + k * 2, none⟩) hbr).trans hck; have HB2 := hid hB2; clear hB2))
        all_goals
          have HB3 := hid ((below_drewN HB.out 1).trans (HB2.out.mono (below_drewN HB.out 1).size))
          have He : Hid (∀ j, j < k + 1 → ¬ Way ps n (at0 ps (j * 2)) (at0 ps (j * 2))) := hid (fun j hj hw => by
            by_cases e : j = k
            · subst e
              rw [← Hxx.out] at hw
              have := Hq.out
              rw [wayB_true hw] at this
              cases this
            · exact Hk.out j (by omega) hw)
          clear HB HB2 hcm n0 hck
          go_wp2_with fail
          go_roundw
          case rel => exact ⟨k + 1, by omega, by go_num, He, HB3.out⟩
          case measure => simp [intOf]; omega
      · go_wp2_with fail
        go_region_with (first
          | (go_at_call 32; refine HC.out.mono ?_; rintro e w2 ⟨g, rfl, hcm, hB2⟩; have n0 := (hB2.cell (p := ⟨b, off + k * 2, none⟩) hbr).trans hck; have HB2 := hid hB2; clear hB2))
        all_goals
          have HB3 := hid ((below_drewN HB.out 1).trans (HB2.out.mono (below_drewN HB.out 1).size))
          have He : Hid (E = false) := hid (by
            rw [HE.out]
            refine acyB_false (fun hno => ?_)
            have := Hq.out
            rw [wayB_false (by rw [Hxx.out]; exact hno k hlt)] at this
            cases this)
          clear HB HB2 hcm n0 hck
          go_wp2_with fail
          go_ret
          exact ⟨ret_bool (by rw [He.out]), HB3.out⟩
    · have He : Hid (E = true) := hid (by rw [HE.out]; exact acyB_true (fun i hi => Hk.out i (by omega)))
      go_wp2_with fail
      go_ret
      exact ⟨ret_bool (by rw [He.out]), hB⟩

end Go.Proofs.YtpdhnjdnlgnniaaGreat
