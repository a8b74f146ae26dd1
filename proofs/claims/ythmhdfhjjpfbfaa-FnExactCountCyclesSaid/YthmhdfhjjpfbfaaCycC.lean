import Derived.Test.YthmhdfhjjpfbfaaBettiS
import Derived.Test.YthmhdfhjjpfbfaaBRank
import Derived.Test.YthmhdfhjjpfbfaaFacesOf
/-! CountCycles, the model's and the program's. -/
namespace Go.Proofs.Ythmhdfhjjpfbfaa
open Go.RowKit

/-- The power of two, as int64 holds it. -/
def pow64 (n : Nat) : Int := wrap64 (2 ^ n)
theorem i64_wrap64 (n : Int) : IntKind.i64.wrap n = wrap64 n := by rw [IntKind.wrap_i64]; unfold wrap64; omega
noncomputable def cyclesR (V : Int) (fs : List Int) (d : Int) : Int × Int × Int :=
  if isCB V fs then (if 0 ≤ d ∧ d ≤ 5 then (pow64 ((ofDim fs d).length - rankN fs d 2), pow64 (rankN fs (d + 1) 2), 0) else (0, 0, 2)) else (0, 0, 1)
theorem three_mono {fn : FuncId} {args : Array Value} {w : World} {B : Nat} {P : Program} {R : Int × Int × Int} {a b c : Int} (hR : R = (a, b, c))
    (h : Calls P fn args w fun e w' => e = .returned (.tuple #[.int .i64 a, .int .i64 b, .int .i64 c]) ∧ Below B w w') :
    Calls P fn args w fun e w' => e = .returned (.tuple #[.int .i64 R.1, .int .i64 R.2.1, .int .i64 R.2.2]) ∧ Below B w w' := by
  subst hR
  exact h

set_option maxHeartbeats 2000000 in
theorem specCountCycles (V : Int) (a0 : Option Addr) (cap : Nat) (fs : List Int) (d : Int) (w : World) (hx : SlI w w.heap.size a0 fs) (hl : fs.length ≤ 1048576) (_wd : (Lit.int .i64 d).wf = true) :
    Calls Try.prog 50 #[.agg #[.int .i64 V, .slice a0 fs.length cap], .int .i64 d] w fun e w' => e = .returned (.tuple #[.int .i64 (cyclesR V fs d).1, .int .i64 (cyclesR V fs d).2.1, .int .i64 (cyclesR V fs d).2.2]) ∧ Below w.heap.size w w' := by
  have hB0 : Below w.heap.size w (w.alloc (.cells #[.int .i64 V, .slice a0 fs.length cap] 28)) := (Below.refl _ w).alloc (Nat.le_refl _) _
  have hx1 := hx.later hB0 hB0.size
  by_cases hC : IsC V fs
  · have HK := hid (is_yes V a0 cap fs _ hx1 hl hC)
    by_cases hd : 0 ≤ d ∧ d ≤ 5
    · refine three_mono (show cyclesR V fs d = (pow64 ((ofDim fs d).length - rankN fs d 2), pow64 (rankN fs (d + 1) 2), 0) by rw [cyclesR, isCB_true hC, if_pos rfl, if_pos hd]) ?_
      have HC := hid hC
      have HX := hid hx
      have h0 := hd.1
      have h5 := hd.2
      obtain ⟨n, hn⟩ : ∃ n, n = (ofDim fs d).length := ⟨_, rfl⟩
      obtain ⟨r1, hr1⟩ : ∃ n, n = rankN fs d 2 := ⟨_, rfl⟩
      obtain ⟨r2, hr2⟩ : ∃ n, n = rankN fs (d + 1) 2 := ⟨_, rfl⟩
      have hr1n : r1 ≤ n := by rw [hr1, hn]; exact rankN_le _ _ _
      have hn63 : n ≤ 63 := by rw [hn]; have := ofDim_len fs d; have := hC.len63; omega
      have hr63 : r2 ≤ 63 := by have := rankN_le fs (d + 1) 2; have := ofDim_len fs (d + 1); have := hC.len63; omega
      rw [← hn, ← hr1, ← hr2]
      have hk1 : IntKind.i64.wrap (d + 1) = d + 1 := IntWalk.i64_in _ (by omega)
      obtain ⟨m, rfl⟩ : ∃ m, n = r1 + m := ⟨n - r1, by omega⟩
      have Hm : Hid (r1 + m - r1 = m) := hid (by omega)
      rw [Hm.out]
      have Hf1 : Hid (IntKind.i64.wrap ((r1 + m : Nat) - (r1 : Int)) = (m : Int)) := hid (by rw [IntKind.wrap_i64]; omega)
      clear hx hx1 hC hd
      go_enter Try.func50, Try.ntmps50
      go_wp2_with fail
      refine HK.out.mono ?_
      rintro e w1 ⟨rfl, hB1⟩
      have k0 : w1.cell? ⟨w.heap.size, 0, none⟩ = some (.int .i64 V) := (hB1.cell (p := ⟨w.heap.size, 0, none⟩) (by simp)).trans (by simp [go_sem])
      have k1 : w1.cell? ⟨w.heap.size, 1, none⟩ = some (.slice a0 fs.length cap) := (hB1.cell (p := ⟨w.heap.size, 1, none⟩) (by simp)).trans (by simp [go_sem])
      have HB1 := hid (hB0.trans (hB1.mono (by simp)))
      have HXr := hid (HX.out.later HB1.out HB1.out.size)
      have HD : Hid (BoxW w.heap.size V (.slice a0 fs.length cap) w1 w1.drew) := hid (BoxW.start k0 k1)
      have HO := hid (fun W (h : BoxW w.heap.size V (.slice a0 fs.length cap) w1 W) => of_box HXr.out hl HC.out d h0 h5 W h)
      have HR1 := hid (fun W (h : BoxW w.heap.size V (.slice a0 fs.length cap) w1 W) => rk_box HXr.out hl HC.out (p := 2) (.inl rfl) d h0 (by omega) W h)
      have HR2 := hid (fun W (h : BoxW w.heap.size V (.slice a0 fs.length cap) w1 W) => rk_box HXr.out hl HC.out (p := 2) (.inl rfl) (d + 1) (by omega) (by omega) W h)
      rw [← hn] at HO
      rw [← hr1] at HR1
      rw [← hr2] at HR2
      clear hB0 hB1 hn hr1 hr2
      go_wp2_with (go_at_call 86; refine (in_yes _ _ _ _ h0 h5).mono ?_; rintro e w' ⟨rfl, rfl⟩)
      go_region_held3 (fun w' => w'.cell? ⟨w.heap.size, 0, none⟩ = some (.int .i64 V) ∧ w'.cell? ⟨w.heap.size, 1, none⟩ = some (.slice a0 fs.length cap)) (go_keep) (first
        | (go_at_call 87; have hz := HD1.out; clear HD1; refine (HR1.out _ hz).mono ?_; rintro e w4 ⟨rfl, hd⟩; have n40 := hd.c0; have n41 := hd.c1; have HD2 := hid hd; clear hd hz)
        | (go_at_call 94; refine (HO.out _ HD.out).mono ?_; rintro e w3 ⟨⟨ax, cx, rfl⟩, hd⟩; have n30 := hd.c0; have n31 := hd.c1; have HD1 := hid hd; clear hd))
      all_goals
        go_wp2_with fail
        refine (HR2.out _ HD2.out).mono ?_
        rintro e w5 ⟨rfl, hd5⟩
        have HB5 := hid (HB1.out.trans (hd5.below.mono HB1.out.size))
        clear hd5 HD2 HD HR1 HR2 HO
        go_wp2_with fail
        go_ret3
        exact ⟨rfl, HB5.out⟩
    · refine three_mono (show cyclesR V fs d = (0, 0, 2) by rw [cyclesR, isCB_true hC, if_pos rfl, if_neg hd]) ?_
      clear hx hx1 hC
      go_enter Try.func50, Try.ntmps50
      go_wp2_with fail
      refine HK.out.mono ?_
      rintro e w1 ⟨rfl, hB1⟩
      go_wp2_with (go_at_call 86; refine (in_no _ _ _ _ hd).mono ?_; rintro e w' ⟨rfl, rfl⟩)
      go_ret3
      exact ⟨rfl, hB0.trans (hB1.mono (by simp))⟩
  · have HK := hid (is_no V a0 cap fs _ hx1 hl hC)
    refine three_mono (show cyclesR V fs d = (0, 0, 1) by rw [cyclesR, isCB_false hC, if_neg (by simp)]) ?_
    clear hx hx1 hC
    go_enter Try.func50, Try.ntmps50
    go_wp2_with fail
    refine HK.out.mono ?_
    rintro e w1 ⟨rfl, hB1⟩
    go_wp2_with fail
    go_ret3
    exact ⟨rfl, hB0.trans (hB1.mono (by simp))⟩

theorem brk_boxC {b : Nat} {V : Int} {a0 : Option Addr} {cap : Nat} {fs : List Int} {wr : World} (hx : SlI wr wr.heap.size a0 fs) (hl : fs.length ≤ 1048576) (hC : IsC V fs) {p : Int} (hp : p = 2 ∨ p = 3) (d : Int) (h0 : 0 ≤ d) (h5 : d ≤ 100) (W : World)
    (h : BoxW b V (.slice a0 fs.length cap) wr W) :
    Calls Try.prog 89 #[.agg #[.int .i64 V, .slice a0 fs.length cap], .int .i64 d, .int .i64 p] W fun e W' => e = .returned (.int .i64 (rankN fs d p : Int)) ∧ BoxW b V (.slice a0 fs.length cap) wr W' :=
  (brank_any V a0 cap fs d p W (hx.later h.below h.below.size) hl hC hp (by omega) h5).mono fun _ _ ⟨he, hb⟩ => ⟨he, h.step hb⟩

set_option maxHeartbeats 2000000 in
theorem implCountCycles (V : Int) (a0 : Option Addr) (cap : Nat) (fs : List Int) (d : Int) (w : World) (hx : SlI w w.heap.size a0 fs) (hl : fs.length ≤ 1048576) (_wd : (Lit.int .i64 d).wf = true) :
    Calls Try.prog 51 #[.agg #[.int .i64 V, .slice a0 fs.length cap], .int .i64 d] w fun e w' => e = .returned (.tuple #[.int .i64 (cyclesR V fs d).1, .int .i64 (cyclesR V fs d).2.1, .int .i64 (cyclesR V fs d).2.2]) ∧ Below w.heap.size w w' := by
  have hB0 : Below w.heap.size w (w.alloc (.cells #[.int .i64 V, .slice a0 fs.length cap] 28)) := (Below.refl _ w).alloc (Nat.le_refl _) _
  have hx1 := hx.later hB0 hB0.size
  have HK := hid (implFacesOf V a0 cap fs d _ hx1 hl)
  by_cases hC : IsC V fs
  · by_cases hd : 0 ≤ d ∧ d ≤ 5
    · refine three_mono (show cyclesR V fs d = (pow64 ((ofDim fs d).length - rankN fs d 2), pow64 (rankN fs (d + 1) 2), 0) by rw [cyclesR, isCB_true hC, if_pos rfl, if_pos hd]) ?_
      have HCF : facesOfR V fs d = (ofDim fs d, 0) := by unfold facesOfR; rw [isCB_true hC, if_pos rfl, if_pos hd]
      rw [HCF] at HK
      simp only at HK
      have HC := hid hC
      have HX := hid hx
      have h0 := hd.1
      have h5 := hd.2
      obtain ⟨n, hn⟩ : ∃ n, n = (ofDim fs d).length := ⟨_, rfl⟩
      obtain ⟨r1, hr1⟩ : ∃ n, n = rankN fs d 2 := ⟨_, rfl⟩
      obtain ⟨r2, hr2⟩ : ∃ n, n = rankN fs (d + 1) 2 := ⟨_, rfl⟩
      have hr1n : r1 ≤ n := by rw [hr1, hn]; exact rankN_le _ _ _
      have hn63 : n ≤ 63 := by rw [hn]; have := ofDim_len fs d; have := hC.len63; omega
      have hr63 : r2 ≤ 63 := by have := rankN_le fs (d + 1) 2; have := ofDim_len fs (d + 1); have := hC.len63; omega
      rw [← hn, ← hr1, ← hr2]
      have hk1 : IntKind.i64.wrap (d + 1) = d + 1 := IntWalk.i64_in _ (by omega)
      obtain ⟨m, rfl⟩ : ∃ m, n = r1 + m := ⟨n - r1, by omega⟩
      have Hm : Hid (r1 + m - r1 = m) := hid (by omega)
      rw [Hm.out]
      have hf1 : IntKind.i64.wrap ((r1 : Int) + (m : Int) - (r1 : Int)) = (m : Int) := by rw [IntKind.wrap_i64]; omega
      have hfm : ((r1 : Int) + (m : Int) - (r1 : Int)) = (m : Int) := by omega
      clear hx hx1 hC hd HCF
      go_enter Try.func51, Try.ntmps51
      go_wp2_with fail
      refine HK.out.mono ?_
      rintro e w1 ⟨v, rfl, hr⟩
      obtain ⟨_, av, cv, rfl, _⟩ := ownsRow_slI hr.1
      rw [← hn]
      have k0 : w1.cell? ⟨w.heap.size, 0, none⟩ = some (.int .i64 V) := (hr.2.cell (p := ⟨w.heap.size, 0, none⟩) (by simp)).trans (by simp [go_sem])
      have k1 : w1.cell? ⟨w.heap.size, 1, none⟩ = some (.slice a0 fs.length cap) := (hr.2.cell (p := ⟨w.heap.size, 1, none⟩) (by simp)).trans (by simp [go_sem])
      have HB1 := hid (hB0.trans (hr.2.mono (by simp)))
      have HXr := hid (HX.out.later HB1.out HB1.out.size)
      have HD : Hid (BoxW w.heap.size V (.slice a0 fs.length cap) w1 w1) := hid ⟨Below.refl _ _, k0, k1⟩
      have HR1 := hid (fun W (h : BoxW w.heap.size V (.slice a0 fs.length cap) w1 W) => brk_boxC HXr.out hl HC.out (p := 2) (.inl rfl) d h0 (by omega) W h)
      have HR2 := hid (fun W (h : BoxW w.heap.size V (.slice a0 fs.length cap) w1 W) => brk_boxC HXr.out hl HC.out (p := 2) (.inl rfl) (d + 1) (by omega) (by omega) W h)
      rw [← hr1] at HR1
      rw [← hr2] at HR2
      clear hB0 hr hn hr1 hr2
      go_wp2_with fail
      refine (HR1.out _ HD.out).mono ?_
      rintro e w4 ⟨rfl, hd4⟩
      have n40 := hd4.c0
      have n41 := hd4.c1
      have HD4 : Hid (BoxW w.heap.size V (.slice a0 fs.length cap) w1 w4.drew) := hid ⟨below_drewN hd4.below 1, n40, n41⟩
      clear hd4 HD HR1 k0 k1
      go_wp2_with fail
      go_region_held3 (fun w' => w'.cell? ⟨w.heap.size, 0, none⟩ = some (.int .i64 V) ∧ w'.cell? ⟨w.heap.size, 1, none⟩ = some (.slice a0 fs.length cap)) (go_keep) (first
        | (go_at_call 89; refine (HR2.out _ HD4.out).mono ?_; rintro e w5 ⟨rfl, hd⟩; have n50 := hd.c0; have n51 := hd.c1; have HD5 := hid hd; clear hd))
      all_goals
        have HB5 := hid (HB1.out.trans (HD5.out.below.mono HB1.out.size))
        clear HD4 HD5 HR2
        go_wp2_with fail
        go_ret3
        exact ⟨by show Ending.returned (.tuple #[.int .i64 (IntKind.i64.wrap (2 ^ m)), .int .i64 (IntKind.i64.wrap (2 ^ r2)), .int .i64 0]) = _; rw [i64_wrap64, i64_wrap64]; rfl, HB5.out⟩
    · refine three_mono (show cyclesR V fs d = (0, 0, 2) by rw [cyclesR, isCB_true hC, if_pos rfl, if_neg hd]) ?_
      have HCF : facesOfR V fs d = ([], 2) := by unfold facesOfR; rw [isCB_true hC, if_pos rfl, if_neg hd]
      rw [HCF] at HK
      simp only at HK
      clear hx hx1 hC HCF
      go_enter Try.func51, Try.ntmps51
      go_wp2_with fail
      refine HK.out.mono ?_
      rintro e w1 ⟨v, rfl, hr⟩
      go_wp2_with fail
      go_ret3
      exact ⟨rfl, hB0.trans (hr.2.mono (by simp))⟩
  · refine three_mono (show cyclesR V fs d = (0, 0, 1) by rw [cyclesR, isCB_false hC, if_neg (by simp)]) ?_
    have HCF : facesOfR V fs d = ([], 1) := by unfold facesOfR; rw [isCB_false hC, if_neg (by simp)]
    rw [HCF] at HK
    simp only at HK
    clear hx hx1 hC HCF
    go_enter Try.func51, Try.ntmps51
    go_wp2_with fail
    refine HK.out.mono ?_
    rintro e w1 ⟨v, rfl, hr⟩
    go_wp2_with fail
    go_ret3
    exact ⟨rfl, hB0.trans (hr.2.mono (by simp))⟩

end Go.Proofs.Ythmhdfhjjpfbfaa
