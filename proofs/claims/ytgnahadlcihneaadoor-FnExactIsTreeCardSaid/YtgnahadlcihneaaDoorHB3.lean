import Derived.Test.YtgnahadlcihneaaDoorRows
import Derived.ProofKit
import Derived.OpenShut
import Derived.ShutString
import Derived.ChangeOld
import Derived.Below
import Derived.Lib.SmallJoins
import Derived.Test.YtgnahadlcihneaaDoorTie
import Derived.Test.YtgnahadlcihneaaDoorCards
import Derived.OpenVars
import Derived.LaidMore
import Derived.MakeChecks
import Derived.Stop.LaidErr
import Derived.SevenTiedAt
import Derived.Lib.LaidTab
import Derived.Test.YtgnahadlcihneaaDoorHB1
import Derived.Test.YtgnahadlcihneaaDoorHB2
/-! The model's least number of evaders. -/
namespace Go.Proofs.YtgnahadlcihneaaDoor
open Go.RowKit Go.Sort

def leastTo (fs : List Int) (V m a o k : Nat) : Nat := minTo (fun v => least fs V m (a ||| 2 ^ v) o + least fs V m a (o ||| 2 ^ v)) (fun v => (a ||| o).testBit v) 64 k
theorem leastTo_succ (fs : List Int) (V m a o k : Nat) : leastTo fs V m a o (k + 1) = if (a ||| o).testBit k then leastTo fs V m a o k else min (leastTo fs V m a o k) (least fs V m (a ||| 2 ^ k) o + least fs V m a (o ||| 2 ^ k)) := minTo_succ ..
theorem leastTo_le (fs : List Int) (V m a o k : Nat) : leastTo fs V m a o k ≤ 64 := (minTo_le _ _ 64 k).1
theorem min_add {n1 n2 n3 : Nat} (h1 : n1 ≤ 1000) (h2 : n2 ≤ 1000) (_h3 : n3 ≤ 1000) : (if IntKind.i64.wrap ((n1 : Int) + (n2 : Int)) < (n3 : Int) then IntKind.i64.wrap ((n1 : Int) + (n2 : Int)) else (n3 : Int)) = ((min n3 (n1 + n2) : Nat) : Int) := by
  have e : IntKind.i64.wrap ((n1 : Int) + (n2 : Int)) = ((n1 + n2 : Nat) : Int) := by
    rw [IntKind.wrap_i64]
    omega
  rw [e]
  split <;> omega
theorem toldI_ge {fs : List Int} {V a o : Nat} : decide (toldI fs V a o ≥ 0) = toldB fs V a o := by
  unfold toldI toldB
  cases allC fs V a o <;> cases noneC fs V a o <;> rfl

set_option maxRecDepth 100000 in
set_option maxHeartbeats 4000000 in
theorem leastS_round (V : Nat) (a0 : Option Addr) (cap : Nat) (fs : List Int) (kb m a o : Nat) (w : World) (hx : SlI w kb a0 fs) (hl : fs.length ≤ 1048576) (hs : St V m a o) (ht : Tab (least fs V) V kb w w)
    (H : ∀ k a' o' W, m = k + 1 → St V k a' o' → Tab (least fs V) V kb w W → Calls Tryd.prog 72 #[.agg #[.int .i64 (V : Int), .slice a0 fs.length cap], .int .i64 (a' : Int), .int .i64 (o' : Int), .slice (some ⟨kb, 0, none⟩) 4096 4096] W fun e W' => e = .returned (.int .i64 (least fs V k a' o' : Int)) ∧ Tab (least fs V) V kb W W') :
    Calls Tryd.prog 72 #[.agg #[.int .i64 (V : Int), .slice a0 fs.length cap], .int .i64 (a : Int), .int .i64 (o : Int), .slice (some ⟨kb, 0, none⟩) 4096 4096] w fun e w' => e = .returned (.int .i64 (least fs V m a o : Int)) ∧ Tab (least fs V) V kb w w' := by
  have h6 := hs.le
  have hkb := ht.lt
  obtain ⟨W0, hW0⟩ : ∃ W0, W0 = w.alloc (.cells #[.int .i64 (V : Int), .slice a0 fs.length cap] 28) := ⟨_, rfl⟩
  have hB0 : Below w.heap.size w W0 := by rw [hW0]; exact (Below.refl _ w).alloc (Nat.le_refl _) _
  have HX0 : Hid (TabX (least fs V) V kb (.slice a0 fs.length cap) w W0) := hid ⟨ht.below hB0, by rw [hW0]; exact heap_alloc_new _ _⟩
  have HP := hid (place_any a o W0 hs.alt hs.olt)
  obtain ⟨t, c0, f0, ht0⟩ := HX0.out.tab.look hs
  have Hs := hid hs
  have Hx := hid hx
  have HH := hid H
  have hat : a * 64 + o < 4096 := by have := hs.alt; have := hs.olt; omega
  obtain ⟨p, hp⟩ : ∃ p, p = a * 64 + o := ⟨_, rfl⟩
  have HSt := hid (fun W (h : Tab (least fs V) V kb w W) => h.store hs)
  have HLk := hid (fun W (h : Tab (least fs V) V kb w W) => h.look hs)
  rw [← hp] at c0 f0 HP hat
  rw [← hp] at HSt HLk
  have hi0 : (0 : Int) ≤ (p : Int) := by omega
  have hi1 : (p : Int) < 4096 := by omega
  rw [hW0] at HP
  have HT := hid (fun W (h : TabX (least fs V) V kb (.slice a0 fs.length cap) w W) => toldS_any V a0 cap fs a o W ((h.tab.sl hx).mono (Nat.le_of_lt h.tab.lt)) hl h6 hs.alt hs.olt)
  have hor0 := or_int6 hs.alt hs.olt
  have hsubm : IntKind.i64.wrap ((V : Int) - (ones (a ||| o) : Int)) = (m : Int) := by rw [IntKind.wrap_i64]; have := hs.cnt; omega
  have CO := hid (fun d os => Calls.regrown_of ((ones_any (a ||| o) (grow (redrawn W0 d) os) hs.olt2).mono fun _ _ ⟨he, hw⟩ => And.intro he (by rw [← hw]; exact Below.refl _ _)))
  obtain ⟨on, hon⟩ : ∃ n, n = ones (a ||| o) := ⟨_, rfl⟩
  rw [← hon] at hsubm CO
  obtain ⟨mi, hmi⟩ : ∃ i : Int, i = (m : Int) := ⟨_, rfl⟩
  rw [← hmi] at hsubm
  have Hmi := hid hmi
  obtain ⟨R, hR⟩ : ∃ R, R = least fs V m a o := ⟨_, rfl⟩
  rw [← hR] at ht0 HSt HLk ⊢
  have HRe := hid hR
  clear hs hx H ht hB0 hp hR hon hmi
  rcases ht0 with rfl | rfl
  · have htg := toldI_ge (fs := fs) (V := V) (a := a) (o := o)
    obtain ⟨ti, hti⟩ : ∃ ti, ti = toldI fs V a o := ⟨_, rfl⟩
    rw [← hti] at HT htg
    clear hti
    cases hb : toldB fs V a o
    · have hm : ∃ k, m = k + 1 := by
        cases m with
        | zero => rw [told_zero Hs.out] at hb; exact absurd hb (by decide)
        | succ k => exact ⟨k, rfl⟩
      obtain ⟨k, rfl⟩ := hm
      have hge : decide (ti ≥ 0) = false := by rw [htg, hb]
      by_cases h0 : k = 0
      · subst h0
        have HR : Hid (R = 2) := hid (HRe.out.trans (least_last hb))
        have hl1 : (mi == 1) = true := by have := Hmi.out; simp; omega
        obtain rfl := HR.out
        clear hb HRe htg
        go_enter Tryd.func72, Tryd.ntmps72
        go_wp2_with fail
        refine HP.out.mono ?_
        rintro e w1 ⟨rfl, rfl⟩
        rw [← hW0]
        clear hW0
        have b0 := HX0.out.c0
        have b1 := HX0.out.c1
        have r0 := cell_regrown b0
        have r1 := cell_regrown b1
        go_wp2_with fail
        refine wp_region_quiet_below (by kernel_rfl) (by kernel_rfl) ?_
        iterate 5 (with_reducible refine wpQuiet_step (fun K hK => ?_); have HK := hid hK; clear hK; go_simp; (first | with_reducible refine HK.out _ ?_ | (rw [if_neg (by decide)]; with_reducible refine HK.out _ ?_)); clear HK K)
        (with_reducible refine wpQuiet_step (fun K hK => ?_); have HK := hid hK; clear hK; go_simp; apply Exists.intro; with_reducible refine ⟨fun _ => ?_, HK.out _ ?_⟩; exact CO.out _ _; clear HK K)
        iterate 2 (with_reducible refine wpQuiet_step (fun K hK => ?_); have HK := hid hK; clear hK; go_simp; (first | with_reducible refine HK.out _ ?_ | (rw [if_neg (by decide)]; with_reducible refine HK.out _ ?_)); clear HK K)
        with_reducible refine wpQuiet_nil ?_
        intro _ hw'
        obtain ⟨⟨dq, osq⟩, hw''⟩ := hw'
        subst hw''
        clear b0 b1
        have HXq := hid (HX0.out.below (below_regrown W0 dq osq))
        have q0 := HXq.out.c0
        have q1 := HXq.out.c1
        go_wp2_with fail
        refine (HT.out _ HXq.out).mono ?_
        rintro e w1 ⟨rfl, hB1⟩
        have HX1 := hid (HXq.out.below hB1)
        clear hB1 q0 q1 r0 r1 c0 f0 CO
        obtain ⟨t, c0, f0, _⟩ := HLk.out w1 HX1.out.tab
        have HE := hid (HSt.out w1 HX1.out.tab)
        go_wp2_with fail
        go_ret
        exact ⟨rfl, HE.out⟩
      have HR := hid (show R = leastTo fs V k a o V from HRe.out.trans (least_full hb h0))
      have hl1 : (mi == 1) = false := by have := Hmi.out; simp; omega
      have hk5 : k + 1 ≤ 6 := by have := Hs.out.cnt; omega
      clear hb HRe htg
      go_enter Tryd.func72, Tryd.ntmps72
      go_wp2_with fail
      refine HP.out.mono ?_
      rintro e w1 ⟨rfl, rfl⟩
      rw [← hW0]
      clear hW0
      have b0 := HX0.out.c0
      have b1 := HX0.out.c1
      have r0 := cell_regrown b0
      have r1 := cell_regrown b1
      go_wp2_with fail
      refine wp_region_quiet_below (by kernel_rfl) (by kernel_rfl) ?_
      iterate 5 (with_reducible refine wpQuiet_step (fun K hK => ?_); have HK := hid hK; clear hK; go_simp; (first | with_reducible refine HK.out _ ?_ | (rw [if_neg (by decide)]; with_reducible refine HK.out _ ?_)); clear HK K)
      (with_reducible refine wpQuiet_step (fun K hK => ?_); have HK := hid hK; clear hK; go_simp; apply Exists.intro; with_reducible refine ⟨fun _ => ?_, HK.out _ ?_⟩; exact CO.out _ _; clear HK K)
      iterate 2 (with_reducible refine wpQuiet_step (fun K hK => ?_); have HK := hid hK; clear hK; go_simp; (first | with_reducible refine HK.out _ ?_ | (rw [if_neg (by decide)]; with_reducible refine HK.out _ ?_)); clear HK K)
      with_reducible refine wpQuiet_nil ?_
      intro _ hw'
      obtain ⟨⟨dq, osq⟩, hw''⟩ := hw'
      subst hw''
      clear b0 b1
      have HXq := hid (HX0.out.below (below_regrown W0 dq osq))
      have q0 := HXq.out.c0
      have q1 := HXq.out.c1
      go_wp2_with fail
      refine (HT.out _ HXq.out).mono ?_
      rintro e w1 ⟨rfl, hB1⟩
      have HX1 := hid (HXq.out.below hB1)
      clear hB1 q0 q1 r0 r1 c0 f0 CO
      have b0 := HX1.out.c0
      have b1 := HX1.out.c1
      go_wp2_with fail
      clear b0 b1
      go_loopw [11, 12] (fun bv iv wx => ∃ j : Nat, j ≤ V ∧ bv = .int .i64 (leastTo fs V k a o j : Int) ∧ iv = .int .i64 (j : Int) ∧ Hid (TabX (least fs V) V kb (.slice a0 fs.length cap) w wx)) (fun _ iv _ => V - (RowKit.intOf iv).toNat)
      case atStart => exact ⟨0, Nat.zero_le _, rfl, rfl, HX1⟩
      case round =>
        clear HX1 HX0 HXq
        obtain ⟨j, hj, rfl, rfl, HX⟩ := hrel
        have b0 := HX.out.c0
        have b1 := HX.out.c1
        by_cases hlt : j < V
        · have hj1 : (j : Int) < (V : Int) := by omega
          have hj0 : (0 : Int) ≤ (j : Int) := by omega
          have h2 : 2 ^ j < 64 := Nat.lt_of_lt_of_le (two_lt (show j < 6 by omega)) (by decide)
          have hsh : wrap64 (2 ^ j) = ((2 ^ j : Nat) : Int) := by
            rw [wrap64, show ((2 : Int) ^ j) = ((2 ^ j : Nat) : Int) by simp]
            generalize 2 ^ j = z at h2
            omega
          have hor := or_int6 Hs.out.alt Hs.out.olt
          have hand := and_int6 Hs.out.olt2 h2
          have hfa := free_and (x := a ||| o) (v := j)
          have ho1 := or_int6 Hs.out.alt h2
          have ho2 := or_int6 Hs.out.olt h2
          have hN := leastTo_succ fs V k a o j
          cases hf : (a ||| o).testBit j
          · obtain ⟨k', hk', s1, s2⟩ := Hs.out.step hlt hf
            obtain rfl : k' = k := by omega
            have HR1 := hid (fun W (h : TabX (least fs V) V kb (.slice a0 fs.length cap) w W) => (HH.out k' _ _ W rfl s1 h.tab).mono fun _ _ ⟨he, h'⟩ => And.intro he (h.step hkb h'))
            have HR2 := hid (fun W (h : TabX (least fs V) V kb (.slice a0 fs.length cap) w W) => (HH.out k' _ _ W rfl s2 h.tab).mono fun _ _ ⟨he, h'⟩ => And.intro he (h.step hkb h'))
            rw [hf, if_neg (by decide)] at hN
            have HN := hid hN
            have hq1 := Nat.le_trans (least_le (fs := fs) s1) (show 2 ^ k' ≤ 2 ^ 6 from Nat.pow_le_pow_right (by decide) (by omega))
            have hq2 := Nat.le_trans (least_le (fs := fs) s2) (show 2 ^ k' ≤ 2 ^ 6 from Nat.pow_le_pow_right (by decide) (by omega))
            have hq3 := leastTo_le fs V k' a o j
            obtain ⟨n1, hn1⟩ : ∃ n, n = least fs V k' (a ||| 2 ^ j) o := ⟨_, rfl⟩
            obtain ⟨n2, hn2⟩ : ∃ n, n = least fs V k' a (o ||| 2 ^ j) := ⟨_, rfl⟩
            obtain ⟨n3, hn3⟩ : ∃ n, n = leastTo fs V k' a o j := ⟨_, rfl⟩
            rw [← hn1] at HR1 HN hq1
            rw [← hn2] at HR2 HN hq2
            rw [← hn3] at HN hq3 ⊢
            rw [hf] at hfa
            obtain ⟨z, hz⟩ : ∃ z, z = 2 ^ j := ⟨_, rfl⟩
            obtain ⟨y, hy⟩ : ∃ y, y = (a ||| o) &&& z := ⟨_, rfl⟩
            rw [← hz] at hsh hand hfa ho1 ho2 HR1 HR2
            rw [← hy] at hand hfa
            have hd : ((y : Int) == 0) = true := by simpa using hfa
            have HD := hid HX.out.drew
            clear hf hk' s1 s2 hn1 hn2 hn3 hfa hN hz hy h2
            obtain ⟨sm, hsm⟩ : ∃ s, s = n1 + n2 := ⟨_, rfl⟩
            have hsum : IntKind.i64.wrap ((n1 : Int) + (n2 : Int)) = (sm : Int) := by rw [IntKind.wrap_i64]; omega
            rw [← hsm] at HN
            clear hsm
            by_cases hlt2 : sm < n3
            · have hc : (sm : Int) < (n3 : Int) := by omega
              have HM : Hid (leastTo fs V k' a o (j + 1) = sm) := hid (by rw [HN.out]; omega)
              clear hlt2
              go_wp2_with fail
              go_region_held3 (fun w' => w'.cell? ⟨w.heap.size, 0, none⟩ = some (.int .i64 (V : Int)) ∧ w'.cell? ⟨w.heap.size, 1, none⟩ = some (.slice a0 fs.length cap)) (go_keep) (first
                | (go_at_call 72; have hz := HD1.out; clear HD1; refine (HR2.out _ hz).mono ?_; rintro e w5 ⟨rfl, hd⟩; have n50 := hd.c0; have n51 := hd.c1; have HD2 := hid hd; clear hd hz)
                | (go_at_call 72; refine (HR1.out _ HD.out).mono ?_; rintro e w4 ⟨rfl, hd⟩; have n40 := hd.c0; have n41 := hd.c1; have HD1 := hid hd; clear hd)
                | fail)
              go_wp2_with fail
              go_roundw
              case rel => exact ⟨j + 1, by omega, by first | (rw [HM.out]; done) | (rw [HM.out, if_neg (by omega)]; done), by go_num, HD2⟩
              case measure => simp [RowKit.intOf]; omega
            · have hc : ¬ (sm : Int) < (n3 : Int) := by omega
              have HM : Hid (leastTo fs V k' a o (j + 1) = n3) := hid (by rw [HN.out]; omega)
              clear hlt2
              go_wp2_with fail
              go_region_held3 (fun w' => w'.cell? ⟨w.heap.size, 0, none⟩ = some (.int .i64 (V : Int)) ∧ w'.cell? ⟨w.heap.size, 1, none⟩ = some (.slice a0 fs.length cap)) (go_keep) (first
                | (go_at_call 72; have hz := HD1.out; clear HD1; refine (HR2.out _ hz).mono ?_; rintro e w5 ⟨rfl, hd⟩; have n50 := hd.c0; have n51 := hd.c1; have HD2 := hid hd; clear hd hz)
                | (go_at_call 72; refine (HR1.out _ HD.out).mono ?_; rintro e w4 ⟨rfl, hd⟩; have n40 := hd.c0; have n41 := hd.c1; have HD1 := hid hd; clear hd)
                | fail)
              go_wp2_with fail
              go_roundw
              case rel => exact ⟨j + 1, by omega, by first | (rw [HM.out]; done) | (rw [HM.out, if_neg (by omega)]; done), by go_num, HD2⟩
              case measure => simp [RowKit.intOf]; omega
          · rw [hf, if_pos rfl] at hN
            have HN := hid hN
            rw [hf] at hfa
            obtain ⟨z, hz⟩ : ∃ z, z = 2 ^ j := ⟨_, rfl⟩
            obtain ⟨y, hy⟩ : ∃ y, y = (a ||| o) &&& z := ⟨_, rfl⟩
            rw [← hz] at hsh hand hfa
            rw [← hy] at hand hfa
            have hd : ((y : Int) == 0) = false := by simpa using hfa
            clear hf hfa hN hz hy h2 ho1 ho2
            go_wp2_with fail
            go_roundw
            case rel => exact ⟨j + 1, by omega, by rw [HN.out], by go_num, HX⟩
            case measure => simp [RowKit.intOf]; omega
        · obtain rfl : j = V := by omega
          obtain ⟨t, c0, f0, _⟩ := HLk.out wr HX.out.tab
          rw [← HR.out]
          have HE := hid (HSt.out wr HX.out.tab)
          go_wp2_with fail
          go_ret
          exact ⟨rfl, HE.out⟩
    · have HR : Hid (R = 0) := hid (HRe.out.trans (least_told hb))
      have hge : decide (ti ≥ 0) = true := by rw [htg, hb]
      obtain rfl := HR.out
      clear hb htg
      go_enter Tryd.func72, Tryd.ntmps72
      go_wp2_with fail
      refine HP.out.mono ?_
      rintro e w1 ⟨rfl, rfl⟩
      rw [← hW0]
      clear hW0
      have b0 := HX0.out.c0
      have b1 := HX0.out.c1
      have r0 := cell_regrown b0
      have r1 := cell_regrown b1
      go_wp2_with fail
      refine wp_region_quiet_below (by kernel_rfl) (by kernel_rfl) ?_
      iterate 5 (with_reducible refine wpQuiet_step (fun K hK => ?_); have HK := hid hK; clear hK; go_simp; (first | with_reducible refine HK.out _ ?_ | (rw [if_neg (by decide)]; with_reducible refine HK.out _ ?_)); clear HK K)
      (with_reducible refine wpQuiet_step (fun K hK => ?_); have HK := hid hK; clear hK; go_simp; apply Exists.intro; with_reducible refine ⟨fun _ => ?_, HK.out _ ?_⟩; exact CO.out _ _; clear HK K)
      iterate 2 (with_reducible refine wpQuiet_step (fun K hK => ?_); have HK := hid hK; clear hK; go_simp; (first | with_reducible refine HK.out _ ?_ | (rw [if_neg (by decide)]; with_reducible refine HK.out _ ?_)); clear HK K)
      with_reducible refine wpQuiet_nil ?_
      intro _ hw'
      obtain ⟨⟨dq, osq⟩, hw''⟩ := hw'
      subst hw''
      clear b0 b1
      have HXq := hid (HX0.out.below (below_regrown W0 dq osq))
      have q0 := HXq.out.c0
      have q1 := HXq.out.c1
      go_wp2_with fail
      refine (HT.out _ HXq.out).mono ?_
      rintro e w1 ⟨rfl, hB1⟩
      have HX1 := hid (HXq.out.below hB1)
      clear hB1 q0 q1 r0 r1 c0 f0 CO
      obtain ⟨t, c0, f0, _⟩ := HLk.out w1 HX1.out.tab
      have HE := hid (HSt.out w1 HX1.out.tab)
      go_wp2_with fail
      go_ret
      exact ⟨rfl, HE.out⟩
  · have hge : decide ((R : Int) ≥ 0) = true := decide_eq_true (by omega)
    go_enter Tryd.func72, Tryd.ntmps72
    go_wp2_with fail
    refine HP.out.mono ?_
    rintro e w1 ⟨rfl, rfl⟩
    rw [← hW0]
    clear hW0
    go_wp2_with fail
    go_ret
    exact ⟨rfl, HX0.out.tab⟩


theorem leastS_any (V : Nat) (a0 : Option Addr) (cap : Nat) (fs : List Int) (kb : Nat) (hl : fs.length ≤ 1048576) : ∀ (m a o : Nat) (w : World), SlI w kb a0 fs → St V m a o → Tab (least fs V) V kb w w →
    Calls Tryd.prog 72 #[.agg #[.int .i64 (V : Int), .slice a0 fs.length cap], .int .i64 (a : Int), .int .i64 (o : Int), .slice (some ⟨kb, 0, none⟩) 4096 4096] w fun e w' => e = .returned (.int .i64 (least fs V m a o : Int)) ∧ Tab (least fs V) V kb w w'
  | 0, a, o, w, hx, hs, ht => leastS_round V a0 cap fs kb 0 a o w hx hl hs ht (fun k _ _ _ h => absurd h (by omega))
  | m + 1, a, o, w, hx, hs, ht => leastS_round V a0 cap fs kb (m + 1) a o w hx hl hs ht (fun k a' o' W h h1 h2 => by
    obtain rfl : k = m := by omega
    exact leastS_any V a0 cap fs kb hl k a' o' W (h2.sl hx) h1 ⟨.refl _ _, h2.tab⟩)

end Go.Proofs.YtgnahadlcihneaaDoor

/-! QuestionNumber and IsEvasive: the program's. -/
namespace Go.Proofs.YtgnahadlcihneaaDoor
open Go.RowKit Go.Sort

/-- What QuestionNumber answers. -/
noncomputable def qnR (V : Int) (fs : List Int) : Int × Int := if isCB V fs then ((need fs V.toNat V.toNat 0 0 : Int), 0) else (0, 1)
/-- What IsEvasive answers. -/
noncomputable def evR (V : Int) (fs : List Int) : Bool × Int := if isCB V fs then (decide (need fs V.toNat V.toNat 0 0 = V.toNat), 0) else (false, 1)
theorem need_le6 {fs : List Int} {V : Int} (hC : IsC V fs) : need fs V.toNat V.toNat 0 0 ≤ 6 := by
  have h1 := need_le fs V.toNat V.toNat 0 0
  have := hC.hi
  omega

theorem ret_twoG {a b : Bool} {c : Int} (h : a = b) : Ending.returned (.tuple #[.bool a, .int .i64 c]) = .returned (.tuple #[.bool b, .int .i64 c]) := by rw [h]

set_option maxRecDepth 100000 in
set_option maxHeartbeats 2000000 in
theorem implQuestionNumber (V : Int) (a0 : Option Addr) (cap : Nat) (fs : List Int) (w : World) (hx : SlI w w.heap.size a0 fs) (hl : fs.length ≤ 1048576) (hW : HidW w) :
    Calls Tryd.prog 17 #[.agg #[.int .i64 V, .slice a0 fs.length cap]] w fun e w' => e = .returned (.tuple #[.int .i64 (qnR V fs).1, .int .i64 (qnR V fs).2]) ∧ Below w.heap.size w w' := by
  obtain ⟨W0, hW0⟩ : ∃ W0, W0 = w.alloc (.cells #[.int .i64 V, .slice a0 fs.length cap] 28) := ⟨_, rfl⟩
  have hB0 : Below w.heap.size w W0 := by rw [hW0]; exact (Below.refl _ w).alloc (Nat.le_refl _) _
  have Hk : Hid (W0.heap[w.heap.size]? = some (.cells #[.int .i64 V, .slice a0 fs.length cap] 28 (0, 0))) := hid (by rw [hW0]; exact heap_alloc_new _ _)
  have Hx := hid hx
  have HW := hid hW
  have HB0 := hid hB0
  have HI := hid (implIsComplex V a0 cap fs W0 (hx.later hB0 hB0.size) hl)
  rw [hW0] at HI
  clear hx hB0 hW
  cases hc : isCB V fs
  · have HR : Hid (qnR V fs = (0, 1)) := hid (by unfold qnR; rw [hc]; rfl)
    rw [hc] at HI
    clear hc
    go_enter Tryd.func17, Tryd.ntmps17
    go_wp2_with fail
    refine HI.out.mono ?_
    rintro e w1 ⟨rfl, hB1⟩
    rw [← hW0] at hB1
    go_wp2_with fail
    go_ret2
    rw [HR.out]
    exact ⟨rfl, HB0.out.trans (hB1.mono HB0.out.size)⟩
  · have hC := isCB_iff.1 hc
    have hlo := hC.lo
    have hhi := hC.hi
    have HC := hid hC
    have HR : Hid (qnR V fs = ((need fs V.toNat V.toNat 0 0 : Int), 0)) := hid (by unfold qnR; rw [hc]; rfl)
    rw [hc] at HI
    obtain ⟨n, rfl⟩ : ∃ n : Nat, V = (n : Int) := ⟨V.toNat, by omega⟩
    rw [Int.toNat_natCast] at HR
    obtain ⟨R, hR⟩ : ∃ R, R = need fs n n 0 0 := ⟨_, rfl⟩
    rw [← hR] at HR
    have HRe := hid hR
    clear hc hC hR
    go_enter Tryd.func17, Tryd.ntmps17
    go_wp2_with fail
    refine HI.out.mono ?_
    rintro e w1 ⟨rfl, hB1⟩
    rw [← hW0] at hB1
    obtain ⟨k0, k1, _, _⟩ := two_of ((hB1.block _ (lt_get Hk.out)).trans Hk.out)
    have HB1 := hid (HB0.out.trans (hB1.mono HB0.out.size))
    have r0 := cell_regrown k0
    have r1 := cell_regrown k1
    have Hq := hid (fun d os => HB1.out.trans ((below_regrown w1 d os).mono HB1.out.size))
    have C1 := hid (fun d os => Calls.regrown_of (game_any (n : Int) a0 cap fs (grow (redrawn w1 d) os) (Hx.out.later (Hq.out d os) (Hq.out d os).size) hl HC.out.range63))
    have C2 := hid (fun d os => Calls.regrown_of ((allH_any n (grow (redrawn w1 d) os) (by omega) (by omega)).mono fun _ _ ⟨he, hw⟩ => ⟨he, by rw [← hw]; exact Below.refl _ _⟩))
    have C3 := hid (fun d os => Calls.regrown_of (qn_any fs n _ (gameC_is HC.out.range63) n 0 0 _ (grow (redrawn w1 d) os) (St.start (by omega)) (allL_is (by omega)) (HW.out.later (Hq.out d os) (Nat.le_refl _))))
    rw [← HRe.out] at C3
    obtain ⟨g, hg⟩ : ∃ g, g = gameC fs fs.length := ⟨_, rfl⟩
    obtain ⟨l, hll⟩ : ∃ l, l = allL n := ⟨_, rfl⟩
    rw [← hg] at C1 C3
    rw [← hll] at C2 C3
    clear hB1 k0 k1 hg hll
    go_wp2_with fail
    refine wp_region_quiet_below (by kernel_rfl) (by kernel_rfl) ?_
    iterate 1 (with_reducible refine wpQuiet_step (fun K hK => ?_); have HK := hid hK; clear hK; go_simp; (first | with_reducible refine HK.out _ ?_ | (rw [if_neg (by decide)]; with_reducible refine HK.out _ ?_)); clear HK K)
    (with_reducible refine wpQuiet_step (fun K hK => ?_); have HK := hid hK; clear hK; go_simp; apply Exists.intro; with_reducible refine ⟨fun _ => ?_, HK.out _ ?_⟩; exact C1.out _ _; clear HK K)
    iterate 2 (with_reducible refine wpQuiet_step (fun K hK => ?_); have HK := hid hK; clear hK; go_simp; (first | with_reducible refine HK.out _ ?_ | (rw [if_neg (by decide)]; with_reducible refine HK.out _ ?_)); clear HK K)
    (with_reducible refine wpQuiet_step (fun K hK => ?_); have HK := hid hK; clear hK; go_simp; apply Exists.intro; with_reducible refine ⟨fun _ => ?_, HK.out _ ?_⟩; exact C2.out _ _; clear HK K)
    (with_reducible refine wpQuiet_step (fun K hK => ?_); have HK := hid hK; clear hK; go_simp; apply Exists.intro; with_reducible refine ⟨fun _ => ?_, HK.out _ ?_⟩; exact C3.out _ _; clear HK K)
    iterate 2 (with_reducible refine wpQuiet_step (fun K hK => ?_); have HK := hid hK; clear hK; go_simp; (first | with_reducible refine HK.out _ ?_ | (rw [if_neg (by decide)]; with_reducible refine HK.out _ ?_)); clear HK K)
    with_reducible refine wpQuiet_nil ?_
    intro _ hw'
    obtain ⟨⟨dq, osq⟩, hw''⟩ := hw'
    subst hw''
    go_wp2_with fail
    go_ret2
    rw [HR.out]
    exact ⟨rfl, Hq.out _ _⟩

set_option maxRecDepth 100000 in
set_option maxHeartbeats 2000000 in
theorem implIsEvasive (V : Int) (a0 : Option Addr) (cap : Nat) (fs : List Int) (w : World) (hx : SlI w w.heap.size a0 fs) (hl : fs.length ≤ 1048576) (hW : HidW w) :
    Calls Tryd.prog 20 #[.agg #[.int .i64 V, .slice a0 fs.length cap]] w fun e w' => e = .returned (.tuple #[.bool (evR V fs).1, .int .i64 (evR V fs).2]) ∧ Below w.heap.size w w' := by
  obtain ⟨W0, hW0⟩ : ∃ W0, W0 = w.alloc (.cells #[.int .i64 V, .slice a0 fs.length cap] 28) := ⟨_, rfl⟩
  have hB0 : Below w.heap.size w W0 := by rw [hW0]; exact (Below.refl _ w).alloc (Nat.le_refl _) _
  have Hk : Hid (W0.heap[w.heap.size]? = some (.cells #[.int .i64 V, .slice a0 fs.length cap] 28 (0, 0))) := hid (by rw [hW0]; exact heap_alloc_new _ _)
  have HB0 := hid hB0
  have HI := hid (implQuestionNumber V a0 cap fs W0 (hx.later hB0 hB0.size) hl (hW.later hB0 (Nat.le_refl _)))
  rw [hW0] at HI
  clear hx hB0 hW
  cases hc : isCB V fs
  · have HR : Hid (evR V fs = (false, 1)) := hid (by unfold evR; rw [hc]; rfl)
    have hq : qnR V fs = (0, 1) := by unfold qnR; rw [hc]; rfl
    rw [hq] at HI
    clear hc hq
    go_enter Tryd.func20, Tryd.ntmps20
    go_wp2_with fail
    refine HI.out.mono ?_
    rintro e w1 ⟨rfl, hB1⟩
    rw [← hW0] at hB1
    go_wp2_with fail
    go_ret2
    rw [HR.out]
    exact ⟨rfl, HB0.out.trans (hB1.mono HB0.out.size)⟩
  · have hC := isCB_iff.1 hc
    have hlo := hC.lo
    have HR : Hid (evR V fs = (decide (need fs V.toNat V.toNat 0 0 = V.toNat), 0)) := hid (by unfold evR; rw [hc]; rfl)
    have hq : qnR V fs = ((need fs V.toNat V.toNat 0 0 : Int), 0) := by unfold qnR; rw [hc]; rfl
    rw [hq] at HI
    obtain ⟨n, rfl⟩ : ∃ n : Nat, V = (n : Int) := ⟨V.toNat, by omega⟩
    rw [Int.toNat_natCast] at HR HI
    obtain ⟨R, hR⟩ : ∃ R, R = need fs n n 0 0 := ⟨_, rfl⟩
    rw [← hR] at HR HI
    clear hc hC hR hq
    go_enter Tryd.func20, Tryd.ntmps20
    go_wp2_with fail
    refine HI.out.mono ?_
    rintro e w1 ⟨rfl, hB1⟩
    rw [← hW0] at hB1
    obtain ⟨k0, k1, _, _⟩ := two_of ((hB1.block _ (lt_get Hk.out)).trans Hk.out)
    have HB1 := hid (HB0.out.trans (hB1.mono HB0.out.size))
    clear hB1
    go_wp2_with fail
    go_ret2
    rw [HR.out]
    exact ⟨ret_twoG (by rw [Bool.eq_iff_iff]; simp; try omega), HB1.out⟩

end Go.Proofs.YtgnahadlcihneaaDoor

/-! QuestionNumber and IsEvasive: the model's. -/
namespace Go.Proofs.YtgnahadlcihneaaDoor
open Go.RowKit

set_option maxRecDepth 100000 in
set_option maxHeartbeats 2000000 in
theorem specQuestionNumber (V : Int) (a0 : Option Addr) (cap : Nat) (fs : List Int) (w : World) (hx : SlI w w.heap.size a0 fs) (hl : fs.length ≤ 1048576) :
    Calls Tryd.prog 15 #[.agg #[.int .i64 V, .slice a0 fs.length cap]] w fun e w' => e = .returned (.tuple #[.int .i64 (qnR V fs).1, .int .i64 (qnR V fs).2]) ∧ Below w.heap.size w w' := by
  obtain ⟨W0, hW0⟩ : ∃ W0, W0 = w.alloc (.cells #[.int .i64 V, .slice a0 fs.length cap] 28) := ⟨_, rfl⟩
  have hB0 : Below w.heap.size w W0 := by rw [hW0]; exact (Below.refl _ w).alloc (Nat.le_refl _) _
  have Hk : Hid (W0.heap[w.heap.size]? = some (.cells #[.int .i64 V, .slice a0 fs.length cap] 28 (0, 0))) := hid (by rw [hW0]; exact heap_alloc_new _ _)
  have Hx := hid hx
  have HB0 := hid hB0
  have HI := hid (is_all V a0 cap fs W0 (hx.later hB0 hB0.size) hl)
  rw [hW0] at HI
  clear hx hB0
  cases hc : isCB V fs
  · have HR : Hid (qnR V fs = (0, 1)) := hid (by unfold qnR; rw [hc]; rfl)
    rw [hc] at HI
    clear hc
    go_enter Tryd.func15, Tryd.ntmps15
    go_wp2_with fail
    refine HI.out.mono ?_
    rintro e w1 ⟨rfl, hB1⟩
    rw [← hW0] at hB1
    go_wp2_with fail
    go_ret2
    rw [HR.out]
    exact ⟨rfl, HB0.out.trans (hB1.mono HB0.out.size)⟩
  · have hC := isCB_iff.1 hc
    have hlo := hC.lo
    have hhi := hC.hi
    have HR : Hid (qnR V fs = ((need fs V.toNat V.toNat 0 0 : Int), 0)) := hid (by unfold qnR; rw [hc]; rfl)
    rw [hc] at HI
    obtain ⟨n, rfl⟩ : ∃ n : Nat, V = (n : Int) := ⟨V.toNat, by omega⟩
    rw [Int.toNat_natCast] at HR
    have HN := hid (fun g W (h : TabN (need fs n) n g (.slice a0 fs.length cap) w W) => (needS_any n a0 cap fs g hl n 0 0 W (h.sl Hx.out) (St.start (by omega)) h.tab).mono fun _ _ ⟨he, h'⟩ => And.intro he (h.step h'))
    have HTa := hid (fun W (hB : Below w.heap.size w W) hk => tableN_any (need fs n) n (.slice a0 fs.length cap) w W hB hk)
    obtain ⟨R, hR⟩ : ∃ R, R = need fs n n 0 0 := ⟨_, rfl⟩
    rw [← hR] at HR HN
    clear hc hC hR
    go_enter Tryd.func15, Tryd.ntmps15
    go_wp2_with fail
    refine HI.out.mono ?_
    rintro e w1 ⟨rfl, hB1⟩
    rw [← hW0] at hB1
    have Hk1 := hid ((hB1.block _ (lt_get Hk.out)).trans Hk.out)
    obtain ⟨k0, k1, _, _⟩ := two_of Hk1.out
    have HB1 := hid (HB0.out.trans (hB1.mono HB0.out.size))
    have HD : Hid (Below w.heap.size w w1.drew) := hid (HB1.out.trans ⟨rfl, rfl, rfl, Nat.le_refl _, fun _ _ => rfl⟩)
    clear hB1 hW0
    go_wp2_with fail
    go_region_held3 (fun w' => w'.cell? ⟨w.heap.size, 0, none⟩ = some (.int .i64 (n : Int)) ∧ w'.cell? ⟨w.heap.size, 1, none⟩ = some (.slice a0 fs.length cap)) (go_keep) (first
      | (go_at_call 49; have hz := HT.out; clear HT; refine (HN.out _ _ hz).mono ?_; rintro e w5 ⟨rfl, hd⟩; have n50 := hd.c0; have n51 := hd.c1; have HE := hid hd; clear hd hz)
      | (go_at_call 50; refine (HTa.out _ HD.out Hk1.out).mono ?_; rintro e w3 ⟨g, rfl, hd⟩; have n30 := hd.c0; have n31 := hd.c1; have HT := hid hd; clear hd)
      | fail)
    go_wp2_with fail
    go_ret2
    rw [HR.out]
    exact ⟨rfl, HE.out.below⟩

set_option maxRecDepth 100000 in
set_option maxHeartbeats 2000000 in
theorem specIsEvasive (V : Int) (a0 : Option Addr) (cap : Nat) (fs : List Int) (w : World) (hx : SlI w w.heap.size a0 fs) (hl : fs.length ≤ 1048576) :
    Calls Tryd.prog 19 #[.agg #[.int .i64 V, .slice a0 fs.length cap]] w fun e w' => e = .returned (.tuple #[.bool (evR V fs).1, .int .i64 (evR V fs).2]) ∧ Below w.heap.size w w' := by
  obtain ⟨W0, hW0⟩ : ∃ W0, W0 = w.alloc (.cells #[.int .i64 V, .slice a0 fs.length cap] 28) := ⟨_, rfl⟩
  have hB0 : Below w.heap.size w W0 := by rw [hW0]; exact (Below.refl _ w).alloc (Nat.le_refl _) _
  have Hk : Hid (W0.heap[w.heap.size]? = some (.cells #[.int .i64 V, .slice a0 fs.length cap] 28 (0, 0))) := hid (by rw [hW0]; exact heap_alloc_new _ _)
  have Hx := hid hx
  have HB0 := hid hB0
  have HI := hid (is_all V a0 cap fs W0 (hx.later hB0 hB0.size) hl)
  rw [hW0] at HI
  clear hx hB0
  cases hc : isCB V fs
  · have HR : Hid (evR V fs = (false, 1)) := hid (by unfold evR; rw [hc]; rfl)
    rw [hc] at HI
    clear hc
    go_enter Tryd.func19, Tryd.ntmps19
    go_wp2_with fail
    refine HI.out.mono ?_
    rintro e w1 ⟨rfl, hB1⟩
    rw [← hW0] at hB1
    go_wp2_with fail
    go_ret2
    rw [HR.out]
    exact ⟨rfl, HB0.out.trans (hB1.mono HB0.out.size)⟩
  · have hC := isCB_iff.1 hc
    have hlo := hC.lo
    have hhi := hC.hi
    have HR : Hid (evR V fs = (decide (need fs V.toNat V.toNat 0 0 = V.toNat), 0)) := hid (by unfold evR; rw [hc]; rfl)
    rw [hc] at HI
    obtain ⟨n, rfl⟩ : ∃ n : Nat, V = (n : Int) := ⟨V.toNat, by omega⟩
    rw [Int.toNat_natCast] at HR
    have HN := hid (fun g W (h : TabN (need fs n) n g (.slice a0 fs.length cap) w W) => (needS_any n a0 cap fs g hl n 0 0 W (h.sl Hx.out) (St.start (by omega)) h.tab).mono fun _ _ ⟨he, h'⟩ => And.intro he (h.step h'))
    have HTa := hid (fun W (hB : Below w.heap.size w W) hk => tableN_any (need fs n) n (.slice a0 fs.length cap) w W hB hk)
    obtain ⟨R, hR⟩ : ∃ R, R = need fs n n 0 0 := ⟨_, rfl⟩
    rw [← hR] at HR HN
    clear hc hC hR
    go_enter Tryd.func19, Tryd.ntmps19
    go_wp2_with fail
    refine HI.out.mono ?_
    rintro e w1 ⟨rfl, hB1⟩
    rw [← hW0] at hB1
    have Hk1 := hid ((hB1.block _ (lt_get Hk.out)).trans Hk.out)
    obtain ⟨k0, k1, _, _⟩ := two_of Hk1.out
    have HB1 := hid (HB0.out.trans (hB1.mono HB0.out.size))
    have HD : Hid (Below w.heap.size w w1.drew) := hid (HB1.out.trans ⟨rfl, rfl, rfl, Nat.le_refl _, fun _ _ => rfl⟩)
    clear hB1 hW0
    go_wp2_with fail
    go_region_held3 (fun w' => w'.cell? ⟨w.heap.size, 0, none⟩ = some (.int .i64 (n : Int)) ∧ w'.cell? ⟨w.heap.size, 1, none⟩ = some (.slice a0 fs.length cap)) (go_keep) (first
      | (go_at_call 49; have hz := HT.out; clear HT; refine (HN.out _ _ hz).mono ?_; rintro e w5 ⟨rfl, hd⟩; have n50 := hd.c0; have n51 := hd.c1; have HE := hid hd; clear hd hz)
      | (go_at_call 50; refine (HTa.out _ HD.out Hk1.out).mono ?_; rintro e w3 ⟨g, rfl, hd⟩; have n30 := hd.c0; have n31 := hd.c1; have HT := hid hd; clear hd)
      | fail)
    go_wp2_with fail
    go_ret2
    rw [HR.out]
    exact ⟨ret_twoG (by rw [Bool.eq_iff_iff]; simp; try omega), HE.out.below⟩

end Go.Proofs.YtgnahadlcihneaaDoor

/-! LeastEvaders, on both sides. -/
namespace Go.Proofs.YtgnahadlcihneaaDoor
open Go.RowKit Go.Sort

/-- What LeastEvaders answers. -/
noncomputable def leR (V : Int) (fs : List Int) : Int × Int := if isCB V fs then ((least fs V.toNat V.toNat 0 0 : Int), 0) else (0, 1)

set_option maxRecDepth 100000 in
set_option maxHeartbeats 2000000 in
theorem implLeastEvaders (V : Int) (a0 : Option Addr) (cap : Nat) (fs : List Int) (w : World) (hx : SlI w w.heap.size a0 fs) (hl : fs.length ≤ 1048576) (hW : HidW w) :
    Calls Tryd.prog 38 #[.agg #[.int .i64 V, .slice a0 fs.length cap]] w fun e w' => e = .returned (.tuple #[.int .i64 (leR V fs).1, .int .i64 (leR V fs).2]) ∧ Below w.heap.size w w' := by
  obtain ⟨W0, hW0⟩ : ∃ W0, W0 = w.alloc (.cells #[.int .i64 V, .slice a0 fs.length cap] 28) := ⟨_, rfl⟩
  have hB0 : Below w.heap.size w W0 := by rw [hW0]; exact (Below.refl _ w).alloc (Nat.le_refl _) _
  have Hk : Hid (W0.heap[w.heap.size]? = some (.cells #[.int .i64 V, .slice a0 fs.length cap] 28 (0, 0))) := hid (by rw [hW0]; exact heap_alloc_new _ _)
  have Hx := hid hx
  have HW := hid hW
  have HB0 := hid hB0
  have HI := hid (implIsComplex V a0 cap fs W0 (hx.later hB0 hB0.size) hl)
  rw [hW0] at HI
  clear hx hB0 hW
  cases hc : isCB V fs
  · have HR : Hid (leR V fs = (0, 1)) := hid (by unfold leR; rw [hc]; rfl)
    rw [hc] at HI
    clear hc
    go_enter Tryd.func38, Tryd.ntmps38
    go_wp2_with fail
    refine HI.out.mono ?_
    rintro e w1 ⟨rfl, hB1⟩
    rw [← hW0] at hB1
    go_wp2_with fail
    go_ret2
    rw [HR.out]
    exact ⟨rfl, HB0.out.trans (hB1.mono HB0.out.size)⟩
  · have hC := isCB_iff.1 hc
    have hlo := hC.lo
    have hhi := hC.hi
    have HC := hid hC
    have HR : Hid (leR V fs = ((least fs V.toNat V.toNat 0 0 : Int), 0)) := hid (by unfold leR; rw [hc]; rfl)
    rw [hc] at HI
    obtain ⟨n, rfl⟩ : ∃ n : Nat, V = (n : Int) := ⟨V.toNat, by omega⟩
    rw [Int.toNat_natCast] at HR
    obtain ⟨k, hkn⟩ : ∃ k, n = k + 1 := ⟨n - 1, by omega⟩
    have Hkn := hid hkn
    obtain ⟨R, hR⟩ : ∃ R, R = least fs n n 0 0 := ⟨_, rfl⟩
    rw [← hR] at HR
    have HRe := hid hR
    clear hc hC hR hkn
    go_enter Tryd.func38, Tryd.ntmps38
    go_wp2_with fail
    refine HI.out.mono ?_
    rintro e w1 ⟨rfl, hB1⟩
    rw [← hW0] at hB1
    obtain ⟨k0, k1, _, _⟩ := two_of ((hB1.block _ (lt_get Hk.out)).trans Hk.out)
    have HB1 := hid (HB0.out.trans (hB1.mono HB0.out.size))
    have r0 := cell_regrown k0
    have r1 := cell_regrown k1
    have Hq := hid (fun d os => HB1.out.trans ((below_regrown w1 d os).mono HB1.out.size))
    have C1 := hid (fun d os => Calls.regrown_of (game_any (n : Int) a0 cap fs (grow (redrawn w1 d) os) (Hx.out.later (Hq.out d os) (Hq.out d os).size) hl HC.out.range63))
    have C2 := hid (fun d os => Calls.regrown_of ((allH_any n (grow (redrawn w1 d) os) (by omega) (by omega)).mono fun _ _ ⟨he, hw⟩ => ⟨he, by rw [← hw]; exact Below.refl _ _⟩))
    have C3 := hid (fun d os => Calls.regrown_of (best_any fs n _ (gameC_is HC.out.range63) k (grow (redrawn w1 d) os) (HW.out.later (Hq.out d os) (Nat.le_refl _)) 0 0 _ (grow (redrawn w1 d) os) (by rw [← Hkn.out]; exact St.start (by omega)) (allL_is (by omega)) (Below.refl _ _)))
    rw [← Hkn.out, ← HRe.out] at C3
    obtain ⟨bq, hbq⟩ : ∃ b, b = bestTo fs n k 0 0 n := ⟨_, rfl⟩
    rw [← hbq] at C3
    obtain ⟨g, hg⟩ : ∃ g, g = gameC fs fs.length := ⟨_, rfl⟩
    obtain ⟨l, hll⟩ : ∃ l, l = allL n := ⟨_, rfl⟩
    rw [← hg] at C1 C3
    rw [← hll] at C2 C3
    clear hB1 k0 k1 hg hll hbq
    go_wp2_with fail
    refine wp_region_quiet_below (by kernel_rfl) (by kernel_rfl) ?_
    iterate 1 (with_reducible refine wpQuiet_step (fun K hK => ?_); have HK := hid hK; clear hK; go_simp; (first | with_reducible refine HK.out _ ?_ | (rw [if_neg (by decide)]; with_reducible refine HK.out _ ?_)); clear HK K)
    (with_reducible refine wpQuiet_step (fun K hK => ?_); have HK := hid hK; clear hK; go_simp; apply Exists.intro; with_reducible refine ⟨fun _ => ?_, HK.out _ ?_⟩; exact C1.out _ _; clear HK K)
    iterate 2 (with_reducible refine wpQuiet_step (fun K hK => ?_); have HK := hid hK; clear hK; go_simp; (first | with_reducible refine HK.out _ ?_ | (rw [if_neg (by decide)]; with_reducible refine HK.out _ ?_)); clear HK K)
    (with_reducible refine wpQuiet_step (fun K hK => ?_); have HK := hid hK; clear hK; go_simp; apply Exists.intro; with_reducible refine ⟨fun _ => ?_, HK.out _ ?_⟩; exact C2.out _ _; clear HK K)
    (with_reducible refine wpQuiet_step (fun K hK => ?_); have HK := hid hK; clear hK; go_simp; apply Exists.intro; with_reducible refine ⟨fun _ => ?_, HK.out _ ?_⟩; exact C3.out _ _; clear HK K)
    iterate 5 (with_reducible refine wpQuiet_step (fun K hK => ?_); have HK := hid hK; clear hK; go_simp; (first | with_reducible refine HK.out _ ?_ | (rw [if_neg (by decide)]; with_reducible refine HK.out _ ?_)); clear HK K)
    with_reducible refine wpQuiet_nil ?_
    intro _ hw'
    obtain ⟨⟨dq, osq⟩, hw''⟩ := hw'
    subst hw''
    go_wp2_with fail
    go_ret2
    rw [HR.out]
    exact ⟨rfl, Hq.out _ _⟩

set_option maxRecDepth 100000 in
set_option maxHeartbeats 2000000 in
theorem specLeastEvaders (V : Int) (a0 : Option Addr) (cap : Nat) (fs : List Int) (w : World) (hx : SlI w w.heap.size a0 fs) (hl : fs.length ≤ 1048576) :
    Calls Tryd.prog 37 #[.agg #[.int .i64 V, .slice a0 fs.length cap]] w fun e w' => e = .returned (.tuple #[.int .i64 (leR V fs).1, .int .i64 (leR V fs).2]) ∧ Below w.heap.size w w' := by
  obtain ⟨W0, hW0⟩ : ∃ W0, W0 = w.alloc (.cells #[.int .i64 V, .slice a0 fs.length cap] 28) := ⟨_, rfl⟩
  have hB0 : Below w.heap.size w W0 := by rw [hW0]; exact (Below.refl _ w).alloc (Nat.le_refl _) _
  have Hk : Hid (W0.heap[w.heap.size]? = some (.cells #[.int .i64 V, .slice a0 fs.length cap] 28 (0, 0))) := hid (by rw [hW0]; exact heap_alloc_new _ _)
  have Hx := hid hx
  have HB0 := hid hB0
  have HI := hid (is_all V a0 cap fs W0 (hx.later hB0 hB0.size) hl)
  rw [hW0] at HI
  clear hx hB0
  cases hc : isCB V fs
  · have HR : Hid (leR V fs = (0, 1)) := hid (by unfold leR; rw [hc]; rfl)
    rw [hc] at HI
    clear hc
    go_enter Tryd.func37, Tryd.ntmps37
    go_wp2_with fail
    refine HI.out.mono ?_
    rintro e w1 ⟨rfl, hB1⟩
    rw [← hW0] at hB1
    go_wp2_with fail
    go_ret2
    rw [HR.out]
    exact ⟨rfl, HB0.out.trans (hB1.mono HB0.out.size)⟩
  · have hC := isCB_iff.1 hc
    have hlo := hC.lo
    have hhi := hC.hi
    have HR : Hid (leR V fs = ((least fs V.toNat V.toNat 0 0 : Int), 0)) := hid (by unfold leR; rw [hc]; rfl)
    rw [hc] at HI
    obtain ⟨n, rfl⟩ : ∃ n : Nat, V = (n : Int) := ⟨V.toNat, by omega⟩
    rw [Int.toNat_natCast] at HR
    have HN := hid (fun g W (h : TabN (least fs n) n g (.slice a0 fs.length cap) w W) => (leastS_any n a0 cap fs g hl n 0 0 W (h.sl Hx.out) (St.start (by omega)) h.tab).mono fun _ _ ⟨he, h'⟩ => And.intro he (h.step h'))
    have HTa := hid (fun W (hB : Below w.heap.size w W) hk => tableN_any (least fs n) n (.slice a0 fs.length cap) w W hB hk)
    obtain ⟨R, hR⟩ : ∃ R, R = least fs n n 0 0 := ⟨_, rfl⟩
    rw [← hR] at HR HN
    clear hc hC hR
    go_enter Tryd.func37, Tryd.ntmps37
    go_wp2_with fail
    refine HI.out.mono ?_
    rintro e w1 ⟨rfl, hB1⟩
    rw [← hW0] at hB1
    have Hk1 := hid ((hB1.block _ (lt_get Hk.out)).trans Hk.out)
    obtain ⟨k0, k1, _, _⟩ := two_of Hk1.out
    have HB1 := hid (HB0.out.trans (hB1.mono HB0.out.size))
    have HD : Hid (Below w.heap.size w w1.drew) := hid (HB1.out.trans ⟨rfl, rfl, rfl, Nat.le_refl _, fun _ _ => rfl⟩)
    clear hB1 hW0
    go_wp2_with fail
    go_region_held3 (fun w' => w'.cell? ⟨w.heap.size, 0, none⟩ = some (.int .i64 (n : Int)) ∧ w'.cell? ⟨w.heap.size, 1, none⟩ = some (.slice a0 fs.length cap)) (go_keep) (first
      | (go_at_call 72; have hz := HT.out; clear HT; refine (HN.out _ _ hz).mono ?_; rintro e w5 ⟨rfl, hd⟩; have n50 := hd.c0; have n51 := hd.c1; have HE := hid hd; clear hd hz)
      | (go_at_call 50; refine (HTa.out _ HD.out Hk1.out).mono ?_; rintro e w3 ⟨g, rfl, hd⟩; have n30 := hd.c0; have n31 := hd.c1; have HT := hid hd; clear hd)
      | fail)
    go_wp2_with fail
    go_ret2
    rw [HR.out]
    exact ⟨rfl, HE.out.below⟩


end Go.Proofs.YtgnahadlcihneaaDoor

/-! What a complex that comes in is told as, for the rows of all laws. -/
namespace Go.Proofs.YtgnahadlcihneaaDoor
open Go.ChangeShapes Go.WideShapes Go.ChangeAt Go.RowKit Go.Joins

theorem own : ownKnob Tryd.prog.godebug = none := by kernel_rfl
theorem laidOut : laidOutB Tryd.prog = true := by kernel_rfl

variable {H : Type} {enc : TypeId × Value → H}

/-- A slice of int64 that came in. -/
theorem slI_of_trod {W : World} {n : Nat} {v : Value} {y : DataW H × List MemPlace} (hf : DataW.trod enc Tryd.prog W 0 (fun _ => true) true n 22 [v] = some y) :
    ∃ a len cap xs, v = .slice a len cap ∧ xs.length = len ∧ len ≤ 9223372036854775807 ∧ SlI W W.heap.size a xs ∧ ∀ x ∈ xs, (Lit.int .i64 x).wf = true := by
  rcases open_ints Tryd.underlying22 Tryd.underlying2 (by kernel_rfl) hf with ⟨hcs, _⟩ | ⟨x, l, c, zs, hcs, _, hl, hm, hz, _, hcell, hwf⟩
  · simp at hcs
    subst hcs
    exact ⟨none, 0, 0, [], rfl, rfl, by omega, .inl rfl, by simp⟩
  · simp at hcs
    subst hcs
    simp at hz
    have hlen : (zs.take l).length = l := by simp; omega
    unfold maxLen at hm
    refine ⟨some x, l, c, zs.take l, rfl, hlen, by omega, ?_, fun y hy => hwf y (List.mem_of_mem_take hy)⟩
    by_cases h0 : l = 0
    · subst h0; exact .inl (by simp)
    · right
      obtain ⟨b, off, spot⟩ := x
      have hc0 := hcell 0 (by omega)
      have hspot : spot = none := by simpa [Addr.add] using World.cell?_spot hc0
      subst hspot
      refine ⟨b, off, ?_, rfl, fun i hi => ?_⟩
      · have := World.block_lt_of_cell? W _ hc0
        simpa [Addr.add] using this
      · rw [hlen] at hi
        have := hcell i (by omega)
        have hadd : (⟨b, off, none⟩ : Addr).add i = ⟨b, off + i, none⟩ := by unfold Addr.add; split <;> simp_all
        rw [hadd] at this
        rw [List.getElem?_take, if_pos hi]
        simpa using this

end Go.Proofs.YtgnahadlcihneaaDoor

/-! What the listed variables hold, for the rows of tied cards. -/
namespace Go.Proofs.YtgnahadlcihneaaDoor
open Go.ChangeShapes Go.WideShapes Go.ChangeAt Go.RowKit Go.Joins

theorem starErr : "*" ++ "errors.errorString" = "*errors.errorString" := by decide
theorem rowErr (u : TypeId) (h : Tryd.prog.typeName? 3 u = some "*errors.errorString") : u = 143 :=
  typeName_ptr_named (nm := "errors.errorString") (by rw [starErr]; kernel_rfl) (by kernel_rfl) (by decide) u (by rw [starErr]; exact h)

theorem gChain : Tryd.prog.globalNamed "loop.example/g01348/impl.errNoChain" = some 2 := by kernel_rfl
theorem tChain : (Tryd.prog.globals[2]?).map (·.type) = some 100 := by kernel_rfl
theorem sentChain {W : World} (h : laidMet Tryd.prog [("loop.example/g01348/impl.errNoChain", Rows.laid_loop_example_g01348_impl_errNoChain)] W) : ∃ pv, W.cell? ⟨2, 0, none⟩ = some (.iface 143 pv) := by
  unfold Rows.laid_loop_example_g01348_impl_errNoChain at h
  obtain ⟨a, s, hv, _, _, _⟩ := laid_sentinel h gChain tChain Tryd.underlying100 rowErr Tryd.underlying143 Tryd.underlying160 rfl rfl Tryd.underlying9 (by kernel_rfl) (by kernel_rfl)
  exact ⟨_, by simpa using World.var?_cell gChain hv 0⟩

theorem gTree : Tryd.prog.globalNamed "loop.example/g01348/impl.errNoTree" = some 1 := by kernel_rfl
theorem tTree : (Tryd.prog.globals[1]?).map (·.type) = some 100 := by kernel_rfl
theorem sentTree {W : World} (h : laidMet Tryd.prog [("loop.example/g01348/impl.errNoTree", Rows.laid_loop_example_g01348_impl_errNoTree)] W) : ∃ pv, W.cell? ⟨1, 0, none⟩ = some (.iface 143 pv) := by
  unfold Rows.laid_loop_example_g01348_impl_errNoTree at h
  obtain ⟨a, s, hv, _, _, _⟩ := laid_sentinel h gTree tTree Tryd.underlying100 rowErr Tryd.underlying143 Tryd.underlying160 rfl rfl Tryd.underlying9 (by kernel_rfl) (by kernel_rfl)
  exact ⟨_, by simpa using World.var?_cell gTree hv 0⟩

end Go.Proofs.YtgnahadlcihneaaDoor

/-! What the table of the hidden sets holds, for the rows of tied cards. -/
namespace Go.Proofs.YtgnahadlcihneaaDoor
open Go.ChangeShapes Go.WideShapes Go.ChangeAt Go.RowKit Go.Joins

def hidZ : List Int := [12297829382473034410, 14757395258967641292, 17361641481138401520, 18374966859414961920, 18446462603027742720, 18446744069414584320]
theorem gHid : Tryd.prog.globalNamed "loop.example/g01348/impl.hiddenWith" = some 0 := by kernel_rfl
theorem tHid : (Tryd.prog.globals[0]?).map (·.type) = some 112 := by kernel_rfl
theorem hidW_of {W : World} (h : Lib.TabIs Tryd.prog W "loop.example/g01348/impl.hiddenWith" .u64 hidZ) : HidW W := fun i hi => by
  have := h.cell gHid i (by unfold hidZ; simpa using hi)
  rw [this]
  match i, hi with
  | 0, _ => rfl
  | 1, _ => rfl
  | 2, _ => rfl
  | 3, _ => rfl
  | 4, _ => rfl
  | 5, _ => rfl
theorem sentHid {W : World} {rest : List (String × DataW Unit)} (h : laidMet Tryd.prog (("loop.example/g01348/impl.hiddenWith", Rows.laid_loop_example_g01348_impl_hiddenWith) :: rest) W) : HidW W :=
  hidW_of (Lib.tabIs_of_head (zs := hidZ) gHid tHid Tryd.underlying112 Tryd.underlying56 (by kernel_rfl) (by kernel_rfl) h)

end Go.Proofs.YtgnahadlcihneaaDoor

/-! Contracts of the laws' small helpers: sizes, copies, comparisons. -/
namespace Go.Proofs.YtgnahadlcihneaaDoor
open Go.RowKit

theorem fill_step {xs : List Int} {k : Nat} (h : k < xs.length) :
    ((xs.take k ++ List.replicate (xs.length - k) (0 : Int)).map (Value.int .i64)).set k (.int .i64 (xs[k]?.getD 0)) = (xs.take (k + 1) ++ List.replicate (xs.length - (k + 1)) (0 : Int)).map (Value.int .i64) := by
  rw [take_snoc h, ← List.map_set]
  congr 1
  have e : xs.length - k = (xs.length - (k + 1)) + 1 := by omega
  rw [e, List.replicate_succ, List.set_append_right _ _ (by simp <;> omega)]
  simp [Nat.min_eq_left (Nat.le_of_lt h)]

set_option maxHeartbeats 400000 in
theorem toInts (a : Option Addr) (cap : Nat) (xs : List Int) (w : World) (hx : SlI w w.heap.size a xs) (hl : xs.length ≤ 1048576) :
    Calls Tryd.prog 22 #[.slice a xs.length cap] w fun e w' =>
      e = .returned (.slice (some ⟨w.heap.size, 0, none⟩) xs.length xs.length) ∧ w'.ownsRow w.heap.size 2 1 (.slice (some ⟨w.heap.size, 0, none⟩) xs.length xs.length) xs.length (xs.map (Value.int .i64)) ∧ Below w.heap.size w w' := by
  go_enter Tryd.func22, Tryd.ntmps22
  go_wp2_with (at_make; refine make_int rfl rfl rfl rfl (by omega) ?_; intro w1 hown hg hB)
  rcases hx with rfl | ⟨b, off, hb, rfl, hc⟩
  · refine wp_loop_rounds 1 ?_; rw [rounds_succ]
    go_wp2
    go_ret
    exact ⟨rfl, hown, hB⟩
  · go_loopw [4] (fun i wr => ∃ k : Nat, k ≤ xs.length ∧ i = .int .i64 k ∧ wr.ownsRow w.heap.size 2 1 (.slice (some ⟨w.heap.size, 0, none⟩) xs.length xs.length) xs.length ((xs.take k ++ List.replicate (xs.length - k) (0 : Int)).map (Value.int .i64)) ∧ Below w.heap.size w wr) (fun i _ => xs.length - (intOf i).toNat)
    case atStart => exact ⟨0, Nat.zero_le _, rfl, by simpa using hown, hB⟩
    case round =>
      obtain ⟨k, hk, rfl, hown, hB⟩ := hrel
      by_cases hlt : k < xs.length
      · obtain ⟨x, hx⟩ : ∃ x, x = xs[k]?.getD 0 := ⟨_, rfl⟩
        have hck : wr.cell? ⟨b, off + k, none⟩ = some (.int .i64 x) := by rw [hx]; exact (hB.cell (p := ⟨b, off + k, none⟩) hb).trans (hc k hlt)
        have hcg : wr.cell? ⟨w.heap.size, k, none⟩ = some (.int .i64 0) := by
          rw [hown.cellAt k (by omega)]
          rw [List.getElem?_map, List.getElem?_append_right (by simp <;> omega)]
          simp [List.getElem?_replicate, Nat.min_eq_left hk]
          omega
        have hfg := hown.frozenAt k
        have Hx := hid hx
        have Hc := hid hc
        clear hx hc
        have hst := hown.stored k (.int .i64 x)
        have Hst := hid hst.1
        clear hst
        go_wp2
        go_roundw
        case rel =>
          refine ⟨k + 1, by omega, by go_num, ?_, hB.setCell (p := ⟨w.heap.size, k, none⟩) (Nat.le_refl _) _⟩
          have h := Hst.out
          rw [Hx.out, fill_step hlt, ← Hx.out] at h
          exact h
        case measure => simp [intOf]; omega
      · go_wp2
        go_ret
        obtain rfl : k = xs.length := by omega
        exact ⟨rfl, by simpa using hown, hB⟩

/-- What is left of a size. -/
def szR (left : Int) (n : Nat) : Int := if left < n then -1 else left - n
theorem szR_big {left : Int} {n : Nat} (h : left < n) : szR left n = -1 := by unfold szR; rw [if_pos h]
theorem szR_fit {left : Int} {n : Nat} (h : ¬ left < n) : szR left n = left - n := by unfold szR; rw [if_neg h]

set_option maxHeartbeats 400000 in
theorem szInts (a : Option Addr) (n cap : Nat) (left : Int) (w : World) (h1 : 0 ≤ left) (h2 : left ≤ 1048576) (hn : n ≤ 9223372036854775807) :
    Calls Tryd.prog 47 #[.slice a n cap, .int .i64 left] w fun e w' => e = .returned (.int .i64 (szR left n)) ∧ w = w' := by
  by_cases h : left < n
  · have H := hid (szR_big h)
    go_enter Tryd.func47, Tryd.ntmps47
    go_wp2
    go_ret
    exact ⟨ret_int (by rw [H.out]), rfl⟩
  · have H := hid (szR_fit h)
    go_enter Tryd.func47, Tryd.ntmps47
    go_wp2
    go_ret
    exact ⟨ret_int (by rw [H.out]), rfl⟩

set_option maxHeartbeats 400000 in
theorem szCx (V : Int) (a : Option Addr) (n cap : Nat) (left : Int) (w : World) (h1 : 0 ≤ left) (h2 : left ≤ 1048576) (hn : n ≤ 9223372036854775807) :
    Calls Tryd.prog 14 #[.agg #[.int .i64 V, .slice a n cap], .int .i64 left] w fun e w' => e = .returned (.int .i64 (szR left n)) ∧ Below w.heap.size w w' := by
  have hr : szR left n = -1 ∨ 0 ≤ szR left n := by
    by_cases h : left < n
    · exact .inl (szR_big h)
    · rw [szR_fit h]; right; omega
  have hr' : szR left n < 0 ∨ 0 ≤ szR left n := by omega
  have hm : szR left n < 0 → szR left n = -1 := by omega
  have Hm := hid hm
  clear hr hm
  obtain ⟨r, hr0⟩ : ∃ r, r = szR left n := ⟨_, rfl⟩
  rw [← hr0] at hr'
  have hr := hr'
  have H := hid hr0
  clear hr0 hr'
  go_enter Tryd.func14, Tryd.ntmps14
  go_wp2_with fail
  refine (szInts a n cap left _ h1 h2 hn).mono ?_
  rintro e w' ⟨rfl, rfl⟩
  rw [← H.out]
  rcases hr with hr | hr
  · go_wp2
    go_ret
    exact ⟨ret_int (Hm.out (by rw [← H.out]; exact hr)).symm, (Below.refl _ w).alloc (Nat.le_refl _) _⟩
  · go_wp2
    go_ret
    exact ⟨ret_int H.out, (Below.refl _ w).alloc (Nat.le_refl _) _⟩

set_option maxHeartbeats 400000 in
theorem toCx (V : Int) (a : Option Addr) (cap : Nat) (xs : List Int) (w : World) (hx : SlI w w.heap.size a xs) (hl : xs.length ≤ 1048576) :
    Calls Tryd.prog 16 #[.agg #[.int .i64 V, .slice a xs.length cap]] w fun e w' =>
      ∃ g, e = .returned (.agg #[.int .i64 V, .slice (some ⟨g, 0, none⟩) xs.length xs.length]) ∧ w'.ownsRow w.heap.size 2 1 (.slice (some ⟨g, 0, none⟩) xs.length xs.length) xs.length (xs.map (Value.int .i64)) ∧ Below w.heap.size w w' := by
  go_enter Tryd.func16, Tryd.ntmps16
  go_wp2_with fail
  refine (toInts a cap xs _ (SlI.later hx (?hb : Below w.heap.size w _) ?hs) hl).mono ?_
  case hb => repeat (first | exact Below.refl _ _ | refine Below.alloc ?_ (by simp <;> omega) _ | refine Below.setCell ?_ (by simp <;> omega) _)
  case hs => simp <;> omega
  rintro e w1 ⟨rfl, hown, hB⟩
  have hB1 : Below w.heap.size w w1 := Below.trans (by repeat (first | exact Below.refl _ _ | refine Below.alloc ?_ (by simp <;> omega) _ | refine Below.setCell ?_ (by simp <;> omega) _)) (hB.mono (by simp <;> omega))
  have e0 : w1.cell? ⟨w.heap.size + 1 + 1, 0, none⟩ = some (.int .i64 V) := (hB.cell (p := ⟨w.heap.size + 1 + 1, 0, none⟩) (by simp)).trans (by simp [go_sem])
  have e1 : w1.cell? ⟨w.heap.size + 1 + 1, 1, none⟩ = some (.slice none 0 0) := (hB.cell (p := ⟨w.heap.size + 1 + 1, 1, none⟩) (by simp)).trans (by simp [go_sem])
  have e2 : w1.cell? ⟨w.heap.size + 1, 0, none⟩ = some (.int .i64 0) := (hB.cell (p := ⟨w.heap.size + 1, 0, none⟩) (by simp)).trans (by simp [go_sem])
  have e3 : w1.cell? ⟨w.heap.size + 1, 1, none⟩ = some (.slice none 0 0) := (hB.cell (p := ⟨w.heap.size + 1, 1, none⟩) (by simp)).trans (by simp [go_sem])
  have g1 : w1.frozen? ⟨w.heap.size + 1 + 1, 1, none⟩ = false := (hB.frozen (p := ⟨w.heap.size + 1 + 1, 1, none⟩) (by simp)).trans (by simp [go_sem])
  have g2 : w1.frozen? ⟨w.heap.size + 1, 0, none⟩ = false := (hB.frozen (p := ⟨w.heap.size + 1, 0, none⟩) (by simp)).trans (by simp [go_sem])
  have g3 : w1.frozen? ⟨w.heap.size + 1, 1, none⟩ = false := (hB.frozen (p := ⟨w.heap.size + 1, 1, none⟩) (by simp)).trans (by simp [go_sem])
  have hs1 := hB.size
  simp at hs1
  have Hown := hid (hown)
  clear hown
  go_wp2_with fail
  refine bodyPost_ret (v := .agg #[.int .i64 V, .slice (some ⟨w.heap.size + 1 + 1 + 1, 0, none⟩) xs.length xs.length]) (by simp [results, Tryd.results16, go_sem, e2, e3]) rfl ⟨w.heap.size + 1 + 1 + 1, rfl, ?_, ?_⟩
  · have h := Hown.out
    simp only [World.size_alloc] at h
    refine ownsRow_set (ownsRow_set (ownsRow_set (ownsRow_base h (by omega)) ?_ _) ?_ _) ?_ _ <;> (simp [Value.ownBlock] <;> omega)
  · exact ((hB1.setCell (by simp; omega) _).setCell (by simp) _).setCell (by simp) _

set_option maxHeartbeats 400000 in
theorem eqInts_any (a1 a2 : Option Addr) (c1 c2 : Nat) (xs ys : List Int) (w : World) (hx : SlI w w.heap.size a1 xs) (hy : SlI w w.heap.size a2 ys) (hl : xs.length ≤ 1048576) (hl2 : ys.length ≤ 1048576) :
    Calls Tryd.prog 24 #[.slice a1 xs.length c1, .slice a2 ys.length c2] w fun e w' => e = .returned (.bool (decide (xs = ys))) ∧ Below w.heap.size w w' := by
  by_cases hlen : xs.length = ys.length
  · rcases hx with rfl | ⟨b, off, hb, rfl, hc⟩
    · obtain rfl : ys = [] := List.eq_nil_of_length_eq_zero hlen.symm
      go_enter Tryd.func24, Tryd.ntmps24
      go_wp2
      refine wp_loop_rounds 1 ?_; rw [rounds_succ]
      go_wp2
      go_ret
      exact ⟨ret_bool (by simp), Below.refl _ _⟩
    · rcases hy with rfl | ⟨b2, off2, hb2, rfl, hc2⟩
      · obtain rfl : xs = [] := List.eq_nil_of_length_eq_zero hlen
        go_enter Tryd.func24, Tryd.ntmps24
        go_wp2
        refine wp_loop_rounds 1 ?_; rw [rounds_succ]
        go_wp2
        go_ret
        exact ⟨ret_bool (by simp), Below.refl _ _⟩
      · have Hc := hid hc
        have Hc2 := hid hc2
        have hne : ((xs.length : Int) != (ys.length : Int)) = false := by simp [hlen]
        have Hlen := hid hlen
        have hle : xs.length ≤ ys.length := by omega
        clear hc hc2 hlen
        go_enter Tryd.func24, Tryd.ntmps24
        go_wp2
        go_loopw [5] (fun i wr => ∃ k : Nat, k ≤ xs.length ∧ i = .int .i64 k ∧ Hid (∀ j, j < k → xs[j]?.getD 0 = ys[j]?.getD 0) ∧ Below w.heap.size w wr) (fun i _ => xs.length - (intOf i).toNat)
        case atStart => exact ⟨0, Nat.zero_le _, rfl, hid (by omega), Below.refl _ _⟩
        case round =>
          obtain ⟨k, hk, rfl, Hk, hB⟩ := hrel
          by_cases hlt : k < xs.length
          · obtain ⟨x, hx⟩ : ∃ x, x = xs[k]?.getD 0 := ⟨_, rfl⟩
            obtain ⟨y, hy⟩ : ∃ y, y = ys[k]?.getD 0 := ⟨_, rfl⟩
            have hck : wr.cell? ⟨b, off + k, none⟩ = some (.int .i64 x) := by rw [hx]; exact (hB.cell (p := ⟨b, off + k, none⟩) hb).trans (Hc.out k hlt)
            have hck2 : wr.cell? ⟨b2, off2 + k, none⟩ = some (.int .i64 y) := by rw [hy]; exact (hB.cell (p := ⟨b2, off2 + k, none⟩) hb2).trans (Hc2.out k (by omega))
            have Hx := hid hx
            have Hy := hid hy
            clear hx hy
            have hi0 : (0 : Int) ≤ (k : Int) := by omega
            have hi1 : (k : Int) < (xs.length : Int) := by omega
            have hi2 : (k : Int) < (ys.length : Int) := by omega
            by_cases hxy : x = y
            · have hd : (x != y) = false := by simp [hxy]
              have Hxy := hid hxy
              clear hxy
              go_wp2_with fail
              go_quiet (fail)
              go_wp2_with fail
              go_roundw
              case rel =>
                refine ⟨k + 1, by omega, by go_num, hid (fun j hj => ?_), hB.trans ⟨rfl, rfl, rfl, Nat.le_refl _, fun _ _ => rfl⟩⟩
                by_cases hjk : j < k
                · exact Hk.out j hjk
                · obtain rfl : j = k := by omega
                  rw [← Hx.out, ← Hy.out, Hxy.out]
              case measure => simp [intOf]; omega
            · have hd : (x != y) = true := by simp [hxy]
              go_wp2_with fail
              go_quiet (fail)
              go_wp2_with fail
              go_ret
              refine ⟨ret_bool ?_, hB.trans ⟨rfl, rfl, rfl, Nat.le_refl _, fun _ _ => rfl⟩⟩
              symm
              refine decide_eq_false (fun h => hxy ?_)
              rw [Hx.out, Hy.out, h]
          · obtain rfl : k = xs.length := by omega
            go_wp2
            go_ret
            refine ⟨ret_bool ?_, hB⟩
            symm
            refine decide_eq_true (List.ext_getElem Hlen.out (fun j h1 h2 => ?_))
            have := Hk.out j h1
            rw [List.getElem?_eq_getElem h1, List.getElem?_eq_getElem h2] at this
            simpa using this
  · have hne : ((xs.length : Int) != (ys.length : Int)) = true := by simp; omega
    have Hlen := hid hlen
    clear hlen
    go_enter Tryd.func24, Tryd.ntmps24
    go_wp2
    go_ret
    refine ⟨ret_bool ?_, Below.refl _ _⟩
    symm
    exact decide_eq_false (fun h => Hlen.out (by rw [h]))

theorem eqInts_yes (a1 a2 : Option Addr) (c1 c2 : Nat) (xs ys : List Int) (w : World) (hx : SlI w w.heap.size a1 xs) (hy : SlI w w.heap.size a2 ys) (hl : xs.length ≤ 1048576) (hl2 : ys.length ≤ 1048576) (h : xs = ys) :
    Calls Tryd.prog 24 #[.slice a1 xs.length c1, .slice a2 ys.length c2] w fun e w' => e = .returned (.bool true) ∧ Below w.heap.size w w' :=
  (eqInts_any a1 a2 c1 c2 xs ys w hx hy hl hl2).mono fun _ _ ⟨he, hw⟩ => ⟨by rw [he, decide_eq_true h], hw⟩

theorem eqInts_no (a1 a2 : Option Addr) (c1 c2 : Nat) (xs ys : List Int) (w : World) (hx : SlI w w.heap.size a1 xs) (hy : SlI w w.heap.size a2 ys) (hl : xs.length ≤ 1048576) (hl2 : ys.length ≤ 1048576) (h : ¬ xs = ys) :
    Calls Tryd.prog 24 #[.slice a1 xs.length c1, .slice a2 ys.length c2] w fun e w' => e = .returned (.bool false) ∧ Below w.heap.size w w' :=
  (eqInts_any a1 a2 c1 c2 xs ys w hx hy hl hl2).mono fun _ _ ⟨he, hw⟩ => ⟨by rw [he, decide_eq_false h], hw⟩

set_option maxHeartbeats 400000 in
theorem eqCx_yes (V : Int) (a1 a2 : Option Addr) (c1 c2 : Nat) (xs ys : List Int) (w : World) (hx : SlI w w.heap.size a1 xs) (hy : SlI w w.heap.size a2 ys) (hl : xs.length ≤ 1048576) (hl2 : ys.length ≤ 1048576) (h : xs = ys) :
    Calls Tryd.prog 18 #[.agg #[.int .i64 V, .slice a1 xs.length c1], .agg #[.int .i64 V, .slice a2 ys.length c2]] w fun e w' => e = .returned (.bool true) ∧ Below w.heap.size w w' := by
  have H := hid h
  clear h
  have hne : (V != V) = false := by simp
  go_enter Tryd.func18, Tryd.ntmps18
  go_wp2_with fail
  have hB : Below w.heap.size w ((w.alloc (.cells #[.int .i64 V, .slice a1 xs.length c1] 28)).alloc (.cells #[.int .i64 V, .slice a2 ys.length c2] 28)) := ((Below.refl _ w).alloc (Nat.le_refl _) _).alloc (by simp) _
  refine (eqInts_yes a1 a2 c1 c2 xs ys _ (SlI.later hx hB (by simp <;> omega)) (SlI.later hy hB (by simp <;> omega)) hl hl2 H.out).mono ?_
  rintro e w' ⟨rfl, hb⟩
  go_wp2_with fail
  go_ret
  exact ⟨rfl, hB.trans (hb.mono (by simp <;> omega))⟩

end Go.Proofs.YtgnahadlcihneaaDoor

/-! Marks: what the laws write into results, and find again. -/
namespace Go.Proofs.YtgnahadlcihneaaDoor
open Go.RowKit

/-- k, k + 1, .. -/
def count (k : Int) : Nat → List Int
  | 0 => []
  | n + 1 => count k n ++ [k + n]

theorem count_len (k : Int) : ∀ n, (count k n).length = n
  | 0 => rfl
  | n + 1 => by simp [count, count_len k n]

theorem count_get (k : Int) : ∀ n i, i < n → (count k n)[i]?.getD 0 = k + i
  | 0, i, h => by omega
  | n + 1, i, h => by
    unfold count
    by_cases hi : i < n
    · rw [List.getElem?_append_left (by rw [count_len]; exact hi)]
      exact count_get k n i hi
    · obtain rfl : i = n := by omega
      rw [List.getElem?_append_right (by rw [count_len]; omega), count_len]
      simp

theorem mark_step {k : Int} {xs : List Int} {j : Nat} (h : j < xs.length) :
    ((count k j ++ xs.drop j).map (Value.int .i64)).set j (.int .i64 (k + j)) = (count k (j + 1) ++ xs.drop (j + 1)).map (Value.int .i64) := by
  rw [← List.map_set]
  congr 1
  rw [List.set_append_right _ _ (by rw [count_len]; exact Nat.le_refl _), count_len, Nat.sub_self]
  rw [List.drop_eq_getElem_cons h, List.set_cons_zero]
  simp [count]

set_option maxHeartbeats 400000 in
theorem markInts (base : Nat) (a : Option Addr) (cap : Nat) (xs : List Int) (k : Int) (w : World) (hown : w.ownsRow base 2 1 (.slice a xs.length cap) xs.length (xs.map (Value.int .i64))) (hl : xs.length ≤ 1048576) (h0 : 0 ≤ k) (h1 : k ≤ 1099511627776) :
    Calls Tryd.prog 28 #[.slice a xs.length cap, .int .i64 k] w fun e w' => e = .returned (.int .i64 (k + xs.length)) ∧
      w'.ownsRow base 2 1 (.slice a xs.length cap) xs.length ((count k xs.length).map (Value.int .i64)) ∧ w.grownBy w' (Value.ownBlock (.slice a xs.length cap)) := by
  rcases hown.2 with ⟨hv, hn⟩ | ⟨g, cap', cur, hv, hb, hg, rest⟩
  · obtain rfl : xs = [] := List.eq_nil_of_length_eq_zero hn
    have Hown := hid hown
    clear hown hv hn
    go_enter Tryd.func28, Tryd.ntmps28
    go_wp2
    refine wp_loop_rounds 1 ?_; rw [rounds_succ]
    go_wp2
    go_ret
    exact ⟨ret_int (by simp), Hown.out, ⟨rfl, rfl, rfl, Nat.le_refl _, fun _ _ _ => rfl⟩⟩
  · cases hv
    have Hg := hid (And.intro hb hg)
    clear hb hg rest
    go_enter Tryd.func28, Tryd.ntmps28
    go_wp2
    go_loopw [1, 5] (fun m i wr => ∃ j : Nat, j ≤ xs.length ∧ i = .int .i64 j ∧ m = .int .i64 (k + j) ∧ wr.ownsRow base 2 1 (.slice (some ⟨g, 0, none⟩) xs.length cap) xs.length ((count k j ++ xs.drop j).map (Value.int .i64)) ∧ w.grownBy wr (some g)) (fun _ i _ => xs.length - (intOf i).toNat)
    case atStart => exact ⟨0, Nat.zero_le _, rfl, by simp, by simpa [count] using hown, ⟨rfl, rfl, rfl, Nat.le_refl _, fun _ _ _ => rfl⟩⟩
    case round =>
      obtain ⟨j, hj, rfl, rfl, hown, hgr⟩ := hrel
      by_cases hlt : j < xs.length
      · have hcg : ∃ u, wr.cell? ⟨g, j, none⟩ = some (.int .i64 u) := by
          rw [hown.cellAt j (by omega)]
          refine ⟨xs[j]?.getD 0, ?_⟩
          rw [List.getElem?_map, List.getElem?_append_right (by rw [count_len]; exact Nat.le_refl _), count_len, Nat.sub_self]
          simp [hlt]
        obtain ⟨u, hcu⟩ := hcg
        have hfg := hown.frozenAt j
        have hst := hown.stored j (.int .i64 (k + j))
        rw [mark_step hlt] at hst
        have Hst := hid hst
        have Hgr := hid hgr
        clear hst hown hgr
        go_wp2
        go_roundw
        case rel =>
          exact ⟨j + 1, by omega, by go_num, by go_num, Hst.out.1, Hgr.out.trans Hst.out.2⟩
        case measure => simp [intOf]; omega
      · go_wp2
        go_ret
        obtain rfl : j = xs.length := by omega
        exact ⟨rfl, by simpa using hown, hgr⟩

set_option maxHeartbeats 400000 in
theorem heldInts (a : Option Addr) (cap : Nat) (n : Nat) (xs : List Int) (k : Int) (w : World) (hxs : xs = count k n) (hx : SlI w w.heap.size a xs) (hl : n ≤ 1048576) (h0 : 0 ≤ k) (h1 : k ≤ 1099511627776) :
    Calls Tryd.prog 29 #[.slice a n cap, .int .i64 k] w fun e w' => e = .returned (.int .i64 (k + n)) ∧ Below w.heap.size w w' := by
  have hlen : xs.length = n := by rw [hxs, count_len]
  rcases hx with rfl | ⟨b, off, hb, rfl, hc⟩
  · obtain rfl : n = 0 := by simpa using hlen.symm
    clear hxs hlen
    go_enter Tryd.func29, Tryd.ntmps29
    go_wp2
    refine wp_loop_rounds 1 ?_; rw [rounds_succ]
    go_wp2
    go_ret
    exact ⟨ret_int (by simp), Below.refl _ _⟩
  · have Hc := hid hc
    have Hxs := hid hxs
    have Hlen := hid hlen
    clear hc hxs hlen
    go_enter Tryd.func29, Tryd.ntmps29
    go_wp2
    go_loop [1, 5] (fun m i => ∃ j : Nat, j ≤ n ∧ i = .int .i64 j ∧ m = .int .i64 (k + j)) (fun _ i => n - (intOf i).toNat)
    case atStart => exact ⟨0, Nat.zero_le _, rfl, by simp⟩
    case round =>
      obtain ⟨j, hj, rfl, rfl⟩ := hrel
      by_cases hlt : j < n
      · have hck : w.cell? ⟨b, off + j, none⟩ = some (.int .i64 (k + j)) := by
          have := Hc.out j (by rw [Hlen.out]; exact hlt)
          rw [Hxs.out, count_get _ _ _ hlt] at this
          exact this
        go_wp2
        go_round
        case rel => exact ⟨j + 1, by omega, by go_num, by go_num⟩
        case measure => simp [intOf]; omega
      · go_wp2
        go_ret
        obtain rfl : j = n := by omega
        exact ⟨rfl, Below.refl _ _⟩

/-! ### What a law keeps of the world: slices of its own, in the order in which they were made, and blocks -/

/-- A slice of int64 that lies in blocks from lo to hi. -/
structure Sl where
  lo : Nat
  hi : Nat
  v : Value
  xs : List Int

structure OwnI (w : World) (p : Sl) : Prop where
  own : w.ownsRow p.lo 2 1 p.v p.xs.length (p.xs.map (Value.int .i64))
  lt : ∀ g, p.v.ownBlock = some g → g < p.hi
  le : p.hi ≤ w.heap.size

structure Facts (w0 : World) (w : World) (A : List (Option Addr × List Int)) (bs : List (Nat × Obj)) (L : List Sl) : Prop where
  from0 : Below w0.heap.size w0 w
  args : ∀ q ∈ A, SlI w w0.heap.size q.1 q.2
  blocks : ∀ b ∈ bs, w.heap[b.1]? = some b.2
  slices : ∀ p ∈ L, OwnI w p

section
variable {w0 w w' : World} {A : List (Option Addr × List Int)} {bs : List (Nat × Obj)} {L : List Sl}

theorem Facts.ge (h : Facts w0 w A bs L) : w0.heap.size ≤ w.heap.size := h.from0.size

theorem Facts.below (h : Facts w0 w A bs L) (hb : Below w.heap.size w w') : Facts w0 w' A bs L where
  from0 := h.from0.trans (hb.mono h.ge)
  args := fun q hq => (h.args q hq).below (hb.mono h.ge)
  blocks := fun b hbm => (hb.block b.1 (Array.getElem?_eq_some_iff.1 (h.blocks b hbm)).1).trans (h.blocks b hbm)
  slices := fun p hp => ⟨ownsRow_below (h.slices p hp).own hb (fun g hg => Nat.lt_of_lt_of_le ((h.slices p hp).lt g hg) (h.slices p hp).le), (h.slices p hp).lt, Nat.le_trans (h.slices p hp).le hb.size⟩

theorem Facts.drew (h : Facts w0 w A bs L) : Facts w0 w.drew A bs L := h.below (Below.refl _ _).drew

theorem Facts.arg (h : Facts w0 w A bs L) {q : Option Addr × List Int} (hq : q ∈ A) : SlI w w.heap.size q.1 q.2 := (h.args q hq).mono h.ge

/-- A new block. -/
theorem Facts.alloc (h : Facts w0 w A bs L) (o : Obj) : Facts w0 (w.alloc o) A ((w.heap.size, o) :: bs) L where
  from0 := h.from0.alloc h.ge o
  args := fun q hq => (h.args q hq).below ((Below.refl _ w).alloc h.ge _)
  blocks := fun b hb => by
    rcases List.mem_cons.1 hb with rfl | hb
    · exact heap_alloc_new w o
    · exact (Below.heap_alloc w o _ (Array.getElem?_eq_some_iff.1 (h.blocks b hb)).1).trans (h.blocks b hb)
  slices := fun p hp => ⟨(h.slices p hp).own.alloc o, (h.slices p hp).lt, by have := (h.slices p hp).le; simp; omega⟩

/-- A new slice, out of a call. -/
theorem Facts.slice (h : Facts w0 w A bs L) {v : Value} {xs : List Int}
    (hown : w'.ownsRow w.heap.size 2 1 v xs.length (xs.map (Value.int .i64))) (hb : Below w.heap.size w w') : Facts w0 w' A bs (⟨w.heap.size, w'.heap.size, v, xs⟩ :: L) :=
  { h.below hb with
    slices := fun p hp => by
      rcases List.mem_cons.1 hp with rfl | hp
      · exact ⟨hown, fun g hg => (hown.lt g hg).2, Nat.le_refl _⟩
      · exact (h.below hb).slices p hp }

/-- A slice is marked: the others stay. -/
theorem Facts.mark {L' : List Sl} (h : Facts w0 w A bs L) {p : Sl} {ys : List Int} (hp : p ∈ L)
    (hown : w'.ownsRow p.lo 2 1 p.v ys.length (ys.map (Value.int .i64))) (hg : w.grownBy w' p.v.ownBlock)
    (hB : w0.heap.size ≤ p.lo) (hbs : ∀ b ∈ bs, b.1 < p.lo ∨ p.hi ≤ b.1) (hL : ∀ q ∈ L', q = { p with xs := ys } ∨ (q ∈ L ∧ (q.hi ≤ p.lo ∨ p.hi ≤ q.lo))) : Facts w0 w' A bs L' where
  from0 := h.from0.grown hg h.ge (fun k e => Nat.le_trans hB ((h.slices p hp).own.lt k e).1)
  args := fun q hq => (h.args q hq).below ((Below.refl _ w).grown hg h.ge (fun k e => Nat.le_trans hB ((h.slices p hp).own.lt k e).1))
  blocks := fun b hb => (hg.block b.1 (Array.getElem?_eq_some_iff.1 (h.blocks b hb)).1 (fun e => by
    have h1 := ((h.slices p hp).own.lt _ e.symm).1
    have h2 := (h.slices p hp).lt _ e.symm
    rcases hbs b hb with h3 | h3 <;> omega)).trans (h.blocks b hb)
  slices := fun q hq => by
    rcases hL q hq with rfl | ⟨hqm, hap⟩
    · exact ⟨hown, (h.slices p hp).lt, Nat.le_trans (h.slices p hp).le hg.size⟩
    · refine ⟨(h.slices q hqm).own.kept hg ?_, (h.slices q hqm).lt, Nat.le_trans (h.slices q hqm).le hg.size⟩
      cases hv : q.v.ownBlock with
      | none => exact .inl rfl
      | some g =>
        refine .inr (fun e => ?_)
        have h1 := ((h.slices p hp).own.lt _ e.symm).1
        have h2 := (h.slices p hp).lt _ e.symm
        have h3 := ((h.slices q hqm).own.lt _ hv).1
        have h4 := (h.slices q hqm).lt _ hv
        rcases hap with h5 | h5 <;> omega

theorem Facts.slI (h : Facts w0 w A bs L) {lo hi : Nat} {a : Option Addr} {m cap : Nat} {xs : List Int} (hp : (⟨lo, hi, .slice a m cap, xs⟩ : Sl) ∈ L) : SlI w w.heap.size a xs :=
  owned_slI (h.slices _ hp).own

theorem Facts.own (h : Facts w0 w A bs L) {lo hi : Nat} {v : Value} {xs : List Int} (hp : (⟨lo, hi, v, xs⟩ : Sl) ∈ L) : w.ownsRow lo 2 1 v xs.length (xs.map (Value.int .i64)) := (h.slices _ hp).own

theorem Facts.two (h : Facts w0 w A bs L) {b t : Nat} {u v : Value} (hb : (b, Obj.cells #[u, v] t (0, 0)) ∈ bs) : w.cell? ⟨b, 0, none⟩ = some u ∧ w.cell? ⟨b, 1, none⟩ = some v := by
  have := h.blocks _ hb
  constructor <;> simp [World.cell?, this]
end

set_option maxHeartbeats 400000 in
theorem markCx (V : Int) (base : Nat) (a : Option Addr) (cap : Nat) (xs : List Int) (k : Int) (w : World) (hown : w.ownsRow base 2 1 (.slice a xs.length cap) xs.length (xs.map (Value.int .i64))) (hl : xs.length ≤ 1048576) (h0 : 0 ≤ k) (h1 : k ≤ 1099511627776) :
    Calls Tryd.prog 27 #[.agg #[.int .i64 V, .slice a xs.length cap], .int .i64 k] w fun e w' => e = .returned (.int .i64 (k + xs.length)) ∧
      w'.ownsRow base 2 1 (.slice a xs.length cap) xs.length ((count k xs.length).map (Value.int .i64)) ∧ w.grownBy w' (Value.ownBlock (.slice a xs.length cap)) := by
  have Hown := hid (hown.alloc (.cells #[.int .i64 V, .slice a xs.length cap] 28))
  clear hown
  go_enter Tryd.func27, Tryd.ntmps27
  go_wp2_with fail
  refine (markInts base a cap xs k _ Hown.out hl h0 h1).mono ?_
  rintro e w1 ⟨rfl, hown1, hgr⟩
  go_wp2_with fail
  go_ret
  exact ⟨rfl, hown1, (World.grownBy_alloc w _ _).trans hgr⟩


end Go.Proofs.YtgnahadlcihneaaDoor

/-! What a law keeps of the world, for rows of any type that are read as integers (a list of n pairs: 2 * n integers). -/
namespace Go.Proofs.YtgnahadlcihneaaDoor
open Go.RowKit

/-- A row that lies in blocks from lo to hi: n elements of a type and size, read as integers. -/
structure Bk where
  lo : Nat
  hi : Nat
  ty : TypeId
  sz : Nat
  n : Nat
  v : Value
  xs : List Int

structure OwnB (w : World) (p : Bk) : Prop where
  own : w.ownsRow p.lo p.ty p.sz p.v p.n (p.xs.map (Value.int .i64))
  lt : ∀ g, p.v.ownBlock = some g → g < p.hi
  le : p.hi ≤ w.heap.size

/-- What is owned reads as integers. -/
theorem flat_slI {w : World} {base e sz : Nat} {a : Option Addr} {n m cap : Nat} {xs : List Int} (h : w.ownsRow base e sz (.slice a m cap) n (xs.map (Value.int .i64))) : SlI w w.heap.size a xs := by
  have hl := h.1
  rcases h.2 with ⟨hv, hn⟩ | ⟨g, cap', cur, hv, _, hg, _⟩
  · subst hn
    exact .inl (List.eq_nil_of_length_eq_zero (by simpa using hl))
  · cases hv
    refine .inr ⟨g, 0, (Array.getElem?_eq_some_iff.1 hg).1, rfl, fun i hi => ?_⟩
    have := h.cells (g := g) rfl i (.int .i64 (xs[i]?.getD 0)) (by simp [hi])
    have hadd : (⟨g, 0, none⟩ : Addr).add i = ⟨g, i, none⟩ := by unfold Addr.add; split <;> simp_all
    rw [hadd] at this
    simpa using this

structure Book (w0 : World) (w : World) (A : List (Option Addr × List Int)) (bs : List (Nat × Obj)) (L : List Bk) : Prop where
  from0 : Below w0.heap.size w0 w
  args : ∀ q ∈ A, SlI w w0.heap.size q.1 q.2
  blocks : ∀ b ∈ bs, w.heap[b.1]? = some b.2
  rows : ∀ p ∈ L, OwnB w p

section
variable {w0 w w' : World} {A : List (Option Addr × List Int)} {bs : List (Nat × Obj)} {L : List Bk}

theorem Book.ge (h : Book w0 w A bs L) : w0.heap.size ≤ w.heap.size := h.from0.size

theorem Book.below (h : Book w0 w A bs L) (hb : Below w.heap.size w w') : Book w0 w' A bs L where
  from0 := h.from0.trans (hb.mono h.ge)
  args := fun q hq => (h.args q hq).below (hb.mono h.ge)
  blocks := fun b hbm => (hb.block b.1 (Array.getElem?_eq_some_iff.1 (h.blocks b hbm)).1).trans (h.blocks b hbm)
  rows := fun p hp => ⟨ownsRow_below (h.rows p hp).own hb (fun g hg => Nat.lt_of_lt_of_le ((h.rows p hp).lt g hg) (h.rows p hp).le), (h.rows p hp).lt, Nat.le_trans (h.rows p hp).le hb.size⟩

theorem Book.drew (h : Book w0 w A bs L) : Book w0 w.drew A bs L := h.below (Below.refl _ _).drew
theorem Book.drewN (h : Book w0 w A bs L) (n : Nat) : Book w0 (w.drewN n) A bs L := h.below ⟨rfl, rfl, rfl, Nat.le_refl _, fun _ _ => rfl⟩

theorem Book.arg (h : Book w0 w A bs L) {q : Option Addr × List Int} (hq : q ∈ A) : SlI w w.heap.size q.1 q.2 := (h.args q hq).mono h.ge

theorem Book.alloc (h : Book w0 w A bs L) (o : Obj) : Book w0 (w.alloc o) A ((w.heap.size, o) :: bs) L where
  from0 := h.from0.alloc h.ge o
  args := fun q hq => (h.args q hq).below ((Below.refl _ w).alloc h.ge _)
  blocks := fun b hb => by
    rcases List.mem_cons.1 hb with rfl | hb
    · exact heap_alloc_new w o
    · exact (Below.heap_alloc w o _ (Array.getElem?_eq_some_iff.1 (h.blocks b hb)).1).trans (h.blocks b hb)
  rows := fun p hp => ⟨(h.rows p hp).own.alloc o, (h.rows p hp).lt, by have := (h.rows p hp).le; simp; omega⟩

/-- A new row, out of a call. -/
theorem Book.row (h : Book w0 w A bs L) {ty : TypeId} {sz n : Nat} {v : Value} {xs : List Int}
    (hown : w'.ownsRow w.heap.size ty sz v n (xs.map (Value.int .i64))) (hb : Below w.heap.size w w') : Book w0 w' A bs (⟨w.heap.size, w'.heap.size, ty, sz, n, v, xs⟩ :: L) :=
  { h.below hb with
    rows := fun p hp => by
      rcases List.mem_cons.1 hp with rfl | hp
      · exact ⟨hown, fun g hg => (hown.lt g hg).2, Nat.le_refl _⟩
      · exact (h.below hb).rows p hp }

/-- A row is marked: the others stay. -/
theorem Book.mark {L' : List Bk} (h : Book w0 w A bs L) {p : Bk} {ys : List Int} (hp : p ∈ L)
    (hown : w'.ownsRow p.lo p.ty p.sz p.v p.n (ys.map (Value.int .i64))) (hg : w.grownBy w' p.v.ownBlock)
    (hB : w0.heap.size ≤ p.lo) (hbs : ∀ b ∈ bs, b.1 < p.lo ∨ p.hi ≤ b.1) (hL : ∀ q ∈ L', q = { p with xs := ys } ∨ (q ∈ L ∧ (q.hi ≤ p.lo ∨ p.hi ≤ q.lo))) : Book w0 w' A bs L' where
  from0 := h.from0.grown hg h.ge (fun k e => Nat.le_trans hB ((h.rows p hp).own.lt k e).1)
  args := fun q hq => (h.args q hq).below ((Below.refl _ w).grown hg h.ge (fun k e => Nat.le_trans hB ((h.rows p hp).own.lt k e).1))
  blocks := fun b hb => (hg.block b.1 (Array.getElem?_eq_some_iff.1 (h.blocks b hb)).1 (fun e => by
    have h1 := ((h.rows p hp).own.lt _ e.symm).1
    have h2 := (h.rows p hp).lt _ e.symm
    rcases hbs b hb with h3 | h3 <;> omega)).trans (h.blocks b hb)
  rows := fun q hq => by
    rcases hL q hq with rfl | ⟨hqm, hap⟩
    · exact ⟨hown, (h.rows p hp).lt, Nat.le_trans (h.rows p hp).le hg.size⟩
    · refine ⟨(h.rows q hqm).own.kept hg ?_, (h.rows q hqm).lt, Nat.le_trans (h.rows q hqm).le hg.size⟩
      cases hv : q.v.ownBlock with
      | none => exact .inl rfl
      | some g =>
        refine .inr (fun e => ?_)
        have h1 := ((h.rows p hp).own.lt _ e.symm).1
        have h2 := (h.rows p hp).lt _ e.symm
        have h3 := ((h.rows q hqm).own.lt _ hv).1
        have h4 := (h.rows q hqm).lt _ hv
        rcases hap with h5 | h5 <;> omega

/-- Some of it. -/
theorem Book.only {bs' : List (Nat × Obj)} {L' : List Bk} (h : Book w0 w A bs L) (hb : ∀ b ∈ bs', b ∈ bs) (hL : ∀ p ∈ L', p ∈ L) : Book w0 w A bs' L' :=
  ⟨h.from0, h.args, fun b hbm => h.blocks b (hb b hbm), fun p hp => h.rows p (hL p hp)⟩

/-- A block of another type is written. -/
theorem Book.set2 {b t : Nat} {x y u v : Value} (h : Book w0 w A ((b, .cells #[x, y] t (0, 0)) :: bs) L) (hw : w0.heap.size ≤ b) (hb : ∀ q ∈ bs, q.1 ≠ b) (hty : ∀ p ∈ L, p.ty ≠ t) :
    Book w0 ((w.setCell ⟨b, 0, none⟩ u).setCell ⟨b, 1, none⟩ v) A ((b, .cells #[u, v] t (0, 0)) :: bs) L where
  from0 := (h.from0.setCell (p := ⟨b, 0, none⟩) hw _).setCell (p := ⟨b, 1, none⟩) hw _
  args := fun q hq => (h.args q hq).below (((Below.refl _ w).setCell (p := ⟨b, 0, none⟩) hw _).setCell (p := ⟨b, 1, none⟩) hw _)
  blocks := fun q hq => by
    rcases List.mem_cons.1 hq with rfl | hq
    · have hbk := h.blocks _ (List.mem_cons_self ..)
      simp only at hbk
      simp only [World.setCell, Array.getElem?_modify, hbk]
      simp
    · exact (Below.heap_setCell _ _ _ _ (hb q hq)).trans ((Below.heap_setCell _ _ _ _ (hb q hq)).trans (h.blocks q (List.mem_cons_of_mem _ hq)))
  rows := fun p hp => by
    have hbk := h.blocks _ (List.mem_cons_self ..)
    have hn : p.v.ownBlock ≠ some b := by
      intro e
      have ho := (h.rows p hp).own
      rcases ho.2 with ⟨hv, _⟩ | ⟨g, cap, cur, hv, _, hg, _⟩
      · rw [hv] at e; simp [Value.ownBlock] at e
      · rw [hv] at e
        simp [Value.ownBlock] at e
        subst e
        rw [hg] at hbk
        simp at hbk
        exact hty p hp hbk.2
    exact ⟨ownsRow_set (ownsRow_set (h.rows p hp).own hn _) hn _, (h.rows p hp).lt, by have := (h.rows p hp).le; simpa [World.setCell] using this⟩

theorem Book.slI (h : Book w0 w A bs L) {lo hi : Nat} {ty : TypeId} {sz n : Nat} {a : Option Addr} {m cap : Nat} {xs : List Int} (hp : (⟨lo, hi, ty, sz, n, .slice a m cap, xs⟩ : Bk) ∈ L) : SlI w w.heap.size a xs :=
  flat_slI (h.rows _ hp).own

theorem Book.own (h : Book w0 w A bs L) {lo hi : Nat} {ty : TypeId} {sz n : Nat} {v : Value} {xs : List Int} (hp : (⟨lo, hi, ty, sz, n, v, xs⟩ : Bk) ∈ L) : w.ownsRow lo ty sz v n (xs.map (Value.int .i64)) := (h.rows _ hp).own

theorem Book.two (h : Book w0 w A bs L) {b t : Nat} {u v : Value} (hb : (b, Obj.cells #[u, v] t (0, 0)) ∈ bs) : w.cell? ⟨b, 0, none⟩ = some u ∧ w.cell? ⟨b, 1, none⟩ = some v := by
  have := h.blocks _ hb
  constructor <;> simp [World.cell?, this]

end

end Go.Proofs.YtgnahadlcihneaaDoor
