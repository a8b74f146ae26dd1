import Derived.Test.YthmhdfhjjpfbfaaRankOf
import Derived.Test.YthmhdfhjjpfbfaaCountImpl
import Derived.Deep.RegionHeld3
import Derived.Deep.CutRange
/-! The Betti numbers, the model's. -/
namespace Go.Proofs.Ythmhdfhjjpfbfaa
open Go.RowKit

theorem firstNZ_spec {M : List (List Int)} {r c i : Nat} (h : firstNZ M r c = some i) : r ≤ i ∧ i < M.length := by
  unfold firstNZ at h
  rw [List.find?_range_eq_some] at h
  exact ⟨by have := h.1; simp at this; exact this.1, by simpa using h.2.1⟩
/-- The rank is no greater than the number of rows. -/
theorem elim_rows {p : Int} : ∀ (k r c : Nat) (M : List (List Int)), r ≤ M.length → elimR p k r c M ≤ M.length
  | 0, _, _, _, h => h
  | k + 1, r, c, M, h => by
    rw [elimR]
    split
    · exact elim_rows k r (c + 1) M h
    · rename_i i hi
      have hi := firstNZ_spec hi
      have := elim_rows (p := p) k (r + 1) (c + 1) (sweepTo p c r M.length (swapR M r i)) (by rw [sweepTo_len, swapR_len]; omega)
      rwa [sweepTo_len, swapR_len] at this
theorem rankN_le (fs : List Int) (d p : Int) : rankN fs d p ≤ (ofDim fs d).length := by
  have := elim_rows (p := p) (ofDim fs (d - 1)).length 0 0 (bndM fs d p) (Nat.zero_le _)
  have e : (bndM fs d p).length = (ofDim fs d).length := by simp [bndM]
  unfold rankN
  omega

/-- The Betti number of d. -/
def betti (fs : List Int) (p : Int) (d : Nat) : Int := ((ofDim fs (d : Int)).length : Int) - (rankN fs (d : Int) p : Int) - (rankN fs ((d : Int) + 1) p : Int)
def bettiL (fs : List Int) (p : Int) (n : Nat) : List Int := (List.range n).map fun d : Nat => betti fs p d
theorem bettiL_len (fs : List Int) (p : Int) (n : Nat) : (bettiL fs p n).length = n := by simp [bettiL]
theorem bettiL_snoc (fs : List Int) (p : Int) (n : Nat) : bettiL fs p (n + 1) = bettiL fs p n ++ [betti fs p n] := by
  simp [bettiL, List.range_succ]
noncomputable def bettiR (V : Int) (fs : List Int) (p : Int) : List Int × Int := if isCB V fs then (if p = 2 ∨ p = 3 then (bettiL fs p (top fs + 1).toNat, 0) else ([], 2)) else ([], 1)
theorem bettiR_len (V : Int) (fs : List Int) (p : Int) (_h : fs.length ≤ 1048576) : (bettiR V fs p).1.length ≤ 1048576 := by
  have := top_hi fs
  unfold bettiR
  split
  · split
    · rw [bettiL_len]; omega
    · simp
  · simp

/-- A world in which all that lay in a round's still lies, and the box with the complex. -/
structure BoxW (b : Nat) (V : Int) (s : Value) (wr W : World) : Prop where
  below : Below wr.heap.size wr W
  c0 : W.cell? ⟨b, 0, none⟩ = some (.int .i64 V)
  c1 : W.cell? ⟨b, 1, none⟩ = some s
theorem BoxW.start {b : Nat} {V : Int} {s : Value} {wr : World} (h0 : wr.cell? ⟨b, 0, none⟩ = some (.int .i64 V)) (h1 : wr.cell? ⟨b, 1, none⟩ = some s) : BoxW b V s wr wr.drew :=
  ⟨below_drewN (Below.refl _ wr) 1, h0, h1⟩
theorem BoxW.step {b : Nat} {V : Int} {s : Value} {wr W W' : World} (h : BoxW b V s wr W) (hb : Below W.heap.size W W') : BoxW b V s wr W' :=
  ⟨h.below.trans (hb.mono h.below.size), (hb.cell (p := ⟨b, 0, none⟩) (World.block_lt_of_cell? W _ h.c0)).trans h.c0, (hb.cell (p := ⟨b, 1, none⟩) (World.block_lt_of_cell? W _ h.c1)).trans h.c1⟩

/-- The three calls of a round, from any world of it. -/
theorem of_box {b : Nat} {V : Int} {a0 : Option Addr} {cap : Nat} {fs : List Int} {wr : World} (hx : SlI wr wr.heap.size a0 fs) (hl : fs.length ≤ 1048576) (hC : IsC V fs) (d : Int) (h0 : 0 ≤ d) (h5 : d ≤ 5) (W : World)
    (h : BoxW b V (.slice a0 fs.length cap) wr W) :
    Calls Try.prog 94 #[.agg #[.int .i64 V, .slice a0 fs.length cap], .int .i64 d] W fun e W' => (∃ a c, e = .returned (.slice a (ofDim fs d).length c)) ∧ BoxW b V (.slice a0 fs.length cap) wr W' :=
  (of_any V a0 cap fs d W (hx.later h.below h.below.size) hl hC.range63 h0 h5).mono fun e W' ⟨v, he, hr⟩ => by
    obtain ⟨_, a, c, rfl, _⟩ := ownsRow_slI hr.1
    exact ⟨⟨a, c, he⟩, h.step hr.2⟩
theorem rk_box {b : Nat} {V : Int} {a0 : Option Addr} {cap : Nat} {fs : List Int} {wr : World} (hx : SlI wr wr.heap.size a0 fs) (hl : fs.length ≤ 1048576) (hC : IsC V fs) {p : Int} (hp : p = 2 ∨ p = 3) (d : Int) (h0 : 0 ≤ d) (h5 : d ≤ 100) (W : World)
    (h : BoxW b V (.slice a0 fs.length cap) wr W) :
    Calls Try.prog 87 #[.agg #[.int .i64 V, .slice a0 fs.length cap], .int .i64 d, .int .i64 p] W fun e W' => e = .returned (.int .i64 (rankN fs d p : Int)) ∧ BoxW b V (.slice a0 fs.length cap) wr W' :=
  (rkS_any V a0 cap fs d p W (hx.later h.below h.below.size) hl hC hp h0 h5).mono fun _ _ ⟨he, hb⟩ => ⟨he, h.step hb⟩
theorem betti_wrap {fs : List Int} {p : Int} {k n r1 r2 : Nat} (hn : n = (ofDim fs (k : Int)).length) (h1 : r1 = rankN fs (k : Int) p) (h2 : r2 = rankN fs ((k : Int) + 1) p) (hn1 : n ≤ 1000) (hr1 : r1 ≤ 1000) (hr2 : r2 ≤ 1000) :
    IntKind.i64.wrap (IntKind.i64.wrap ((n : Int) - (r1 : Int)) - (r2 : Int)) = betti fs p k := by
  rw [IntKind.wrap_i64, IntKind.wrap_i64]
  unfold betti
  rw [← hn, ← h1, ← h2]
  omega

set_option maxRecDepth 1000000 in
set_option maxHeartbeats 4000000 in
theorem bettiS_any (V : Int) (a : Option Addr) (cap : Nat) (fs : List Int) (p : Int) (w : World) (hx : SlI w w.heap.size a fs) (hl : fs.length ≤ 1048576) (hC : IsC V fs) (hp : p = 2 ∨ p = 3) :
    Calls Try.prog 90 #[.agg #[.int .i64 V, .slice a fs.length cap], .int .i64 p] w fun e w' => ∃ v, e = .returned v ∧ Res w w' v (bettiL fs p (top fs + 1).toNat) := by
  have hB0 : Below w.heap.size w (w.alloc (.cells #[.int .i64 V, .slice a fs.length cap] 28)) := (Below.refl _ w).alloc (Nat.le_refl _) _
  have Hx0 := hid hx
  have Hf := hid hC.range63
  have HC := hid hC
  have HP := hid hp
  have H63 := hid hC.len63
  obtain ⟨T, hT⟩ : ∃ T : Nat, (T : Int) = top fs + 1 := ⟨(top fs + 1).toNat, by have := top_lo fs; omega⟩
  have hT6 : T ≤ 6 := by have := top_hi fs; omega
  have hTn : (top fs + 1).toNat = T := by omega
  rw [hTn]
  have HT := hid (show top fs = (T : Int) - 1 by omega)
  clear hT hTn hx hC hp
  obtain ⟨w1, hw1⟩ : ∃ x, x = w.alloc (.cells #[.int .i64 V, .slice a fs.length cap] 28) := ⟨_, rfl⟩
  have k0 : w1.cell? ⟨w.heap.size, 0, none⟩ = some (.int .i64 V) := by rw [hw1]; simp [go_sem]
  have k1 : w1.cell? ⟨w.heap.size, 1, none⟩ = some (.slice a fs.length cap) := by rw [hw1]; simp [go_sem]
  have hs1 : w.heap.size < w1.heap.size := by rw [hw1]; simp
  have HB01 : Hid (Below w.heap.size w w1) := hid (by rw [hw1]; exact hB0)
  have hz1 : w1.heap.size = w.heap.size + 1 := by rw [hw1]; simp
  have Hown0 := hid (World.ownsRow_made (base := w1.heap.size) (e := 2) (size := 1) w1 #[] 0 (Nat.le_refl _) (by simp [maxLen]) rfl)
  clear hB0
  go_enter Try.func90, Try.ntmps90
  go_wp2_with (rw [← hw1])
  clear hw1
  go_loopw [5, 6] (fun v i wr => ∃ k : Nat, k ≤ T ∧ i = .int .i64 k ∧ wr.ownsRow w1.heap.size 2 1 v (bettiL fs p k).length ((bettiL fs p k).map (Value.int .i64)) ∧ Below w1.heap.size w1 wr) (fun _ i _ => T - (intOf i).toNat)
  case atStart => exact ⟨0, Nat.zero_le _, rfl, by rw [← hz1]; simpa [bettiL] using Hown0.out, (Below.refl _ _).alloc (Nat.le_refl _) _⟩
  case round =>
    obtain ⟨k, hk, rfl, hown, hB⟩ := hrel
    have c0 : wr.cell? ⟨w.heap.size, 0, none⟩ = some (.int .i64 V) := (hB.cell (p := ⟨w.heap.size, 0, none⟩) hs1).trans k0
    have c1 : wr.cell? ⟨w.heap.size, 1, none⟩ = some (.slice a fs.length cap) := (hB.cell (p := ⟨w.heap.size, 1, none⟩) hs1).trans k1
    have hBW := HB01.out.trans (hB.mono HB01.out.size)
    have hx1 := hid (Hx0.out.later hBW hBW.size)
    have HB := hid hB
    have Hown := hid hown
    clear hB hown
    by_cases hlt : k < T
    · have hsn := hid (bettiL_snoc fs p k)
      have hcl : (bettiL fs p k).length ≤ 1048576 := by rw [bettiL_len]; omega
      have hle : (k : Int) ≤ top fs := by rw [HT.out]; omega
      have htl := top_lo fs
      have hth := top_hi fs
      go_wp2_with fail
      refine (dimS_any V a cap fs _ hx1.out hl Hf.out).mono ?_
      rintro e w2 ⟨rfl, hB2⟩
      have hB12 := HB.out.trans (hB2.mono HB.out.size)
      have d0 : w2.cell? ⟨w.heap.size, 0, none⟩ = some (.int .i64 V) := (hB12.cell (p := ⟨w.heap.size, 0, none⟩) hs1).trans k0
      have d1 : w2.cell? ⟨w.heap.size, 1, none⟩ = some (.slice a fs.length cap) := (hB12.cell (p := ⟨w.heap.size, 1, none⟩) hs1).trans k1
      have hBW2 := HB01.out.trans (hB12.mono HB01.out.size)
      have hx2 := Hx0.out.later hBW2 hBW2.size
      have Hown2 := hid (ownsRow_below Hown.out hB2 (fun g hg => (Hown.out.lt g hg).2))
      have HB12 := hid hB12
      have HD : Hid (BoxW w.heap.size V (.slice a fs.length cap) w2 w2.drew) := hid (BoxW.start d0 d1)
      obtain ⟨n, hn⟩ : ∃ n, n = (ofDim fs (k : Int)).length := ⟨_, rfl⟩
      obtain ⟨r1, hr1⟩ : ∃ n, n = rankN fs (k : Int) p := ⟨_, rfl⟩
      obtain ⟨r2, hr2⟩ : ∃ n, n = rankN fs ((k : Int) + 1) p := ⟨_, rfl⟩
      have HO := hid (fun W (h : BoxW w.heap.size V (.slice a fs.length cap) w2 W) => of_box hx2 hl HC.out (k : Int) (by omega) (by omega) W h)
      have HR1 := hid (fun W (h : BoxW w.heap.size V (.slice a fs.length cap) w2 W) => rk_box hx2 hl HC.out HP.out (k : Int) (by omega) (by omega) W h)
      have HR2 := hid (fun W (h : BoxW w.heap.size V (.slice a fs.length cap) w2 W) => rk_box hx2 hl HC.out HP.out ((k : Int) + 1) (by omega) (by omega) W h)
      rw [← hn] at HO
      rw [← hr1] at HR1
      rw [← hr2] at HR2
      have hk1 : IntKind.i64.wrap ((k : Int) + 1) = (k : Int) + 1 := IntWalk.i64_in _ (by omega)
      have Hv := hid (betti_wrap hn hr1 hr2 (by have := ofDim_len fs (k : Int); have := H63.out; omega) (by have := rankN_le fs (k : Int) p; have := ofDim_len fs (k : Int); have := H63.out; omega) (by have := rankN_le fs ((k : Int) + 1) p; have := ofDim_len fs ((k : Int) + 1); have := H63.out; omega))
      clear hB2 hB12 hBW2 c0 c1 Hown hx2 hn hr1 hr2 hx1 hBW
      go_wp2_with fail
      go_region_held3 (fun w' => w'.cell? ⟨w.heap.size, 0, none⟩ = some (.int .i64 V) ∧ w'.cell? ⟨w.heap.size, 1, none⟩ = some (.slice a fs.length cap)) (go_keep) (first
        | (refine step_append_new (by rfl) (by rfl) HO5.out (by rfl) hs5 (by omega) (by rfl) (by rfl) ?_; intro g cp w6 hown6 hgrow6; have hb6 : Below w1.heap.size w5 w6 := (Below.refl w1.heap.size w5).grown ((World.grownBy_alloc w5 _ _).trans hgrow6) hs5 (fun k hk => (HO5.out.lt k hk).1); have n60 := (hb6.cell (p := ⟨w.heap.size, 0, none⟩) hs1).trans n50; have n61 := (hb6.cell (p := ⟨w.heap.size, 1, none⟩) hs1).trans n51; clear hgrow6)
        | (go_at_call 87; have hz := HD2.out; clear HD2; refine (HR2.out _ hz).mono ?_; rintro e w5 ⟨rfl, hd⟩; have n50 := hd.c0; have n51 := hd.c1; have HD3 := hid hd; have HO5 := hid (ownsRow_below Hown2.out hd.below (fun g hg => (Hown2.out.lt g hg).2)); have hs5 : w1.heap.size ≤ w5.heap.size := Nat.le_trans HB12.out.size hd.below.size; clear hd hz)
        | (go_at_call 87; have hz := HD1.out; clear HD1; refine (HR1.out _ hz).mono ?_; rintro e w4 ⟨rfl, hd⟩; have n40 := hd.c0; have n41 := hd.c1; have HD2 := hid hd; clear hd hz)
        | (go_at_call 94; refine (HO.out _ HD.out).mono ?_; rintro e w3 ⟨⟨ax, cx, rfl⟩, hd⟩; have n30 := hd.c0; have n31 := hd.c1; have HD1 := hid hd; clear hd))
      all_goals
        have hB15 : Below w1.heap.size w1 w5 := HB12.out.trans (HD3.out.below.mono HB12.out.size)
        have HB16 := hid (hB15.trans hb6)
        have Hown6 := hid hown6
        clear hB15 hown6 hb6
        go_wp2_with fail
        go_roundw
        case rel => exact ⟨k + 1, by omega, by go_num, (by have h := Hown6.out; rw [Hv.out, ← hsn.out] at h; have e : (bettiL fs p k).length + 1 = (bettiL fs p (k + 1)).length := by simp [bettiL_len]
                                                           rw [e]; exact h), HB16.out⟩
        case measure => simp [intOf]; omega
    · have hgt : top fs < (k : Int) := by rw [HT.out]; omega
      go_wp2_with fail
      refine (dimS_any V a cap fs _ hx1.out hl Hf.out).mono ?_
      rintro e w2 ⟨rfl, hB2⟩
      have hB12 := HB.out.trans (hB2.mono HB.out.size)
      have Hown2 := hid (ownsRow_below Hown.out hB2 (fun g hg => (Hown.out.lt g hg).2))
      go_wp2_with fail
      go_ret
      obtain rfl : k = T := by omega
      exact ⟨_, rfl, ownsRow_base Hown2.out (by omega), HB01.out.trans (hB12.mono HB01.out.size)⟩

set_option maxHeartbeats 1000000 in
theorem specBettiNumbers (V : Int) (a0 : Option Addr) (cap : Nat) (fs : List Int) (p : Int) (w : World) (hx : SlI w w.heap.size a0 fs) (hl : fs.length ≤ 1048576) :
    Calls Try.prog 46 #[.agg #[.int .i64 V, .slice a0 fs.length cap], .int .i64 p] w fun e w' => ∃ v, e = .returned (.tuple #[v, .int .i64 (bettiR V fs p).2]) ∧ Res w w' v (bettiR V fs p).1 := by
  have hB0 : Below w.heap.size w (w.alloc (.cells #[.int .i64 V, .slice a0 fs.length cap] 28)) := (Below.refl _ w).alloc (Nat.le_refl _) _
  have hx1 := hx.later hB0 hB0.size
  by_cases hC : IsC V fs
  · by_cases hp : p = 2 ∨ p = 3
    · refine pair_mono (show bettiR V fs p = (bettiL fs p (top fs + 1).toNat, 0) by rw [bettiR, isCB_true hC, if_pos rfl, if_pos hp]) ?_
      have HK := hid (code_eq (V := V) (a0 := a0) (cap := cap) (p := p) 0 hx1 hl (by rw [codeR, isCB_true hC, if_pos rfl, if_pos hp]))
      have HC := hid hC
      have HX := hid hx
      have Hp := hid hp
      clear hx hx1 hC hp
      go_enter Try.func46, Try.ntmps46
      go_wp2_with fail
      refine HK.out.mono ?_
      rintro e w1 ⟨rfl, hB1⟩
      have k0 : w1.cell? ⟨w.heap.size, 0, none⟩ = some (.int .i64 V) := (hB1.cell (p := ⟨w.heap.size, 0, none⟩) (by simp)).trans (by simp [go_sem])
      have k1 : w1.cell? ⟨w.heap.size, 1, none⟩ = some (.slice a0 fs.length cap) := (hB1.cell (p := ⟨w.heap.size, 1, none⟩) (by simp)).trans (by simp [go_sem])
      have HB1 := hid (hB0.trans (hB1.mono (by simp)))
      clear hB0 hB1
      go_wp2_with fail
      refine (bettiS_any V a0 cap fs p w1 (HX.out.later HB1.out HB1.out.size) hl HC.out Hp.out).mono ?_
      rintro e w2 ⟨v, rfl, hr⟩
      go_wp2_with fail
      go_ret2
      exact ⟨_, rfl, hr.later HB1.out⟩
    · refine pair_mono (show bettiR V fs p = ([], 2) by rw [bettiR, isCB_true hC, if_pos rfl, if_neg hp]) ?_
      have HK := hid (code_eq (V := V) (a0 := a0) (cap := cap) (p := p) 2 hx1 hl (by rw [codeR, isCB_true hC, if_pos rfl, if_neg hp]))
      clear hx hx1 hC hp
      go_enter Try.func46, Try.ntmps46
      go_wp2_with fail
      refine HK.out.mono ?_
      rintro e w1 ⟨rfl, hB1⟩
      go_wp2_with fail
      go_ret2
      exact ⟨_, rfl, res_nil _ _ (hB0.trans (hB1.mono (by simp)))⟩
  · refine pair_mono (show bettiR V fs p = ([], 1) by rw [bettiR, isCB_false hC, if_neg (by simp)]) ?_
    have HK := hid (code_eq (V := V) (a0 := a0) (cap := cap) (p := p) 1 hx1 hl (by rw [codeR, isCB_false hC, if_neg (by simp)]))
    clear hx hx1 hC
    go_enter Try.func46, Try.ntmps46
    go_wp2_with fail
    refine HK.out.mono ?_
    rintro e w1 ⟨rfl, hB1⟩
    go_wp2_with fail
    go_ret2
    exact ⟨_, rfl, res_nil _ _ (hB0.trans (hB1.mono (by simp)))⟩

end Go.Proofs.Ythmhdfhjjpfbfaa
