import Derived.Test.YthmhdfhjjpfbfaaBettiS
import Derived.Test.YthmhdfhjjpfbfaaBRank
/-! The Betti numbers, the program's. -/
namespace Go.Proofs.Ythmhdfhjjpfbfaa
open Go.RowKit

/-- The list under way: the first k are Betti numbers, the others numbers of faces. -/
def mixL (fs : List Int) (p : Int) (n k : Nat) : List Int := (List.range n).map fun d : Nat => if d < k then betti fs p d else ((ofDim fs (d : Int)).length : Int)
theorem mixL_len (fs : List Int) (p : Int) (n k : Nat) : (mixL fs p n k).length = n := by simp [mixL]
theorem mixL_zero (fs : List Int) (p : Int) (n : Nat) : mixL fs p n 0 = countL fs n := by simp [mixL, countL]
theorem mixL_full (fs : List Int) (p : Int) (n : Nat) : mixL fs p n n = bettiL fs p n := by
  unfold mixL bettiL
  refine List.map_congr_left fun d hd => ?_
  rw [if_pos (by simpa using hd)]
theorem mixL_at (fs : List Int) (p : Int) {n k : Nat} (h : k < n) : (mixL fs p n k)[k]?.getD 0 = ((ofDim fs (k : Int)).length : Int) := by simp [mixL, h]
theorem mixL_succ (fs : List Int) (p : Int) {n k : Nat} (_h : k < n) : mixL fs p n (k + 1) = (mixL fs p n k).set k (betti fs p k) := by
  apply List.ext_getElem?
  intro i
  by_cases hi : i < n
  · by_cases hk : k = i
    · subst hk
      rw [List.getElem?_set_self (by rw [mixL_len]; exact hi)]
      simp [mixL, hi]
    · rw [List.getElem?_set_ne hk]
      simp only [mixL, List.getElem?_map, List.getElem?_range hi, Option.map_some]
      by_cases h1 : i < k
      · rw [if_pos (by omega), if_pos h1]
      · rw [if_neg (by omega), if_neg h1]
  · rw [List.getElem?_eq_none (by rw [mixL_len]; omega), List.getElem?_eq_none (by rw [List.length_set, mixL_len]; omega)]
theorem betti_wrap2 {fs : List Int} {p : Int} {k n r1 r2 : Nat} (hn : n = (ofDim fs (k : Int)).length) (h1 : r1 = rankN fs (k : Int) p) (h2 : r2 = rankN fs ((k : Int) + 1) p) (hn1 : n ≤ 1000) (hr1 : r1 ≤ 1000) (hr2 : r2 ≤ 1000) :
    wrap64 ((n : Int) - wrap64 ((r1 : Int) + (r2 : Int))) = betti fs p k := by
  unfold betti
  rw [← hn, ← h1, ← h2]
  unfold wrap64
  omega
theorem brk_box {b : Nat} {V : Int} {a0 : Option Addr} {cap : Nat} {fs : List Int} {wr : World} (hx : SlI wr wr.heap.size a0 fs) (hl : fs.length ≤ 1048576) (hC : IsC V fs) {p : Int} (hp : p = 2 ∨ p = 3) (d : Int) (h0 : 0 ≤ d) (h5 : d ≤ 100) (W : World)
    (h : BoxW b V (.slice a0 fs.length cap) wr W) :
    Calls Try.prog 89 #[.agg #[.int .i64 V, .slice a0 fs.length cap], .int .i64 d, .int .i64 p] W fun e W' => e = .returned (.int .i64 (rankN fs d p : Int)) ∧ BoxW b V (.slice a0 fs.length cap) wr W' :=
  (brank_any V a0 cap fs d p W (hx.later h.below h.below.size) hl hC hp (by omega) h5).mono fun _ _ ⟨he, hb⟩ => ⟨he, h.step hb⟩

set_option maxRecDepth 1000000 in
set_option maxHeartbeats 4000000 in
theorem implBettiNumbers (V : Int) (a0 : Option Addr) (cap : Nat) (fs : List Int) (p : Int) (w : World) (hx : SlI w w.heap.size a0 fs) (hl : fs.length ≤ 1048576) :
    Calls Try.prog 47 #[.agg #[.int .i64 V, .slice a0 fs.length cap], .int .i64 p] w fun e w' => ∃ v, e = .returned (.tuple #[v, .int .i64 (bettiR V fs p).2]) ∧ Res w w' v (bettiR V fs p).1 := by
  have hB0 : Below w.heap.size w (w.alloc (.cells #[.int .i64 V, .slice a0 fs.length cap] 28)) := (Below.refl _ w).alloc (Nat.le_refl _) _
  have hx1 := hx.later hB0 hB0.size
  have HK := hid (implCountFaces V a0 cap fs _ hx1 hl)
  by_cases hC : IsC V fs
  · obtain ⟨T, hT⟩ : ∃ T : Nat, (T : Int) = top fs + 1 := ⟨(top fs + 1).toNat, by have := top_lo fs; omega⟩
    have hT6 : T ≤ 6 := by have := top_hi fs; omega
    have hTn : (top fs + 1).toNat = T := by omega
    have HCF : countFacesR V fs = (countL fs T, 0) := by unfold countFacesR; rw [isCB_true hC, if_pos rfl, hTn]
    rw [HCF] at HK
    simp only at HK
    by_cases hp : p = 2 ∨ p = 3
    · refine pair_mono (show bettiR V fs p = (bettiL fs p T, 0) by rw [bettiR, isCB_true hC, if_pos rfl, if_pos hp, hTn]) ?_
      have HC := hid hC
      have HX := hid hx
      have Hp := hid hp
      have H63 := hid hC.len63
      clear hx hx1 hC hp HCF hT hTn
      go_enter Try.func47, Try.ntmps47
      go_wp2_with fail
      refine HK.out.mono ?_
      rintro e w1 ⟨v, rfl, hr⟩
      obtain ⟨_, av, cv, rfl, _⟩ := ownsRow_slI hr.1
      have hs1 : w.heap.size < w1.heap.size := by have := hr.2.size; simp at this; omega
      have k0 : w1.cell? ⟨w.heap.size, 0, none⟩ = some (.int .i64 V) := (hr.2.cell (p := ⟨w.heap.size, 0, none⟩) (by simp)).trans (by simp [go_sem])
      have k1 : w1.cell? ⟨w.heap.size, 1, none⟩ = some (.slice a0 fs.length cap) := (hr.2.cell (p := ⟨w.heap.size, 1, none⟩) (by simp)).trans (by simp [go_sem])
      have HB1 := hid (hB0.trans (hr.2.mono (by simp)))
      have hown1 := hr.1
      simp only [World.size_alloc] at hown1
      have e1 : (countL fs T).length = T := countL_len fs T
      rw [e1] at hown1
      have Hown1 : Hid (w1.ownsRow (w.heap.size + 1) 2 1 (.slice av T cv) T ((mixL fs p T 0).map (Value.int .i64))) := hid (by rw [mixL_zero]; exact hown1)
      rw [e1]
      have HB11 : Hid (Below (w.heap.size + 1) (w.alloc (.cells #[.int .i64 V, .slice a0 fs.length cap] 28)) w1) := hid (by have := hr.2; rwa [World.size_alloc] at this)
      have HB0 := hid hB0
      clear hB0 hr hown1
      go_wp2_with (go_at_call 88; refine (mod_yes _ _ Hp.out).mono ?_; rintro e w' ⟨rfl, rfl⟩)
      go_loopw [23] (fun i wr => ∃ k : Nat, k ≤ T ∧ i = .int .i64 k ∧ wr.ownsRow (w.heap.size + 1) 2 1 (.slice av T cv) T ((mixL fs p T k).map (Value.int .i64)) ∧ Below (w.heap.size + 1) (w.alloc (.cells #[.int .i64 V, .slice a0 fs.length cap] 28)) wr) (fun i _ => T - (intOf i).toNat)
      case atStart => exact ⟨0, Nat.zero_le _, rfl, Hown1.out, HB11.out⟩
      case round =>
        obtain ⟨k, hk, rfl, hown, hB⟩ := hrel
        have hsr := hB.size
        simp only [World.size_alloc] at hsr
        have HB := hid hB
        have c0 : wr.cell? ⟨w.heap.size, 0, none⟩ = some (.int .i64 V) := (hB.cell (p := ⟨w.heap.size, 0, none⟩) (Nat.lt_succ_self _)).trans (by simp [go_sem])
        have c1 : wr.cell? ⟨w.heap.size, 1, none⟩ = some (.slice a0 fs.length cap) := (hB.cell (p := ⟨w.heap.size, 1, none⟩) (Nat.lt_succ_self _)).trans (by simp [go_sem])
        have hbw : Below w.heap.size w wr := HB0.out.trans (hB.mono (Nat.le_succ _))
        clear hB
        by_cases hlt : k < T
        · obtain ⟨g, rfl⟩ : ∃ g, av = some ⟨g, 0, none⟩ := by
            rcases hown.2 with ⟨h0, _⟩ | ⟨g, cap', cur, hv, _⟩
            · injection h0 with _ h0 _; omega
            · injection hv with h0; exact ⟨g, h0⟩
          have hx2 := HX.out.later hbw hbw.size
          have HD : Hid (BoxW w.heap.size V (.slice a0 fs.length cap) wr wr.drew) := hid (BoxW.start c0 c1)
          obtain ⟨n, hn⟩ : ∃ n, n = (ofDim fs (k : Int)).length := ⟨_, rfl⟩
          obtain ⟨r1, hr1⟩ : ∃ n, n = rankN fs (k : Int) p := ⟨_, rfl⟩
          obtain ⟨r2, hr2⟩ : ∃ n, n = rankN fs ((k : Int) + 1) p := ⟨_, rfl⟩
          have HR1 := hid (fun W (h : BoxW w.heap.size V (.slice a0 fs.length cap) wr W) => brk_box hx2 hl HC.out Hp.out (k : Int) (by omega) (by omega) W h)
          have HR2 := hid (fun W (h : BoxW w.heap.size V (.slice a0 fs.length cap) wr W) => brk_box hx2 hl HC.out Hp.out ((k : Int) + 1) (by omega) (by omega) W h)
          rw [← hr1] at HR1
          rw [← hr2] at HR2
          have hk1 : IntKind.i64.wrap ((k : Int) + 1) = (k : Int) + 1 := IntWalk.i64_in _ (by omega)
          have Hv := hid (betti_wrap2 hn hr1 hr2 (by have := ofDim_len fs (k : Int); have := H63.out; omega) (by have := rankN_le fs (k : Int) p; have := ofDim_len fs (k : Int); have := H63.out; omega) (by have := rankN_le fs ((k : Int) + 1) p; have := ofDim_len fs ((k : Int) + 1); have := H63.out; omega))
          have hck : wr.cell? ⟨g, k, none⟩ = some (.int .i64 (n : Int)) := by
            rw [hown.cellAt k (by omega), hn, ← mixL_at fs p hlt]
            simp [mixL, hlt]
          have hgl : g < wr.heap.size := World.block_lt_of_cell? wr _ hck
          have hi0 : (0 : Int) ≤ (k : Int) := by omega
          have hi1 : (k : Int) < (T : Int) := by omega
          have Hstep : Hid (((mixL fs p T k).map (Value.int .i64)).set k (.int .i64 (betti fs p k)) = (mixL fs p T (k + 1)).map (Value.int .i64)) := hid (by rw [mixL_succ fs p hlt, List.map_set])
          have Hown := hid hown
          have hgb : w.heap.size + 1 ≤ g := (hown.lt g rfl).1
          clear hx2 hn hr1 hr2 hbw hown
          go_wp2_with fail
          go_region_with (first
            | (go_at_call 89; have hz := HD1.out; clear HD1; refine (HR2.out _ hz).mono ?_; rintro e w4 ⟨rfl, hd⟩; have n40 := hd.c0; have n41 := hd.c1; have n4 := (hd.below.cell (p := ⟨g, k, none⟩) hgl).trans hck; have HD2 := hid hd; have hO4 := ownsRow_below Hown.out hd.below (fun g hg => (Hown.out.lt g hg).2); have f4 := hO4.frozenAt k; have hst := hO4.stored k (.int .i64 (betti fs p k)); rw [Hstep.out] at hst; have Hst := hid hst; clear hd hz hO4 hst)
            | (go_at_call 89; refine (HR1.out _ HD.out).mono ?_; rintro e w3 ⟨rfl, hd⟩; have n30 := hd.c0; have n31 := hd.c1; have n3 := (hd.below.cell (p := ⟨g, k, none⟩) hgl).trans hck; have HD1 := hid hd; clear hd))
          all_goals
            have HB4 := hid (HB.out.trans (HD2.out.below.mono hsr))
            have hs4 : w.heap.size + 1 ≤ w4.heap.size := by have := HB4.out.size; simpa using this
            clear HB HD2 n40 n41 n4 f4 hck HR1 HR2 Hown Hstep
            go_wp2_with fail
            go_roundw
            case rel =>
              rw [Hv.out]
              exact ⟨k + 1, by omega, by go_num, Hst.out.1, HB4.out.grown Hst.out.2 hs4 (fun r e => by cases e; exact hgb)⟩
            case measure => simp [intOf]; omega
        · go_wp2_with fail
          go_ret2
          obtain rfl : k = T := by omega
          rw [mixL_full] at hown
          exact ⟨_, rfl, ownsRow_base (by simpa [bettiL_len] using hown) (by omega), hbw⟩
    · refine pair_mono (show bettiR V fs p = ([], 2) by rw [bettiR, isCB_true hC, if_pos rfl, if_neg hp]) ?_
      clear hx hx1 hC HCF hT hTn
      go_enter Try.func47, Try.ntmps47
      go_wp2_with fail
      refine HK.out.mono ?_
      rintro e w1 ⟨v, rfl, hr⟩
      go_wp2_with (go_at_call 88; refine (mod_no _ _ hp).mono ?_; rintro e w' ⟨rfl, rfl⟩)
      go_ret2
      exact ⟨_, rfl, res_nil _ _ (hB0.trans (hr.2.mono (by simp)))⟩
  · refine pair_mono (show bettiR V fs p = ([], 1) by rw [bettiR, isCB_false hC, if_neg (by simp)]) ?_
    have HCF : countFacesR V fs = ([], 1) := by unfold countFacesR; rw [isCB_false hC, if_neg (by simp)]
    rw [HCF] at HK
    simp only at HK
    clear hx hx1 hC HCF
    go_enter Try.func47, Try.ntmps47
    go_wp2_with fail
    refine HK.out.mono ?_
    rintro e w1 ⟨v, rfl, hr⟩
    go_wp2_with fail
    go_ret2
    exact ⟨_, rfl, res_nil _ _ (hB0.trans (hr.2.mono (by simp)))⟩

end Go.Proofs.Ythmhdfhjjpfbfaa
