import Derived.Deep.CutRange
import Derived.Deep.RegionHeld3
import Derived.Test.YtgefpllmelpahaaRows
import Derived.ProofKit
import Derived.OpenShut
import Derived.ShutString
import Derived.ChangeOld
import Derived.Below
import Derived.Lib.SmallJoins
import Derived.Test.YtgefpllmelpahaaMH1
import Derived.Test.YtgefpllmelpahaaMH3
import Derived.Test.YtgefpllmelpahaaMH6
import Derived.Test.YtgefpllmelpahaaMH7
import Derived.Test.YtgefpllmelpahaaMH8
/-! CountFaces, the program's. -/
namespace Go.Proofs.Ytgefpllmelpahaa
open Go.RowKit

theorem dimE (f e : Nat) (w : World) (hf : f < 64) (he : ones f = e + 1) :
    Calls Try.prog 125 #[.int .i64 (f : Int)] w fun r w' => r = .returned (.int .i64 (e : Int)) ∧ w = w' :=
  (dim_any f w hf).mono fun _ _ ⟨h, hw⟩ => ⟨by rw [h, he]; congr 2; omega, hw⟩

theorem dimT (V : Int) (a0 : Option Addr) (cap : Nat) (fs : List Int) (T : Nat) (w : World) (hx : SlI w w.heap.size a0 fs) (hl : fs.length ≤ 1048576) (hf : ∀ x ∈ fs, 1 ≤ x ∧ x ≤ 63) (hT : top fs = (T : Int) - 1) :
    Calls Try.prog 124 #[.agg #[.int .i64 V, .slice a0 fs.length cap]] w fun e w' => e = .returned (.int .i64 ((T : Int) - 1)) ∧ Below w.heap.size w w' :=
  (dimI_any V a0 cap fs w hx hl hf).mono fun _ _ ⟨h, hw⟩ => ⟨by rw [h, hT], hw⟩

theorem countL_nil (n : Nat) : countL [] n = List.replicate n 0 := by
  apply List.ext_getElem?
  intro i
  by_cases hi : i < n
  · simp [countL, hi, ofDim]
  · rw [List.getElem?_eq_none (by rw [countL_len]; omega), List.getElem?_eq_none (by simp; omega)]

set_option maxHeartbeats 2000000 in
theorem implCountFaces (V : Int) (a0 : Option Addr) (cap : Nat) (fs : List Int) (w : World) (hx : SlI w w.heap.size a0 fs) (hl : fs.length ≤ 1048576) :
    Calls Try.prog 178 #[.agg #[.int .i64 V, .slice a0 fs.length cap]] w fun e w' => ∃ v, e = .returned (.tuple #[v, .int .i64 (countFacesR V fs).2]) ∧ Res w w' v (countFacesR V fs).1 := by
  have hB0 : Below w.heap.size w (w.alloc (.cells #[.int .i64 V, .slice a0 fs.length cap] 30)) := (Below.refl _ w).alloc (Nat.le_refl _) _
  have Hx := hid (hx.later hB0 (by simp))
  have Hx0 := hid hx
  by_cases hC : IsC V fs
  · refine pair_mono (show countFacesR V fs = (countL fs (top fs + 1).toNat, 0) by unfold countFacesR; rw [isCB_true hC, if_pos rfl]) ?_
    have Hf := hid hC.range63
    have HC := hid hC
    clear hC
    obtain ⟨T, hT⟩ : ∃ T : Nat, (T : Int) = top fs + 1 := ⟨(top fs + 1).toNat, by have := top_lo fs; omega⟩
    have hT6 : T ≤ 6 := by have := top_hi fs; omega
    have hTn : (top fs + 1).toNat = T := by omega
    rw [hTn]
    have HT := hid (show top fs = (T : Int) - 1 by omega)
    clear hT hTn
    go_enter Try.func178, Try.ntmps178
    go_wp2_with fail
    refine (isc_yes V a0 cap fs _ Hx.out hl HC.out).mono ?_
    rintro e w1 ⟨rfl, hB1⟩
    have k0 : w1.cell? ⟨w.heap.size, 0, none⟩ = some (.int .i64 V) := (hB1.cell (p := ⟨w.heap.size, 0, none⟩) (by simp)).trans (by simp [go_sem])
    have k1 : w1.cell? ⟨w.heap.size, 1, none⟩ = some (.slice a0 fs.length cap) := (hB1.cell (p := ⟨w.heap.size, 1, none⟩) (by simp)).trans (by simp [go_sem])
    have hB01 := hB0.trans (hB1.mono (by simp))
    have hs1 : w.heap.size < w1.heap.size := by have := hB1.size; simp at this; omega
    have hx1 := hid (hx.later hB01 hB01.size)
    clear hB1
    go_wp2_with fail
    refine (dimT V a0 cap fs T _ hx1.out hl Hf.out HT.out).mono ?_
    rintro e w2 ⟨rfl, hB2⟩
    have hB02 := hB01.trans (hB2.mono hB01.size)
    have hs2 : w.heap.size < w2.heap.size := Nat.lt_of_lt_of_le hs1 hB2.size
    have d1 : w2.cell? ⟨w.heap.size, 1, none⟩ = some (.slice a0 fs.length cap) := (hB2.cell (p := ⟨w.heap.size, 1, none⟩) hs1).trans k1
    clear k0 k1 hB2
    go_wp2_with (at_make; refine make_int (n := T) rfl rfl (by first | rfl | (show Value.int .i64 ((T : Int) - 1 + 1) = _; congr 1; omega)) (by first | rfl | (show Value.int .i64 ((T : Int) - 1 + 1) = _; congr 1; omega)) (by omega) ?_; intro w3 hown3 hgr3 hB3; have e1 : w3.cell? ⟨w.heap.size, 1, none⟩ = some (.slice a0 fs.length cap) := (hB3.cell (p := ⟨w.heap.size, 1, none⟩) hs2).trans d1)
    have hown0 : w3.ownsRow w2.heap.size 2 1 (.slice (some ⟨w2.heap.size, 0, none⟩) T T) T ((countL [] T).map (Value.int .i64)) := by rw [countL_nil]; exact hown3
    have Hown0 := hid hown0
    have HB3 := hid hB3
    clear hown3 hgr3 hown0 hB3 d1
    go_loopw [17] (fun i wr => ∃ k : Nat, k ≤ fs.length ∧ i = .int .i64 k ∧ wr.ownsRow w2.heap.size 2 1 (.slice (some ⟨w2.heap.size, 0, none⟩) T T) T ((countL (fs.take k) T).map (Value.int .i64)) ∧ Below w2.heap.size w2 wr) (fun i _ => fs.length - (intOf i).toNat)
    case atStart => exact ⟨0, Nat.zero_le _, rfl, by simpa using Hown0.out, HB3.out⟩
    case round =>
      obtain ⟨k, hk, rfl, hown, hB⟩ := hrel
      by_cases hlt : k < fs.length
      · obtain ⟨b, off, hb, rfl, hc⟩ : ∃ b off, b < w.heap.size ∧ a0 = some ⟨b, off, none⟩ ∧ ∀ i, i < fs.length → w.cell? ⟨b, off + i, none⟩ = some (.int .i64 (fs[i]?.getD 0)) := by
          rcases Hx0.out with rfl | h
          · simp at hlt
          · exact h
        have hxm := getD_mem hlt
        obtain ⟨x, hx⟩ : ∃ x : Nat, (x : Int) = fs[k]?.getD 0 := ⟨(fs[k]?.getD 0).toNat, by have := Hf.out _ hxm; omega⟩
        rw [← hx] at hxm
        have hxr := Hf.out _ hxm
        have hx64 : x < 64 := by omega
        have hck : wr.cell? ⟨b, off + k, none⟩ = some (.int .i64 (x : Int)) := by rw [hx]; exact (hB.cell (p := ⟨b, off + k, none⟩) (by show b < w2.heap.size; omega)).trans ((hB02.cell (p := ⟨b, off + k, none⟩) hb).trans (hc k hlt))
        have hi0 : (0 : Int) ≤ (k : Int) := by omega
        have hi1 : (k : Int) < (fs.length : Int) := by omega
        have hop := ones_pos ⟨x, hx64⟩ (by show x ≠ 0; omega)
        have htg := top_ge fs hxm
        rw [HT.out, Int.toNat_natCast] at htg
        obtain ⟨e, he⟩ : ∃ e, ones x = e + 1 := ⟨ones x - 1, by have : 0 < ones x := hop; omega⟩
        have heT : e < T := by omega
        have he0 : (0 : Int) ≤ (e : Int) := by omega
        have he1 : (e : Int) < (T : Int) := by omega
        have hcn := countL_at (fs.take k) T e heT
        obtain ⟨n, hn⟩ : ∃ n : Nat, n = (ofDim (fs.take k) (e : Int)).length := ⟨_, rfl⟩
        have hn6 : n ≤ 1048576 := by rw [hn]; exact Nat.le_trans (List.length_filter_le _ _) (by simp; omega)
        have hce : wr.cell? ⟨w2.heap.size, e, none⟩ = some (.int .i64 (n : Int)) := by
          rw [hown.cellAt e (by omega), hn, ← hcn]
          simp [countL, heT]
        have hfe := hown.frozenAt e
        have hst := hown.stored e (.int .i64 ((n : Int) + 1))
        have hstep : ((countL (fs.take k) T).map (Value.int .i64)).set e (.int .i64 ((n : Int) + 1)) = (countL (fs.take (k + 1)) T).map (Value.int .i64) := by
          rw [take_snoc hlt, ← hx, countL_face _ _ _ _ he, hn, List.map_set]
        rw [hstep] at hst
        have Hst := hid hst
        have HB := hid hB
        have He := hid he
        clear hstep hst hown hB hx hc hcn hn htg hop hxm hxr he
        go_wp2_with (go_at_call 125; refine (dimE x e _ hx64 He.out).mono ?_; rintro e w' ⟨rfl, rfl⟩)
        go_roundw
        case rel =>
          exact ⟨k + 1, by omega, by go_num, Hst.out.1, HB.out.grown Hst.out.2 HB.out.size (fun r e => by cases e; omega)⟩
        case measure => simp [intOf]; omega
      · go_wp2_with fail
        go_ret2
        obtain rfl : k = fs.length := by omega
        rw [List.take_of_length_le (Nat.le_refl _)] at hown
        exact ⟨_, rfl, ownsRow_base (by simpa [countL_len] using hown) (by omega), hB02.trans (hB.mono hB02.size)⟩
  · refine pair_mono (show countFacesR V fs = ([], 1) by unfold countFacesR; rw [isCB_false hC, if_neg (by simp)]) ?_
    go_enter Try.func178, Try.ntmps178
    go_wp2_with fail
    refine (isc_no V a0 cap fs _ Hx.out hl hC).mono ?_
    rintro e w1 ⟨rfl, hB1⟩
    have hB01 := hB0.trans (hB1.mono (by simp))
    go_wp2_with fail
    go_ret2
    exact ⟨_, rfl, res_nil _ _ hB01⟩

end Go.Proofs.Ytgefpllmelpahaa

/-! The numbers of critical faces, the program's. -/
namespace Go.Proofs.Ytgefpllmelpahaa
open Go.RowKit

noncomputable def criticalNumbersR (V : Int) (fs : List Int) (n : Nat) (ps : List Int) : List Int × Int := if pcodeR V fs n ps = 0 then (countL (critL fs ps) (top fs + 1).toNat, 0) else ([], pcodeR V fs n ps)

theorem criticalNumbersR_len (V : Int) (fs : List Int) (n : Nat) (ps : List Int) (_h : fs.length ≤ 1048576) (_hp : ps.length = 2 * n) (_hn : n ≤ 1048576) : (criticalNumbersR V fs n ps).1.length ≤ 1048576 := by
  unfold criticalNumbersR
  have := top_hi fs
  split
  · rw [countL_len]; omega
  · simp

theorem critL_mem {fs ps : List Int} {x : Int} (h : x ∈ critL fs ps) : x ∈ fs := (List.mem_filter.1 h).1

set_option maxRecDepth 100000 in
set_option maxHeartbeats 2000000 in
theorem critN_ok (V : Int) (a0 : Option Addr) (cap : Nat) (fs : List Int) (a1 : Option Addr) (n cap1 : Nat) (ps : List Int) (w : World) (hx : SlI w w.heap.size a0 fs) (hx1 : SlI w w.heap.size a1 ps) (hl : fs.length ≤ 1048576) (hp : ps.length = 2 * n) (hn : n ≤ 1048576) (hw : ∀ x ∈ ps, (Lit.int .i64 x).wf = true)
    (hC : IsC V fs) (h0 : pcodeR V fs n ps = 0) :
    Calls Try.prog 53 #[.agg #[.int .i64 V, .slice a0 fs.length cap], .slice a1 n cap1] w fun e w' => ∃ v, e = .returned (.tuple #[v, .int .i64 0]) ∧ Res w w' v (countL (critL fs ps) (top fs + 1).toNat) := by
  have hB0 : Below w.heap.size w (w.alloc (.cells #[.int .i64 V, .slice a0 fs.length cap] 30)) := (Below.refl _ w).alloc (Nat.le_refl _) _
  have HI := hid (implCriticalFaces V a0 cap fs a1 n cap1 ps _ (hx.later hB0 hB0.size) (hx1.later hB0 hB0.size) hl hp hn hw)
  rw [show criticalFacesR V fs n ps = (critL fs ps, 0) by unfold criticalFacesR; rw [h0, if_pos rfl]] at HI
  have Hx0 := hid hx
  have Hf := hid hC.range63
  obtain ⟨T, hT⟩ : ∃ T : Nat, (T : Int) = top fs + 1 := ⟨(top fs + 1).toNat, by have := top_lo fs; omega⟩
  have hT6 : T ≤ 6 := by have := top_hi fs; omega
  have hTn : (top fs + 1).toNat = T := by omega
  rw [hTn]
  have HT := hid (show top fs = (T : Int) - 1 by omega)
  obtain ⟨L, hL⟩ : ∃ L, L = critL fs ps := ⟨_, rfl⟩
  have Hm : Hid (∀ x ∈ L, x ∈ fs) := hid (fun x hx => critL_mem (by rw [← hL]; exact hx))
  have HLl : Hid (L.length ≤ 1048576) := hid (by rw [hL]; exact Nat.le_trans (List.length_filter_le _ _) hl)
  rw [← hL] at HI ⊢
  have hx0 := hx
  clear hT hTn hx hx1 hp hw hC h0 hL
  go_enter Try.func53, Try.ntmps53
  go_wp2_with fail
  refine HI.out.mono ?_
  rintro e w1 ⟨v, rfl, hres⟩
  have hB1 := hres.2
  obtain ⟨_, av, cv, rfl, hs⟩ := ownsRow_slI hres.1
  have Hs := hid hs
  have k0 : w1.cell? ⟨w.heap.size, 0, none⟩ = some (.int .i64 V) := (hB1.cell (p := ⟨w.heap.size, 0, none⟩) (by simp)).trans (by simp [go_sem])
  have k1 : w1.cell? ⟨w.heap.size, 1, none⟩ = some (.slice a0 fs.length cap) := (hB1.cell (p := ⟨w.heap.size, 1, none⟩) (by simp)).trans (by simp [go_sem])
  have hB01 := hB0.trans (hB1.mono (by simp))
  have hs1 : w.heap.size < w1.heap.size := by have := hB1.size; simp at this; omega
  have hx1 := hid (hx0.later hB01 hB01.size)
  clear hB1 hs hres hB0 hx0
  go_wp2_with fail
  refine (dimT V a0 cap fs T _ hx1.out hl Hf.out HT.out).mono ?_
  rintro e w2 ⟨rfl, hB2⟩
  have hB02 := hB01.trans (hB2.mono hB01.size)
  have hs2 : w.heap.size < w2.heap.size := Nat.lt_of_lt_of_le hs1 hB2.size
  have Hs2 := hid (Hs.out.later hB2 hB2.size)
  clear k0 k1 hB2
  go_wp2_with (at_make; refine make_int (n := T) rfl rfl (by first | rfl | (show Value.int .i64 ((T : Int) - 1 + 1) = _; congr 1; omega)) (by first | rfl | (show Value.int .i64 ((T : Int) - 1 + 1) = _; congr 1; omega)) (by omega) ?_; intro w3 hown3 hgr3 hB3)
  have hown0 : w3.ownsRow w2.heap.size 2 1 (.slice (some ⟨w2.heap.size, 0, none⟩) T T) T ((countL [] T).map (Value.int .i64)) := by rw [countL_nil]; exact hown3
  have Hown0 := hid hown0
  have HB3 := hid hB3
  clear hown3 hgr3 hown0 hB3
  go_loopw [26] (fun i wr => ∃ k : Nat, k ≤ L.length ∧ i = .int .i64 k ∧ wr.ownsRow w2.heap.size 2 1 (.slice (some ⟨w2.heap.size, 0, none⟩) T T) T ((countL (L.take k) T).map (Value.int .i64)) ∧ Below w2.heap.size w2 wr) (fun i _ => L.length - (intOf i).toNat)
  case atStart => exact ⟨0, Nat.zero_le _, rfl, by simpa using Hown0.out, HB3.out⟩
  case round =>
    obtain ⟨k, hk, rfl, hown, hB⟩ := hrel
    have hLl := HLl.out
    by_cases hlt : k < L.length
    · obtain ⟨b, off, hb, rfl, hc⟩ : ∃ b off, b < w2.heap.size ∧ av = some ⟨b, off, none⟩ ∧ ∀ i, i < L.length → w2.cell? ⟨b, off + i, none⟩ = some (.int .i64 (L[i]?.getD 0)) := by
        rcases Hs2.out with h | h
        · rw [h] at hlt; simp at hlt
        · exact h
      have hxm := Hm.out _ (getD_mem hlt)
      obtain ⟨x, hx⟩ : ∃ x : Nat, (x : Int) = L[k]?.getD 0 := ⟨(L[k]?.getD 0).toNat, by have := Hf.out _ hxm; omega⟩
      rw [← hx] at hxm
      have hxr := Hf.out _ hxm
      have hx64 : x < 64 := by omega
      have hck : wr.cell? ⟨b, off + k, none⟩ = some (.int .i64 (x : Int)) := by rw [hx]; exact (hB.cell (p := ⟨b, off + k, none⟩) hb).trans (hc k hlt)
      have hi0 : (0 : Int) ≤ (k : Int) := by omega
      have hi1 : (k : Int) < (L.length : Int) := by omega
      have hop := ones_pos ⟨x, hx64⟩ (by show x ≠ 0; omega)
      have htg := top_ge fs hxm
      rw [HT.out, Int.toNat_natCast] at htg
      obtain ⟨e, he⟩ : ∃ e, ones x = e + 1 := ⟨ones x - 1, by have : 0 < ones x := hop; omega⟩
      have heT : e < T := by omega
      have he0 : (0 : Int) ≤ (e : Int) := by omega
      have he1 : (e : Int) < (T : Int) := by omega
      have hcn := countL_at (L.take k) T e heT
      obtain ⟨c, hn⟩ : ∃ c : Nat, c = (ofDim (L.take k) (e : Int)).length := ⟨_, rfl⟩
      have hn6 : c ≤ 1048576 := by rw [hn]; exact Nat.le_trans (List.length_filter_le _ _) (by simp; omega)
      have hce : wr.cell? ⟨w2.heap.size, e, none⟩ = some (.int .i64 (c : Int)) := by
        rw [hown.cellAt e (by omega), hn, ← hcn]
        simp [countL, heT]
      have hfe := hown.frozenAt e
      have hst := hown.stored e (.int .i64 ((c : Int) + 1))
      have hstep : ((countL (L.take k) T).map (Value.int .i64)).set e (.int .i64 ((c : Int) + 1)) = (countL (L.take (k + 1)) T).map (Value.int .i64) := by
        rw [take_snoc hlt, ← hx, countL_face _ _ _ _ he, hn, List.map_set]
      rw [hstep] at hst
      have Hst := hid hst
      have HB := hid hB
      have He := hid he
      clear hstep hst hown hB hx hc hcn hn htg hop hxm hxr he
      go_wp2_with (go_at_call 125; refine (dimE x e _ hx64 He.out).mono ?_; rintro e w' ⟨rfl, rfl⟩)
      go_roundw
      case rel =>
        exact ⟨k + 1, by omega, by go_num, Hst.out.1, HB.out.grown Hst.out.2 HB.out.size (fun r e => by cases e; omega)⟩
      case measure => simp [intOf]; omega
    · go_wp2_with fail
      go_ret2
      obtain rfl : k = L.length := by omega
      rw [List.take_of_length_le (Nat.le_refl _)] at hown
      exact ⟨_, rfl, ownsRow_base (by simpa [countL_len] using hown) (by omega), hB02.trans (hB.mono hB02.size)⟩

set_option maxRecDepth 100000 in
set_option maxHeartbeats 1000000 in
theorem critN_bad (V : Int) (a0 : Option Addr) (cap : Nat) (fs : List Int) (a1 : Option Addr) (n cap1 : Nat) (ps : List Int) (w : World) (hx : SlI w w.heap.size a0 fs) (hx1 : SlI w w.heap.size a1 ps) (hl : fs.length ≤ 1048576) (hp : ps.length = 2 * n) (hn : n ≤ 1048576) (hw : ∀ x ∈ ps, (Lit.int .i64 x).wf = true)
    (c : Int) (hc : (c != 0) = true) (hc0 : ¬ c = 0) (h0 : pcodeR V fs n ps = c) :
    Calls Try.prog 53 #[.agg #[.int .i64 V, .slice a0 fs.length cap], .slice a1 n cap1] w fun e w' => ∃ v, e = .returned (.tuple #[v, .int .i64 c]) ∧ Res w w' v [] := by
  have hB0 : Below w.heap.size w (w.alloc (.cells #[.int .i64 V, .slice a0 fs.length cap] 30)) := (Below.refl _ w).alloc (Nat.le_refl _) _
  have HI := hid (implCriticalFaces V a0 cap fs a1 n cap1 ps _ (hx.later hB0 hB0.size) (hx1.later hB0 hB0.size) hl hp hn hw)
  rw [show criticalFacesR V fs n ps = ([], c) by unfold criticalFacesR; rw [h0, if_neg hc0]] at HI
  clear hx hx1 hp hw h0 hc0
  go_enter Try.func53, Try.ntmps53
  go_wp2_with fail
  refine HI.out.mono ?_
  rintro e w1 ⟨v, rfl, hres⟩
  have hB1 := hres.2
  clear hres
  go_wp2_with fail
  go_ret2
  exact ⟨_, rfl, res_nil _ _ (hB0.trans (hB1.mono (by simp)))⟩

theorem implCriticalNumbers (V : Int) (a0 : Option Addr) (cap : Nat) (fs : List Int) (a1 : Option Addr) (n cap1 : Nat) (ps : List Int) (w : World) (hx : SlI w w.heap.size a0 fs) (hx1 : SlI w w.heap.size a1 ps) (hl : fs.length ≤ 1048576) (hp : ps.length = 2 * n) (hn : n ≤ 1048576) (hw : ∀ x ∈ ps, (Lit.int .i64 x).wf = true) :
    Calls Try.prog 53 #[.agg #[.int .i64 V, .slice a0 fs.length cap], .slice a1 n cap1] w fun e w' => ∃ v, e = .returned (.tuple #[v, .int .i64 (criticalNumbersR V fs n ps).2]) ∧ Res w w' v (criticalNumbersR V fs n ps).1 := by
  rcases pcode_cases V fs n ps with ⟨hC, _, h0, _, _⟩ | ⟨_, _, h0, _, _⟩ | ⟨_, h0, _⟩
  · exact res_mono (by unfold criticalNumbersR; rw [h0, if_pos rfl]) (critN_ok V a0 cap fs a1 n cap1 ps w hx hx1 hl hp hn hw hC h0)
  · exact res_mono (by unfold criticalNumbersR; rw [h0, if_neg (by decide)]) (critN_bad V a0 cap fs a1 n cap1 ps w hx hx1 hl hp hn hw 2 (by decide) (by decide) h0)
  · exact res_mono (by unfold criticalNumbersR; rw [h0, if_neg (by decide)]) (critN_bad V a0 cap fs a1 n cap1 ps w hx hx1 hl hp hn hw 1 (by decide) (by decide) h0)

end Go.Proofs.Ytgefpllmelpahaa

/-! The numbers of critical faces, the model's. -/
namespace Go.Proofs.Ytgefpllmelpahaa
open Go.RowKit

/-- 'make([]int64, n)', as an equation. -/
theorem make_run (w : World) (n : Nat) (hn : n ≤ 1099511627776) : ∃ w', (Instr.makeSlice 22 (.int .i64 (n : Int)) (.int .i64 (n : Int))).run Try.prog w = .ok (.slice (some ⟨w.heap.size, 0, none⟩) n n) w' ∧
    w'.ownsRow w.heap.size 2 1 (.slice (some ⟨w.heap.size, 0, none⟩) n n) n ((List.replicate n (0 : Int)).map (Value.int .i64)) ∧ w.grownBy w' none ∧ Below w.heap.size w w' := by
  obtain ⟨i0, hi, hz0, hz1, hz2⟩ := info_parts info_i64
  obtain ⟨w', hrun, hown, hg⟩ := run_make_full (P := Try.prog) w w.heap.size 22 2 i0 (.int .i64 0) 1 Try.underlying22 hi hz0 hz1 .i64 .i64 n (by rw [hz2]; omega) (by unfold maxLen; omega) (Nat.le_refl _)
  have e : (madeCells (Value.int .i64 0).cells (n * 1)).toList = (List.replicate n (0 : Int)).map (Value.int .i64) := by
    rw [Nat.mul_one]
    exact (toList_madeCells_one _ _).trans (by simp)
  rw [e] at hown
  exact ⟨w', hrun, hown, hg, (Below.refl _ w).grown hg (Nat.le_refl _) (fun k hk => by cases hk)⟩

theorem dim2_any (x : Nat) (w : World) (hx : x < 64) : Calls Try.prog 197 #[.int .i64 (x : Int)] w fun e w' => e = .returned (.int .i64 ((ones x : Int) - 1)) ∧ w = w' := by
  have ho := ones_le x
  go_enter Try.func197, Try.ntmps197
  go_wp2_with (go_at_call 130; refine (ones_any x _ hx).mono ?_; rintro e w' ⟨rfl, rfl⟩)
  go_ret
  exact ⟨ret_int rfl, rfl⟩

theorem dim2E (f e : Nat) (w : World) (hf : f < 64) (he : ones f = e + 1) :
    Calls Try.prog 197 #[.int .i64 (f : Int)] w fun r w' => r = .returned (.int .i64 (e : Int)) ∧ w = w' :=
  (dim2_any f w hf).mono fun _ _ ⟨h, hw⟩ => ⟨by rw [h, he]; congr 2; omega, hw⟩

set_option maxRecDepth 100000 in
set_option maxHeartbeats 4000000 in
theorem numS_any (V : Int) (a0 : Option Addr) (cap : Nat) (fs : List Int) (a1 : Option Addr) (n cap1 : Nat) (ps : List Int) (w : World) (hx : SlI w w.heap.size a0 fs) (hx1 : SlI w w.heap.size a1 ps) (hl : fs.length ≤ 1048576) (hp : ps.length = 2 * n) (hn : n ≤ 1048576) (hf : ∀ x ∈ fs, 1 ≤ x ∧ x ≤ 63) :
    Calls Try.prog 118 #[.agg #[.int .i64 V, .slice a0 fs.length cap], .slice a1 n cap1] w fun e w' => ∃ v, e = .returned v ∧ Res w w' v (countL (critL fs ps) (top fs + 1).toNat) := by
  obtain ⟨W, hW⟩ : ∃ W, W = w.alloc (.cells #[.int .i64 V, .slice a0 fs.length cap] 30) := ⟨_, rfl⟩
  have hB0 : Below w.heap.size w W := by rw [hW]; exact (Below.refl _ w).alloc (Nat.le_refl _) _
  have hsW : W.heap.size = w.heap.size + 1 := by rw [hW]; simp
  have q0 : W.heap[w.heap.size]? = some (.cells #[.int .i64 V, .slice a0 fs.length cap] 30 (0, 0)) := by rw [hW]; exact heap_alloc_new _ _
  obtain ⟨k0, k1, _, _⟩ := two_of q0
  obtain ⟨T, hT⟩ : ∃ T : Nat, (T : Int) = top fs + 1 := ⟨(top fs + 1).toNat, by have := top_lo fs; omega⟩
  have hT6 : T ≤ 6 := by have := top_hi fs; omega
  have hTn : (top fs + 1).toNat = T := by omega
  rw [hTn]
  have HT := hid (show top fs = (T : Int) - 1 by omega)
  clear hT hTn
  obtain ⟨L, hL⟩ : ∃ L, L = critL fs ps := ⟨_, rfl⟩
  have Hm : Hid (∀ x ∈ L, x ∈ fs) := hid (fun x hx => critL_mem (by rw [← hL]; exact hx))
  have HLl : Hid (L.length ≤ 1048576) := hid (by rw [hL]; exact Nat.le_trans (List.length_filter_le _ _) hl)
  rw [← hL]
  have HL := hid hL
  clear hL
  have Q0 := hid q0
  have HsW := hid hsW
  have HW := hid hW
  have HB0 := hid hB0
  have Hx0 := hid hx
  have Hy := hid hx1
  have Hf := hid hf
  have Hp := hid hp
  clear hW q0 hsW hx hx1 hf hp hB0
  go_enter Try.func118, Try.ntmps118
  go_wp2_with fail
  rw [← HW.out]
  go_loopw [5, 6] (fun m i wr => ∃ k : Nat, k ≤ fs.length ∧ i = .int .i64 k ∧ m = .int .i64 (top (fs.take k)) ∧ wr = W) (fun _ i _ => fs.length - (intOf i).toNat)
  case atStart => exact ⟨0, Nat.zero_le _, rfl, by simp [top], rfl⟩
  case round =>
    obtain ⟨k, hk, rfl, rfl, rfl⟩ := hrel
    by_cases hlt : k < fs.length
    · obtain ⟨b, off, hb, rfl, hc⟩ : ∃ b off, b < w.heap.size ∧ a0 = some ⟨b, off, none⟩ ∧ ∀ i, i < fs.length → w.cell? ⟨b, off + i, none⟩ = some (.int .i64 (fs[i]?.getD 0)) := by
        rcases Hx0.out with rfl | h
        · simp at hlt
        · exact h
      obtain ⟨x, hx⟩ : ∃ x : Nat, (x : Int) = fs[k]?.getD 0 := ⟨(fs[k]?.getD 0).toNat, by have := Hf.out _ (getD_mem hlt); omega⟩
      have hx64 : x < 64 := by have := Hf.out _ (getD_mem hlt); omega
      have hck : wr.cell? ⟨b, off + k, none⟩ = some (.int .i64 (x : Int)) := (HB0.out.cell (p := ⟨b, off + k, none⟩) hb).trans (by rw [hx]; exact hc k hlt)
      have hi0 : (0 : Int) ≤ (k : Int) := by omega
      have hi1 : (k : Int) < (fs.length : Int) := by omega
      have Ht : Hid (top (fs.take (k + 1)) = more (top (fs.take k)) ((ones x : Int) - 1)) := hid (by rw [take_snoc hlt, ← hx, top_snoc]; simp)
      have ht0 := top_lo (fs.take k)
      have ht1 := top_hi (fs.take k)
      obtain ⟨t, htt⟩ : ∃ t, t = top (fs.take k) := ⟨_, rfl⟩
      rw [← htt] at Ht ht0 ht1 ⊢
      have ho := ones_le x
      clear hx hc htt
      by_cases hm : t < (ones x : Int) - 1
      · have hmm : more t ((ones x : Int) - 1) = (ones x : Int) - 1 := by unfold more; rw [if_pos hm]
        rw [hmm] at Ht
        clear hmm
        go_wp2_with (go_at_call 197; refine (dim2_any x _ hx64).mono ?_; rintro e w' ⟨rfl, rfl⟩)
        go_roundw
        case rel => exact ⟨k + 1, by omega, by go_num, by first | (rw [Ht.out]; done) | (rw [Ht.out]; congr 1; omega), trivial⟩
        case measure => simp [intOf]; omega
      · have hmm : more t ((ones x : Int) - 1) = t := by unfold more; rw [if_neg hm]
        rw [hmm] at Ht
        have hm' : (ones x : Int) - 1 ≤ t := by omega
        clear hmm
        go_wp2_with (go_at_call 197; refine (dim2_any x _ hx64).mono ?_; rintro e w' ⟨rfl, rfl⟩)
        go_roundw
        case rel => exact ⟨k + 1, by omega, by go_num, by first | (rw [Ht.out]; done) | (rw [Ht.out]; congr 1; omega), trivial⟩
        case measure => simp [intOf]; omega
    · obtain rfl : k = fs.length := by omega
      rw [List.take_of_length_le (Nat.le_refl _)]
      rw [HT.out]
      have hw1 : IntKind.i64.wrap ((T : Int) - 1 + 1) = (T : Int) := by rw [IntKind.wrap_i64]; omega
      have hw3 : IntKind.i64.wrap (T : Int) = (T : Int) := by rw [IntKind.wrap_i64]; omega
      have hw2 : wrap64 ((T : Int) - 1 + 1) = (T : Int) := by rw [show (T : Int) - 1 + 1 = T by omega]; exact IntWalk.wrap64_in _ ⟨by omega, by omega⟩
      obtain ⟨wm, hmk, hown, hgm, hBm⟩ := make_run wr.drew T (by omega)
      have m0 := (hBm.cell (p := ⟨w.heap.size, 0, none⟩) (by show w.heap.size < wr.heap.size; rw [HsW.out]; omega)).trans k0
      have m1 := (hBm.cell (p := ⟨w.heap.size, 1, none⟩) (by show w.heap.size < wr.heap.size; rw [HsW.out]; omega)).trans k1
      have HBw : Hid (Below w.heap.size w wr.drew) := hid (HB0.out.trans ⟨rfl, rfl, rfl, Nat.le_refl _, fun _ _ => rfl⟩)
      have HBwm : Hid (Below w.heap.size w wm) := hid (HBw.out.trans (hBm.mono HBw.out.size))
      have HC0 := hid (critS_any V a0 cap fs a1 n cap1 ps wr.drew (Hx0.out.later HBw.out HBw.out.size) (Hy.out.later HBw.out HBw.out.size) hl Hp.out hn)
      have HCm := hid (critS_any V a0 cap fs a1 n cap1 ps wm (Hx0.out.later HBwm.out HBwm.out.size) (Hy.out.later HBwm.out HBwm.out.size) hl Hp.out hn)
      rw [← HL.out] at HC0 HCm
      have Hown := hid hown
      have HBm := hid hBm
      have hsr : wr.heap.size = w.heap.size + 1 := HsW.out
      have Hsr := hid hsr
      have Hltr : Hid (w.heap.size < wr.drew.heap.size) := hid (by show w.heap.size < wr.heap.size; omega)
      have Hltm : Hid (w.heap.size < wm.heap.size) := hid (Nat.lt_of_lt_of_le Hltr.out hBm.size)
      have HNm : Hid (∀ w2, Below wm.heap.size wm w2 → w2.cell? ⟨w.heap.size, 0, none⟩ = some (.int .i64 V) ∧ w2.cell? ⟨w.heap.size, 1, none⟩ = some (.slice a0 fs.length cap)) := hid (fun w2 h => ⟨(h.cell (p := ⟨w.heap.size, 0, none⟩) Hltm.out).trans m0, (h.cell (p := ⟨w.heap.size, 1, none⟩) Hltm.out).trans m1⟩)
      have HNr : Hid (∀ w2, Below wr.drew.heap.size wr.drew w2 → w2.cell? ⟨w.heap.size, 0, none⟩ = some (.int .i64 V) ∧ w2.cell? ⟨w.heap.size, 1, none⟩ = some (.slice a0 fs.length cap)) := hid (fun w2 h => ⟨(h.cell (p := ⟨w.heap.size, 0, none⟩) Hltr.out).trans k0, (h.cell (p := ⟨w.heap.size, 1, none⟩) Hltr.out).trans k1⟩)
      clear hown hgm hBm hsr
      go_wp2_with fail
      go_cut [7, 8] from 25 to 46 (fun p q wx => ∃ bo : Nat, p = .slice (some ⟨bo, 0, none⟩) T T ∧ w.heap.size ≤ bo ∧ wx.ownsRow w.heap.size 2 1 (.slice (some ⟨bo, 0, none⟩) T T) T ((List.replicate T (0 : Int)).map (Value.int .i64)) ∧ wx.ownsRow w.heap.size 2 1 q L.length (L.map (Value.int .i64)) ∧ q.ownBlock ≠ some bo ∧ Below w.heap.size w wx)
      case first =>
        go_region_held3 (fun w' => w'.cell? ⟨w.heap.size, 0, none⟩ = some (.int .i64 V) ∧ w'.cell? ⟨w.heap.size, 1, none⟩ = some (.slice a0 fs.length cap)) (go_keep) (first
          | (go_at_call 198; (with_reducible_and_instances refine HCm.out.mono ?_); rintro e w2 ⟨v, rfl, hr⟩; have hb2 : Below wm.heap.size wm w2 := hr.2; obtain ⟨n0, n1⟩ := HNm.out w2 hb2; have HR := hid hr; clear hr hb2)
          | (go_at_call 198; (with_reducible_and_instances refine HC0.out.mono ?_); rintro e w2 ⟨v, rfl, hr⟩; have hb2 : Below wr.drew.heap.size wr.drew w2 := hr.2; obtain ⟨n0, n1⟩ := HNr.out w2 hb2; obtain ⟨w3, hmk3, hown3, hg3, hB3⟩ := make_run w2 T (by omega); obtain ⟨o0, o1⟩ := HNr.out w3 (hb2.trans (hB3.mono hb2.size)); have HR := hid hr; have Hown3 := hid hown3; have HB3 := hid hB3; clear hr hb2 hown3 hg3 hB3)
          | (simp only [hmk3]))
        · go_wp2_with fail
          go_meet
          case rel =>
            have hlm := (Hown.out.lt wr.heap.size rfl).2
            have hb2 : Below wm.heap.size wm w2 := HR.out.2
            refine ⟨wr.heap.size, rfl, by have := Hsr.out; omega, ownsRow_base (ownsRow_below Hown.out hb2 (fun g hg => (Hown.out.lt g hg).2)) (by show w.heap.size ≤ wr.heap.size; have := Hsr.out; omega), ownsRow_base HR.out.1 HBwm.out.size, fun e => ?_, HBwm.out.trans (hb2.mono HBwm.out.size)⟩
            have := (HR.out.1.lt _ e).1
            omega
        · go_wp2_with fail
          go_meet
          case rel =>
            have hb2 : Below wr.drew.heap.size wr.drew w2 := HR.out.2
            have hs2 := hb2.size
            have hsd : wr.drew.heap.size = wr.heap.size := rfl
            have hsr := Hsr.out
            refine ⟨w2.heap.size, rfl, by omega, ownsRow_base Hown3.out (by omega), ownsRow_base (ownsRow_below HR.out.1 HB3.out (fun g hg => (HR.out.1.lt g hg).2)) (by omega), fun e => ?_, (HBw.out.trans (hb2.mono (by omega))).trans (HB3.out.mono (by omega))⟩
            have := (HR.out.1.lt _ e).2
            omega
      case rest =>
        obtain ⟨bo, rfl, hbo, hnum, hcr, hne, hB⟩ := hcut
        have Hcr := hid hcr
        have Hnum : Hid (wc.ownsRow w.heap.size 2 1 (.slice (some ⟨bo, 0, none⟩) T T) T ((countL [] T).map (Value.int .i64))) := hid (by rw [countL_nil]; exact hnum)
        have HB := hid hB
        clear hcr hnum hB k0 k1 m0 m1 hw1 hw2 hw3 hmk Hown HBm HC0 HCm HNm HNr Hltr Hltm HBw HBwm
        rcases Hcr.out.2 with ⟨rfl, hn0⟩ | ⟨g, cp, _, rfl, _⟩
        · have hLn : L = [] := List.length_eq_zero_iff.1 hn0
          subst hLn
          go_wp2
          refine wp_loop_rounds 1 ?_; rw [rounds_succ]
          go_wp2
          go_ret
          exact ⟨_, rfl, by simpa [countL_len] using Hnum.out, HB.out⟩
        · go_wp2
          go_loopw [9] (fun i wx => ∃ k : Nat, k ≤ L.length ∧ i = .int .i64 k ∧ wx.ownsRow w.heap.size 2 1 (.slice (some ⟨bo, 0, none⟩) T T) T ((countL (L.take k) T).map (Value.int .i64)) ∧ wx.ownsRow w.heap.size 2 1 (.slice (some ⟨g, 0, none⟩) L.length cp) L.length (L.map (Value.int .i64)) ∧ Below w.heap.size w wx) (fun i _ => L.length - (intOf i).toNat)
          case atStart => exact ⟨0, Nat.zero_le _, rfl, by simpa using Hnum.out, Hcr.out, HB.out⟩
          case round =>
            clear Hnum Hcr HB
            obtain ⟨k, hk, rfl, hown, hcr, hB⟩ := hrel
            have hLl := HLl.out
            have hgb : ¬ g = bo := fun e => hne (by simp [Value.ownBlock, e])
            by_cases hlt : k < L.length
            · have hxm := Hm.out _ (getD_mem hlt)
              obtain ⟨x, hx⟩ : ∃ x : Nat, (x : Int) = L[k]?.getD 0 := ⟨(L[k]?.getD 0).toNat, by have := Hf.out _ hxm; omega⟩
              rw [← hx] at hxm
              have hxr := Hf.out _ hxm
              have hx64 : x < 64 := by omega
              have hck : wr.cell? ⟨g, k, none⟩ = some (.int .i64 (x : Int)) := by
                rw [hcr.cellAt k (by omega), hx, List.getElem?_map, List.getElem?_eq_getElem hlt]; rfl
              have hi0 : (0 : Int) ≤ (k : Int) := by omega
              have hi1 : (k : Int) < (L.length : Int) := by omega
              have hop := ones_pos ⟨x, hx64⟩ (by show x ≠ 0; omega)
              have htg := top_ge fs hxm
              rw [HT.out, Int.toNat_natCast] at htg
              obtain ⟨e, he⟩ : ∃ e, ones x = e + 1 := ⟨ones x - 1, by have : 0 < ones x := hop; omega⟩
              have heT : e < T := by omega
              have he0 : (0 : Int) ≤ (e : Int) := by omega
              have he1 : (e : Int) < (T : Int) := by omega
              have hcn := countL_at (L.take k) T e heT
              obtain ⟨c, hn⟩ : ∃ c : Nat, c = (ofDim (L.take k) (e : Int)).length := ⟨_, rfl⟩
              have hn6 : c ≤ 1048576 := by rw [hn]; exact Nat.le_trans (List.length_filter_le _ _) (by simp; omega)
              have hce : wr.cell? ⟨bo, e, none⟩ = some (.int .i64 (c : Int)) := by
                rw [hown.cellAt e (by omega), hn, ← hcn]
                simp [countL, heT]
              have hfe := hown.frozenAt e
              have hst := hown.stored e (.int .i64 ((c : Int) + 1))
              have hstep : ((countL (L.take k) T).map (Value.int .i64)).set e (.int .i64 ((c : Int) + 1)) = (countL (L.take (k + 1)) T).map (Value.int .i64) := by
                rw [take_snoc hlt, ← hx, countL_face _ _ _ _ he, hn, List.map_set]
              rw [hstep] at hst
              have Hst := hid hst
              have HB := hid hB
              have Hcr := hid hcr
              have He := hid he
              have Hbb := hid hbo
              have Hgb := hid hgb
              clear hstep hst hown hB hx hcn hn htg hop hxm hxr he hcr hne hbo hgb
              go_wp2_with (go_at_call 197; refine (dim2E x e _ hx64 He.out).mono ?_; rintro e w' ⟨rfl, rfl⟩)
              go_roundw
              case rel =>
                exact ⟨k + 1, by omega, by go_num, Hst.out.1, Hcr.out.kept Hst.out.2 (Or.inr (fun e => Hgb.out (by simpa [Value.ownBlock] using e))), HB.out.grown Hst.out.2 HB.out.size (fun r e => by cases e; exact Hbb.out)⟩
              case measure => simp [intOf]; omega
            · obtain rfl : k = L.length := by omega
              rw [List.take_of_length_le (Nat.le_refl _)] at hown
              have Hown := hid hown
              have HB := hid hB
              clear hown hcr hB hne
              go_wp2
              go_ret
              exact ⟨_, rfl, by simpa [countL_len] using Hown.out, HB.out⟩


end Go.Proofs.Ytgefpllmelpahaa

/-! The numbers of holes, the model's. -/
namespace Go.Proofs.Ytgefpllmelpahaa
open Go.RowKit

/-- The rank of the Morse boundary of p. -/
noncomputable def rkM (fs ps : List Int) (n : Nat) (p : Nat) : Int := (elimR 2 (atL fs ps ((p : Int) - 1)).length 0 0 (rowsM ps n (critL fs ps) (p : Int)) : Nat)
theorem rkM_rng {V : Int} {fs ps : List Int} {n p : Nat} (hC : IsC V fs) : 0 ≤ rkM fs ps n p ∧ rkM fs ps n p ≤ 63 := by
  unfold rkM
  have h1 := elim_le (p := 2) (atL fs ps ((p : Int) - 1)).length 0 0 (rowsM ps n (critL fs ps) (p : Int))
  have h2 : (atL fs ps ((p : Int) - 1)).length ≤ fs.length := Nat.le_trans (List.length_filter_le _ _) (List.length_filter_le _ _)
  have h3 := hC.len63
  omega
/-- The numbers less the ranks 1 to k. -/
noncomputable def holT (fs ps : List Int) (n : Nat) (N : List Int) (k : Nat) : List Int := (List.range N.length).map fun d => N[d]?.getD 0 - (if 1 ≤ d ∧ d ≤ k then rkM fs ps n d else 0) - (if d + 1 ≤ k then rkM fs ps n (d + 1) else 0)
theorem holT_len (fs ps : List Int) (n : Nat) (N : List Int) (k : Nat) : (holT fs ps n N k).length = N.length := by simp [holT]
theorem holT_get {fs ps : List Int} {n : Nat} {N : List Int} {k d : Nat} (hd : d < N.length) : (holT fs ps n N k)[d]?.getD 0 = N[d]?.getD 0 - (if 1 ≤ d ∧ d ≤ k then rkM fs ps n d else 0) - (if d + 1 ≤ k then rkM fs ps n (d + 1) else 0) := by simp [holT, hd]
theorem holT_zero (fs ps : List Int) (n : Nat) (N : List Int) : holT fs ps n N 0 = N := by
  apply List.ext_getElem
  · exact holT_len ..
  · intro d h1 h2
    have := holT_get (fs := fs) (ps := ps) (n := n) (N := N) (k := 0) h2
    rw [List.getElem?_eq_getElem h1, List.getElem?_eq_getElem h2] at this
    simp only [Option.getD_some] at this
    rw [this, if_neg (by omega), if_neg (by omega)]
    omega
theorem holT_succ {fs ps : List Int} {n : Nat} {N : List Int} {k : Nat} (hk : k + 1 < N.length) :
    ((holT fs ps n N k).set (k + 1) ((holT fs ps n N k)[k + 1]?.getD 0 - rkM fs ps n (k + 1))).set k ((holT fs ps n N k)[k]?.getD 0 - rkM fs ps n (k + 1)) = holT fs ps n N (k + 1) := by
  have hA := holT_get (fs := fs) (ps := ps) (n := n) (k := k) hk
  have hB := holT_get (fs := fs) (ps := ps) (n := n) (N := N) (k := k) (show k < N.length by omega)
  generalize (holT fs ps n N k)[k + 1]?.getD 0 = A at hA ⊢
  generalize (holT fs ps n N k)[k]?.getD 0 = B at hB ⊢
  apply List.ext_getElem
  · simp [holT_len]
  · intro d h1 h2
    have hd : d < N.length := by rw [holT_len] at h2; exact h2
    have e2 := holT_get (fs := fs) (ps := ps) (n := n) (k := k + 1) hd
    rw [List.getElem?_eq_getElem h2] at e2
    simp only [Option.getD_some] at e2
    rw [e2]
    by_cases ek : d = k
    · subst ek
      rw [List.getElem_set_self, hB]
      rw [if_neg (show ¬ d + 1 ≤ d by omega), if_pos (show d + 1 ≤ d + 1 by omega)]
      by_cases h0 : 1 ≤ d
      · rw [if_pos ⟨h0, Nat.le_refl _⟩, if_pos (show 1 ≤ d ∧ d ≤ d + 1 by omega)]; omega
      · rw [if_neg (show ¬ (1 ≤ d ∧ d ≤ d) by omega), if_neg (show ¬ (1 ≤ d ∧ d ≤ d + 1) by omega)]; omega
    · rw [List.getElem_set_ne (by omega)]
      by_cases ek1 : d = k + 1
      · subst ek1
        rw [List.getElem_set_self, hA]
        rw [if_neg (show ¬ (1 ≤ k + 1 ∧ k + 1 ≤ k) by omega), if_neg (show ¬ k + 1 + 1 ≤ k by omega), if_pos (show 1 ≤ k + 1 ∧ k + 1 ≤ k + 1 by omega), if_neg (show ¬ k + 1 + 1 ≤ k + 1 by omega)]
        omega
      · rw [List.getElem_set_ne (by omega)]
        have e3 := holT_get (fs := fs) (ps := ps) (n := n) (k := k) hd
        have hl : d < (holT fs ps n N k).length := by rw [holT_len]; exact hd
        rw [List.getElem?_eq_getElem hl] at e3
        simp only [Option.getD_some] at e3
        rw [e3]
        congr 1
        · congr 1
          by_cases h : 1 ≤ d ∧ d ≤ k
          · rw [if_pos h, if_pos (by omega)]
          · rw [if_neg h, if_neg (by omega)]
        · by_cases h : d + 1 ≤ k
          · rw [if_pos h, if_pos (by omega)]
          · rw [if_neg h, if_neg (by omega)]

theorem countL_rng {V : Int} {fs : List Int} (hC : IsC V fs) (ps : List Int) (m d : Nat) : 0 ≤ (countL (critL fs ps) m)[d]?.getD 0 ∧ (countL (critL fs ps) m)[d]?.getD 0 ≤ 63 := by
  unfold countL
  by_cases h : d < m
  · simp only [List.getElem?_map, List.getElem?_range h, Option.map_some, Option.getD_some]
    have h1 : (ofDim (critL fs ps) (d : Int)).length ≤ (critL fs ps).length := by unfold ofDim; exact List.length_filter_le _ _
    have h2 : (critL fs ps).length ≤ fs.length := List.length_filter_le _ _
    have h3 := hC.len63
    omega
  · rw [List.getElem?_eq_none (by simp; omega)]
    simp
theorem holT_rng {V : Int} {fs ps : List Int} {n : Nat} (hC : IsC V fs) (m k d : Nat) : -126 ≤ (holT fs ps n (countL (critL fs ps) m) k)[d]?.getD 0 ∧ (holT fs ps n (countL (critL fs ps) m) k)[d]?.getD 0 ≤ 63 := by
  by_cases hd : d < (countL (critL fs ps) m).length
  · rw [holT_get hd]
    have h1 := countL_rng hC ps m d
    have h2 := rkM_rng (ps := ps) (n := n) (p := d) hC
    have h3 := rkM_rng (ps := ps) (n := n) (p := d + 1) hC
    split <;> split <;> omega
  · rw [List.getElem?_eq_none (by rw [holT_len]; omega)]
    simp

set_option maxRecDepth 1000000 in
set_option maxHeartbeats 8000000 in
theorem holesS_any (V : Int) (a0 : Option Addr) (cap : Nat) (fs : List Int) (a1 : Option Addr) (n cap1 : Nat) (ps : List Int) (w : World) (hx : SlI w w.heap.size a0 fs) (hx1 : SlI w w.heap.size a1 ps) (hl : fs.length ≤ 1048576) (hp : ps.length = 2 * n) (hn : n ≤ 1048576) (hC : IsC V fs) (hO : OkTo fs ps n) (hnc : NoCycle ps n) :
    Calls Try.prog 50 #[.agg #[.int .i64 V, .slice a0 fs.length cap], .slice a1 n cap1] w fun e w' => ∃ v, e = .returned v ∧ Res w w' v (holT fs ps n (countL (critL fs ps) (top fs + 1).toNat) ((countL (critL fs ps) (top fs + 1).toNat).length - 1)) := by
  obtain ⟨W0, hW0⟩ : ∃ W0, W0 = w.alloc (.cells #[.int .i64 V, .slice a0 fs.length cap] 30) := ⟨_, rfl⟩
  have hB0 : Below w.heap.size w W0 := by rw [hW0]; exact (Below.refl _ w).alloc (Nat.le_refl _) _
  have hs0 : W0.heap.size = w.heap.size + 1 := by rw [hW0]; simp
  have hb0 : W0.heap[w.heap.size]? = some (.cells #[.int .i64 V, .slice a0 fs.length cap] 30 (0, 0)) := by rw [hW0]; exact heap_alloc_new _ _
  have HN := hid (numS_any V a0 cap fs a1 n cap1 ps W0 (hx.later hB0 hB0.size) (hx1.later hB0 hB0.size) hl hp hn hC.range63)
  have HR := hid (fun p w1 (h : Below w.heap.size w w1) p0 p1 => rows_any V a0 cap fs a1 n cap1 ps p w1 (hx.later h h.size) (hx1.later h h.size) hl hp hn hC.range63 (okTo_highs hC hO) hnc p0 p1)
  have HGd := hid (fun p => rowsM_good hC hO hnc p)
  have Hrk := hid (fun p => rkM_rng (ps := ps) (n := n) (p := p) hC)
  have Hrg := hid (fun k d => holT_rng (ps := ps) (n := n) hC (top fs + 1).toNat k d)
  have h63 := hC.len63
  have hNl : (countL (critL fs ps) (top fs + 1).toNat).length ≤ 6 := by rw [countL_len]; have := top_hi fs; omega
  obtain ⟨N, hN⟩ : ∃ N, N = countL (critL fs ps) (top fs + 1).toNat := ⟨_, rfl⟩
  rw [← hN] at HN Hrg hNl ⊢
  have HB0 := hid hB0
  have HW0 := hid hW0
  have Hb0 := hid hb0
  clear hx hx1 hp hC hO hnc hB0 hW0 hb0 hN
  go_enter Try.func50, Try.ntmps50
  go_wp2_with fail
  rw [← HW0.out]
  refine HN.out.mono ?_
  rintro e w1 ⟨v, rfl, hR⟩
  have hv := hR.1
  rw [hs0] at hv
  obtain ⟨_, av, cv, rfl, _⟩ := ownsRow_slI hv
  have hB1 := hR.2
  rw [hs0] at hB1
  have Hv := hid hv
  have HB1 := hid hB1
  clear hR hv hB1
  go_wp2_with fail
  go_loopw [6] (fun i wr => ∃ k : Nat, i = .int .i64 ((k : Int) + 1) ∧ (k = 0 ∨ k + 1 ≤ N.length) ∧ wr.ownsRow (w.heap.size + 1) 2 1 (.slice av N.length cv) N.length ((holT fs ps n N k).map (Value.int .i64)) ∧ Below (w.heap.size + 1) W0 wr) (fun i _ => N.length + 1 - (intOf i).toNat)
  case atStart => exact ⟨0, rfl, .inl rfl, by rw [holT_zero]; exact Hv.out, HB1.out⟩
  case round =>
    obtain ⟨k, rfl, hk, hown, hB⟩ := hrel
    have hBw : Below w.heap.size w wr := HB0.out.trans (hB.mono (Nat.le_succ _))
    have hq := (hB.block w.heap.size (by omega)).trans Hb0.out
    obtain ⟨k0, k1, _, _⟩ := two_of hq
    by_cases hlt : k + 1 < N.length
    · have hkl : (k : Int) + 1 < (N.length : Int) := by omega
      have hkz : (0 : Int) ≤ (k : Int) := by omega
      obtain ⟨g, hg1, hg2, rfl⟩ : ∃ g, w.heap.size + 1 ≤ g ∧ g < wr.heap.size ∧ av = some ⟨g, 0, none⟩ := by
        rcases hown.2 with ⟨_, h0⟩ | ⟨g, cp, cur, e, hb, hg, _⟩
        · omega
        · cases e
          exact ⟨g, hb, (Array.getElem?_eq_some_iff.1 hg).1, rfl⟩
      have HRw := hid (HR.out ((k : Int) + 1) wr hBw (by omega) (by omega))
      have Hown := hid hown
      have HB := hid hB
      clear hown hB hq hBw
      go_wp2_with fail
      refine HRw.out.mono ?_
      rintro e w2 ⟨v2, vs2, rfl, hrows, hB2⟩
      have hgl : (rowsM ps n (critL fs ps) ((k : Int) + 1)).length ≤ 1000 := by
        unfold rowsM
        rw [List.length_map]
        exact Nat.le_trans (List.length_filter_le _ _) (Nat.le_trans (List.length_filter_le _ _) (by omega))
      have hwl : (atL fs ps ((k : Int) + 1 - 1)).length ≤ 1000 := Nat.le_trans (List.length_filter_le _ _) (Nat.le_trans (List.length_filter_le _ _) (by omega))
      have HRk := hid (rank6_rows hrows (HGd.out ((k : Int) + 1)) hgl hwl)
      have HB2 := hid hB2
      clear hrows hB2 k0 k1
      go_wp2_with fail
      refine HRk.out.mono ?_
      rintro e w3 ⟨rfl, hB3⟩
      have hB23 := HB2.out.trans hB3
      have hown3 := ownsRow_below Hown.out hB23 (fun g hg => (Hown.out.lt g hg).2)
      have hBW : Below (w.heap.size + 1) W0 w3 := HB.out.trans (hB23.mono (by omega))
      obtain ⟨r, hr⟩ : ∃ r : Int, r = ((elimR 2 (atL fs ps ((k : Int) + 1 - 1)).length 0 0 (rowsM ps n (critL fs ps) ((k : Int) + 1)) : Nat) : Int) := ⟨_, rfl⟩
      rw [← hr]
      have hrk : r = rkM fs ps n (k + 1) := by rw [hr]; unfold rkM; push_cast; rfl
      have hrr := Hrk.out (k + 1)
      rw [← hrk] at hrr
      obtain ⟨x1, hx1⟩ : ∃ x, x = (holT fs ps n N k)[k + 1]?.getD 0 := ⟨_, rfl⟩
      obtain ⟨x0, hx0⟩ : ∃ x, x = (holT fs ps n N k)[k]?.getD 0 := ⟨_, rfl⟩
      have hx1r := Hrg.out k (k + 1)
      have hx0r := Hrg.out k k
      rw [← hx1] at hx1r
      rw [← hx0] at hx0r
      have hw1 : wrap64 (x1 - r) = x1 - r := by unfold wrap64; omega
      have hw0 : wrap64 (x0 - r) = x0 - r := by unfold wrap64; omega
      have hsucc := holT_succ (fs := fs) (ps := ps) (n := n) hlt
      rw [← hrk, ← hx1, ← hx0] at hsucc
      have hc1 : w3.cell? ⟨g, k + 1, none⟩ = some (.int .i64 x1) := by
        rw [hown3.cellAt (k + 1) (by omega), List.getElem?_map, List.getElem?_eq_getElem (by rw [holT_len]; exact hlt), hx1, List.getElem?_eq_getElem (by rw [holT_len]; exact hlt)]
        rfl
      have hf1 := hown3.frozenAt (k + 1)
      have hst := hown3.stored (k + 1) (.int .i64 (x1 - r))
      rw [← List.map_set] at hst
      have hc0 : (w3.setCell ⟨g, k + 1, none⟩ (.int .i64 (x1 - r))).cell? ⟨g, k, none⟩ = some (.int .i64 x0) := by
        rw [hst.1.cellAt k (by omega), List.getElem?_map, List.getElem?_set_ne (by omega), List.getElem?_eq_getElem (by rw [holT_len]; omega), hx0, List.getElem?_eq_getElem (by rw [holT_len]; omega)]
        rfl
      have hf0 := hst.1.frozenAt k
      have hst2 := hst.1.stored k (.int .i64 (x0 - r))
      rw [← List.map_set, hsucc] at hst2
      have Hst2 := hid hst2.1
      have hz3 : w.heap.size + 1 ≤ w3.heap.size := by have := hBW.size; omega
      have hz4 := hst.2.size
      have HBn := hid ((hBW.grown hst.2 hz3 (fun k e => by cases e; exact hg1)).grown hst2.2 (Nat.le_trans hz3 hz4) (fun k e => by cases e; exact hg1))
      clear hst hst2 hsucc hown3 hBW hB23 hB3 hx1 hx0 hr hrk hrr hx1r hx0r
      go_wp2_with fail
      go_roundw
      case rel => exact ⟨k + 1, by go_num, .inr (by omega), Hst2.out, HBn.out⟩
      case measure => simp [intOf]; omega
    · have hkl : ¬ ((k : Int) + 1 < (N.length : Int)) := by omega
      have hd : decide ((k : Int) + 1 < (N.length : Int)) = false := decide_eq_false hkl
      go_wp2_with fail
      go_ret
      have hkk : k = N.length - 1 := by omega
      rw [hkk] at hown
      exact ⟨_, rfl, ownsRow_base (by rw [holT_len]; exact hown) (Nat.le_succ _), hBw⟩

end Go.Proofs.Ytgefpllmelpahaa

/-! HolesOf, the model's. -/
namespace Go.Proofs.Ytgefpllmelpahaa
open Go.RowKit

noncomputable def holesR (V : Int) (fs : List Int) (n : Nat) (ps : List Int) : List Int × Int := if acodeR V fs n ps true = 0 then (holT fs ps n (countL (critL fs ps) (top fs + 1).toNat) ((countL (critL fs ps) (top fs + 1).toNat).length - 1), 0) else ([], acodeR V fs n ps true)
theorem holesR_len (V : Int) (fs : List Int) (n : Nat) (ps : List Int) (_h : fs.length ≤ 1048576) (_hp : ps.length = 2 * n) (_hn : n ≤ 1048576) : (holesR V fs n ps).1.length ≤ 1048576 := by
  unfold holesR
  split
  · show (holT ..).length ≤ _
    rw [holT_len, countL_len]
    have := top_hi fs
    omega
  · simp

set_option maxRecDepth 1000000 in
set_option maxHeartbeats 2000000 in
theorem specHolesOf (V : Int) (a0 : Option Addr) (cap : Nat) (fs : List Int) (a1 : Option Addr) (n cap1 : Nat) (ps : List Int) (w : World) (hx : SlI w w.heap.size a0 fs) (hx1 : SlI w w.heap.size a1 ps) (hl : fs.length ≤ 1048576) (hp : ps.length = 2 * n) (hn : n ≤ 1048576) (_hw : ∀ x ∈ ps, (Lit.int .i64 x).wf = true) :
    Calls Try.prog 15 #[.agg #[.int .i64 V, .slice a0 fs.length cap], .slice a1 n cap1] w fun e w' => ∃ v, e = .returned (.tuple #[v, .int .i64 (holesR V fs n ps).2]) ∧ Res w w' v (holesR V fs n ps).1 := by
  have hB0 : Below w.heap.size w (w.alloc (.cells #[.int .i64 V, .slice a0 fs.length cap] 30)) := (Below.refl _ w).alloc (Nat.le_refl _) _
  have HK := hid (pcode_spec V a0 cap fs a1 n cap1 ps _ (hx.later hB0 hB0.size) (hx1.later hB0 hB0.size) hl hp hn)
  have HB0 := hid hB0
  by_cases hpc : pcodeR V fs n ps = 0
  · have hCO := ok_pcode hpc
    have ha : acodeR V fs n ps true = if acyB ps n then 0 else 5 := by rw [acodeR, if_pos hpc]; rfl
    rw [hpc] at HK
    have HA := hid (fun w1 (h : Below w.heap.size w w1) => acyclicS_any a1 n cap1 ps w1 (hx1.later h h.size) hp hn (okTo_highs hCO.1 hCO.2) (okTo_lows hCO.1 hCO.2))
    cases hac : acyB ps n
    · have hE : acodeR V fs n ps true = 5 := by rw [ha, hac]; rfl
      refine res_mono (show holesR V fs n ps = ([], 5) by rw [holesR, hE]; rfl) ?_
      rw [hac] at HA
      clear hx hx1 hp hpc hCO hB0 ha hac hE
      go_enter Try.func15, Try.ntmps15
      go_wp2_with (first
        | (go_at_call 48; refine HK.out.mono ?_; rintro e w1 ⟨rfl, hB1⟩; have HB1 := hid (HB0.out.trans (hB1.mono (by simp))); clear hB1)
        | (go_at_call 49; refine (HA.out w1 HB1.out).mono ?_; rintro e w4 ⟨rfl, hB4⟩; have HB4 := hid (HB1.out.trans (hB4.mono HB1.out.size)); clear hB4))
      go_ret2
      exact ⟨_, rfl, res_nil _ _ HB4.out⟩
    · have hE : acodeR V fs n ps true = 0 := by rw [ha, hac]; rfl
      refine res_mono (show holesR V fs n ps = (_, 0) by rw [holesR, if_pos hE]) ?_
      rw [hac] at HA
      have HR := hid (fun w1 (h : Below w.heap.size w w1) => holesS_any V a0 cap fs a1 n cap1 ps w1 (hx.later h h.size) (hx1.later h h.size) hl hp hn hCO.1 hCO.2 (noCyc_of hac))
      clear hx hx1 hp hpc hCO hB0 ha hac hE
      go_enter Try.func15, Try.ntmps15
      go_wp2_with (first
        | (go_at_call 48; refine HK.out.mono ?_; rintro e w1 ⟨rfl, hB1⟩; have HB1 := hid (HB0.out.trans (hB1.mono (by simp))); have k0 : w1.cell? ⟨w.heap.size, 0, none⟩ = some (.int .i64 V) := (hB1.cell (p := ⟨w.heap.size, 0, none⟩) (by simp)).trans (by simp [go_sem]); have k1 : w1.cell? ⟨w.heap.size, 1, none⟩ = some (.slice a0 fs.length cap) := (hB1.cell (p := ⟨w.heap.size, 1, none⟩) (by simp)).trans (by simp [go_sem]); have hs1 : w.heap.size < w1.heap.size := (by have := hB1.size; simp at this; omega); clear hB1)
        | (go_at_call 49; refine (HA.out w1 HB1.out).mono ?_; rintro e w4 ⟨rfl, hB4⟩; have HB4 := hid (HB1.out.trans (hB4.mono HB1.out.size)); have m0 := (hB4.cell (p := ⟨w.heap.size, 0, none⟩) hs1).trans k0; have m1 := (hB4.cell (p := ⟨w.heap.size, 1, none⟩) hs1).trans k1; clear hB4 k0 k1)
        | (go_at_call 50; refine (HR.out w4 HB4.out).mono ?_; rintro e w5 ⟨v5, rfl, hr5⟩; have HR5 := hid (hr5.later HB4.out); clear hr5))
      go_ret2
      exact ⟨_, rfl, HR5.out⟩
  · obtain ⟨c, hc⟩ : ∃ c, c = pcodeR V fs n ps := ⟨_, rfl⟩
    have hE : acodeR V fs n ps true = c := by rw [acodeR, if_neg hpc, hc]
    rw [← hc] at hpc HK
    refine res_mono (show holesR V fs n ps = ([], c) by rw [holesR, hE, if_neg hpc]) ?_
    have hcn : (c != 0) = true := by simpa using hpc
    have hcn2 : (c == 0) = false := by simpa using hpc
    clear hc hp hpc hx hx1 hB0 hE
    go_enter Try.func15, Try.ntmps15
    go_wp2_with fail
    refine HK.out.mono ?_
    rintro e w1 ⟨rfl, hB1⟩
    go_wp2_with fail
    go_ret2
    exact ⟨_, rfl, res_nil _ _ (HB0.out.trans (hB1.mono (by simp)))⟩

end Go.Proofs.Ytgefpllmelpahaa

/-! A region that draws its order, whose last operation writes what others read: what is held of the world is asked behind every operation but that one. -/
namespace Go.Proofs.Ytgefpllmelpahaa
open Go.RowKit

section
variable {P : Program} {ops : Array Oper} {Q : Exit → Act → World → Prop} {md : Region.Mode} {S : World → Prop} {m : Nat}

/-- Whatever order is picked; S holds behind every operation but number m. -/
def anyM (P : Program) (md : Region.Mode) (ops : Array Oper) (Q : Exit → Act → World → Prop) (S : World → Prop) (m : Nat) : Nat → Array Bool → Act → World → Prop
  | 0, listed, a, w => Region.ready md ops listed = [] ∧ Q .normal a w
  | fuel + 1, listed, a, w => (Region.ready md ops listed = [] → Q .normal a w) ∧
      ∀ i ∈ Region.ready md ops listed, wpOp P ops Q i (fun a' w' => (i ≠ m → S w') ∧ anyM P md ops Q S m fuel (listed.setIfInBounds i true) a' w') a w

theorem any_of_M : ∀ (fuel : Nat) (listed : Array Bool) (a : Act) (w : World), anyM P md ops Q S m fuel listed a w → wpAny P md ops Q fuel listed a w
  | 0, _, _, _, h => h
  | fuel + 1, _, _, _, h => ⟨h.1, fun i hi => wpOp_mono (fun a' w' h' => any_of_M fuel _ a' w' h'.2) (h.2 i hi)⟩

/-- Each number waits for the one ahead of it. -/
def queueB (md : Region.Mode) (ops : Array Oper) : List Nat → Bool
  | x :: y :: r => (match ops[y]? with | some o => o.after.any (fun e => Region.binds md e && e.on == x) | none => false) && queueB md ops (y :: r)
  | _ => true

theorem queue_unready {listed : Array Bool} : ∀ (cs : List Nat) (i : Nat), queueB md ops (i :: cs) = true → (∀ c ∈ i :: cs, listed.getD c true = false) → ∀ c ∈ cs, c ∉ Region.ready md ops listed
  | [], _, _, _ => fun c hc => by cases hc
  | y :: r, i, h, hu => fun c hc => by
    simp only [queueB, Bool.and_eq_true] at h
    rcases List.mem_cons.1 hc with rfl | hc
    · intro hr
      obtain ⟨_, o, ho, hall⟩ := mem_ready.1 hr
      have h1 := h.1
      rw [ho] at h1
      simp only [Array.any_eq_true', Bool.and_eq_true, beq_iff_eq] at h1
      obtain ⟨e, he, hb, heq⟩ := h1
      have h2 := hall e he hb
      have h0 := hu i (List.mem_cons_self ..)
      rw [heq] at h2
      rcases Nat.lt_or_ge i listed.size with h' | h'
      · simp [h'] at h0 h2; rw [h0] at h2; cases h2
      · simp [Array.getElem?_eq_none h'] at h2
    · exact queue_unready r y h.2 (fun c hc => hu c (List.mem_cons_of_mem _ hc)) c hc

theorem anyM_first {i : Nat} {oi : Oper} {v : Value} (hi : ops[i]? = some oi) (hsel : ∀ (j : Nat) (o : Oper) cs b, ops[j]? = some o → o.op ≠ .select cs b)
    (hQ : ∀ c a w, Q (.panic c) (a.put oi.dst v) w → Q (.panic c) a w) {cs : List Nat} (hcs : queueB md ops (i :: cs) = true) (hm : m ∈ cs) :
    ∀ (fuel : Nat) (listed : Array Bool) (a : Act) (w : World),
      (∀ j oj, ops[j]? = some oj → j ≠ i → listed.getD j true = false → (∀ e ∈ oj.after, Region.binds md e = true → e.on ≠ i) → oi.apart ops oj = true) →
      i ∈ Region.ready md ops listed → (∀ c ∈ i :: cs, listed.getD c true = false) → YieldsIf P ops S oi v a → S w →
      anyM P md ops Q S m fuel (listed.setIfInBounds i true) (a.put oi.dst v) w → anyM P md ops Q S m (fuel + 1) listed a w := by
  intro fuel
  induction fuel with
  | zero =>
    intro listed a w _ hr _ hy hS H
    refine ⟨fun h => (by rw [h] at hr; cases hr), fun j hj => ?_⟩
    by_cases hji : j = i
    · subst hji; exact hy.wpOp hi hS ⟨fun _ => hS, H⟩
    · have := ready_mono hj hji
      rw [H.1] at this
      cases this
  | succ fuel ih =>
    intro listed a w hfree hr hu hy hS H
    refine ⟨fun h => (by rw [h] at hr; cases hr), fun j hj => ?_⟩
    by_cases hji : j = i
    · subst hji; exact hy.wpOp hi hS ⟨fun _ => hS, H⟩
    · have hjcs : j ∉ cs := fun hc => queue_unready cs i hcs hu j hc hj
      have hjm : j ≠ m := fun e => hjcs (e ▸ hm)
      have h1 := H.2 j (ready_mono hj hji)
      obtain ⟨hjun, oj, hoj, hall⟩ := mem_ready.1 hj
      have hnot : ∀ e ∈ oj.after, Region.binds md e = true → e.on ≠ i := fun e he hb heq => by
        have h1 := hall e he hb
        have h0 := (mem_ready.1 hr).1
        rw [heq] at h1
        rcases Nat.lt_or_ge i listed.size with h' | h'
        · simp [h'] at h0 h1; rw [h0] at h1; cases h1
        · simp [Array.getElem?_eq_none h'] at h1
      have h2 := wpOp_putIf hoj (hfree j oj hoj hji hjun hnot) (fun cs b => hsel i oi cs b hi) (fun cs b => hsel j oj cs b hoj) hQ hy h1
      have hfree' : ∀ k ok, ops[k]? = some ok → k ≠ i → (listed.setIfInBounds j true).getD k true = false →
          (∀ e ∈ ok.after, Region.binds md e = true → e.on ≠ i) → oi.apart ops ok = true := fun k ok hk hki hun hno => by
        refine hfree k ok hk hki ?_ hno
        by_cases hjk : j = k
        · subst hjk; exact hjun
        · rw [getD_set_ne true hjk] at hun; exact hun
      have hu' : ∀ c ∈ i :: cs, (listed.setIfInBounds j true).getD c true = false := fun c hc => by
        rw [getD_set_ne true (fun e => ?_)]
        · exact hu c hc
        · rcases List.mem_cons.1 hc with h | h
          · exact hji (e.trans h)
          · exact hjcs (e ▸ h)
      refine wpOp_mono (fun a' w' h3 => ⟨h3.2.1, ih (listed.setIfInBounds j true) a' w' hfree' (ready_mono hr (Ne.symm hji)) hu' h3.1 (h3.2.1 hjm) ?_⟩) h2
      rw [Array.setIfInBounds_comm _ _ hji]
      exact h3.2.2

theorem anyM_take {i : Nat} {oi : Oper} {v : Value} {fuel : Nat} {listed : Array Bool} {a : Act} {w : World} (cs : List Nat) (hi : ops[i]? = some oi)
    (hs : (Region.noSelect ops && queueB md ops (i :: cs) && cs.contains m && (i :: cs).all (fun c => !listed.getD c true) && Region.free md ops listed i && (Region.ready md ops listed).contains i) = true)
    (hQ : ∀ c a w, Q (.panic c) (a.put oi.dst v) w → Q (.panic c) a w) (hy : YieldsIf P ops S oi v a) (hS : S w)
    (h : anyM P md ops Q S m fuel (listed.setIfInBounds i true) (a.put oi.dst v) w) : anyM P md ops Q S m (fuel + 1) listed a w := by
  simp only [Bool.and_eq_true] at hs
  obtain ⟨⟨⟨⟨⟨h1, h2⟩, h3⟩, h4⟩, h5⟩, h6⟩ := hs
  exact anyM_first hi (Region.noSelect_spec h1) hQ h2 (by simpa using h3) fuel listed a w (Region.free_spec hi h5) (by simpa using h6) (fun c hc => by simpa using List.all_eq_true.1 h4 c hc) hy hS h

/-- Each of the operations 'rs' comes up next. -/
def AllM (P : Program) (md : Region.Mode) (ops : Array Oper) (Q : Exit → Act → World → Prop) (S : World → Prop) (m fuel : Nat) (listed : Array Bool) (a : Act) (w : World) (rs : List Nat) : Prop :=
  ∀ i ∈ rs, wpOp P ops Q i (fun a' w' => (i ≠ m → S w') ∧ anyM P md ops Q S m fuel (listed.setIfInBounds i true) a' w') a w
theorem AllM.nil {fuel : Nat} {listed : Array Bool} {a : Act} {w : World} : AllM P md ops Q S m fuel listed a w [] := fun _ h => by cases h
theorem AllM.cons {fuel : Nat} {listed : Array Bool} {a : Act} {w : World} {i : Nat} {o : Oper} {rs : List Nat} (ho : ops[i]? = some o)
    (h : ∀ K' : Act → World → Prop, Go.Shut (∀ a w, (i ≠ m → S w) → anyM P md ops Q S m fuel (listed.setIfInBounds i true) a w → K' a w) → if Region.wanted o (yielded ops a.tmps) = true then Oper.wp P o a w K' Q else K' (a.put o.dst undef) w)
    (hs : AllM P md ops Q S m fuel listed a w rs) : AllM P md ops Q S m fuel listed a w (i :: rs) := fun j hj => by
  rcases List.mem_cons.1 hj with rfl | hj
  · exact wpOp_step ho (fun K' hK => h K' (fun a w hS hW => hK a w ⟨hS, hW⟩))
  · exact hs j hj
theorem anyM_ready {rs : List Nat} {fuel : Nat} {listed : Array Bool} {a : Act} {w : World} (hr : (Region.ready md ops listed == rs) = true) (hne : rs ≠ [])
    (h : AllM P md ops Q S m fuel listed a w rs) : anyM P md ops Q S m (fuel + 1) listed a w :=
  ⟨fun h0 => absurd (eq_of_beq hr ▸ h0) hne, eq_of_beq hr ▸ h⟩
theorem anyM_done {listed : Array Bool} {a : Act} {w : World} (hr : (Region.ready md ops listed).isEmpty = true) (h : Q .normal a w) : ∀ fuel, anyM P md ops Q S m fuel listed a w
  | 0 => ⟨List.isEmpty_iff.1 hr, h⟩
  | _ + 1 => ⟨fun _ => h, by rw [List.isEmpty_iff.1 hr]; simp⟩
/-- The beginning. -/
theorem region_M {id : Nat} {a : Act} {w : World} (m : Nat) (S : World → Prop) (hm : P.follows .mixedOrders = true)
    (h : anyM P .any ops Q S m ops.size (Array.replicate ops.size false) a w.drew) : (Code.region id ops true).wp P Q a w :=
  wp_region_any hm (any_of_M _ _ _ _ h)
end

end Go.Proofs.Ytgefpllmelpahaa

/-! HolesOf, the program's. -/
namespace Go.Proofs.Ytgefpllmelpahaa
open Go.RowKit

theorem rkM_zero {V : Int} {fs ps : List Int} {n : Nat} (hC : IsC V fs) : rkM fs ps n 0 = 0 := by
  have h1 := elim_le (p := 2) (atL fs ps (((0 : Nat) : Int) - 1)).length 0 0 (rowsM ps n (critL fs ps) ((0 : Nat) : Int))
  have h2 : atL fs ps (((0 : Nat) : Int) - 1) = [] := by
    refine List.eq_nil_iff_forall_not_mem.2 fun x hx => ?_
    have h3 := of_decide_eq_true (List.mem_filter.1 hx).2
    have h4 := hC.range63 x (atL_mem hx)
    have h5 := ones_pos ⟨x.toNat, by omega⟩ (by show x.toNat ≠ 0; omega)
    have h6 : 0 < ones x.toNat := h5
    omega
  unfold rkM
  rw [h2] at h1 ⊢
  simp only [List.length_nil] at h1 ⊢
  omega
theorem rkM_top {fs ps : List Int} {n d : Nat} (hd : top fs < (d : Int)) : rkM fs ps n d = 0 := by
  have h2 : atL fs ps (d : Int) = [] := by
    refine List.eq_nil_iff_forall_not_mem.2 fun x hx => ?_
    have h3 := of_decide_eq_true (List.mem_filter.1 hx).2
    have h4 := top_ge fs (atL_mem hx)
    omega
  unfold rkM
  rw [rowsM_at, h2, List.map_nil, elim_full _ 0 0 [] (Nat.le_refl 0)]
  rfl
/-- The list under way: the first k numbers are those of holes. -/
noncomputable def mixH (fs ps : List Int) (n : Nat) (N : List Int) (k : Nat) : List Int := (List.range N.length).map fun d => if d < k then N[d]?.getD 0 - (rkM fs ps n d + rkM fs ps n (d + 1)) else N[d]?.getD 0
theorem mixH_len (fs ps : List Int) (n : Nat) (N : List Int) (k : Nat) : (mixH fs ps n N k).length = N.length := by simp [mixH]
theorem mixH_get {fs ps : List Int} {n : Nat} {N : List Int} {k d : Nat} (hd : d < N.length) : (mixH fs ps n N k)[d]? = some (if d < k then N[d]?.getD 0 - (rkM fs ps n d + rkM fs ps n (d + 1)) else N[d]?.getD 0) := by simp [mixH, hd]
theorem mixH_zero (fs ps : List Int) (n : Nat) (N : List Int) : mixH fs ps n N 0 = N := by
  apply List.ext_getElem
  · exact mixH_len ..
  · intro d h1 h2
    have := mixH_get (fs := fs) (ps := ps) (n := n) (N := N) (k := 0) h2
    rw [List.getElem?_eq_getElem h1, List.getElem?_eq_getElem h2] at this
    simpa using this
theorem mixH_succ {fs ps : List Int} {n : Nat} {N : List Int} {k : Nat} (_hk : k < N.length) :
    (mixH fs ps n N k).set k (N[k]?.getD 0 - (rkM fs ps n k + rkM fs ps n (k + 1))) = mixH fs ps n N (k + 1) := by
  apply List.ext_getElem?
  intro d
  by_cases hd : d < N.length
  · rw [mixH_get hd]
    by_cases e : k = d
    · subst e
      rw [List.getElem?_set_self (by rw [mixH_len]; exact hd), if_pos (Nat.lt_succ_self _)]
    · rw [List.getElem?_set_ne e, mixH_get hd]
      by_cases h : d < k
      · rw [if_pos h, if_pos (by omega)]
      · rw [if_neg h, if_neg (by omega)]
  · rw [List.getElem?_eq_none (by rw [List.length_set, mixH_len]; omega), List.getElem?_eq_none (by rw [mixH_len]; omega)]
theorem mixH_full {fs ps : List Int} {n : Nat} {N : List Int} (h0 : rkM fs ps n 0 = 0) (h1 : rkM fs ps n N.length = 0) : mixH fs ps n N N.length = holT fs ps n N (N.length - 1) := by
  apply List.ext_getElem?
  intro d
  by_cases hd : d < N.length
  · rw [mixH_get hd, if_pos hd]
    have h2 := holT_get (fs := fs) (ps := ps) (n := n) (k := N.length - 1) hd
    have h3 : (holT fs ps n N (N.length - 1))[d]? = some ((holT fs ps n N (N.length - 1))[d]?.getD 0) := by
      have hd2 : d < (holT fs ps n N (N.length - 1)).length := by rw [holT_len]; exact hd
      rw [List.getElem?_eq_getElem hd2]
      rfl
    rw [h3, h2]
    congr 1
    by_cases e0 : d = 0
    · subst e0
      rw [h0, if_neg (by omega)]
      by_cases e1 : 0 + 1 ≤ N.length - 1
      · rw [if_pos e1]; omega
      · rw [if_neg e1, show 0 + 1 = N.length by omega, h1]; omega
    · rw [if_pos (show 1 ≤ d ∧ d ≤ N.length - 1 by omega)]
      by_cases e1 : d + 1 ≤ N.length - 1
      · rw [if_pos e1]; omega
      · rw [if_neg e1, show d + 1 = N.length by omega, h1]; omega
  · rw [List.getElem?_eq_none (by rw [mixH_len]; omega), List.getElem?_eq_none (by rw [holT_len]; omega)]

/-- The worlds of a round: each of the two chains of calls has not begun, has its rows, or has its rank. -/
structure StH (wr W : World) (o1 o2 : Option (Option Tb)) : Prop where
  below : Below wr.heap.size wr W
  own1 : ∀ t, o1 = some (some t) → OwnT W t ∧ wr.heap.size ≤ t.lo
  own2 : ∀ t, o2 = some (some t) → OwnT W t ∧ wr.heap.size ≤ t.lo
  apart : ∀ t u, o1 = some (some t) → o2 = some (some u) → t.hi ≤ u.lo ∨ u.hi ≤ t.lo

theorem StH.symm {wr W : World} {o1 o2 : Option (Option Tb)} (h : StH wr W o1 o2) : StH wr W o2 o1 :=
  ⟨h.below, h.own2, h.own1, fun t u ht hu => (h.apart u t hu ht).symm⟩
theorem StH.start {wr : World} : StH wr wr.drew none none := ⟨(Below.refl _ _).drew, fun _ h => (by cases h), fun _ h => (by cases h), fun _ _ h => (by cases h)⟩
theorem StH.rows {wr W W' : World} {o2 : Option (Option Tb)} {v : Value} {vs : List Value} {gs : List (List Int)} (h : StH wr W none o2) (hr : RowsV W' W.heap.size v vs gs) (hb : Below W.heap.size W W') :
    StH wr W' (some (some ⟨W.heap.size, W'.heap.size, v, vs, gs⟩)) o2 where
  below := h.below.trans (hb.mono h.below.size)
  own1 := fun t ht => by
    cases ht
    exact ⟨ownT_new hr, h.below.size⟩
  own2 := fun t ht => ⟨(h.own2 t ht).1.same hb.size (fun g _ hg => hb.block g (Nat.lt_of_lt_of_le hg (h.own2 t ht).1.le)), (h.own2 t ht).2⟩
  apart := fun t u ht hu => by
    cases ht
    exact .inr (h.own2 u hu).1.le
theorem StH.rank {wr W W' : World} {t : Tb} {o2 : Option (Option Tb)} (h : StH wr W (some (some t)) o2) (hw : Within t.lo t.hi W W') : StH wr W' (some none) o2 where
  below := h.below.trans (hw.below (h.own1 t rfl).2 h.below.size)
  own1 := fun t ht => by cases ht
  own2 := fun u hu => ⟨(h.own2 u hu).1.same hw.size (fun g h1 h2 => hw.block g (Nat.lt_of_lt_of_le h2 (h.own2 u hu).1.le) (by have := h.apart t u rfl hu; omega)), (h.own2 u hu).2⟩
  apart := fun t u ht => by cases ht

set_option maxRecDepth 1000000 in
set_option maxHeartbeats 8000000 in
theorem holI_ok (V : Int) (a0 : Option Addr) (cap : Nat) (fs : List Int) (a1 : Option Addr) (n cap1 : Nat) (ps : List Int) (w : World) (hx : SlI w w.heap.size a0 fs) (hx1 : SlI w w.heap.size a1 ps) (hl : fs.length ≤ 1048576) (hp : ps.length = 2 * n) (hn : n ≤ 1048576) (hw : ∀ x ∈ ps, (Lit.int .i64 x).wf = true)
    (h0 : acodeR V fs n ps true = 0) :
    Calls Try.prog 18 #[.agg #[.int .i64 V, .slice a0 fs.length cap], .slice a1 n cap1] w fun e w' => ∃ v, e = .returned (.tuple #[v, .int .i64 0]) ∧ Res w w' v (holT fs ps n (countL (critL fs ps) (top fs + 1).toNat) ((countL (critL fs ps) (top fs + 1).toNat).length - 1)) := by
  have hB0 : Below w.heap.size w (w.alloc (.cells #[.int .i64 V, .slice a0 fs.length cap] 30)) := (Below.refl _ w).alloc (Nat.le_refl _) _
  have HAc := hid (acode_any V a0 cap fs a1 n cap1 ps true _ (hx.later hB0 hB0.size) (hx1.later hB0 hB0.size) hl hp hn hw)
  rw [h0] at HAc
  have hpc : pcodeR V fs n ps = 0 := Classical.byContradiction fun h => by rw [acodeR, if_neg h] at h0; exact h h0
  have hac : acyB ps n = true := by
    cases hi : acyB ps n
    · rw [acodeR, if_pos hpc, hi] at h0; cases h0
    · rfl
  have hCO := ok_pcode hpc
  have HB0 := hid hB0
  have HCN := hid (fun w1 (h : Below w.heap.size w w1) => implCriticalNumbers V a0 cap fs a1 n cap1 ps w1 (hx.later h h.size) (hx1.later h h.size) hl hp hn hw)
  rw [show criticalNumbersR V fs n ps = (countL (critL fs ps) (top fs + 1).toNat, 0) by unfold criticalNumbersR; rw [hpc, if_pos rfl]] at HCN
  have HR := hid (fun p w1 (h : Below w.heap.size w w1) p0 p1 => mrows_any V a0 cap fs a1 n cap1 ps p w1 (hx.later h h.size) (hx1.later h h.size) hl hp hn hw hCO.1 hCO.2 (noCyc_of hac) p0 p1)
  have HGd := hid (fun p => rowsM_good hCO.1 hCO.2 (noCyc_of hac) p)
  have Hrk := hid (fun p => rkM_rng (ps := ps) (n := n) (p := p) hCO.1)
  have Hcl := hid (fun m d => countL_rng hCO.1 ps m d)
  have h63 := hCO.1.len63
  obtain ⟨T, hT⟩ : ∃ T : Nat, T = (top fs + 1).toNat := ⟨_, rfl⟩
  have hT6 : T ≤ 6 := by have := top_hi fs; omega
  have Hz0 := hid (rkM_zero (ps := ps) (n := n) hCO.1)
  have Hz1 : Hid (rkM fs ps n T = 0) := hid (rkM_top (by have := top_lo fs; omega))
  rw [← hT] at HCN ⊢
  have Hcl2 := hid (fun d => Hcl.out T d)
  obtain ⟨N, hN⟩ : ∃ N, N = countL (critL fs ps) T := ⟨_, rfl⟩
  have hNl : N.length = T := by rw [hN, countL_len]
  rw [← hN] at HCN Hcl2 ⊢
  simp only at HCN
  rw [hNl]
  have HNl := hid hNl
  clear hx hx1 hp hw hpc hCO hB0 hac h0 hT hN hNl Hcl
  go_enter Try.func18, Try.ntmps18
  go_wp2_with fail
  refine HAc.out.mono ?_
  rintro e w1 ⟨rfl, hB1⟩
  have HB1 := hid (HB0.out.trans (hB1.mono (by simp)))
  have k0 : w1.cell? ⟨w.heap.size, 0, none⟩ = some (.int .i64 V) := (hB1.cell (p := ⟨w.heap.size, 0, none⟩) (by simp)).trans (by simp [go_sem])
  have k1 : w1.cell? ⟨w.heap.size, 1, none⟩ = some (.slice a0 fs.length cap) := (hB1.cell (p := ⟨w.heap.size, 1, none⟩) (by simp)).trans (by simp [go_sem])
  have hs1 : w.heap.size < w1.heap.size := by have := hB1.size; simp at this; omega
  clear hB1
  go_wp2_with fail
  refine (HCN.out w1 HB1.out).mono ?_
  rintro e w2 ⟨v, rfl, hR⟩
  obtain ⟨_, av, cv, rfl, _⟩ := ownsRow_slI hR.1
  have hs2 : w.heap.size < w2.heap.size := Nat.lt_of_lt_of_le hs1 hR.2.size
  have m0 := (hR.2.cell (p := ⟨w.heap.size, 0, none⟩) hs1).trans k0
  have m1 := (hR.2.cell (p := ⟨w.heap.size, 1, none⟩) hs1).trans k1
  have HB2 := hid (HB1.out.trans (hR.2.mono HB1.out.size))
  have Hown2 : Hid (w2.ownsRow w1.heap.size 2 1 (.slice av T cv) T ((mixH fs ps n N 0).map (Value.int .i64))) := hid (by rw [mixH_zero]; have := hR.1; rw [HNl.out] at this; exact this)
  have HB12 := hid hR.2
  rw [HNl.out]
  have k01 := k0
  have k11 := k1
  clear hR k0 k1 HCN HAc
  go_wp2_with fail
  go_loopw [25] (fun i wr => ∃ k : Nat, k ≤ T ∧ i = .int .i64 k ∧ wr.ownsRow w1.heap.size 2 1 (.slice av T cv) T ((mixH fs ps n N k).map (Value.int .i64)) ∧ Below w1.heap.size w1 wr ∧ wr.cell? ⟨w.heap.size, 0, none⟩ = some (.int .i64 V) ∧ wr.cell? ⟨w.heap.size, 1, none⟩ = some (.slice a0 fs.length cap)) (fun i _ => T - (intOf i).toNat)
  case atStart => exact ⟨0, Nat.zero_le _, rfl, Hown2.out, HB12.out, m0, m1⟩
  case round =>
    obtain ⟨k, hk, rfl, hown, hB, c0, c1⟩ := hrel
    have hsr : w1.heap.size ≤ wr.heap.size := hB.size
    have hbw : Below w.heap.size w wr := HB1.out.trans (hB.mono HB1.out.size)
    by_cases hlt : k < T
    · obtain ⟨g, rfl⟩ : ∃ g, av = some ⟨g, 0, none⟩ := by
        rcases hown.2 with ⟨h0, _⟩ | ⟨g, cap', cur, hv, _⟩
        · injection h0 with _ h0 _; omega
        · injection hv with h0; exact ⟨g, h0⟩
      have hkN : k < N.length := by rw [HNl.out]; exact hlt
      obtain ⟨x0, hx0⟩ : ∃ x, x = N[k]?.getD 0 := ⟨_, rfl⟩
      have hck : wr.cell? ⟨g, k, none⟩ = some (.int .i64 x0) := by
        rw [hown.cellAt k (by omega), List.getElem?_map, mixH_get hkN, if_neg (Nat.lt_irrefl _), hx0]
        rfl
      have hgl : g < wr.heap.size := World.block_lt_of_cell? wr _ hck
      have hgb : w1.heap.size ≤ g := (hown.lt g rfl).1
      have hx0r := Hcl2.out k
      rw [← hx0] at hx0r
      have hi0 : (0 : Int) ≤ (k : Int) := by omega
      have hi1 : (k : Int) < (T : Int) := by omega
      have hk1 : IntKind.i64.wrap ((k : Int) + 1) = (k : Int) + 1 := IntWalk.i64_in _ (by omega)
      have Hown := hid hown
      have HB := hid hB
      have HD : Hid (StH wr wr.drew none none) := hid StH.start
      obtain ⟨r1, hr1⟩ : ∃ r, r = ((elimR 2 (atL fs ps ((k : Int) - 1)).length 0 0 (rowsM ps n (critL fs ps) (k : Int)) : Nat) : Int) := ⟨_, rfl⟩
      obtain ⟨r2, hr2⟩ : ∃ r, r = ((elimR 2 (atL fs ps ((k : Int) + 1 - 1)).length 0 0 (rowsM ps n (critL fs ps) ((k : Int) + 1)) : Nat) : Int) := ⟨_, rfl⟩
      obtain ⟨g1, hg1⟩ : ∃ gs, gs = rowsM ps n (critL fs ps) (k : Int) := ⟨_, rfl⟩
      obtain ⟨g2, hg2⟩ : ∃ gs, gs = rowsM ps n (critL fs ps) ((k : Int) + 1) := ⟨_, rfl⟩
      have HA := hid (fun o W (h : StH wr W none o) => (HR.out (k : Int) W (hbw.trans (h.below.mono hbw.size)) (by omega) (by omega)).mono (R' := fun e W' => ∃ v t, e = .returned v ∧ t.v = v ∧ t.gs = g1 ∧ StH wr W' (some (some t)) o) (fun e W' ⟨v, vs, he, hr, hb⟩ => ⟨v, _, he, rfl, by rw [hg1], h.rows hr hb⟩))
      have HC := hid (fun o W (h : StH wr W o none) => (HR.out ((k : Int) + 1) W (hbw.trans (h.below.mono hbw.size)) (by omega) (by omega)).mono (R' := fun e W' => ∃ v t, e = .returned v ∧ t.v = v ∧ t.gs = g2 ∧ StH wr W' o (some (some t))) (fun e W' ⟨v, vs, he, hr, hb⟩ => ⟨v, _, he, rfl, by rw [hg2], (h.symm.rows hr hb).symm⟩))
      have hgl1 : g1.length ≤ 1000 := by
        rw [hg1]
        unfold rowsM
        rw [List.length_map]
        exact Nat.le_trans (List.length_filter_le _ _) (Nat.le_trans (List.length_filter_le _ _) (by omega))
      have hgl2 : g2.length ≤ 1000 := by
        rw [hg2]
        unfold rowsM
        rw [List.length_map]
        exact Nat.le_trans (List.length_filter_le _ _) (Nat.le_trans (List.length_filter_le _ _) (by omega))
      have hwl : ∀ q : Int, (atL fs ps q).length ≤ 1000 := fun q => Nat.le_trans (List.length_filter_le _ _) (Nat.le_trans (List.length_filter_le _ _) (by omega))
      have HBr := hid (fun o W t (h : StH wr W (some (some t)) o) (ht : t.gs = g1) => (steps_own (h.own1 t rfl).1 (w := (atL fs ps ((k : Int) - 1)).length) (by rw [ht, hg1]; exact HGd.out _) (by rw [ht]; exact hgl1) (hwl _)).mono (R' := fun e W' => e = .returned (.int .i64 r1) ∧ StH wr W' (some none) o) (fun e W' ⟨he, hW⟩ => ⟨by rw [he, ht, hr1, hg1], h.rank hW⟩))
      have HDr := hid (fun o W t (h : StH wr W o (some (some t))) (ht : t.gs = g2) => (steps_own (h.own2 t rfl).1 (w := (atL fs ps ((k : Int) + 1 - 1)).length) (by rw [ht, hg2]; exact HGd.out _) (by rw [ht]; exact hgl2) (hwl _)).mono (R' := fun e W' => e = .returned (.int .i64 r2) ∧ StH wr W' o (some none)) (fun e W' ⟨he, hW⟩ => ⟨by rw [he, ht, hr2, hg2], (h.symm.rank hW).symm⟩))
      have Hr1 : Hid (r1 = rkM fs ps n k) := hid hr1
      have Hr2 : Hid (r2 = rkM fs ps n (k + 1)) := hid (by rw [hr2]; unfold rkM; push_cast; rfl)
      have hr1r := Hrk.out k
      have hr2r := Hrk.out (k + 1)
      rw [← Hr1.out] at hr1r
      rw [← Hr2.out] at hr2r
      have hS : (fun W : World => W.cell? ⟨w.heap.size, 0, none⟩ = some (.int .i64 V) ∧ W.cell? ⟨w.heap.size, 1, none⟩ = some (.slice a0 fs.length cap) ∧ W.cell? ⟨g, k, none⟩ = some (.int .i64 x0)) wr.drew := ⟨c0, c1, hck⟩
      have hw12 : IntKind.i64.wrap (r1 + r2) = r1 + r2 := IntWalk.i64_in _ (by omega)
      have hw3 : IntKind.i64.wrap (x0 - (r1 + r2)) = x0 - (r1 + r2) := IntWalk.i64_in _ (by omega)
      have Hstep : Hid (((mixH fs ps n N k).map (Value.int .i64)).set k (.int .i64 (x0 - (r1 + r2))) = (mixH fs ps n N (k + 1)).map (Value.int .i64)) := hid (by rw [← mixH_succ hkN, List.map_set, ← Hr1.out, ← Hr2.out, ← hx0])
      clear hg1 hg2 hr1 hr2 hgl1 hgl2 hwl hx0 hbw hown hB hr1r hr2r hx0r
      go_wp2_with fail
      refine region_M 18 (fun W : World => W.cell? ⟨w.heap.size, 0, none⟩ = some (.int .i64 V) ∧ W.cell? ⟨w.heap.size, 1, none⟩ = some (.slice a0 fs.length cap) ∧ W.cell? ⟨g, k, none⟩ = some (.int .i64 x0)) (by kernel_rfl) ?_
      refine anyM_take (i := 0) (v := .slice (some ⟨g, 0, none⟩) T cv) [2, 3, 16, 18] rfl (by kernel_rfl) (fun _ _ _ h => h) (Or.inl ⟨by rfl, fun W hW => by (obtain ⟨hW0, hW1, hW2⟩ := hW; go_simp)⟩) hS ?_
      refine anyM_take (i := 1) (v := .int .i64 (k : Int)) [2, 3, 16, 18] rfl (by kernel_rfl) (fun _ _ _ h => h) (Or.inl ⟨by rfl, fun W hW => by (obtain ⟨hW0, hW1, hW2⟩ := hW; go_simp)⟩) hS ?_
      refine anyM_take (i := 2) (v := .pointer (some ⟨g, k, none⟩)) [3, 16, 18] rfl (by kernel_rfl) (fun _ _ _ h => h) (Or.inl ⟨by rfl, fun W hW => by (obtain ⟨hW0, hW1, hW2⟩ := hW; go_simp)⟩) hS ?_
      refine anyM_take (i := 3) (v := .int .i64 x0) [16, 18] rfl (by kernel_rfl) (fun _ _ _ h => h) (Or.inl ⟨by rfl, fun W hW => by (obtain ⟨hW0, hW1, hW2⟩ := hW; go_simp)⟩) hS ?_
      refine anyM_take (i := 4) (v := .agg #[.int .i64 V, .slice a0 fs.length cap]) [7, 8, 15, 16, 18] rfl (by kernel_rfl) (fun _ _ _ h => h) (Or.inl ⟨by rfl, fun W hW => by (obtain ⟨hW0, hW1, hW2⟩ := hW; go_simp)⟩) hS ?_
      refine anyM_take (i := 5) (v := .slice a1 n cap1) [7, 8, 15, 16, 18] rfl (by kernel_rfl) (fun _ _ _ h => h) (Or.inl ⟨by rfl, fun W hW => by (obtain ⟨hW0, hW1, hW2⟩ := hW; go_simp)⟩) hS ?_
      refine anyM_take (i := 6) (v := .int .i64 (k : Int)) [7, 8, 15, 16, 18] rfl (by kernel_rfl) (fun _ _ _ h => h) (Or.inl ⟨by rfl, fun W hW => by (obtain ⟨hW0, hW1, hW2⟩ := hW; go_simp)⟩) hS ?_
      refine anyM_take (i := 9) (v := .agg #[.int .i64 V, .slice a0 fs.length cap]) [13, 14, 15, 16, 18] rfl (by kernel_rfl) (fun _ _ _ h => h) (Or.inl ⟨by rfl, fun W hW => by (obtain ⟨hW0, hW1, hW2⟩ := hW; go_simp)⟩) hS ?_
      refine anyM_take (i := 10) (v := .slice a1 n cap1) [13, 14, 15, 16, 18] rfl (by kernel_rfl) (fun _ _ _ h => h) (Or.inl ⟨by rfl, fun W hW => by (obtain ⟨hW0, hW1, hW2⟩ := hW; go_simp)⟩) hS ?_
      refine anyM_take (i := 11) (v := .int .i64 (k : Int)) [12, 13, 14, 15, 16, 18] rfl (by kernel_rfl) (fun _ _ _ h => h) (Or.inl ⟨by rfl, fun W hW => by (obtain ⟨hW0, hW1, hW2⟩ := hW; go_simp)⟩) hS ?_
      refine anyM_take (i := 12) (v := .int .i64 ((k : Int) + 1)) [13, 14, 15, 16, 18] rfl (by kernel_rfl) (fun _ _ _ h => h) (Or.inl ⟨by rfl, fun W hW => by (obtain ⟨hW0, hW1, hW2⟩ := hW; go_simp)⟩) hS ?_
      have hSof : ∀ o1 o2 W, StH wr W o1 o2 → (W.cell? ⟨w.heap.size, 0, none⟩ = some (.int .i64 V) ∧ W.cell? ⟨w.heap.size, 1, none⟩ = some (.slice a0 fs.length cap) ∧ W.cell? ⟨g, k, none⟩ = some (.int .i64 x0)) := fun o1 o2 W h => ⟨(h.below.cell (p := ⟨w.heap.size, 0, none⟩) (by simp only; omega)).trans c0, (h.below.cell (p := ⟨w.heap.size, 1, none⟩) (by simp only; omega)).trans c1, (h.below.cell (p := ⟨g, k, none⟩) hgl).trans hck⟩
      refine anyM_ready (rs := [7]) (by kernel_rfl) (by simp) ?_
      refine AllM.cons rfl (fun K hK => ?_) AllM.nil
      go_simp
      go_at_call 55
      refine (HA.out _ _ HD.out).mono ?_
      rintro e x1 ⟨_, t1, rfl, rfl, ht1, hst⟩
      have Hs1 := hid hst
      clear hst
      refine hK.out _ _ (fun _ => hSof _ _ _ Hs1.out) ?_
      clear hK K
      refine anyM_ready (rs := [8]) (by kernel_rfl) (by simp) ?_
      refine AllM.cons rfl (fun K hK => ?_) AllM.nil
      go_simp
      go_at_call 54
      refine (HBr.out _ _ _ Hs1.out ht1).mono ?_
      rintro e x2 ⟨rfl, hst⟩
      have Hs2 := hid hst
      clear hst
      refine hK.out _ _ (fun _ => hSof _ _ _ Hs2.out) ?_
      clear hK K
      refine anyM_ready (rs := [13]) (by kernel_rfl) (by simp) ?_
      refine AllM.cons rfl (fun K hK => ?_) AllM.nil
      go_simp
      go_at_call 55
      refine (HC.out _ _ Hs2.out).mono ?_
      rintro e x3 ⟨_, t2, rfl, rfl, ht2, hst⟩
      have Hs3 := hid hst
      clear hst
      refine hK.out _ _ (fun _ => hSof _ _ _ Hs3.out) ?_
      clear hK K
      refine anyM_ready (rs := [14]) (by kernel_rfl) (by simp) ?_
      refine AllM.cons rfl (fun K hK => ?_) AllM.nil
      go_simp
      go_at_call 54
      refine (HDr.out _ _ _ Hs3.out ht2).mono ?_
      rintro e x4 ⟨rfl, hst⟩
      have Hs4 := hid hst
      clear hst
      refine hK.out _ _ (fun _ => hSof _ _ _ Hs4.out) ?_
      clear hK K
      refine anyM_take (i := 15) (v := .int .i64 (r1 + r2)) [18] rfl (by kernel_rfl) (fun _ _ _ h => h) (Or.inl ⟨by rfl, fun W hW => by (obtain ⟨hW0, hW1, hW2⟩ := hW; go_simp)⟩) (hSof _ _ _ Hs4.out) ?_
      refine anyM_take (i := 16) (v := .int .i64 (x0 - (r1 + r2))) [18] rfl (by kernel_rfl) (fun _ _ _ h => h) (Or.inl ⟨by rfl, fun W hW => by (obtain ⟨hW0, hW1, hW2⟩ := hW; go_simp)⟩) (hSof _ _ _ Hs4.out) ?_
      refine anyM_take (i := 17) (v := .pointer (some ⟨g, k, none⟩)) [18] rfl (by kernel_rfl) (fun _ _ _ h => h) (Or.inl ⟨by rfl, fun W hW => by (obtain ⟨hW0, hW1, hW2⟩ := hW; go_simp)⟩) (hSof _ _ _ Hs4.out) ?_
      refine anyM_ready (rs := [18]) (by kernel_rfl) (by simp) ?_
      refine AllM.cons rfl (fun K hK => ?_) AllM.nil
      have hO4 := ownsRow_below Hown.out Hs4.out.below (fun g hg => (Hown.out.lt g hg).2)
      have f4 := hO4.frozenAt k
      have m4 := (hSof _ _ _ Hs4.out).2.2
      have hst := hO4.stored k (.int .i64 (x0 - (r1 + r2)))
      rw [Hstep.out] at hst
      have Hst := hid hst
      have hs4 : w1.heap.size ≤ x4.heap.size := Nat.le_trans hsr Hs4.out.below.size
      have HBf := hid ((HB.out.trans (Hs4.out.below.mono hsr)).grown hst.2 hs4 (fun r e => by cases e; exact hgb))
      have e0 := (HBf.out.cell (p := ⟨w.heap.size, 0, none⟩) hs1).trans k01
      have e1 := (HBf.out.cell (p := ⟨w.heap.size, 1, none⟩) hs1).trans k11
      clear hst hO4
      go_simp
      refine hK.out _ _ (fun h => absurd rfl h) ?_
      clear hK K f4 m4
      refine anyM_done (by kernel_rfl) ?_ _
      go_wp2_with fail
      go_roundw
      case rel => exact ⟨k + 1, by omega, by go_num, Hst.out.1, HBf.out, e0, e1⟩
      case measure => simp [intOf]; omega
    · go_wp2_with fail
      go_ret2
      obtain rfl : k = T := by omega
      rw [← HNl.out] at hown
      rw [mixH_full Hz0.out (by rw [HNl.out]; exact Hz1.out)] at hown
      exact ⟨_, rfl, ownsRow_base (by simpa [holT_len, HNl.out] using hown) (by omega), hbw⟩

set_option maxRecDepth 1000000 in
set_option maxHeartbeats 2000000 in
theorem implHolesOf (V : Int) (a0 : Option Addr) (cap : Nat) (fs : List Int) (a1 : Option Addr) (n cap1 : Nat) (ps : List Int) (w : World) (hx : SlI w w.heap.size a0 fs) (hx1 : SlI w w.heap.size a1 ps) (hl : fs.length ≤ 1048576) (hp : ps.length = 2 * n) (hn : n ≤ 1048576) (hw : ∀ x ∈ ps, (Lit.int .i64 x).wf = true) :
    Calls Try.prog 18 #[.agg #[.int .i64 V, .slice a0 fs.length cap], .slice a1 n cap1] w fun e w' => ∃ v, e = .returned (.tuple #[v, .int .i64 (holesR V fs n ps).2]) ∧ Res w w' v (holesR V fs n ps).1 := by
  by_cases h0 : acodeR V fs n ps true = 0
  · exact res_mono (by unfold holesR; rw [if_pos h0]) (holI_ok V a0 cap fs a1 n cap1 ps w hx hx1 hl hp hn hw h0)
  · obtain ⟨c, hc⟩ : ∃ c, c = acodeR V fs n ps true := ⟨_, rfl⟩
    refine res_mono (show holesR V fs n ps = ([], c) by rw [holesR, if_neg h0, hc]) ?_
    have hB0 : Below w.heap.size w (w.alloc (.cells #[.int .i64 V, .slice a0 fs.length cap] 30)) := (Below.refl _ w).alloc (Nat.le_refl _) _
    have HAc := hid (acode_any V a0 cap fs a1 n cap1 ps true _ (hx.later hB0 hB0.size) (hx1.later hB0 hB0.size) hl hp hn hw)
    rw [← hc] at HAc h0
    have hcn : (c != 0) = true := by simpa using h0
    have HB0 := hid hB0
    clear hx hx1 hp hw hB0 hc h0
    go_enter Try.func18, Try.ntmps18
    go_wp2_with fail
    refine HAc.out.mono ?_
    rintro e w1 ⟨rfl, hB1⟩
    go_wp2_with fail
    go_ret2
    exact ⟨_, rfl, res_nil _ _ (HB0.out.trans (hB1.mono (by simp)))⟩

end Go.Proofs.Ytgefpllmelpahaa

/-! What a complex that comes in is told as, for the rows of all laws. -/
namespace Go.Proofs.Ytgefpllmelpahaa
open Go.ChangeShapes Go.WideShapes Go.ChangeAt Go.RowKit Go.Joins

theorem own : ownKnob Try.prog.godebug = none := by kernel_rfl
theorem laidOut : laidOutB Try.prog = true := by kernel_rfl

variable {H : Type} {enc : TypeId × Value → H}

/-- A slice of int64 that came in. -/
theorem slI_of_trod {W : World} {n : Nat} {v : Value} {y : DataW H × List MemPlace} (hf : DataW.trod enc Try.prog W 0 (fun _ => true) true n 22 [v] = some y) :
    ∃ a len cap xs, v = .slice a len cap ∧ xs.length = len ∧ len ≤ 9223372036854775807 ∧ SlI W W.heap.size a xs ∧ ∀ x ∈ xs, (Lit.int .i64 x).wf = true := by
  rcases open_ints Try.underlying22 Try.underlying2 (by kernel_rfl) hf with ⟨hcs, _⟩ | ⟨x, l, c, zs, hcs, _, hl, hm, hz, _, hcell, hwf⟩
  · simp at hcs
    subst hcs
    exact ⟨none, 0, 0, [], rfl, rfl, by omega, .inl rfl, by simp⟩
  · simp at hcs
    subst hcs
    simp at hz
    have hlen : (zs.take l).length = l := by simp; omega
    unfold maxLen at hm
    refine ⟨some x, l, c, zs.take l, rfl, hlen, by omega, ?_, fun y hy => hwf y (List.mem_of_mem_take hy)⟩
    by_cases h0 : l = 0
    · subst h0; exact .inl (by simp)
    · right
      obtain ⟨b, off, spot⟩ := x
      have hc0 := hcell 0 (by omega)
      have hspot : spot = none := by simpa [Addr.add] using World.cell?_spot hc0
      subst hspot
      refine ⟨b, off, ?_, rfl, fun i hi => ?_⟩
      · have := World.block_lt_of_cell? W _ hc0
        simpa [Addr.add] using this
      · rw [hlen] at hi
        have := hcell i (by omega)
        have hadd : (⟨b, off, none⟩ : Addr).add i = ⟨b, off + i, none⟩ := by unfold Addr.add; split <;> simp_all
        rw [hadd] at this
        rw [List.getElem?_take, if_pos hi]
        simpa using this

end Go.Proofs.Ytgefpllmelpahaa

/-! What a list of pairs that comes in is told as. -/
namespace Go.Proofs.Ytgefpllmelpahaa
open Go.ChangeShapes Go.WideShapes Go.ChangeAt Go.RowKit Go.Joins

variable {H : Type} {enc : TypeId × Value → H}

/-- The number in a cell. -/
def cellInt (v : Option Value) : Int := match v with | some (.int _ n) => n | _ => 0

set_option maxRecDepth 100000 in
theorem two_of_trod {W : World} {n : Nat} {cs : List Value} {y : DataW H × List MemPlace} (hf : DataW.trod enc Try.prog W 0 (fun _ => true) true n 61 cs = some y) : ∃ x y : Int, cs = [.int .i64 x, .int .i64 y] ∧ (Lit.int .i64 x).wf = true ∧ (Lit.int .i64 y).wf = true := by
  cases n with
  | zero => simp [DataW.trod] at hf
  | succ n =>
    unfold DataW.trod at hf
    rw [Try.underlying61] at hf
    simp only at hf
    rw [show Try.prog.cellsOf 61 = 2 by kernel_rfl, show Try.prog.cellsOf 2 = 1 by kernel_rfl] at hf
    split at hf
    · next hl =>
      match cs, hl with
      | [c0, c1], _ =>
        simp only [Option.map_eq_some_iff] at hf
        obtain ⟨xs, hx, _⟩ := hf
        rw [show List.range 2 = [0, 1] from rfl, List.mapM_cons, List.mapM_cons, List.mapM_nil] at hx
        simp only [bind, Option.bind_eq_some_iff, pure, Option.some.injEq] at hx
        obtain ⟨y0, h0, _, ⟨y1, h1, _, rfl, rfl⟩, rfl⟩ := hx
        obtain ⟨a, ea, _, wa⟩ := DataW.trod_int Try.underlying2 h0
        obtain ⟨b, eb, _, wb⟩ := DataW.trod_int Try.underlying2 h1
        simp at ea eb
        subst ea; subst eb
        exact ⟨a, b, rfl, wa, wb⟩
    · cases hf

set_option maxRecDepth 100000 in
/-- A list of pairs that came in. -/
theorem pairs_of_trod {W : World} {n : Nat} {v : Value} {y : DataW H × List MemPlace} (hf : DataW.trod enc Try.prog W 0 (fun _ => true) true n 25 [v] = some y) :
    ∃ a len cap ps, v = .slice a len cap ∧ ps.length = 2 * len ∧ len ≤ 9223372036854775807 ∧ SlI W W.heap.size a ps ∧ ∀ x ∈ ps, (Lit.int .i64 x).wf = true := by
  rcases DataW.trod_slice Try.underlying25 hf with ⟨hcs, _⟩ | ⟨a, len, cap, elems, rest, m, _, hcs, _, hb, hl, hm, hlen, hel, _, _⟩
  · simp at hcs
    subst hcs
    exact ⟨none, 0, 0, [], rfl, rfl, by omega, .inl rfl, by simp⟩
  · simp at hcs
    subst hcs
    unfold maxLen at hm
    have hc : Try.prog.cellsOf 61 = 2 := by kernel_rfl
    have each : ∀ i, i < 2 * len → ∃ x, W.cell? (a.add i) = some (.int .i64 x) ∧ (Lit.int .i64 x).wf = true := by
      intro i hi
      have h := hel (i / 2) (by omega)
      rw [hc] at h
      have hy : elems[i / 2]? = some (elems[i / 2]'(by omega)) := List.getElem?_eq_getElem (by omega)
      rw [hy, Option.bind_eq_some_iff] at h
      obtain ⟨cs, hcs, ht⟩ := h
      obtain ⟨x, y, rfl, wx, wy⟩ := two_of_trod ht
      have h3 := (World.cells?_some hcs).2.2 (i % 2) (Nat.mod_lt _ (by decide))
      have hadd : (a.add (i / 2 * 2)).add (i % 2) = a.add i := by
        rw [Addr.add_add]
        congr 1
        omega
      rw [hadd] at h3
      rcases Nat.mod_two_eq_zero_or_one i with h | h <;> rw [h] at h3 <;> simp at h3
      · exact ⟨_, h3, wx⟩
      · exact ⟨_, h3, wy⟩
    refine ⟨some a, len, cap, (List.range (2 * len)).map (fun i => cellInt (W.cell? (a.add i))), rfl, by simp, by omega, ?_, ?_⟩
    rotate_left
    · intro x hx
      obtain ⟨i, hi, rfl⟩ := List.mem_map.1 hx
      obtain ⟨y, hy, wy⟩ := each i (List.mem_range.1 hi)
      rw [hy]
      exact wy
    by_cases h0 : len = 0
    · subst h0; exact .inl (by simp)
    · right
      obtain ⟨b, off, spot⟩ := a
      obtain ⟨x0, hc0, _⟩ := each 0 (by omega)
      have hspot : spot = none := by simpa [Addr.add] using World.cell?_spot hc0
      subst hspot
      refine ⟨b, off, ?_, rfl, fun i hi => ?_⟩
      · have := World.block_lt_of_cell? W _ hc0
        simpa [Addr.add] using this
      · simp only [List.length_map, List.length_range] at hi
        obtain ⟨x, hx, _⟩ := each i hi
        have hadd : (⟨b, off, none⟩ : Addr).add i = ⟨b, off + i, none⟩ := by unfold Addr.add; split <;> simp_all
        rw [hadd] at hx
        rw [hx, List.getElem?_map, List.getElem?_range hi]
        simp only [Option.map_some, Option.getD_some]
        rw [hadd, hx]
        rfl

theorem pairs_in {W : World} {n : Nat} {a : Option Addr} {m cap : Nat} {y : DataW H × List MemPlace} (hf : DataW.trod enc Try.prog W 0 (fun _ => true) true n 25 (Value.slice a m cap).cells.toList = some y) :
    ∃ ps, ps.length = 2 * m ∧ m ≤ 9223372036854775807 ∧ SlI W W.heap.size a ps ∧ ∀ x ∈ ps, (Lit.int .i64 x).wf = true := by
  obtain ⟨a', len, cap', ps, he, h1, h2, h3, h4⟩ := pairs_of_trod (v := .slice a m cap) hf
  cases he
  exact ⟨ps, h1, h2, h3, h4⟩

end Go.Proofs.Ytgefpllmelpahaa
