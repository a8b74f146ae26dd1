import Derived.Test.YtilncaagpcgakaaCritI
import Derived.Test.YtilncaagpcgakaaCountImpl
/-! The numbers of critical faces, the program's. -/
namespace Go.Proofs.Ytilncaagpcgakaa
open Go.RowKit

noncomputable def criticalNumbersR (V : Int) (fs : List Int) (n : Nat) (ps : List Int) : List Int × Int := if pcodeR V fs n ps = 0 then (countL (critL fs ps) (top fs + 1).toNat, 0) else ([], pcodeR V fs n ps)

theorem criticalNumbersR_len (V : Int) (fs : List Int) (n : Nat) (ps : List Int) (_h : fs.length ≤ 1048576) (_hp : ps.length = 2 * n) (_hn : n ≤ 1048576) : (criticalNumbersR V fs n ps).1.length ≤ 1048576 := by
  unfold criticalNumbersR
  have := top_hi fs
  split
  · rw [countL_len]; omega
  · simp

theorem critL_mem {fs ps : List Int} {x : Int} (h : x ∈ critL fs ps) : x ∈ fs := (List.mem_filter.1 h).1

set_option maxRecDepth 100000 in
set_option maxHeartbeats 2000000 in
theorem critN_ok (V : Int) (a0 : Option Addr) (cap : Nat) (fs : List Int) (a1 : Option Addr) (n cap1 : Nat) (ps : List Int) (w : World) (hx : SlI w w.heap.size a0 fs) (hx1 : SlI w w.heap.size a1 ps) (hl : fs.length ≤ 1048576) (hp : ps.length = 2 * n) (hn : n ≤ 1048576) (hw : ∀ x ∈ ps, (Lit.int .i64 x).wf = true)
    (hC : IsC V fs) (h0 : pcodeR V fs n ps = 0) :
    Calls Try.prog 28 #[.agg #[.int .i64 V, .slice a0 fs.length cap], .slice a1 n cap1] w fun e w' => ∃ v, e = .returned (.tuple #[v, .int .i64 0]) ∧ Res w w' v (countL (critL fs ps) (top fs + 1).toNat) := by
  have hB0 : Below w.heap.size w (w.alloc (.cells #[.int .i64 V, .slice a0 fs.length cap] 30)) := (Below.refl _ w).alloc (Nat.le_refl _) _
  have HI := hid (implCriticalFaces V a0 cap fs a1 n cap1 ps _ (hx.later hB0 hB0.size) (hx1.later hB0 hB0.size) hl hp hn hw)
  rw [show criticalFacesR V fs n ps = (critL fs ps, 0) by unfold criticalFacesR; rw [h0, if_pos rfl]] at HI
  have Hx0 := hid hx
  have Hf := hid hC.range63
  obtain ⟨T, hT⟩ : ∃ T : Nat, (T : Int) = top fs + 1 := ⟨(top fs + 1).toNat, by have := top_lo fs; omega⟩
  have hT6 : T ≤ 6 := by have := top_hi fs; omega
  have hTn : (top fs + 1).toNat = T := by omega
  rw [hTn]
  have HT := hid (show top fs = (T : Int) - 1 by omega)
  obtain ⟨L, hL⟩ : ∃ L, L = critL fs ps := ⟨_, rfl⟩
  have Hm : Hid (∀ x ∈ L, x ∈ fs) := hid (fun x hx => critL_mem (by rw [← hL]; exact hx))
  have HLl : Hid (L.length ≤ 1048576) := hid (by rw [hL]; exact Nat.le_trans (List.length_filter_le _ _) hl)
  rw [← hL] at HI ⊢
  have hx0 := hx
  clear hT hTn hx hx1 hp hw hC h0 hL
  go_enter Try.func28, Try.ntmps28
  go_wp2_with fail
  refine HI.out.mono ?_
  rintro e w1 ⟨v, rfl, hres⟩
  have hB1 := hres.2
  obtain ⟨_, av, cv, rfl, hs⟩ := ownsRow_slI hres.1
  have Hs := hid hs
  have k0 : w1.cell? ⟨w.heap.size, 0, none⟩ = some (.int .i64 V) := (hB1.cell (p := ⟨w.heap.size, 0, none⟩) (by simp)).trans (by simp [go_sem])
  have k1 : w1.cell? ⟨w.heap.size, 1, none⟩ = some (.slice a0 fs.length cap) := (hB1.cell (p := ⟨w.heap.size, 1, none⟩) (by simp)).trans (by simp [go_sem])
  have hB01 := hB0.trans (hB1.mono (by simp))
  have hs1 : w.heap.size < w1.heap.size := by have := hB1.size; simp at this; omega
  have hx1 := hid (hx0.later hB01 hB01.size)
  clear hB1 hs hres hB0 hx0
  go_wp2_with fail
  refine (dimT V a0 cap fs T _ hx1.out hl Hf.out HT.out).mono ?_
  rintro e w2 ⟨rfl, hB2⟩
  have hB02 := hB01.trans (hB2.mono hB01.size)
  have hs2 : w.heap.size < w2.heap.size := Nat.lt_of_lt_of_le hs1 hB2.size
  have Hs2 := hid (Hs.out.later hB2 hB2.size)
  clear k0 k1 hB2
  go_wp2_with (at_make; refine make_int (n := T) rfl rfl (by first | rfl | (show Value.int .i64 ((T : Int) - 1 + 1) = _; congr 1; omega)) (by first | rfl | (show Value.int .i64 ((T : Int) - 1 + 1) = _; congr 1; omega)) (by omega) ?_; intro w3 hown3 hgr3 hB3)
  have hown0 : w3.ownsRow w2.heap.size 2 1 (.slice (some ⟨w2.heap.size, 0, none⟩) T T) T ((countL [] T).map (Value.int .i64)) := by rw [countL_nil]; exact hown3
  have Hown0 := hid hown0
  have HB3 := hid hB3
  clear hown3 hgr3 hown0 hB3
  go_loopw [26] (fun i wr => ∃ k : Nat, k ≤ L.length ∧ i = .int .i64 k ∧ wr.ownsRow w2.heap.size 2 1 (.slice (some ⟨w2.heap.size, 0, none⟩) T T) T ((countL (L.take k) T).map (Value.int .i64)) ∧ Below w2.heap.size w2 wr) (fun i _ => L.length - (intOf i).toNat)
  case atStart => exact ⟨0, Nat.zero_le _, rfl, by simpa using Hown0.out, HB3.out⟩
  case round =>
    obtain ⟨k, hk, rfl, hown, hB⟩ := hrel
    have hLl := HLl.out
    by_cases hlt : k < L.length
    · obtain ⟨b, off, hb, rfl, hc⟩ : ∃ b off, b < w2.heap.size ∧ av = some ⟨b, off, none⟩ ∧ ∀ i, i < L.length → w2.cell? ⟨b, off + i, none⟩ = some (.int .i64 (L[i]?.getD 0)) := by
        rcases Hs2.out with h | h
        · rw [h] at hlt; simp at hlt
        · exact h
      have hxm := Hm.out _ (getD_mem hlt)
      obtain ⟨x, hx⟩ : ∃ x : Nat, (x : Int) = L[k]?.getD 0 := ⟨(L[k]?.getD 0).toNat, by have := Hf.out _ hxm; omega⟩
      rw [← hx] at hxm
      have hxr := Hf.out _ hxm
      have hx64 : x < 64 := by omega
      have hck : wr.cell? ⟨b, off + k, none⟩ = some (.int .i64 (x : Int)) := by rw [hx]; exact (hB.cell (p := ⟨b, off + k, none⟩) hb).trans (hc k hlt)
      have hi0 : (0 : Int) ≤ (k : Int) := by omega
      have hi1 : (k : Int) < (L.length : Int) := by omega
      have hop := ones_pos ⟨x, hx64⟩ (by show x ≠ 0; omega)
      have htg := top_ge fs hxm
      rw [HT.out, Int.toNat_natCast] at htg
      obtain ⟨e, he⟩ : ∃ e, ones x = e + 1 := ⟨ones x - 1, by have : 0 < ones x := hop; omega⟩
      have heT : e < T := by omega
      have he0 : (0 : Int) ≤ (e : Int) := by omega
      have he1 : (e : Int) < (T : Int) := by omega
      have hcn := countL_at (L.take k) T e heT
      obtain ⟨c, hn⟩ : ∃ c : Nat, c = (ofDim (L.take k) (e : Int)).length := ⟨_, rfl⟩
      have hn6 : c ≤ 1048576 := by rw [hn]; exact Nat.le_trans (List.length_filter_le _ _) (by simp; omega)
      have hce : wr.cell? ⟨w2.heap.size, e, none⟩ = some (.int .i64 (c : Int)) := by
        rw [hown.cellAt e (by omega), hn, ← hcn]
        simp [countL, heT]
      have hfe := hown.frozenAt e
      have hst := hown.stored e (.int .i64 ((c : Int) + 1))
      have hstep : ((countL (L.take k) T).map (Value.int .i64)).set e (.int .i64 ((c : Int) + 1)) = (countL (L.take (k + 1)) T).map (Value.int .i64) := by
        rw [take_snoc hlt, ← hx, countL_face _ _ _ _ he, hn, List.map_set]
      rw [hstep] at hst
      have Hst := hid hst
      have HB := hid hB
      have He := hid he
      clear hstep hst hown hB hx hc hcn hn htg hop hxm hxr he
      go_wp2_with (go_at_call 59; refine (dimE x e _ hx64 He.out).mono ?_; rintro e w' ⟨rfl, rfl⟩)
      go_roundw
      case rel =>
        exact ⟨k + 1, by omega, by go_num, Hst.out.1, HB.out.grown Hst.out.2 HB.out.size (fun r e => by cases e; omega)⟩
      case measure => simp [intOf]; omega
    · go_wp2_with fail
      go_ret2
      obtain rfl : k = L.length := by omega
      rw [List.take_of_length_le (Nat.le_refl _)] at hown
      exact ⟨_, rfl, ownsRow_base (by simpa [countL_len] using hown) (by omega), hB02.trans (hB.mono hB02.size)⟩

set_option maxRecDepth 100000 in
set_option maxHeartbeats 1000000 in
theorem critN_bad (V : Int) (a0 : Option Addr) (cap : Nat) (fs : List Int) (a1 : Option Addr) (n cap1 : Nat) (ps : List Int) (w : World) (hx : SlI w w.heap.size a0 fs) (hx1 : SlI w w.heap.size a1 ps) (hl : fs.length ≤ 1048576) (hp : ps.length = 2 * n) (hn : n ≤ 1048576) (hw : ∀ x ∈ ps, (Lit.int .i64 x).wf = true)
    (c : Int) (hc : (c != 0) = true) (hc0 : ¬ c = 0) (h0 : pcodeR V fs n ps = c) :
    Calls Try.prog 28 #[.agg #[.int .i64 V, .slice a0 fs.length cap], .slice a1 n cap1] w fun e w' => ∃ v, e = .returned (.tuple #[v, .int .i64 c]) ∧ Res w w' v [] := by
  have hB0 : Below w.heap.size w (w.alloc (.cells #[.int .i64 V, .slice a0 fs.length cap] 30)) := (Below.refl _ w).alloc (Nat.le_refl _) _
  have HI := hid (implCriticalFaces V a0 cap fs a1 n cap1 ps _ (hx.later hB0 hB0.size) (hx1.later hB0 hB0.size) hl hp hn hw)
  rw [show criticalFacesR V fs n ps = ([], c) by unfold criticalFacesR; rw [h0, if_neg hc0]] at HI
  clear hx hx1 hp hw h0 hc0
  go_enter Try.func28, Try.ntmps28
  go_wp2_with fail
  refine HI.out.mono ?_
  rintro e w1 ⟨v, rfl, hres⟩
  have hB1 := hres.2
  clear hres
  go_wp2_with fail
  go_ret2
  exact ⟨_, rfl, res_nil _ _ (hB0.trans (hB1.mono (by simp)))⟩

theorem implCriticalNumbers (V : Int) (a0 : Option Addr) (cap : Nat) (fs : List Int) (a1 : Option Addr) (n cap1 : Nat) (ps : List Int) (w : World) (hx : SlI w w.heap.size a0 fs) (hx1 : SlI w w.heap.size a1 ps) (hl : fs.length ≤ 1048576) (hp : ps.length = 2 * n) (hn : n ≤ 1048576) (hw : ∀ x ∈ ps, (Lit.int .i64 x).wf = true) :
    Calls Try.prog 28 #[.agg #[.int .i64 V, .slice a0 fs.length cap], .slice a1 n cap1] w fun e w' => ∃ v, e = .returned (.tuple #[v, .int .i64 (criticalNumbersR V fs n ps).2]) ∧ Res w w' v (criticalNumbersR V fs n ps).1 := by
  rcases pcode_cases V fs n ps with ⟨hC, _, h0, _, _⟩ | ⟨_, _, h0, _, _⟩ | ⟨_, h0, _⟩
  · exact res_mono (by unfold criticalNumbersR; rw [h0, if_pos rfl]) (critN_ok V a0 cap fs a1 n cap1 ps w hx hx1 hl hp hn hw hC h0)
  · exact res_mono (by unfold criticalNumbersR; rw [h0, if_neg (by decide)]) (critN_bad V a0 cap fs a1 n cap1 ps w hx hx1 hl hp hn hw 2 (by decide) (by decide) h0)
  · exact res_mono (by unfold criticalNumbersR; rw [h0, if_neg (by decide)]) (critN_bad V a0 cap fs a1 n cap1 ps w hx hx1 hl hp hn hw 1 (by decide) (by decide) h0)

end Go.Proofs.Ytilncaagpcgakaa
