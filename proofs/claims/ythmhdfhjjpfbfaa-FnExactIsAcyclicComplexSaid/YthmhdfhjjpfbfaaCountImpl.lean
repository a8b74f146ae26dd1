import Derived.Test.YthmhdfhjjpfbfaaCount
/-! CountFaces, the program's. -/
namespace Go.Proofs.Ythmhdfhjjpfbfaa
open Go.RowKit

theorem dimE (f e : Nat) (w : World) (hf : f < 64) (he : ones f = e + 1) :
    Calls Try.prog 56 #[.int .i64 (f : Int)] w fun r w' => r = .returned (.int .i64 (e : Int)) ∧ w = w' :=
  (dim_any f w hf).mono fun _ _ ⟨h, hw⟩ => ⟨by rw [h, he]; congr 2; omega, hw⟩

theorem dimT (V : Int) (a0 : Option Addr) (cap : Nat) (fs : List Int) (T : Nat) (w : World) (hx : SlI w w.heap.size a0 fs) (hl : fs.length ≤ 1048576) (hf : ∀ x ∈ fs, 1 ≤ x ∧ x ≤ 63) (hT : top fs = (T : Int) - 1) :
    Calls Try.prog 129 #[.agg #[.int .i64 V, .slice a0 fs.length cap]] w fun e w' => e = .returned (.int .i64 ((T : Int) - 1)) ∧ Below w.heap.size w w' :=
  (dimI_any V a0 cap fs w hx hl hf).mono fun _ _ ⟨h, hw⟩ => ⟨by rw [h, hT], hw⟩

theorem countL_nil (n : Nat) : countL [] n = List.replicate n 0 := by
  apply List.ext_getElem?
  intro i
  by_cases hi : i < n
  · simp [countL, hi, ofDim]
  · rw [List.getElem?_eq_none (by rw [countL_len]; omega), List.getElem?_eq_none (by simp; omega)]

set_option maxHeartbeats 2000000 in
theorem implCountFaces (V : Int) (a0 : Option Addr) (cap : Nat) (fs : List Int) (w : World) (hx : SlI w w.heap.size a0 fs) (hl : fs.length ≤ 1048576) :
    Calls Try.prog 91 #[.agg #[.int .i64 V, .slice a0 fs.length cap]] w fun e w' => ∃ v, e = .returned (.tuple #[v, .int .i64 (countFacesR V fs).2]) ∧ Res w w' v (countFacesR V fs).1 := by
  have hB0 : Below w.heap.size w (w.alloc (.cells #[.int .i64 V, .slice a0 fs.length cap] 28)) := (Below.refl _ w).alloc (Nat.le_refl _) _
  have Hx := hid (hx.later hB0 (by simp))
  have Hx0 := hid hx
  by_cases hC : IsC V fs
  · refine pair_mono (show countFacesR V fs = (countL fs (top fs + 1).toNat, 0) by unfold countFacesR; rw [isCB_true hC, if_pos rfl]) ?_
    have Hf := hid hC.range63
    have HC := hid hC
    clear hC
    obtain ⟨T, hT⟩ : ∃ T : Nat, (T : Int) = top fs + 1 := ⟨(top fs + 1).toNat, by have := top_lo fs; omega⟩
    have hT6 : T ≤ 6 := by have := top_hi fs; omega
    have hTn : (top fs + 1).toNat = T := by omega
    rw [hTn]
    have HT := hid (show top fs = (T : Int) - 1 by omega)
    clear hT hTn
    go_enter Try.func91, Try.ntmps91
    go_wp2_with fail
    refine (isc_yes V a0 cap fs _ Hx.out hl HC.out).mono ?_
    rintro e w1 ⟨rfl, hB1⟩
    have k0 : w1.cell? ⟨w.heap.size, 0, none⟩ = some (.int .i64 V) := (hB1.cell (p := ⟨w.heap.size, 0, none⟩) (by simp)).trans (by simp [go_sem])
    have k1 : w1.cell? ⟨w.heap.size, 1, none⟩ = some (.slice a0 fs.length cap) := (hB1.cell (p := ⟨w.heap.size, 1, none⟩) (by simp)).trans (by simp [go_sem])
    have hB01 := hB0.trans (hB1.mono (by simp))
    have hs1 : w.heap.size < w1.heap.size := by have := hB1.size; simp at this; omega
    have hx1 := hid (hx.later hB01 hB01.size)
    clear hB1
    go_wp2_with fail
    refine (dimT V a0 cap fs T _ hx1.out hl Hf.out HT.out).mono ?_
    rintro e w2 ⟨rfl, hB2⟩
    have hB02 := hB01.trans (hB2.mono hB01.size)
    have hs2 : w.heap.size < w2.heap.size := Nat.lt_of_lt_of_le hs1 hB2.size
    have d1 : w2.cell? ⟨w.heap.size, 1, none⟩ = some (.slice a0 fs.length cap) := (hB2.cell (p := ⟨w.heap.size, 1, none⟩) hs1).trans k1
    clear k0 k1 hB2
    go_wp2_with (at_make; refine make_int (n := T) rfl rfl (by first | rfl | (show Value.int .i64 ((T : Int) - 1 + 1) = _; congr 1; omega)) (by first | rfl | (show Value.int .i64 ((T : Int) - 1 + 1) = _; congr 1; omega)) (by omega) ?_; intro w3 hown3 hgr3 hB3; have e1 : w3.cell? ⟨w.heap.size, 1, none⟩ = some (.slice a0 fs.length cap) := (hB3.cell (p := ⟨w.heap.size, 1, none⟩) hs2).trans d1)
    have hown0 : w3.ownsRow w2.heap.size 2 1 (.slice (some ⟨w2.heap.size, 0, none⟩) T T) T ((countL [] T).map (Value.int .i64)) := by rw [countL_nil]; exact hown3
    have Hown0 := hid hown0
    have HB3 := hid hB3
    clear hown3 hgr3 hown0 hB3 d1
    go_loopw [17] (fun i wr => ∃ k : Nat, k ≤ fs.length ∧ i = .int .i64 k ∧ wr.ownsRow w2.heap.size 2 1 (.slice (some ⟨w2.heap.size, 0, none⟩) T T) T ((countL (fs.take k) T).map (Value.int .i64)) ∧ Below w2.heap.size w2 wr) (fun i _ => fs.length - (intOf i).toNat)
    case atStart => exact ⟨0, Nat.zero_le _, rfl, by simpa using Hown0.out, HB3.out⟩
    case round =>
      obtain ⟨k, hk, rfl, hown, hB⟩ := hrel
      by_cases hlt : k < fs.length
      · obtain ⟨b, off, hb, rfl, hc⟩ : ∃ b off, b < w.heap.size ∧ a0 = some ⟨b, off, none⟩ ∧ ∀ i, i < fs.length → w.cell? ⟨b, off + i, none⟩ = some (.int .i64 (fs[i]?.getD 0)) := by
          rcases Hx0.out with rfl | h
          · simp at hlt
          · exact h
        have hxm := getD_mem hlt
        obtain ⟨x, hx⟩ : ∃ x : Nat, (x : Int) = fs[k]?.getD 0 := ⟨(fs[k]?.getD 0).toNat, by have := Hf.out _ hxm; omega⟩
        rw [← hx] at hxm
        have hxr := Hf.out _ hxm
        have hx64 : x < 64 := by omega
        have hck : wr.cell? ⟨b, off + k, none⟩ = some (.int .i64 (x : Int)) := by rw [hx]; exact (hB.cell (p := ⟨b, off + k, none⟩) (by show b < w2.heap.size; omega)).trans ((hB02.cell (p := ⟨b, off + k, none⟩) hb).trans (hc k hlt))
        have hi0 : (0 : Int) ≤ (k : Int) := by omega
        have hi1 : (k : Int) < (fs.length : Int) := by omega
        have hop := ones_pos ⟨x, hx64⟩ (by show x ≠ 0; omega)
        have htg := top_ge fs hxm
        rw [HT.out, Int.toNat_natCast] at htg
        obtain ⟨e, he⟩ : ∃ e, ones x = e + 1 := ⟨ones x - 1, by have : 0 < ones x := hop; omega⟩
        have heT : e < T := by omega
        have he0 : (0 : Int) ≤ (e : Int) := by omega
        have he1 : (e : Int) < (T : Int) := by omega
        have hcn := countL_at (fs.take k) T e heT
        obtain ⟨n, hn⟩ : ∃ n : Nat, n = (ofDim (fs.take k) (e : Int)).length := ⟨_, rfl⟩
        have hn6 : n ≤ 1048576 := by rw [hn]; exact Nat.le_trans (List.length_filter_le _ _) (by simp; omega)
        have hce : wr.cell? ⟨w2.heap.size, e, none⟩ = some (.int .i64 (n : Int)) := by
          rw [hown.cellAt e (by omega), hn, ← hcn]
          simp [countL, heT]
        have hfe := hown.frozenAt e
        have hst := hown.stored e (.int .i64 ((n : Int) + 1))
        have hstep : ((countL (fs.take k) T).map (Value.int .i64)).set e (.int .i64 ((n : Int) + 1)) = (countL (fs.take (k + 1)) T).map (Value.int .i64) := by
          rw [take_snoc hlt, ← hx, countL_face _ _ _ _ he, hn, List.map_set]
        rw [hstep] at hst
        have Hst := hid hst
        have HB := hid hB
        have He := hid he
        clear hstep hst hown hB hx hc hcn hn htg hop hxm hxr he
        go_wp2_with (go_at_call 56; refine (dimE x e _ hx64 He.out).mono ?_; rintro e w' ⟨rfl, rfl⟩)
        go_roundw
        case rel =>
          exact ⟨k + 1, by omega, by go_num, Hst.out.1, HB.out.grown Hst.out.2 HB.out.size (fun r e => by cases e; omega)⟩
        case measure => simp [intOf]; omega
      · go_wp2_with fail
        go_ret2
        obtain rfl : k = fs.length := by omega
        rw [List.take_of_length_le (Nat.le_refl _)] at hown
        exact ⟨_, rfl, ownsRow_base (by simpa [countL_len] using hown) (by omega), hB02.trans (hB.mono hB02.size)⟩
  · refine pair_mono (show countFacesR V fs = ([], 1) by unfold countFacesR; rw [isCB_false hC, if_neg (by simp)]) ?_
    go_enter Try.func91, Try.ntmps91
    go_wp2_with fail
    refine (isc_no V a0 cap fs _ Hx.out hl hC).mono ?_
    rintro e w1 ⟨rfl, hB1⟩
    have hB01 := hB0.trans (hB1.mono (by simp))
    go_wp2_with fail
    go_ret2
    exact ⟨_, rfl, res_nil _ _ hB01⟩

end Go.Proofs.Ythmhdfhjjpfbfaa
