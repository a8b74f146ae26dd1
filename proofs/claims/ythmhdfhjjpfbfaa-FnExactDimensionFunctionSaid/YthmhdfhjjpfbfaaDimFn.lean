import Derived.Test.YthmhdfhjjpfbfaaFw
import Derived.Test.YthmhdfhjjpfbfaaOnes
import Derived.Test.YthmhdfhjjpfbfaaFacesOf
/-! DimensionFunction, the model's and the program's. -/
namespace Go.Proofs.Ythmhdfhjjpfbfaa
open Go.RowKit

/-- The dimensions of faces. -/
def dimL (fs : List Int) : List Int := fs.map fun x => (ones x.toNat : Int) - 1
theorem dimL_snoc (pre : List Int) (x : Nat) : dimL (pre ++ [(x : Int)]) = dimL pre ++ [(ones x : Int) - 1] := by simp [dimL]
theorem dimL_len (fs : List Int) : (dimL fs).length = fs.length := by simp [dimL]

/-- What DimensionFunction hands back. -/
noncomputable def dimFnR (V : Int) (fs : List Int) : List Int × Int := if isCB V fs then (dimL fs, 0) else ([], 1)
theorem dimFnR_len (V : Int) (fs : List Int) (h : fs.length ≤ 1048576) : (dimFnR V fs).1.length ≤ 1048576 := by
  unfold dimFnR
  split
  · rw [dimL_len]; exact h
  · simp

set_option maxHeartbeats 400000 in
theorem l02Dim_any (f : Nat) (w : World) (hf : f < 64) :
    Calls Try.prog 54 #[.int .i64 (f : Int)] w fun e w' => e = .returned (.int .i64 ((ones f : Int) - 1)) ∧ w = w' := by
  have ho := ones_le f
  go_enter Try.func54, Try.ntmps54
  go_wp2_with fail
  refine (ones_any f _ hf).mono ?_
  rintro e w' ⟨rfl, rfl⟩
  go_wp2_with fail
  go_ret
  exact ⟨rfl, rfl⟩

set_option maxHeartbeats 2000000 in
theorem specDimensionFunction (V : Int) (a : Option Addr) (cap : Nat) (fs : List Int) (w : World) (hx : SlI w w.heap.size a fs) (hl : fs.length ≤ 1048576) :
    Calls Try.prog 16 #[.agg #[.int .i64 V, .slice a fs.length cap]] w fun e w' => ∃ v, e = .returned (.tuple #[v, .int .i64 (dimFnR V fs).2]) ∧ Res w w' v (dimFnR V fs).1 := by
  have hB0 : Below w.heap.size w (w.alloc (.cells #[.int .i64 V, .slice a fs.length cap] 28)) := (Below.refl _ w).alloc (Nat.le_refl _) _
  have Hx := hid (hx.later hB0 (by simp))
  have Hx0 := hid hx
  clear hx
  by_cases hC : IsC V fs
  · refine pair_mono (show dimFnR V fs = (dimL fs, 0) by unfold dimFnR; rw [isCB_true hC, if_pos rfl]) ?_
    have Hf := hid hC.range63
    have HC := hid hC
    clear hC
    go_enter Try.func16, Try.ntmps16
    go_wp2_with fail
    refine (is_yes V a cap fs _ Hx.out hl HC.out).mono ?_
    rintro e w1 ⟨rfl, hB1⟩
    have k0 : w1.cell? ⟨w.heap.size, 0, none⟩ = some (.int .i64 V) := (hB1.cell (p := ⟨w.heap.size, 0, none⟩) (by simp)).trans (by simp [go_sem])
    have k1 : w1.cell? ⟨w.heap.size, 1, none⟩ = some (.slice a fs.length cap) := (hB1.cell (p := ⟨w.heap.size, 1, none⟩) (by simp)).trans (by simp [go_sem])
    have hB01 := hB0.trans (hB1.mono (by simp))
    have hs1 : w.heap.size < w1.heap.size := by have := hB1.size; simp at this; omega
    have hown0 := World.ownsRow_made (base := w1.heap.size) (e := 2) (size := 1) w1 #[] 0 (Nat.le_refl _) (by simp [maxLen]) rfl
    have Hown0 := hid hown0
    clear hown0 hB1
    go_wp2_with fail
    go_loopw [4, 5] (fun v i wr => ∃ k : Nat, k ≤ fs.length ∧ i = .int .i64 k ∧ wr.ownsRow w1.heap.size 2 1 v (dimL (fs.take k)).length ((dimL (fs.take k)).map (Value.int .i64)) ∧ Below w1.heap.size w1 wr) (fun _ i _ => fs.length - (intOf i).toNat)
    case atStart => exact ⟨0, Nat.zero_le _, rfl, by simpa [dimL] using Hown0.out, (Below.refl _ _).alloc (Nat.le_refl _) _⟩
    case round =>
      obtain ⟨k, hk, rfl, hown, hB⟩ := hrel
      have c0 : wr.cell? ⟨w.heap.size, 0, none⟩ = some (.int .i64 V) := (hB.cell (p := ⟨w.heap.size, 0, none⟩) hs1).trans k0
      have c1 : wr.cell? ⟨w.heap.size, 1, none⟩ = some (.slice a fs.length cap) := (hB.cell (p := ⟨w.heap.size, 1, none⟩) hs1).trans k1
      have hBW := hB01.trans (hB.mono hB01.size)
      have hsz := hB.size
      by_cases hlt : k < fs.length
      · obtain ⟨b, off, hb, rfl, hc⟩ : ∃ b off, b < w.heap.size ∧ a = some ⟨b, off, none⟩ ∧ ∀ i, i < fs.length → w.cell? ⟨b, off + i, none⟩ = some (.int .i64 (fs[i]?.getD 0)) := by
          rcases Hx0.out with rfl | h
          · simp at hlt
          · exact h
        obtain ⟨x, hx⟩ : ∃ x : Nat, (x : Int) = fs[k]?.getD 0 := ⟨(fs[k]?.getD 0).toNat, by have := Hf.out _ (getD_mem hlt); omega⟩
        have hx64 : x < 64 := by have := Hf.out _ (getD_mem hlt); omega
        have hck : wr.cell? ⟨b, off + k, none⟩ = some (.int .i64 (x : Int)) := by rw [hx]; exact (hBW.cell (p := ⟨b, off + k, none⟩) hb).trans (hc k hlt)
        have hi0 : (0 : Int) ≤ (k : Int) := by omega
        have hi1 : (k : Int) < (fs.length : Int) := by omega
        have hfl : (dimL (fs.take k)).length ≤ 1048576 := by rw [dimL_len]; simp; omega
        have Hsn : Hid (dimL (fs.take (k + 1)) = dimL (fs.take k) ++ [(ones x : Int) - 1]) := hid (by rw [take_snoc hlt, ← hx, dimL_snoc])
        have ho := ones_le x
        have HB := hid hB
        have Hown := hid hown
        clear hx hc hB hown hBW
        go_wp2_with (first
          | (go_at_call 54; refine (l02Dim_any x _ hx64).mono ?_; rintro e w' ⟨rfl, rfl⟩)
          | (at_builtin; refine append_int rfl rfl Hown.out hsz (by omega) rfl rfl ?_; intro v' w2 hown2 hgrow2 hB2))
        go_roundw
        case rel => exact ⟨k + 1, by omega, by go_num, by rw [Hsn.out]; exact hown2, HB.out.trans hB2⟩
        case measure => simp [intOf]; omega
      · have HB := hid hB
        have Hown := hid hown
        clear hB hown
        go_wp2
        go_ret2
        obtain rfl : k = fs.length := by omega
        exact ⟨_, rfl, ownsRow_base (by simpa using Hown.out) (by omega), hBW⟩
  · refine pair_mono (show dimFnR V fs = ([], 1) by unfold dimFnR; rw [isCB_false hC, if_neg (by simp)]) ?_
    go_enter Try.func16, Try.ntmps16
    go_wp2_with fail
    refine (is_no V a cap fs _ Hx.out hl hC).mono ?_
    rintro e w1 ⟨rfl, hB1⟩
    have hB01 := hB0.trans (hB1.mono (by simp))
    go_wp2_with fail
    go_ret2
    exact ⟨_, rfl, res_nil _ _ hB01⟩

set_option maxHeartbeats 2000000 in
theorem implDimensionFunction (V : Int) (a : Option Addr) (cap : Nat) (fs : List Int) (w : World) (hx : SlI w w.heap.size a fs) (hl : fs.length ≤ 1048576) :
    Calls Try.prog 18 #[.agg #[.int .i64 V, .slice a fs.length cap]] w fun e w' => ∃ v, e = .returned (.tuple #[v, .int .i64 (dimFnR V fs).2]) ∧ Res w w' v (dimFnR V fs).1 := by
  have hB0 : Below w.heap.size w (w.alloc (.cells #[.int .i64 V, .slice a fs.length cap] 28)) := (Below.refl _ w).alloc (Nat.le_refl _) _
  have Hx := hid (hx.later hB0 (by simp))
  have Hx0 := hid hx
  clear hx
  by_cases hC : IsC V fs
  · refine pair_mono (show dimFnR V fs = (dimL fs, 0) by unfold dimFnR; rw [isCB_true hC, if_pos rfl]) ?_
    have Hf := hid hC.range63
    have HC := hid hC
    clear hC
    go_enter Try.func18, Try.ntmps18
    go_wp2_with fail
    refine (isc_yes V a cap fs _ Hx.out hl HC.out).mono ?_
    rintro e w1 ⟨rfl, hB1⟩
    have k0 : w1.cell? ⟨w.heap.size, 0, none⟩ = some (.int .i64 V) := (hB1.cell (p := ⟨w.heap.size, 0, none⟩) (by simp)).trans (by simp [go_sem])
    have k1 : w1.cell? ⟨w.heap.size, 1, none⟩ = some (.slice a fs.length cap) := (hB1.cell (p := ⟨w.heap.size, 1, none⟩) (by simp)).trans (by simp [go_sem])
    have hB01 := hB0.trans (hB1.mono (by simp))
    have hs1 : w.heap.size < w1.heap.size := by have := hB1.size; simp at this; omega
    clear hB1
    go_wp2_with fail
    go_loopw [4, 13] (fun v i wr => ∃ k : Nat, k ≤ fs.length ∧ i = .int .i64 k ∧ wr.ownsRow w1.heap.size 2 1 v (dimL (fs.take k)).length ((dimL (fs.take k)).map (Value.int .i64)) ∧ Below w1.heap.size w1 wr) (fun _ i _ => fs.length - (intOf i).toNat)
    case atStart => exact ⟨0, Nat.zero_le _, rfl, World.ownsRow_nil _ _ _ _, Below.refl _ _⟩
    case round =>
      obtain ⟨k, hk, rfl, hown, hB⟩ := hrel
      have hBW := hB01.trans (hB.mono hB01.size)
      have hsz := hB.size
      by_cases hlt : k < fs.length
      · obtain ⟨b, off, hb, rfl, hc⟩ : ∃ b off, b < w.heap.size ∧ a = some ⟨b, off, none⟩ ∧ ∀ i, i < fs.length → w.cell? ⟨b, off + i, none⟩ = some (.int .i64 (fs[i]?.getD 0)) := by
          rcases Hx0.out with rfl | h
          · simp at hlt
          · exact h
        obtain ⟨x, hx⟩ : ∃ x : Nat, (x : Int) = fs[k]?.getD 0 := ⟨(fs[k]?.getD 0).toNat, by have := Hf.out _ (getD_mem hlt); omega⟩
        have hx64 : x < 64 := by have := Hf.out _ (getD_mem hlt); omega
        have hck : wr.cell? ⟨b, off + k, none⟩ = some (.int .i64 (x : Int)) := by rw [hx]; exact (hBW.cell (p := ⟨b, off + k, none⟩) hb).trans (hc k hlt)
        have hi0 : (0 : Int) ≤ (k : Int) := by omega
        have hi1 : (k : Int) < (fs.length : Int) := by omega
        have hfl : (dimL (fs.take k)).length ≤ 1048576 := by rw [dimL_len]; simp; omega
        have Hsn : Hid (dimL (fs.take (k + 1)) = dimL (fs.take k) ++ [(ones x : Int) - 1]) := hid (by rw [take_snoc hlt, ← hx, dimL_snoc])
        have ho := ones_le x
        have HB := hid hB
        have Hown := hid hown
        clear hx hc hB hown hBW
        go_wp2_with (first
          | (go_at_call 56; refine (dim_any x _ hx64).mono ?_; rintro e w' ⟨rfl, rfl⟩)
          | (at_builtin; refine append_int rfl rfl Hown.out hsz (by omega) rfl rfl ?_; intro v' w2 hown2 hgrow2 hB2))
        go_roundw
        case rel => exact ⟨k + 1, by omega, by go_num, by rw [Hsn.out]; exact hown2, HB.out.trans hB2⟩
        case measure => simp [intOf]; omega
      · have HB := hid hB
        have Hown := hid hown
        clear hB hown
        go_wp2
        go_ret2
        obtain rfl : k = fs.length := by omega
        exact ⟨_, rfl, ownsRow_base (by simpa using Hown.out) (by omega), hBW⟩
  · refine pair_mono (show dimFnR V fs = ([], 1) by unfold dimFnR; rw [isCB_false hC, if_neg (by simp)]) ?_
    go_enter Try.func18, Try.ntmps18
    go_wp2_with fail
    refine (isc_no V a cap fs _ Hx.out hl hC).mono ?_
    rintro e w1 ⟨rfl, hB1⟩
    have hB01 := hB0.trans (hB1.mono (by simp))
    go_wp2_with fail
    go_ret2
    exact ⟨_, rfl, res_nil _ _ hB01⟩

end Go.Proofs.Ythmhdfhjjpfbfaa
