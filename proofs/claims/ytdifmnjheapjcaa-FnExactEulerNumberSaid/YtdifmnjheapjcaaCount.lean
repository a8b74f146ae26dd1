import Derived.Test.YtdifmnjheapjcaaDim
/-! CountFaces, the model's and the program's. -/
namespace Go.Proofs.Ytdifmnjheapjcaa
open Go.RowKit

/-- The numbers of faces of the first n dimensions. -/
def countL (fs : List Int) (n : Nat) : List Int := (List.range n).map fun d : Nat => ((ofDim fs (d : Int)).length : Int)

theorem countL_len (fs : List Int) (n : Nat) : (countL fs n).length = n := by simp [countL]

theorem countL_snoc (fs : List Int) (n : Nat) : countL fs (n + 1) = countL fs n ++ [((ofDim fs (n : Int)).length : Int)] := by
  simp [countL, List.range_succ]

theorem countL_face (pre : List Int) (x : Nat) (n e : Nat) (he : ones x = e + 1) : countL (pre ++ [(x : Int)]) n = (countL pre n).set e (((ofDim pre (e : Int)).length : Int) + 1) := by
  apply List.ext_getElem?
  intro i
  by_cases hi : i < n
  · by_cases hie : e = i
    · subst hie
      rw [List.getElem?_set_self (by rw [countL_len]; exact hi)]
      simp [countL, hi, ofDim, List.filter_append, he]
    · rw [List.getElem?_set_ne hie]
      have : ¬ ((ones x : Int) = (i : Int) + 1) := by omega
      simp [countL, hi, ofDim, List.filter_append, this]
  · rw [List.getElem?_eq_none (by rw [countL_len]; omega), List.getElem?_eq_none (by rw [List.length_set, countL_len]; omega)]

theorem countL_at (pre : List Int) (n e : Nat) (hn : e < n) : (countL pre n)[e]?.getD 0 = ((ofDim pre (e : Int)).length : Int) := by
  simp [countL, hn]

/-- What CountFaces hands back. -/
noncomputable def countFacesR (V : Int) (fs : List Int) : List Int × Int := if isCB V fs then (countL fs (top fs + 1).toNat, 0) else ([], 1)

theorem countFacesR_len (V : Int) (fs : List Int) (_h : fs.length ≤ 1048576) : (countFacesR V fs).1.length ≤ 1048576 := by
  unfold countFacesR
  have := top_hi fs
  split
  · rw [countL_len]; omega
  · simp

set_option maxHeartbeats 2000000 in
theorem specCountFaces (V : Int) (a : Option Addr) (cap : Nat) (fs : List Int) (w : World) (hx : SlI w w.heap.size a fs) (hl : fs.length ≤ 1048576) :
    Calls Try.prog 30 #[.agg #[.int .i64 V, .slice a fs.length cap]] w fun e w' => ∃ v, e = .returned (.tuple #[v, .int .i64 (countFacesR V fs).2]) ∧ Res w w' v (countFacesR V fs).1 := by
  have hB0 : Below w.heap.size w (w.alloc (.cells #[.int .i64 V, .slice a fs.length cap] 27)) := (Below.refl _ w).alloc (Nat.le_refl _) _
  have Hx := hid (hx.later hB0 (by simp))
  by_cases hC : IsC V fs
  · refine pair_mono (show countFacesR V fs = (countL fs (top fs + 1).toNat, 0) by unfold countFacesR; rw [isCB_true hC, if_pos rfl]) ?_
    have Hf := hid hC.range63
    have HC := hid hC
    clear hC
    obtain ⟨T, hT⟩ : ∃ T : Nat, (T : Int) = top fs + 1 := ⟨(top fs + 1).toNat, by have := top_lo fs; omega⟩
    have hT6 : T ≤ 6 := by have := top_hi fs; omega
    have hTn : (top fs + 1).toNat = T := by omega
    rw [hTn]
    have HT := hid (show top fs = (T : Int) - 1 by omega)
    clear hT hTn
    go_enter Try.func30, Try.ntmps30
    go_wp2_with fail
    refine (is_yes V a cap fs _ Hx.out hl HC.out).mono ?_
    rintro e w1 ⟨rfl, hB1⟩
    have k0 : w1.cell? ⟨w.heap.size, 0, none⟩ = some (.int .i64 V) := (hB1.cell (p := ⟨w.heap.size, 0, none⟩) (by simp)).trans (by simp [go_sem])
    have k1 : w1.cell? ⟨w.heap.size, 1, none⟩ = some (.slice a fs.length cap) := (hB1.cell (p := ⟨w.heap.size, 1, none⟩) (by simp)).trans (by simp [go_sem])
    have hB01 := hB0.trans (hB1.mono (by simp))
    have hs1 : w.heap.size < w1.heap.size := by have := hB1.size; simp at this; omega
    have hown0 := World.ownsRow_made (base := w1.heap.size) (e := 2) (size := 1) w1 #[] 0 (Nat.le_refl _) (by simp [maxLen]) rfl
    have Hown0 := hid hown0
    clear hown0 hB1
    go_wp2_with fail
    go_loopw [4, 5] (fun v i wr => ∃ k : Nat, k ≤ T ∧ i = .int .i64 k ∧ wr.ownsRow w1.heap.size 2 1 v (countL fs k).length ((countL fs k).map (Value.int .i64)) ∧ Below w1.heap.size w1 wr) (fun _ i _ => T - (intOf i).toNat)
    case atStart => exact ⟨0, Nat.zero_le _, rfl, by simpa [countL] using Hown0.out, (Below.refl _ _).alloc (Nat.le_refl _) _⟩
    case round =>
      obtain ⟨k, hk, rfl, hown, hB⟩ := hrel
      have c0 : wr.cell? ⟨w.heap.size, 0, none⟩ = some (.int .i64 V) := (hB.cell (p := ⟨w.heap.size, 0, none⟩) hs1).trans k0
      have c1 : wr.cell? ⟨w.heap.size, 1, none⟩ = some (.slice a fs.length cap) := (hB.cell (p := ⟨w.heap.size, 1, none⟩) hs1).trans k1
      have hBW := hB01.trans (hB.mono hB01.size)
      have hx1 := hid (hx.later hBW hBW.size)
      have HB := hid hB
      have Hown := hid hown
      clear hB hown
      by_cases hlt : k < T
      · have hsn := hid (countL_snoc fs k)
        have hcl : (countL fs k).length ≤ 1048576 := by rw [countL_len]; omega
        have hle : (k : Int) ≤ top fs := by rw [HT.out]; omega
        have htl := top_lo fs
        have hth := top_hi fs
        go_wp2_with fail
        refine (dimS_any V a cap fs _ hx1.out hl Hf.out).mono ?_
        rintro e w2 ⟨rfl, hB2⟩
        have hB12 := HB.out.trans (hB2.mono HB.out.size)
        have d0 : w2.cell? ⟨w.heap.size, 0, none⟩ = some (.int .i64 V) := (hB12.cell (p := ⟨w.heap.size, 0, none⟩) hs1).trans k0
        have d1 : w2.cell? ⟨w.heap.size, 1, none⟩ = some (.slice a fs.length cap) := (hB12.cell (p := ⟨w.heap.size, 1, none⟩) hs1).trans k1
        have hBW2 := hB01.trans (hB12.mono hB01.size)
        have hx2 := hid (hx.later hBW2 hBW2.size)
        have Hown2 := hid (ownsRow_below Hown.out hB2 (fun g hg => (Hown.out.lt g hg).2))
        have HB12 := hid hB12
        clear hB2 hB12 hBW2 c0 c1 Hown
        go_wp2_with fail
        refine (of_any V a cap fs (k : Int) _ hx2.out hl Hf.out (by omega) (by omega)).mono ?_
        rintro e w3 ⟨v3, rfl, hr⟩
        obtain ⟨_, av, cv, rfl, _⟩ := ownsRow_slI hr.1
        have hB13 := HB12.out.trans (hr.2.mono HB12.out.size)
        have hown3 := ownsRow_below Hown2.out hr.2 (fun g hg => (Hown2.out.lt g hg).2)
        have hsz3 := hB13.size
        clear hr Hown2 d0 d1
        go_wp2_with (at_builtin; refine append_int rfl rfl hown3 hsz3 (by omega) rfl rfl ?_; intro v' w4 hown4 hgrow4 hB4)
        go_roundw
        case rel => exact ⟨k + 1, by omega, by go_num, by rw [hsn.out]; exact hown4, hB13.trans hB4⟩
        case measure => simp [intOf]; omega
      · have hgt : top fs < (k : Int) := by rw [HT.out]; omega
        go_wp2_with fail
        refine (dimS_any V a cap fs _ hx1.out hl Hf.out).mono ?_
        rintro e w2 ⟨rfl, hB2⟩
        have hB12 := HB.out.trans (hB2.mono HB.out.size)
        have Hown2 := hid (ownsRow_below Hown.out hB2 (fun g hg => (Hown.out.lt g hg).2))
        go_wp2_with fail
        go_ret2
        obtain rfl : k = T := by omega
        exact ⟨_, rfl, ownsRow_base Hown2.out (by omega), hB01.trans (hB12.mono hB01.size)⟩
  · refine pair_mono (show countFacesR V fs = ([], 1) by unfold countFacesR; rw [isCB_false hC, if_neg (by simp)]) ?_
    go_enter Try.func30, Try.ntmps30
    go_wp2_with fail
    refine (is_no V a cap fs _ Hx.out hl hC).mono ?_
    rintro e w1 ⟨rfl, hB1⟩
    have hB01 := hB0.trans (hB1.mono (by simp))
    go_wp2_with fail
    go_ret2
    exact ⟨_, rfl, res_nil _ _ hB01⟩

end Go.Proofs.Ytdifmnjheapjcaa
