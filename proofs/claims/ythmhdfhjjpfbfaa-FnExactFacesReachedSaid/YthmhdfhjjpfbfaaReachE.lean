import Derived.Test.YthmhdfhjjpfbfaaReachD
import Derived.Test.YthmhdfhjjpfbfaaFacesOf
/-! FacesReached, the model's door. -/
namespace Go.Proofs.Ythmhdfhjjpfbfaa
open Go.RowKit

theorem reach_of_met {ps : List Int} {n : Nat} {a x : Int} {met : List Bool} (h : Srch ps n a met []) (hx : 0 ≤ x ∧ x < 64) (hm : metAt met x = true) : reachB ps n a x = true := by
  have := h.good x.toNat (by omega) hm
  rw [show ((x.toNat : Nat) : Int) = x by omega] at this
  exact reachB_true (.inr this)
theorem reach_of_not {ps : List Int} {n : Nat} (hh : HighsB ps n) {a x : Int} {met : List Bool} (h : Srch ps n a met []) (hm : metAt met x = false) : reachB ps n a x = decide (x = a) := by
  by_cases e : x = a
  · rw [reachB_true (.inl e), decide_eq_true e]
  · rw [reachB_false, decide_eq_false e]
    rintro (h1 | h1)
    · exact e h1
    · rw [h.done hh h1] at hm; cases hm

set_option maxRecDepth 1000000 in
set_option maxHeartbeats 4000000 in
theorem specFacesReached (V : Int) (a0 : Option Addr) (cap : Nat) (fs : List Int) (a1 : Option Addr) (n cap1 : Nat) (ps : List Int) (a : Int) (w : World) (hx : SlI w w.heap.size a0 fs) (hx1 : SlI w w.heap.size a1 ps) (hl : fs.length ≤ 1048576) (hp : ps.length = 2 * n) (hn : n ≤ 1048576) (_hw : ∀ x ∈ ps, (Lit.int .i64 x).wf = true) (_wa : (Lit.int .i64 a).wf = true) :
    Calls Try.prog 42 #[.agg #[.int .i64 V, .slice a0 fs.length cap], .slice a1 n cap1, .int .i64 a] w fun e w' => ∃ v, e = .returned (.tuple #[v, .int .i64 (facesReachedR V fs n ps a).2]) ∧ Res w w' v (facesReachedR V fs n ps a).1 := by
  have hB0 : Below w.heap.size w ((w.alloc (.cells #[.int .i64 V, .slice a0 fs.length cap] 28)).alloc (.cells #[.int .i64 a] 2)) := ((Below.refl _ w).alloc (Nat.le_refl _) _).alloc (by simp) _
  have HK := hid (code1_spec V a0 cap fs a1 n cap1 ps a (w.heap.size + 1) _ (hx.later hB0 hB0.size) (hx1.later hB0 hB0.size) hl hp hn (by simp) (by simp [go_sem]))
  have Hx0 := hid hx
  have Hy := hid hx1
  clear hx hx1
  by_cases h0 : code1R V fs n ps a = 0
  · have hpc : pcodeR V fs n ps = 0 := by
      unfold code1R at h0
      split at h0
      · assumption
      · exact h0
    have hCO : IsC V fs ∧ OkTo fs ps n := by
      rcases pcode_cases V fs n ps with ⟨hC, ho, _⟩ | ⟨_, _, h2, _⟩ | ⟨_, h2, _⟩
      · exact ⟨hC, ho⟩
      · rw [h2] at hpc; cases hpc
      · rw [h2] at hpc; cases hpc
    refine pair_mono (show facesReachedR V fs n ps a = (reachL fs ps n a, 0) by rw [facesReachedR, if_pos h0]) ?_
    rw [h0] at HK
    have HH := hid (okTo_highs hCO.1 hCO.2)
    have Hf := hid hCO.1.range63
    have HP := hid hp
    clear h0 hpc hCO hp
    go_enter Try.func42, Try.ntmps42
    go_wp2_with fail
    refine HK.out.mono ?_
    rintro e w1 ⟨rfl, hB1⟩
    have HB1 := hid (hB0.trans (hB1.mono (by simp <;> omega)))
    have k0 : w1.cell? ⟨w.heap.size, 0, none⟩ = some (.int .i64 V) := (hB1.cell (p := ⟨w.heap.size, 0, none⟩) (by simp <;> omega)).trans (by simp [go_sem])
    have k1 : w1.cell? ⟨w.heap.size, 1, none⟩ = some (.slice a0 fs.length cap) := (hB1.cell (p := ⟨w.heap.size, 1, none⟩) (by simp <;> omega)).trans (by simp [go_sem])
    have hs1 : w.heap.size < w1.heap.size := by have := hB1.size; simp at this; omega
    have HI := hid (reached_any a1 n cap1 ps a w1 (Hy.out.later HB1.out HB1.out.size) HP.out hn HH.out)
    clear hB0 hB1
    go_wp2_with fail
    refine HI.out.mono ?_
    rintro e w2 ⟨g, met, rfl, hom, HS, hB2⟩
    have n0 : w2.cell? ⟨w.heap.size, 0, none⟩ = some (.int .i64 V) := (hB2.cell (p := ⟨w.heap.size, 0, none⟩) hs1).trans k0
    have n1 : w2.cell? ⟨w.heap.size, 1, none⟩ = some (.slice a0 fs.length cap) := (hB2.cell (p := ⟨w.heap.size, 1, none⟩) hs1).trans k1
    have HB2 := hid (HB1.out.trans (hB2.mono HB1.out.size))
    have hs2 : w.heap.size < w2.heap.size := Nat.lt_of_lt_of_le hs1 hB2.size
    have Hom := hid hom
    have hown0 := World.ownsRow_made (base := w2.heap.size) (e := 2) (size := 1) w2 #[] 0 (Nat.le_refl _) (by simp [maxLen]) rfl
    have Hown0 := hid hown0
    clear hB2 k0 k1 hom hown0
    go_wp2_with fail
    go_loopw [10, 11] (fun v i wr => ∃ k : Nat, k ≤ fs.length ∧ i = .int .i64 k ∧ wr.ownsRow w2.heap.size 2 1 v (reachL (fs.take k) ps n a).length ((reachL (fs.take k) ps n a).map (Value.int .i64)) ∧ Below w2.heap.size w2 wr) (fun _ i _ => fs.length - (intOf i).toNat)
    case atStart => exact ⟨0, Nat.zero_le _, rfl, by simpa [reachL] using Hown0.out, (Below.refl _ _).alloc (Nat.le_refl _) _⟩
    case round =>
      obtain ⟨k, hk, rfl, hown, hB⟩ := hrel
      have c0 : wr.cell? ⟨w.heap.size, 0, none⟩ = some (.int .i64 V) := (hB.cell (p := ⟨w.heap.size, 0, none⟩) hs2).trans n0
      have c1 : wr.cell? ⟨w.heap.size, 1, none⟩ = some (.slice a0 fs.length cap) := (hB.cell (p := ⟨w.heap.size, 1, none⟩) hs2).trans n1
      have hBW := HB2.out.trans (hB.mono HB2.out.size)
      have hsz := hB.size
      by_cases hlt : k < fs.length
      · obtain ⟨b, off, hb, rfl, hc⟩ : ∃ b off, b < w.heap.size ∧ a0 = some ⟨b, off, none⟩ ∧ ∀ i, i < fs.length → w.cell? ⟨b, off + i, none⟩ = some (.int .i64 (fs[i]?.getD 0)) := by
          rcases Hx0.out with rfl | h
          · simp at hlt
          · exact h
        have hxr := Hf.out _ (getD_mem hlt)
        obtain ⟨x, hx⟩ : ∃ x : Nat, (x : Int) = fs[k]?.getD 0 := ⟨(fs[k]?.getD 0).toNat, by omega⟩
        rw [← hx] at hxr
        have hck : wr.cell? ⟨b, off + k, none⟩ = some (.int .i64 (x : Int)) := by rw [hx]; exact (hBW.cell (p := ⟨b, off + k, none⟩) hb).trans (hc k hlt)
        have hml := HS.out.len
        obtain ⟨m, hm⟩ : ∃ m, m = metAt met (x : Int) := ⟨_, rfl⟩
        have hcm : wr.cell? ⟨g, x, none⟩ = some (.bool m) := by
          refine (hB.cell (p := ⟨g, x, none⟩) (Hom.out.lt g rfl).2).trans ?_
          rw [Hom.out.cellAt x (by omega), hm]
          unfold metAt
          rw [Int.toNat_natCast, List.getElem?_eq_getElem (by omega : x < met.length)]
          simp [show x < 64 by omega, hml]
        have Hr1 : Hid (m = true → reachB ps n a x = true) := hid (fun h => reach_of_met HS.out (by omega) (by rw [← hm, h]))
        have Hr2 : Hid (m = false → reachB ps n a x = decide ((x : Int) = a)) := hid (fun h => reach_of_not HH.out HS.out (by rw [← hm, h]))
        have Hsn : Hid (∀ c, reachB ps n a x = c → reachL (fs.take (k + 1)) ps n a = reachL (fs.take k) ps n a ++ (if c then [(x : Int)] else [])) := hid (fun c hc => by
          unfold reachL
          rw [take_snoc hlt, List.filter_append, ← hx]
          cases c <;> simp [hc])
        have hi0 : (0 : Int) ≤ (k : Int) := by omega
        have hi1 : (k : Int) < (fs.length : Int) := by omega
        have hx0 : (0 : Int) ≤ (x : Int) := by omega
        have hx64 : (x : Int) < 64 := by omega
        have hfl : (reachL (fs.take k) ps n a).length ≤ 1048576 := Nat.le_trans (List.length_filter_le _ _) (by simp; omega)
        have HB := hid hB
        have Hown := hid hown
        clear hx hc hB hown hBW hm hxr hml
        cases m
        · by_cases hxa : (x : Int) = a
          · have g1 : ((x : Int) == a) = true := by simp [hxa]
            have He := hid (Hsn.out true ((Hr2.out rfl).trans (decide_eq_true hxa)))
            clear hxa Hr1 Hr2 Hsn
            go_wp2_with (at_builtin; refine append_int rfl rfl Hown.out hsz (by omega) rfl rfl ?_; intro v' w4 hown4 hgrow4 hB4)
            go_roundw
            case rel => exact ⟨k + 1, by omega, by go_num, by rw [He.out]; exact hown4, HB.out.trans hB4⟩
            case measure => simp [intOf]; omega
          · have g1 : ((x : Int) == a) = false := by simp [hxa]
            have He := hid (Hsn.out false ((Hr2.out rfl).trans (decide_eq_false hxa)))
            clear hxa Hr1 Hr2 Hsn
            go_wp2_with fail
            go_roundw
            case rel => exact ⟨k + 1, by omega, by go_num, by rw [He.out]; simpa using Hown.out, HB.out⟩
            case measure => simp [intOf]; omega
        · have He := hid (Hsn.out true (Hr1.out rfl))
          clear Hr1 Hr2 Hsn
          go_wp2_with (at_builtin; refine append_int rfl rfl Hown.out hsz (by omega) rfl rfl ?_; intro v' w4 hown4 hgrow4 hB4)
          go_roundw
          case rel => exact ⟨k + 1, by omega, by go_num, by rw [He.out]; exact hown4, HB.out.trans hB4⟩
          case measure => simp [intOf]; omega
      · obtain rfl : k = fs.length := by omega
        rw [List.take_length] at hown
        have Hown := hid hown
        have HBW := hid hBW
        clear hown hB hBW
        go_wp2
        go_ret2
        exact ⟨_, rfl, ownsRow_base Hown.out (by omega), HBW.out⟩
  · obtain ⟨c, hc⟩ : ∃ c, c = code1R V fs n ps a := ⟨_, rfl⟩
    refine pair_mono (show facesReachedR V fs n ps a = ([], c) by rw [facesReachedR, if_neg h0, hc]) ?_
    rw [← hc] at HK h0
    have hcn : (c != 0) = true := by simpa using h0
    clear hc h0 hp
    go_enter Try.func42, Try.ntmps42
    go_wp2_with fail
    refine HK.out.mono ?_
    rintro e w1 ⟨rfl, hB1⟩
    go_wp2_with fail
    go_ret2
    exact ⟨_, rfl, res_nil _ _ (hB0.trans (hB1.mono (by simp <;> omega)))⟩

end Go.Proofs.Ythmhdfhjjpfbfaa
