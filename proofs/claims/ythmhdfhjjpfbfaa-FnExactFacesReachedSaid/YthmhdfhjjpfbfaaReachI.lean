import Derived.Test.YthmhdfhjjpfbfaaReachF
import Derived.Test.YthmhdfhjjpfbfaaReachE
import Derived.Test.YthmhdfhjjpfbfaaContains
import Derived.Test.YthmhdfhjjpfbfaaFw
/-! FacesReached, the program's door. -/
namespace Go.Proofs.Ythmhdfhjjpfbfaa
open Go.RowKit

set_option maxRecDepth 100000 in
set_option maxHeartbeats 1000000 in
theorem reachWanted (bd m K : Nat) (met : List Int) (x : Int) (w : World) (hx : (Lit.int .i64 x).wf = true) (hd : w.cell? ⟨bd, 0, none⟩ = some (.map (some m))) (hown : w.ownsMap Try.prog 2 (plainElem (H := Unit) Try.prog 4) m K (knownD met)) :
    Calls Try.prog 84 #[.int .i64 x, .pointer (some ⟨bd, 0, none⟩)] w fun e w' => e = .returned (.bool (decide (x ∈ met))) ∧ Below w.heap.size w w' := by
  have hlk := lookup_known hown hx
  obtain ⟨c, hc⟩ : ∃ c, c = decide (x ∈ met) := ⟨_, rfl⟩
  rw [← hc] at hlk ⊢
  clear hc hown
  go_enter Try.func84, Try.ntmps84
  go_wp2_with fail
  go_ret
  exact ⟨rfl, Below.refl _ _⟩

theorem reachL_met {ps fs : List Int} {n : Nat} {a : Int} {met : List Int} (h : Bfs ps n a met []) : fs.filter (fun x => decide (x ∈ met)) = reachL fs ps n a := by
  unfold reachL
  refine List.filter_congr fun x _ => ?_
  by_cases hx : x ∈ met
  · rw [decide_eq_true hx, reachB_true ((h.done x).1 hx)]
  · rw [decide_eq_false hx, reachB_false (fun e => hx ((h.done x).2 e))]

set_option maxRecDepth 1000000 in
set_option maxHeartbeats 4000000 in
theorem implFacesReached (V : Int) (a0 : Option Addr) (cap : Nat) (fs : List Int) (a1 : Option Addr) (n cap1 : Nat) (ps : List Int) (a : Int) (w : World) (hx : SlI w w.heap.size a0 fs) (hx1 : SlI w w.heap.size a1 ps) (hl : fs.length ≤ 1048576) (hp : ps.length = 2 * n) (hn : n ≤ 1048576) (hw : ∀ x ∈ ps, (Lit.int .i64 x).wf = true) (wa : (Lit.int .i64 a).wf = true) :
    Calls Try.prog 43 #[.agg #[.int .i64 V, .slice a0 fs.length cap], .slice a1 n cap1, .int .i64 a] w fun e w' => ∃ v, e = .returned (.tuple #[v, .int .i64 (facesReachedR V fs n ps a).2]) ∧ Res w w' v (facesReachedR V fs n ps a).1 := by
  have hB0 : Below w.heap.size w (w.alloc (.cells #[.int .i64 V, .slice a0 fs.length cap] 28)) := (Below.refl _ w).alloc (Nat.le_refl _) _
  have HK := hid (pcode_impl V a0 cap fs a1 n cap1 ps _ (hx.later hB0 hB0.size) (hx1.later hB0 hB0.size) hl hp hn hw)
  have Hx0 := hid hx
  have Hy := hid hx1
  clear hx hx1
  by_cases hpc : pcodeR V fs n ps = 0
  · rw [hpc] at HK
    have hCO : IsC V fs ∧ OkTo fs ps n := by
      rcases pcode_cases V fs n ps with ⟨hC, ho, _⟩ | ⟨_, _, h2, _⟩ | ⟨_, h2, _⟩
      · exact ⟨hC, ho⟩
      · rw [h2] at hpc; cases hpc
      · rw [h2] at hpc; cases hpc
    by_cases ha : a ∈ fs
    · have h0 : code1R V fs n ps a = 0 := by unfold code1R; rw [if_pos hpc, if_pos ha]
      refine pair_mono (show facesReachedR V fs n ps a = (reachL fs ps n a, 0) by rw [facesReachedR, if_pos h0]) ?_
      have HH := hid (okTo_highs hCO.1 hCO.2)
      have HA := hid (okTo_apart hCO.2)
      have Hf := hid hCO.1.range63
      have HP := hid hp
      have Hw := hid hw
      have Wa := hid wa
      have hda : decide (a ∈ fs) = true := decide_eq_true ha
      clear h0 hpc hCO hp ha hw wa
      go_enter Try.func43, Try.ntmps43
      go_wp2_with fail
      refine HK.out.mono ?_
      rintro e w1 ⟨rfl, hB1⟩
      have HB1 := hid (hB0.trans (hB1.mono (by simp)))
      have k0 : w1.cell? ⟨w.heap.size, 0, none⟩ = some (.int .i64 V) := (hB1.cell (p := ⟨w.heap.size, 0, none⟩) (by simp)).trans (by simp [go_sem])
      have k1 : w1.cell? ⟨w.heap.size, 1, none⟩ = some (.slice a0 fs.length cap) := (hB1.cell (p := ⟨w.heap.size, 1, none⟩) (by simp)).trans (by simp [go_sem])
      have hs1 : w.heap.size < w1.heap.size := by have := hB1.size; simp at this; omega
      have HC := hid (contains_any a0 cap fs a w1 (Hx0.out.later HB1.out HB1.out.size) hl)
      rw [hda] at HC
      have HLw := hid (lows_any a1 n cap1 ps w1 (Hy.out.later HB1.out HB1.out.size) HP.out hn Hw.out)
      clear hB0 hB1 hda
      go_wp2_with (go_at_call 80; refine HC.out.mono ?_; rintro e w' ⟨rfl, rfl⟩)
      refine HLw.out.mono ?_
      rintro e w2 ⟨rfl, hown, hB2⟩
      have HI := hid (callsIn_wide.1 (reachedF_in w1.heap.size n n ps a w2 hown HA.out HH.out Wa.out))
      have n0 : w2.cell? ⟨w.heap.size, 0, none⟩ = some (.int .i64 V) := (hB2.cell (p := ⟨w.heap.size, 0, none⟩) hs1).trans k0
      have n1 : w2.cell? ⟨w.heap.size, 1, none⟩ = some (.slice a0 fs.length cap) := (hB2.cell (p := ⟨w.heap.size, 1, none⟩) hs1).trans k1
      have HB2 := hid (HB1.out.trans (hB2.mono HB1.out.size))
      have hs2 : w.heap.size < w2.heap.size := Nat.lt_of_lt_of_le hs1 hB2.size
      clear hB2 k0 k1 hown
      go_wp2_with fail
      refine HI.out.mono ?_
      rintro e w3 ⟨met, rfl, hown3, HS, hB3⟩
      have o0 : w3.cell? ⟨w.heap.size, 0, none⟩ = some (.int .i64 V) := (hB3.cell (p := ⟨w.heap.size, 0, none⟩) hs2).trans n0
      have o1 : w3.cell? ⟨w.heap.size, 1, none⟩ = some (.slice a0 fs.length cap) := (hB3.cell (p := ⟨w.heap.size, 1, none⟩) hs2).trans n1
      have hB03 := HB2.out.trans (hB3.mono HB2.out.size)
      have hB04 : Below w.heap.size w (w3.alloc (.cells #[.map (some w2.heap.size)] 65)) := hB03.alloc hB03.size _
      have hbx := heap_alloc_new w3 (.cells #[.map (some w2.heap.size)] 65)
      have d0 := cell_alloc0 o0 (.cells #[.map (some w2.heap.size)] 65)
      have d1 := cell_alloc0 o1 (.cells #[.map (some w2.heap.size)] 65)
      have hown4 := World.ownsMap.alloc hown3 (.cells #[.map (some w2.heap.size)] 65)
      have HFW := hid (fw_any V a0 cap fs _ 84 (.pointer (some ⟨w3.heap.size, 0, none⟩)) (fun x => decide (x ∈ met)) (Hx0.out.later hB04 hB04.size) hl (enters_of Try.func84 (by kernel_rfl) rfl) (fun W' x hW' hxm =>
        reachWanted _ w2.heap.size met.length met x W' (WalkArith.wf_i64 (by have := Hf.out x hxm; omega)) ((hW'.cell (p := ⟨w3.heap.size, 0, none⟩) (lt_of_get hbx)).trans (box_cell hbx).1) (by
          have hlt := hown4.lt
          obtain ⟨es, clock, hb, F, hs, hD⟩ := hown4
          exact ⟨es, clock, (hW'.block _ hlt).trans hb, F, hs, hD⟩)))
      rw [reachL_met HS.out] at HFW
      have HB04 := hid hB04
      clear hB3 n0 n1 hown3 hown4 hbx hB03 hB04
      go_wp2_with fail
      refine HFW.out.mono ?_
      rintro e w5 ⟨v, rfl, hr⟩
      go_wp2_with fail
      go_ret2
      exact ⟨v, rfl, hr.later HB04.out⟩
    · have h0 : code1R V fs n ps a = 2 := by unfold code1R; rw [if_pos hpc, if_neg ha]
      refine pair_mono (show facesReachedR V fs n ps a = ([], 2) by rw [facesReachedR, if_neg (by rw [h0]; decide), h0]) ?_
      have hda : decide (a ∈ fs) = false := decide_eq_false ha
      clear h0 hpc hCO hp ha hw
      go_enter Try.func43, Try.ntmps43
      go_wp2_with fail
      refine HK.out.mono ?_
      rintro e w1 ⟨rfl, hB1⟩
      have HB1 := hid (hB0.trans (hB1.mono (by simp)))
      have k1 : w1.cell? ⟨w.heap.size, 1, none⟩ = some (.slice a0 fs.length cap) := (hB1.cell (p := ⟨w.heap.size, 1, none⟩) (by simp)).trans (by simp [go_sem])
      have HC := hid (contains_any a0 cap fs a w1 (Hx0.out.later HB1.out HB1.out.size) hl)
      rw [hda] at HC
      clear hB0 hB1 hda
      go_wp2_with (go_at_call 80; refine HC.out.mono ?_; rintro e w' ⟨rfl, rfl⟩)
      go_ret2
      exact ⟨_, rfl, res_nil _ _ HB1.out⟩
  · obtain ⟨c, hc⟩ : ∃ c, c = pcodeR V fs n ps := ⟨_, rfl⟩
    have h0 : code1R V fs n ps a = c := by unfold code1R; rw [if_neg hpc, hc]
    rw [← hc] at hpc HK
    refine pair_mono (show facesReachedR V fs n ps a = ([], c) by rw [facesReachedR, if_neg (by rw [h0]; exact hpc), h0]) ?_
    have hcn : (c != 0) = true := by simpa using hpc
    clear hc h0 hp hw hpc
    go_enter Try.func43, Try.ntmps43
    go_wp2_with fail
    refine HK.out.mono ?_
    rintro e w1 ⟨rfl, hB1⟩
    go_wp2_with fail
    go_ret2
    exact ⟨_, rfl, res_nil _ _ (hB0.trans (hB1.mono (by simp)))⟩

end Go.Proofs.Ythmhdfhjjpfbfaa
