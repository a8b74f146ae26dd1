import Derived.Test.YthmhdfhjjpfbfaaReachS
import Derived.Test.YthmhdfhjjpfbfaaCritS
/-! FacesReached, the model's. -/
namespace Go.Proofs.Ythmhdfhjjpfbfaa
open Go.RowKit

noncomputable def reachB (ps : List Int) (n : Nat) (a y : Int) : Bool := @decide (y = a ∨ Way ps n a y) (Classical.propDecidable _)
theorem reachB_true {ps : List Int} {n : Nat} {a y : Int} (h : y = a ∨ Way ps n a y) : reachB ps n a y = true := by unfold reachB; exact @decide_eq_true _ (Classical.propDecidable _) h
theorem reachB_false {ps : List Int} {n : Nat} {a y : Int} (h : ¬ (y = a ∨ Way ps n a y)) : reachB ps n a y = false := by unfold reachB; exact @decide_eq_false _ (Classical.propDecidable _) h
/-- The faces reached. -/
noncomputable def reachL (fs ps : List Int) (n : Nat) (a : Int) : List Int := fs.filter fun y => reachB ps n a y
noncomputable def code1R (V : Int) (fs : List Int) (n : Nat) (ps : List Int) (a : Int) : Int := if pcodeR V fs n ps = 0 then (if a ∈ fs then 0 else 2) else pcodeR V fs n ps
noncomputable def facesReachedR (V : Int) (fs : List Int) (n : Nat) (ps : List Int) (a : Int) : List Int × Int := if code1R V fs n ps a = 0 then (reachL fs ps n a, 0) else ([], code1R V fs n ps a)
theorem facesReachedR_len (V : Int) (fs : List Int) (n : Nat) (ps : List Int) (a : Int) (h : fs.length ≤ 1048576) (_hp : ps.length = 2 * n) (_hn : n ≤ 1048576) : (facesReachedR V fs n ps a).1.length ≤ 1048576 := by
  unfold facesReachedR
  split
  · exact Nat.le_trans (List.length_filter_le _ _) h
  · simp

theorem okTo_highs {V : Int} {fs ps : List Int} {n : Nat} (hC : IsC V fs) (h : OkTo fs ps n) : HighsB ps n := by
  intro a
  by_cases hex : ∃ i, i < n ∧ at0 ps (i * 2) = a
  · have hmin : ∃ i, (i < n ∧ at0 ps (i * 2) = a) ∧ ∀ j, j < i → ¬ (j < n ∧ at0 ps (j * 2) = a) := by
      obtain ⟨i, hi⟩ := hex
      induction i using Nat.strongRecOn with
      | _ i ih =>
        by_cases hj : ∃ j, j < i ∧ (j < n ∧ at0 ps (j * 2) = a)
        · obtain ⟨j, h1, h2⟩ := hj
          exact ih j h1 h2
        · exact ⟨i, hi, fun j h1 h2 => hj ⟨j, h1, h2⟩⟩
    obtain ⟨i, ⟨hi, ha⟩, hm⟩ := hmin
    rw [highOf_some hi ha (fun j hj e => hm j hj ⟨by omega, e⟩)]
    have hp := (h i hi).1
    unfold pairB at hp
    simp at hp
    have := hC.range63 _ hp.1.1.2
    omega
  · rw [highOf_none (fun j hj e => hex ⟨j, hj, e⟩)]
    omega

set_option maxRecDepth 1000000 in
set_option maxHeartbeats 2000000 in
theorem code1_spec (V : Int) (a0 : Option Addr) (cap : Nat) (fs : List Int) (a1 : Option Addr) (n cap1 : Nat) (ps : List Int) (a : Int) (bf : Nat) (w : World) (hx : SlI w w.heap.size a0 fs) (hx1 : SlI w w.heap.size a1 ps) (hl : fs.length ≤ 1048576) (hp : ps.length = 2 * n) (hn : n ≤ 1048576)
    (hbf : bf < w.heap.size) (hcf : w.cell? ⟨bf, 0, none⟩ = some (.int .i64 a)) :
    Calls Try.prog 74 #[.agg #[.int .i64 V, .slice a0 fs.length cap], .slice a1 n cap1, .slice (some ⟨bf, 0, none⟩) 1 1] w fun e w' => e = .returned (.int .i64 (code1R V fs n ps a)) ∧ Below w.heap.size w w' := by
  have hB0 : Below w.heap.size w (w.alloc (.cells #[.int .i64 V, .slice a0 fs.length cap] 28)) := (Below.refl _ w).alloc (Nat.le_refl _) _
  have Hx := hid (hx.later hB0 hB0.size)
  have Hx0 := hid hx
  have Hy := hid hx1
  clear hx hx1
  obtain ⟨E, hE⟩ : ∃ E, E = code1R V fs n ps a := ⟨_, rfl⟩
  rw [← hE]
  rcases pcode_cases V fs n ps with ⟨hC, _, h0, _, h1⟩ | ⟨hC, _, h0, _, h1⟩ | ⟨hC, h0, _⟩
  · have HC := hid hC
    have hE1 : E = if a ∈ fs then 0 else 2 := by rw [hE, code1R, if_pos h0]
    clear hC h0 hE
    go_enter Try.func74, Try.ntmps74
    go_wp2_with fail
    refine (is_yes V a0 cap fs _ Hx.out hl HC.out).mono ?_
    rintro e w1 ⟨rfl, hB1⟩
    have HB1 := hid (hB0.trans (hB1.mono (by simp)))
    have k0 : w1.cell? ⟨w.heap.size, 0, none⟩ = some (.int .i64 V) := (hB1.cell (p := ⟨w.heap.size, 0, none⟩) (by simp)).trans (by simp [go_sem])
    have k1 : w1.cell? ⟨w.heap.size, 1, none⟩ = some (.slice a0 fs.length cap) := (hB1.cell (p := ⟨w.heap.size, 1, none⟩) (by simp)).trans (by simp [go_sem])
    have hs1 : w.heap.size < w1.heap.size := by have := hB1.size; simp at this; omega
    have HI := hid (pis_any V a0 cap fs a1 n cap1 ps w1 (Hx0.out.later HB1.out HB1.out.size) (Hy.out.later HB1.out HB1.out.size) hl HC.out.range63 hp hn)
    rw [h1] at HI
    clear hB0 hB1 h1 hp
    go_wp2_with fail
    refine HI.out.mono ?_
    rintro e w2 ⟨rfl, hB2⟩
    have n0 : w2.cell? ⟨w.heap.size, 0, none⟩ = some (.int .i64 V) := (hB2.cell (p := ⟨w.heap.size, 0, none⟩) hs1).trans k0
    have n1 : w2.cell? ⟨w.heap.size, 1, none⟩ = some (.slice a0 fs.length cap) := (hB2.cell (p := ⟨w.heap.size, 1, none⟩) hs1).trans k1
    have HB2 := hid (HB1.out.trans (hB2.mono HB1.out.size))
    have n2 : w2.cell? ⟨bf, 0, none⟩ = some (.int .i64 a) := (HB2.out.cell (p := ⟨bf, 0, none⟩) hbf).trans hcf
    have hs2 : w.heap.size < w2.heap.size := Nat.lt_of_lt_of_le hs1 hB2.size
    have HB2d : Hid (Below w.heap.size w w2.drew) := hid (HB2.out.trans ⟨rfl, rfl, rfl, Nat.le_refl _, fun _ _ => rfl⟩)
    clear hB2 k0 k1 hcf
    by_cases ha : a ∈ fs
    · have He : Hid (E = 0) := hid (by rw [hE1, if_pos ha])
      have HA := hid (has_yes V a a0 cap fs w2.drew (Hx0.out.later HB2d.out HB2d.out.size) hl ha)
      clear hE1 ha
      go_wp2_with fail
      refine wp_loop_rounds 2 ?_
      rw [rounds_succ]
      go_wp2_with fail
      go_region_held3 (fun w' => w'.cell? ⟨w.heap.size, 0, none⟩ = some (.int .i64 V) ∧ w'.cell? ⟨w.heap.size, 1, none⟩ = some (.slice a0 fs.length cap) ∧ w'.cell? ⟨bf, 0, none⟩ = some (.int .i64 a)) (go_keep) (first
        | (go_at_call 98; refine HA.out.mono ?_; rintro e w3 ⟨rfl, hB3⟩; have m0 := (hB3.cell (p := ⟨w.heap.size, 0, none⟩) hs2).trans n0; have m1 := (hB3.cell (p := ⟨w.heap.size, 1, none⟩) hs2).trans n1; have m2 := (hB3.cell (p := ⟨bf, 0, none⟩) (Nat.lt_trans hbf hs2)).trans n2; have HB3 := hid hB3; clear hB3))
      all_goals
        have HB4 := hid (HB2d.out.trans (HB3.out.mono HB2d.out.size))
        go_wp2_with fail
        rw [rounds_succ]
        go_wp2_with fail
        go_ret
        exact ⟨ret_int (by rw [He.out]), HB4.out⟩
    · have He : Hid (E = 2) := hid (by rw [hE1, if_neg ha])
      have HA := hid (has_no V a a0 cap fs w2.drew (Hx0.out.later HB2d.out HB2d.out.size) hl ha)
      clear hE1 ha
      go_wp2_with fail
      refine wp_loop_rounds 2 ?_
      rw [rounds_succ]
      go_wp2_with fail
      go_region_held3 (fun w' => w'.cell? ⟨w.heap.size, 0, none⟩ = some (.int .i64 V) ∧ w'.cell? ⟨w.heap.size, 1, none⟩ = some (.slice a0 fs.length cap) ∧ w'.cell? ⟨bf, 0, none⟩ = some (.int .i64 a)) (go_keep) (first
        | (go_at_call 98; refine HA.out.mono ?_; rintro e w3 ⟨rfl, hB3⟩; have m0 := (hB3.cell (p := ⟨w.heap.size, 0, none⟩) hs2).trans n0; have m1 := (hB3.cell (p := ⟨w.heap.size, 1, none⟩) hs2).trans n1; have m2 := (hB3.cell (p := ⟨bf, 0, none⟩) (Nat.lt_trans hbf hs2)).trans n2; have HB3 := hid hB3; clear hB3))
      all_goals
        have HB4 := hid (HB2d.out.trans (HB3.out.mono HB2d.out.size))
        go_wp2_with fail
        go_ret
        exact ⟨ret_int (by rw [He.out]), HB4.out⟩
  · have He : Hid (E = 2) := hid (by rw [hE, code1R, if_neg (by rw [h0]; decide), h0])
    have HC := hid hC
    clear hC h0 hE
    go_enter Try.func74, Try.ntmps74
    go_wp2_with fail
    refine (is_yes V a0 cap fs _ Hx.out hl HC.out).mono ?_
    rintro e w1 ⟨rfl, hB1⟩
    have HB1 := hid (hB0.trans (hB1.mono (by simp)))
    have k0 : w1.cell? ⟨w.heap.size, 0, none⟩ = some (.int .i64 V) := (hB1.cell (p := ⟨w.heap.size, 0, none⟩) (by simp)).trans (by simp [go_sem])
    have k1 : w1.cell? ⟨w.heap.size, 1, none⟩ = some (.slice a0 fs.length cap) := (hB1.cell (p := ⟨w.heap.size, 1, none⟩) (by simp)).trans (by simp [go_sem])
    have HI := hid (pis_any V a0 cap fs a1 n cap1 ps w1 (Hx0.out.later HB1.out HB1.out.size) (Hy.out.later HB1.out HB1.out.size) hl HC.out.range63 hp hn)
    rw [h1] at HI
    clear hB0 hB1 h1 hp
    go_wp2_with fail
    refine HI.out.mono ?_
    rintro e w2 ⟨rfl, hB2⟩
    go_wp2_with fail
    go_ret
    exact ⟨ret_int (by rw [He.out]), HB1.out.trans (hB2.mono HB1.out.size)⟩
  · have He : Hid (E = 1) := hid (by rw [hE, code1R, if_neg (by rw [h0]; decide), h0])
    clear h0 hE
    go_enter Try.func74, Try.ntmps74
    go_wp2_with fail
    refine (is_no V a0 cap fs _ Hx.out hl hC).mono ?_
    rintro e w1 ⟨rfl, hB1⟩
    go_wp2_with fail
    go_ret
    exact ⟨ret_int (by rw [He.out]), hB0.trans (hB1.mono (by simp))⟩

end Go.Proofs.Ythmhdfhjjpfbfaa
