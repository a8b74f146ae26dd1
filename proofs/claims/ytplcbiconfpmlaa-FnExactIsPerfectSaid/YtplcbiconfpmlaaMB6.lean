import Derived.Maps.OwnSet
import Derived.Deep.LoopGhost
import Derived.Lib.SliceRun
import Derived.Lib.Overlaps
import Derived.Lib.AppendZerosOnto
import Derived.Laws.IdiomCopy
import Derived.Laws.NewBlocks
import Derived.Laws.Externs
import Derived.Laws.OwnMore
import Derived.Shelf.RegionOpen
import Derived.Test.YtplcbiconfpmlaaMB1
import Derived.Test.YtplcbiconfpmlaaMB2
import Derived.Test.YtplcbiconfpmlaaMB3
import Derived.Test.YtplcbiconfpmlaaMB5
/-! FacesReached, the model's. -/
namespace Go.Proofs.Ytplcbiconfpmlaa
open Go.RowKit

noncomputable def reachB (ps : List Int) (n : Nat) (a y : Int) : Bool := @decide (y = a ∨ Way ps n a y) (Classical.propDecidable _)
theorem reachB_true {ps : List Int} {n : Nat} {a y : Int} (h : y = a ∨ Way ps n a y) : reachB ps n a y = true := by unfold reachB; exact @decide_eq_true _ (Classical.propDecidable _) h
theorem reachB_false {ps : List Int} {n : Nat} {a y : Int} (h : ¬ (y = a ∨ Way ps n a y)) : reachB ps n a y = false := by unfold reachB; exact @decide_eq_false _ (Classical.propDecidable _) h
/-- The faces reached. -/
noncomputable def reachL (fs ps : List Int) (n : Nat) (a : Int) : List Int := fs.filter fun y => reachB ps n a y
noncomputable def code1R (V : Int) (fs : List Int) (n : Nat) (ps : List Int) (a : Int) : Int := if pcodeR V fs n ps = 0 then (if a ∈ fs then 0 else 2) else pcodeR V fs n ps
noncomputable def facesReachedR (V : Int) (fs : List Int) (n : Nat) (ps : List Int) (a : Int) : List Int × Int := if code1R V fs n ps a = 0 then (reachL fs ps n a, 0) else ([], code1R V fs n ps a)
theorem facesReachedR_len (V : Int) (fs : List Int) (n : Nat) (ps : List Int) (a : Int) (h : fs.length ≤ 1048576) (_hp : ps.length = 2 * n) (_hn : n ≤ 1048576) : (facesReachedR V fs n ps a).1.length ≤ 1048576 := by
  unfold facesReachedR
  split
  · exact Nat.le_trans (List.length_filter_le _ _) h
  · simp

theorem okTo_highs {V : Int} {fs ps : List Int} {n : Nat} (hC : IsC V fs) (h : OkTo fs ps n) : HighsB ps n := by
  intro a
  by_cases hex : ∃ i, i < n ∧ at0 ps (i * 2) = a
  · have hmin : ∃ i, (i < n ∧ at0 ps (i * 2) = a) ∧ ∀ j, j < i → ¬ (j < n ∧ at0 ps (j * 2) = a) := by
      obtain ⟨i, hi⟩ := hex
      induction i using Nat.strongRecOn with
      | _ i ih =>
        by_cases hj : ∃ j, j < i ∧ (j < n ∧ at0 ps (j * 2) = a)
        · obtain ⟨j, h1, h2⟩ := hj
          exact ih j h1 h2
        · exact ⟨i, hi, fun j h1 h2 => hj ⟨j, h1, h2⟩⟩
    obtain ⟨i, ⟨hi, ha⟩, hm⟩ := hmin
    rw [highOf_some hi ha (fun j hj e => hm j hj ⟨by omega, e⟩)]
    have hp := (h i hi).1
    unfold pairB at hp
    simp at hp
    have := hC.range63 _ hp.1.1.2
    omega
  · rw [highOf_none (fun j hj e => hex ⟨j, hj, e⟩)]
    omega

set_option maxRecDepth 1000000 in
set_option maxHeartbeats 2000000 in
theorem code1_spec (V : Int) (a0 : Option Addr) (cap : Nat) (fs : List Int) (a1 : Option Addr) (n cap1 : Nat) (ps : List Int) (a : Int) (bf : Nat) (w : World) (hx : SlI w w.heap.size a0 fs) (hx1 : SlI w w.heap.size a1 ps) (hl : fs.length ≤ 1048576) (hp : ps.length = 2 * n) (hn : n ≤ 1048576)
    (hbf : bf < w.heap.size) (hcf : w.cell? ⟨bf, 0, none⟩ = some (.int .i64 a)) :
    Calls Try.prog 74 #[.agg #[.int .i64 V, .slice a0 fs.length cap], .slice a1 n cap1, .slice (some ⟨bf, 0, none⟩) 1 1] w fun e w' => e = .returned (.int .i64 (code1R V fs n ps a)) ∧ Below w.heap.size w w' := by
  have hB0 : Below w.heap.size w (w.alloc (.cells #[.int .i64 V, .slice a0 fs.length cap] 28)) := (Below.refl _ w).alloc (Nat.le_refl _) _
  have Hx := hid (hx.later hB0 hB0.size)
  have Hx0 := hid hx
  have Hy := hid hx1
  clear hx hx1
  obtain ⟨E, hE⟩ : ∃ E, E = code1R V fs n ps a := ⟨_, rfl⟩
  rw [← hE]
  rcases pcode_cases V fs n ps with ⟨hC, _, h0, _, h1⟩ | ⟨hC, _, h0, _, h1⟩ | ⟨hC, h0, _⟩
  · have HC := hid hC
    have hE1 : E = if a ∈ fs then 0 else 2 := by rw [hE, code1R, if_pos h0]
    clear hC h0 hE
    go_enter Try.func74, Try.ntmps74
    go_wp2_with fail
    refine (is_yes V a0 cap fs _ Hx.out hl HC.out).mono ?_
    rintro e w1 ⟨rfl, hB1⟩
    have HB1 := hid (hB0.trans (hB1.mono (by simp)))
    have k0 : w1.cell? ⟨w.heap.size, 0, none⟩ = some (.int .i64 V) := (hB1.cell (p := ⟨w.heap.size, 0, none⟩) (by simp)).trans (by simp [go_sem])
    have k1 : w1.cell? ⟨w.heap.size, 1, none⟩ = some (.slice a0 fs.length cap) := (hB1.cell (p := ⟨w.heap.size, 1, none⟩) (by simp)).trans (by simp [go_sem])
    have hs1 : w.heap.size < w1.heap.size := by have := hB1.size; simp at this; omega
    have HI := hid (pis_any V a0 cap fs a1 n cap1 ps w1 (Hx0.out.later HB1.out HB1.out.size) (Hy.out.later HB1.out HB1.out.size) hl HC.out.range63 hp hn)
    rw [h1] at HI
    clear hB0 hB1 h1 hp
    go_wp2_with fail
    refine HI.out.mono ?_
    rintro e w2 ⟨rfl, hB2⟩
    have n0 : w2.cell? ⟨w.heap.size, 0, none⟩ = some (.int .i64 V) := (hB2.cell (p := ⟨w.heap.size, 0, none⟩) hs1).trans k0
    have n1 : w2.cell? ⟨w.heap.size, 1, none⟩ = some (.slice a0 fs.length cap) := (hB2.cell (p := ⟨w.heap.size, 1, none⟩) hs1).trans k1
    have HB2 := hid (HB1.out.trans (hB2.mono HB1.out.size))
    have n2 : w2.cell? ⟨bf, 0, none⟩ = some (.int .i64 a) := (HB2.out.cell (p := ⟨bf, 0, none⟩) hbf).trans hcf
    have hs2 : w.heap.size < w2.heap.size := Nat.lt_of_lt_of_le hs1 hB2.size
    have HB2d : Hid (Below w.heap.size w w2.drew) := hid (HB2.out.trans ⟨rfl, rfl, rfl, Nat.le_refl _, fun _ _ => rfl⟩)
    clear hB2 k0 k1 hcf
    by_cases ha : a ∈ fs
    · have He : Hid (E = 0) := hid (by rw [hE1, if_pos ha])
      have HA := hid (has_yes V a a0 cap fs w2.drew (Hx0.out.later HB2d.out HB2d.out.size) hl ha)
      clear hE1 ha
      go_wp2_with fail
      refine wp_loop_rounds 2 ?_
      rw [rounds_succ]
      go_wp2_with fail
      go_region_held3 (fun w' => w'.cell? ⟨w.heap.size, 0, none⟩ = some (.int .i64 V) ∧ w'.cell? ⟨w.heap.size, 1, none⟩ = some (.slice a0 fs.length cap) ∧ w'.cell? ⟨bf, 0, none⟩ = some (.int .i64 a)) (go_keep) (first
        | (go_at_call 113; refine HA.out.mono ?_; rintro e w3 ⟨rfl, hB3⟩; have m0 := (hB3.cell (p := ⟨w.heap.size, 0, none⟩) hs2).trans n0; have m1 := (hB3.cell (p := ⟨w.heap.size, 1, none⟩) hs2).trans n1; have m2 := (hB3.cell (p := ⟨bf, 0, none⟩) (Nat.lt_trans hbf hs2)).trans n2; have HB3 := hid hB3; clear hB3))
      all_goals
        have HB4 := hid (HB2d.out.trans (HB3.out.mono HB2d.out.size))
        go_wp2_with fail
        rw [rounds_succ]
        go_wp2_with fail
        go_ret
        exact ⟨ret_int (by rw [He.out]), HB4.out⟩
    · have He : Hid (E = 2) := hid (by rw [hE1, if_neg ha])
      have HA := hid (has_no V a a0 cap fs w2.drew (Hx0.out.later HB2d.out HB2d.out.size) hl ha)
      clear hE1 ha
      go_wp2_with fail
      refine wp_loop_rounds 2 ?_
      rw [rounds_succ]
      go_wp2_with fail
      go_region_held3 (fun w' => w'.cell? ⟨w.heap.size, 0, none⟩ = some (.int .i64 V) ∧ w'.cell? ⟨w.heap.size, 1, none⟩ = some (.slice a0 fs.length cap) ∧ w'.cell? ⟨bf, 0, none⟩ = some (.int .i64 a)) (go_keep) (first
        | (go_at_call 113; refine HA.out.mono ?_; rintro e w3 ⟨rfl, hB3⟩; have m0 := (hB3.cell (p := ⟨w.heap.size, 0, none⟩) hs2).trans n0; have m1 := (hB3.cell (p := ⟨w.heap.size, 1, none⟩) hs2).trans n1; have m2 := (hB3.cell (p := ⟨bf, 0, none⟩) (Nat.lt_trans hbf hs2)).trans n2; have HB3 := hid hB3; clear hB3))
      all_goals
        have HB4 := hid (HB2d.out.trans (HB3.out.mono HB2d.out.size))
        go_wp2_with fail
        go_ret
        exact ⟨ret_int (by rw [He.out]), HB4.out⟩
  · have He : Hid (E = 2) := hid (by rw [hE, code1R, if_neg (by rw [h0]; decide), h0])
    have HC := hid hC
    clear hC h0 hE
    go_enter Try.func74, Try.ntmps74
    go_wp2_with fail
    refine (is_yes V a0 cap fs _ Hx.out hl HC.out).mono ?_
    rintro e w1 ⟨rfl, hB1⟩
    have HB1 := hid (hB0.trans (hB1.mono (by simp)))
    have k0 : w1.cell? ⟨w.heap.size, 0, none⟩ = some (.int .i64 V) := (hB1.cell (p := ⟨w.heap.size, 0, none⟩) (by simp)).trans (by simp [go_sem])
    have k1 : w1.cell? ⟨w.heap.size, 1, none⟩ = some (.slice a0 fs.length cap) := (hB1.cell (p := ⟨w.heap.size, 1, none⟩) (by simp)).trans (by simp [go_sem])
    have HI := hid (pis_any V a0 cap fs a1 n cap1 ps w1 (Hx0.out.later HB1.out HB1.out.size) (Hy.out.later HB1.out HB1.out.size) hl HC.out.range63 hp hn)
    rw [h1] at HI
    clear hB0 hB1 h1 hp
    go_wp2_with fail
    refine HI.out.mono ?_
    rintro e w2 ⟨rfl, hB2⟩
    go_wp2_with fail
    go_ret
    exact ⟨ret_int (by rw [He.out]), HB1.out.trans (hB2.mono HB1.out.size)⟩
  · have He : Hid (E = 1) := hid (by rw [hE, code1R, if_neg (by rw [h0]; decide), h0])
    clear h0 hE
    go_enter Try.func74, Try.ntmps74
    go_wp2_with fail
    refine (is_no V a0 cap fs _ Hx.out hl hC).mono ?_
    rintro e w1 ⟨rfl, hB1⟩
    go_wp2_with fail
    go_ret
    exact ⟨ret_int (by rw [He.out]), hB0.trans (hB1.mono (by simp))⟩

end Go.Proofs.Ytplcbiconfpmlaa

/-! IsAcyclicPairing, the model's door. -/
namespace Go.Proofs.Ytplcbiconfpmlaa
open Go.RowKit

noncomputable def isAcyclicR (V : Int) (fs : List Int) (n : Nat) (ps : List Int) : Bool × Int := if pcodeR V fs n ps = 0 then (acyB ps n, 0) else (false, pcodeR V fs n ps)
theorem okTo_lows {V : Int} {fs ps : List Int} {n : Nat} (hC : IsC V fs) (h : OkTo fs ps n) : ∀ i, i < n → 0 ≤ at0 ps (i * 2) ∧ at0 ps (i * 2) < 64 := by
  intro i hi
  have hp := (h i hi).1
  unfold pairB at hp
  simp at hp
  have := hC.range63 _ hp.1.1.1
  omega
theorem bool_mono2 {fn : FuncId} {args : Array Value} {w : World} {B : Nat} {P : Program} {R : Bool × Int} {b : Bool} {c : Int} (hR : R = (b, c))
    (h : Calls P fn args w fun e w' => e = .returned (.tuple #[.bool b, .int .i64 c]) ∧ Below B w w') :
    Calls P fn args w fun e w' => e = .returned (.tuple #[.bool R.1, .int .i64 R.2]) ∧ Below B w w' := by
  subst hR
  exact h


end Go.Proofs.Ytplcbiconfpmlaa

/-! isAcyclic, and IsAcyclicPairing's door, the program's. -/
namespace Go.Proofs.Ytplcbiconfpmlaa
open Go.RowKit

theorem sub_len : ∀ (A B : List Nat), A.Nodup → (∀ x ∈ A, x ∈ B) → A.length ≤ B.length
  | [], _, _, _ => by simp
  | x :: A, B, hn, h => by
    obtain ⟨h1, h2⟩ := List.nodup_cons.1 hn
    have ih := sub_len A (B.erase x) h2 (fun y hy => (List.mem_erase_of_ne (fun e => h1 (by rw [← e]; exact hy))).2 (h y (List.mem_cons_of_mem _ hy)))
    have hx : x ∈ B := h x (by simp)
    have hl := List.length_erase_of_mem hx
    have hp : 0 < B.length := List.length_pos_of_mem hx
    simp only [List.length_cons]
    omega
/-- All pairs have settled exactly if there is no cycle. -/
theorem stl_all {ps : List Int} {n : Nat} {L : List Nat} (h : Stl ps n L) (hs : SatTo ps n n L) : NoCycle ps n ↔ L.length = n := by
  constructor
  · intro hc
    have hall := acyclic_settled hc hs
    have h1 := sub_len (List.range n) L List.nodup_range (fun x hx => hall x (by simpa using hx))
    rw [List.length_range] at h1
    have := h.len
    omega
  · intro hl
    refine settled_acyclic h.ord (fun i hi => Classical.byContradiction fun hn => ?_)
    have := nodup_le n (L ++ [i]) (by
      rw [List.nodup_append]
      exact ⟨h.nodup, by simp, fun a ha b hb => by simp at hb; subst hb; exact fun e => hn (e ▸ ha)⟩) (fun j hj => by
      rcases List.mem_append.1 hj with h1 | h1
      · exact h.lt j h1
      · simp at h1; omega)
    simp at this
    omega
theorem stl_acyB {ps : List Int} {n : Nat} {L : List Nat} (h : Stl ps n L) (hs : SatTo ps n n L) : ((L.length : Int) == (n : Int)) = acyB ps n := by
  by_cases hc : NoCycle ps n
  · rw [acyB_true hc]
    rw [(stl_all h hs).1 hc]
    simp
  · rw [acyB_false hc]
    have : L.length ≠ n := fun e => hc ((stl_all h hs).2 e)
    simp
    omega

set_option maxRecDepth 1000000 in
set_option maxHeartbeats 2000000 in
theorem isAcy_any (a1 : Option Addr) (n cap1 : Nat) (ps : List Int) (w : World) (hx1 : SlI w w.heap.size a1 ps) (hp : ps.length = 2 * n) (hn : n ≤ 1048576) (hw : ∀ x ∈ ps, (Lit.int .i64 x).wf = true) (hd : LowsApart ps n) (hh : HighsB ps n) :
    Calls Try.prog 109 #[.slice a1 n cap1] w fun e w' => e = .returned (.bool (acyB ps n)) ∧ Below w.heap.size w w' := by
  have HS := hid (callsIn_wide.1 (settled_in a1 n cap1 ps w hx1 hp hn hw hd hh))
  clear hx1 hp hw hd hh
  go_enter Try.func109, Try.ntmps109
  go_wp2_with (go_at_call 90; refine HS.out.mono ?_; rintro e w1 ⟨L, v, rfl, hS, hsat, hr⟩; obtain ⟨_, av, cp, rfl, _⟩ := pairs_form hr.1; rw [setP_len]; have he := stl_acyB hS hsat; have hB := hid hr.2; clear hS hsat hr)
  go_ret
  exact ⟨rfl, hB.out⟩


end Go.Proofs.Ytplcbiconfpmlaa

/-! The number of gradient ways, the mathematics. -/
namespace Go.Proofs.Ytplcbiconfpmlaa
open Go.RowKit

/-- The number of ways from a to b with less than f steps. -/
def gwN (ps : List Int) (n : Nat) (b : Int) : Nat → Int → Int
  | 0, _ => 0
  | f + 1, a => (if a = b then 1 else 0) + ((nextL ps n a).map (gwN ps n b f)).sum
/-- The number of gradient ways from a to b, for an acyclic pairing. -/
def gw (ps : List Int) (n : Nat) (b a : Int) : Int := gwN ps n b (n + 2) a

theorem nextL_nil {ps : List Int} {n : Nat} {x : Int} (h : ∀ i, i < n → at0 ps (i * 2) ≠ x) : nextL ps n x = [] := by
  have := highOf_none (ps := ps) (n := n) (a := x) (fun i hi => h i hi)
  unfold nextL
  rw [if_pos this]

/-- How many pairs are reached from the low face of a pair. -/
noncomputable def rkP (ps : List Int) (n : Nat) (i : Nat) : Nat := (List.range n).countP fun k => wayB ps n (at0 ps (i * 2)) (at0 ps (k * 2))
theorem rkP_le (ps : List Int) (n i : Nat) : rkP ps n i ≤ n := by
  have := List.countP_le_length (p := fun k => wayB ps n (at0 ps (i * 2)) (at0 ps (k * 2))) (l := List.range n)
  simpa [rkP] using this
theorem rkP_lt {ps : List Int} {n : Nat} (hc : NoCycle ps n) {i j : Nat} (hj : j < n) (hs : StepP ps n i j) : rkP ps n j < rkP ps n i := by
  have hw : Way ps n (at0 ps (i * 2)) (at0 ps (j * 2)) := .one hs
  refine countP_lt (y := j) (fun k _ hk => ?_) (by simpa using hj) (wayB_true hw) (wayB_false (hc j hj))
  by_cases hw2 : Way ps n (at0 ps (j * 2)) (at0 ps (k * 2))
  · exact wayB_true (way_trans hw hw2)
  · rw [wayB_false hw2] at hk; cases hk

theorem gwN_low {ps : List Int} {n : Nat} (hc : NoCycle ps n) (b : Int) : ∀ (m i f g : Nat), rkP ps n i ≤ m → i < n → m + 2 ≤ f → m + 2 ≤ g → gwN ps n b f (at0 ps (i * 2)) = gwN ps n b g (at0 ps (i * 2)) := by
  intro m
  induction m using Nat.strongRecOn with
  | _ m ih =>
    intro i f g hm hi hf hg
    obtain ⟨f', rfl⟩ : ∃ f', f = f' + 1 := ⟨f - 1, by omega⟩
    obtain ⟨g', rfl⟩ : ∃ g', g = g' + 1 := ⟨g - 1, by omega⟩
    unfold gwN
    congr 2
    refine List.map_congr_left (fun y hy => ?_)
    by_cases hex : ∃ j, j < n ∧ at0 ps (j * 2) = y
    · obtain ⟨j, hj, rfl⟩ := hex
      have hlt := rkP_lt hc hj (show StepP ps n i j from hy)
      exact ih (rkP ps n j) (by omega) j f' g' (Nat.le_refl _) hj (by omega) (by omega)
    · obtain ⟨f'', rfl⟩ : ∃ f'', f' = f'' + 1 := ⟨f' - 1, by omega⟩
      obtain ⟨g'', rfl⟩ : ∃ g'', g' = g'' + 1 := ⟨g' - 1, by omega⟩
      have hnil := nextL_nil (fun i hi e => hex ⟨i, hi, e⟩)
      unfold gwN
      rw [hnil]
      rfl
theorem gwN_any {ps : List Int} {n : Nat} (hc : NoCycle ps n) (b : Int) (f : Nat) (hf : n + 2 ≤ f) (a : Int) : gwN ps n b f a = gw ps n b a := by
  unfold gw
  by_cases hex : ∃ j, j < n ∧ at0 ps (j * 2) = a
  · obtain ⟨j, hj, rfl⟩ := hex
    exact gwN_low hc b n j f (n + 2) (rkP_le ps n j) hj hf (Nat.le_refl _)
  · obtain ⟨f', rfl⟩ : ∃ f', f = f' + 1 := ⟨f - 1, by omega⟩
    have hnil := nextL_nil (fun i hi e => hex ⟨i, hi, e⟩)
    unfold gwN
    rw [hnil]
    rfl
/-- By a first step. -/
theorem gw_step {ps : List Int} {n : Nat} (hc : NoCycle ps n) (b a : Int) : gw ps n b a = (if a = b then 1 else 0) + ((nextL ps n a).map (gw ps n b)).sum := by
  rw [← gwN_any hc b (n + 2 + 1) (by omega) a]
  show (if a = b then 1 else 0) + ((nextL ps n a).map (gwN ps n b (n + 2))).sum = _
  rfl
theorem gw_none {ps : List Int} {n : Nat} {b x : Int} (h : ∀ i, i < n → at0 ps (i * 2) ≠ x) : gw ps n b x = if x = b then 1 else 0 := by
  unfold gw gwN
  rw [nextL_nil h]
  simp

theorem nextL_ne {ps : List Int} {n : Nat} {x y : Int} (h : y ∈ nextL ps n x) : y ≠ x := by
  unfold nextL at h
  split at h
  · simp at h
  · have := List.mem_filter.1 h
    simpa using this.2
theorem int_sum_reverse (l : List Int) : l.reverse.sum = l.sum := by
  induction l with
  | nil => rfl
  | cons x l ih => simp [ih, Int.add_comm]
/-- The steps in the program's order. -/
theorem gw_steps {ps : List Int} {n : Nat} (hh : HighsB ps n) (a : Int) (g : Int → Int) : ((stepsF ps n a).map fun z => g (z.val : Int)).sum = ((nextL ps n a).map g).sum := by
  unfold stepsF nextL
  split
  · rfl
  · have h := hh a
    have e := sides_below ⟨(highOf ps n a).toNat, by omega⟩
    simp only at e
    have e2 : (otherF a (sidesF (highOf ps n a).toNat)).map (fun z => (z.val : Int)) = ((belowR (highOf ps n a).toNat 63).filter fun y => decide (y ≠ a)).reverse := by
      rw [← List.filter_reverse, ← e]
      unfold otherF
      rw [List.filter_map]
      rfl
    have e3 : (otherF a (sidesF (highOf ps n a).toNat)).map (fun z => g (z.val : Int)) = (((belowR (highOf ps n a).toNat 63).filter fun y => decide (y ≠ a)).map g).reverse := by
      rw [← List.map_reverse, ← e2, List.map_map]
      rfl
    rw [e3, int_sum_reverse]

theorem wrap64_add (a b : Int) : wrap64 (wrap64 a + wrap64 b) = wrap64 (a + b) := by unfold wrap64; omega
theorem wrap64_wrap (a : Int) : wrap64 (wrap64 a) = wrap64 a := by unfold wrap64; omega

end Go.Proofs.Ytplcbiconfpmlaa

/-! A map of numbers to numbers, as a function: what is not in it counts as 0. -/
namespace Go.Proofs.Ytplcbiconfpmlaa
open Go.RowKit Go.Shelf Go.ChangeMaps

theorem wf_wrap (x : Int) : (Lit.int .i64 (wrap64 x)).wf = true := WalkArith.wf_i64 (by unfold wrap64; omega)
theorem zero_i64 (w : World) : (zeroValue 2).run Try.prog w = .ok (.int .i64 0) w := by kernel_rfl

/-- The map in block b, after at most N stores. -/
def CntM (W : World) (b N : Nat) (f : Int → Int) : Prop :=
  ∃ D : DataW Unit, Maps.IsMap D ∧ W.ownsMap Try.prog 2 (plainElem (H := Unit) Try.prog 2) b N D ∧ ∀ p, D.atKey (.int .i64 p) (.lit (.int .i64 0)) = .lit (.int .i64 (f p))
theorem CntM.made (w : World) : CntM (w.alloc (.map #[] 0)) w.heap.size 0 (fun _ => 0) :=
  ⟨_, Maps.isMap_empty, World.ownsMap_made w _ _ _, fun _ => rfl⟩
theorem CntM.lt {W : World} {b N : Nat} {f : Int → Int} (h : CntM W b N f) : b < W.heap.size := by
  obtain ⟨D, _, h1, _⟩ := h
  exact h1.lt
theorem CntM.kept {W W' : World} {b N : Nat} {f : Int → Int} (h : CntM W b N f) {row : Option Nat} (hg : W.grownBy W' row) (hn : some b ≠ row) : CntM W' b N f := by
  obtain ⟨D, h0, h1, h2⟩ := h
  exact ⟨D, h0, h1.kept hg hn, h2⟩
theorem CntM.alloc {W : World} {b N : Nat} {f : Int → Int} (h : CntM W b N f) (o : Obj) : CntM (W.alloc o) b N f := h.kept (World.grownBy_alloc W o none) (by simp)
set_option maxRecDepth 100000 in
theorem CntM.lookup {W : World} {b N : Nat} {f : Int → Int} (h : CntM W b N f) {p : Int} (hp : (Lit.int .i64 p).wf = true) :
    (Instr.lookup 96 (.map (some b)) (.int .i64 p) false).run Try.prog W = .ok (.int .i64 (f p)) W := by
  obtain ⟨D, h0, h1, h2⟩ := h
  obtain ⟨v, qs, hrun, hv⟩ := h1.lookup (Maps.int_keyed Try.underlying2) Try.underlying96 (zero_i64 W) (plainElem_int Try.underlying2 (show (Lit.int .i64 0).wf = true by decide)) (Maps.keyOf_int_mk Try.underlying2 hp)
  rw [h2] at hv
  obtain ⟨a, rfl, hz, _⟩ := plainElem_int_inv Try.underlying2 hv
  injection hz with hz _
  injection hz with hz
  injection hz with _ hz
  rw [hrun, hz]
theorem CntM.update {W : World} {b N : Nat} {f : Int → Int} (h : CntM W b N f) (hN : N < maxLen) {p x : Int} (hp : (Lit.int .i64 p).wf = true) (hx : (Lit.int .i64 x).wf = true) :
    ∃ W', (Instr.mapUpdate 96 (.map (some b)) (.int .i64 p) (.int .i64 x)).run Try.prog W = .ok () W' ∧ CntM W' b (N + 1) (fun q => if q = p then x else f q) ∧ W.grownBy W' (some b) ∧ W'.heap.size = W.heap.size := by
  obtain ⟨D, h0, h1, h2⟩ := h
  obtain ⟨W', hrun, ho, ht⟩ := World.ownsMap.store h1 (Maps.int_keyed Try.underlying2) Try.underlying96 hN (Maps.keyOf_int_mk Try.underlying2 hp) (plainElem_int Try.underlying2 hx)
  have hs : W'.heap.size = W.heap.size := by
    obtain ⟨es, c, es', c', hb, rfl⟩ := ht
    simp [setBlock]
  refine ⟨W', hrun, ⟨_, h0.put _ _, ho, fun q => ?_⟩, ?_, hs⟩
  · by_cases e : q = p
    · subst e
      rw [Maps.atKey_put_same h0 (show WideAt.IsKeyLit (.int .i64 q) from trivial)]
      simp
    · rw [Maps.atKey_put_other (by simpa using e), h2]
      simp [e]
  · obtain ⟨es, c, es', c', hb, rfl⟩ := ht
    exact ⟨rfl, rfl, rfl, by simp [setBlock], fun i _ hi => heap_setBlock_other hb _ (fun e => hi (by rw [e]))⟩

end Go.Proofs.Ytplcbiconfpmlaa

/-! CountGradientWays, the program's: what its map holds, pair by pair. -/
namespace Go.Proofs.Ytplcbiconfpmlaa
open Go.RowKit Go.Shelf

/-- The low face of a pair that does not stand among the first k settled ones. -/
def waitsB (ps : List Int) (n : Nat) (L : List Nat) (k : Nat) (p : Int) : Bool := (List.range n).any fun i => decide (at0 ps (i * 2) = p) && !(decide (i ∈ L.take k))
theorem waits_iff {ps : List Int} {n : Nat} {L : List Nat} {k : Nat} {p : Int} : waitsB ps n L k p = true ↔ ∃ i, i < n ∧ at0 ps (i * 2) = p ∧ i ∉ L.take k := by
  unfold waitsB
  rw [List.any_eq_true]
  simp
/-- The map's number at p behind the first k settled pairs. -/
def gwV (ps : List Int) (n : Nat) (b : Int) (L : List Nat) (k : Nat) (p : Int) : Int := if waitsB ps n L k p then (if p = b then 1 else 0) else wrap64 (gw ps n b p)
/-- .. and within the next one, whose low face is x, behind some steps. -/
def gwU (ps : List Int) (n : Nat) (b : Int) (L : List Nat) (k : Nat) (x : Int) (pre : List (Fin 64)) (p : Int) : Int :=
  if p = x then wrap64 ((if x = b then 1 else 0) + (pre.map fun z => gw ps n b (z.val : Int)).sum) else gwV ps n b L k p

theorem wrap64_01 (c : Prop) [Decidable c] : wrap64 (if c then 1 else 0) = if c then 1 else 0 := by split <;> simp [wrap64]
theorem gwV_zero (ps : List Int) (n : Nat) (b : Int) (L : List Nat) : gwV ps n b L 0 = fun p => if p = b then 1 else 0 := by
  funext p
  unfold gwV
  by_cases h : waitsB ps n L 0 p = true
  · rw [if_pos h]
  · rw [if_neg h, gw_none (fun i hi e => h (waits_iff.2 ⟨i, hi, e, by simp⟩)), wrap64_01]
theorem gwU_nil {ps : List Int} {n : Nat} {b : Int} {L : List Nat} (hS : Stl ps n L) {k : Nat} (hk : k < L.length) : gwU ps n b L k (at0 ps (L[k] * 2)) [] = gwV ps n b L k := by
  funext p
  unfold gwU
  by_cases h : p = at0 ps (L[k] * 2)
  · rw [if_pos h]
    have hw : waitsB ps n L k p = true := waits_iff.2 ⟨L[k], hS.lt _ (List.getElem_mem hk), h.symm, fun hm => by
      have hn := hS.nodup
      rw [← List.take_append_drop k L, List.nodup_append] at hn
      refine hn.2.2 _ hm _ ?_ rfl
      rw [List.drop_eq_getElem_cons hk]
      exact List.mem_cons_self⟩
    unfold gwV
    rw [if_pos hw, h]
    simp [wrap64_01]
  · rw [if_neg h]
/-- A step leads to a face whose ways are all known. -/
theorem gwU_next {ps : List Int} {n : Nat} {b : Int} {L : List Nat} (hS : Stl ps n L) {k : Nat} (hk : k < L.length) {y : Int} (hy : y ∈ nextL ps n (at0 ps (L[k] * 2))) (pre : List (Fin 64)) :
    gwU ps n b L k (at0 ps (L[k] * 2)) pre y = wrap64 (gw ps n b y) := by
  unfold gwU
  rw [if_neg (nextL_ne hy)]
  unfold gwV
  rw [if_neg]
  intro hw
  obtain ⟨j, hj, e, hn⟩ := waits_iff.1 hw
  refine hn (hS.ord (L.take k) L[k] (L.drop (k + 1)) ?_ j hj (by unfold StepP; rw [e]; exact hy))
  rw [← List.drop_eq_getElem_cons hk, List.take_append_drop]
theorem gwU_self (ps : List Int) (n : Nat) (b : Int) (L : List Nat) (k : Nat) (x : Int) (pre : List (Fin 64)) : gwU ps n b L k x pre x = wrap64 ((if x = b then 1 else 0) + (pre.map fun z => gw ps n b (z.val : Int)).sum) := by
  unfold gwU
  rw [if_pos rfl]
theorem gwU_snoc (ps : List Int) (n : Nat) (b : Int) (L : List Nat) (k : Nat) (x : Int) (pre : List (Fin 64)) (z : Fin 64) :
    (fun q => if q = x then wrap64 (gwU ps n b L k x pre x + wrap64 (gw ps n b (z.val : Int))) else gwU ps n b L k x pre q) = gwU ps n b L k x (pre ++ [z]) := by
  funext q
  by_cases h : q = x
  · subst h
    rw [if_pos rfl, gwU_self, gwU_self, wrap64_add]
    simp [Int.add_assoc]
  · rw [if_neg h]
    unfold gwU
    rw [if_neg h, if_neg h]
/-- All steps: the pair has settled. -/
theorem gwU_all {ps : List Int} {n : Nat} {b : Int} {L : List Nat} (hc : NoCycle ps n) (hh : HighsB ps n) (hd : LowsApart ps n) (hS : Stl ps n L) {k : Nat} (hk : k < L.length) :
    gwU ps n b L k (at0 ps (L[k] * 2)) (stepsF ps n (at0 ps (L[k] * 2))) = gwV ps n b L (k + 1) := by
  have ht : L.take (k + 1) = L.take k ++ [L[k]] := by rw [List.take_add_one, List.getElem?_eq_getElem hk]; rfl
  funext p
  unfold gwU
  by_cases h : p = at0 ps (L[k] * 2)
  · rw [if_pos h, gw_steps hh _ (gw ps n b), ← gw_step hc]
    unfold gwV
    rw [if_neg, h]
    intro hw
    obtain ⟨j, hj, e, hn⟩ := waits_iff.1 hw
    have := lows_inj hd hj (hS.lt _ (List.getElem_mem hk)) (e.trans h)
    exact hn (by rw [ht, this]; exact List.mem_append_right _ (List.mem_singleton.2 rfl))
  · rw [if_neg h]
    unfold gwV
    have he : waitsB ps n L k p = waitsB ps n L (k + 1) p := by
      rw [Bool.eq_iff_iff, waits_iff, waits_iff]
      constructor
      · rintro ⟨j, hj, e, hn⟩
        refine ⟨j, hj, e, fun hm => ?_⟩
        rw [ht] at hm
        rcases List.mem_append.1 hm with h1 | h1
        · exact hn h1
        · simp at h1
          exact h (by rw [← e, h1])
      · rintro ⟨j, hj, e, hn⟩
        exact ⟨j, hj, e, fun hm => hn (by rw [ht]; exact List.mem_append_left _ hm)⟩
    rw [he]
theorem gwV_all {ps : List Int} {n : Nat} {b : Int} {L : List Nat} (hall : ∀ i, i < n → i ∈ L) : gwV ps n b L L.length = fun p => wrap64 (gw ps n b p) := by
  funext p
  unfold gwV
  rw [if_neg]
  intro hw
  obtain ⟨j, hj, _, hn⟩ := waits_iff.1 hw
  exact hn (by rw [List.take_length]; exact hall j hj)
theorem steps_few (ps : List Int) (n : Nat) (a : Int) : (stepsF ps n a).length ≤ 6 := by
  rw [stepsF_hit]
  exact Nat.le_trans (List.length_filter_le _ _) (sides_len _ 6)

/-- What the walk keeps of the world: the map lies first, its box behind it. -/
structure GwW (w W : World) (N : Nat) (f : Int → Int) (Ds : List Nat) : Prop where
  below : Below w.heap.size w W
  cnt : CntM W w.heap.size N f
  b1 : W.heap[w.heap.size + 1]? = some (.cells #[.map (some w.heap.size)] 96 (0, 0))
  nodup : Ds.Nodup
  marks : ∀ D ∈ Ds, w.heap.size + 2 ≤ D ∧ W.heap[D]? = some (.deferred (some []))
theorem GwW.size {w W : World} {N : Nat} {f : Int → Int} {Ds : List Nat} (h : GwW w W N f Ds) : w.heap.size + 2 ≤ W.heap.size := by
  have := lt_of_get h.b1; omega
theorem GwW.turn {w W W' : World} {N : Nat} {f : Int → Int} {Ds : List Nat} (h : GwW w W N f Ds) {row : Option Nat} (hg : W.grownBy W' row) (hr : ∀ r, row = some r → w.heap.size + 2 ≤ r ∧ r ∉ Ds) : GwW w W' N f Ds where
  below := h.below.grown hg (by have := h.size; omega) (fun k e => by have := (hr k e).1; omega)
  cnt := h.cnt.kept hg (fun e => by have := (hr _ e.symm).1; omega)
  b1 := (hg.block _ (lt_of_get h.b1) (fun e => by have := (hr _ e.symm).1; omega)).trans h.b1
  nodup := h.nodup
  marks := fun D hD => ⟨(h.marks D hD).1, (hg.block _ (lt_of_get (h.marks D hD).2) (fun e => (hr _ e.symm).2 hD)).trans (h.marks D hD).2⟩
theorem GwW.alloc {w W : World} {N : Nat} {f : Int → Int} {Ds : List Nat} (h : GwW w W N f Ds) (o : Obj) : GwW w (W.alloc o) N f Ds := h.turn (World.grownBy_alloc W o none) (fun r e => by cases e)
theorem GwW.mark {w W : World} {N : Nat} {f : Int → Int} {Ds : List Nat} (h : GwW w W N f Ds) {D : Nat} (hD : W.heap[D]? = some (.deferred (some []))) (hb : w.heap.size + 2 ≤ D) (hn : D ∉ Ds) : GwW w W N f (D :: Ds) :=
  { h with
    nodup := List.nodup_cons.2 ⟨hn, h.nodup⟩
    marks := fun E hE => by
      rcases List.mem_cons.1 hE with rfl | hE
      · exact ⟨hb, hD⟩
      · exact h.marks E hE }
theorem CntM.mono {W : World} {b N N' : Nat} {f : Int → Int} (h : CntM W b N f) (hN : N ≤ N') : CntM W b N' f := by
  obtain ⟨D, h0, h1, h2⟩ := h
  exact ⟨D, h0, h1.mono hN, h2⟩
theorem GwW.mono {w W : World} {N N' : Nat} {f : Int → Int} {Ds : List Nat} (h : GwW w W N f Ds) (hN : N ≤ N') : GwW w W N' f Ds := { h with cnt := h.cnt.mono hN }
theorem GwW.put {w W W' : World} {N N' : Nat} {f g : Int → Int} {Ds : List Nat} (h : GwW w W N f Ds) (hc : CntM W' w.heap.size N' g) (hg : W.grownBy W' (some w.heap.size)) : GwW w W' N' g Ds where
  below := h.below.grown hg (by have := h.size; omega) (fun k e => by cases e; exact Nat.le_refl _)
  cnt := hc
  b1 := (hg.block _ (lt_of_get h.b1) (fun e => by injection e with e; omega)).trans h.b1
  nodup := h.nodup
  marks := fun D hD => ⟨(h.marks D hD).1, (hg.block _ (lt_of_get (h.marks D hD).2) (fun e => by injection e with e; have := (h.marks D hD).1; omega)).trans (h.marks D hD).2⟩
theorem gw_ownIn {β : Type} {w : World} {N : β → Nat} {f : β → Int → Int} {Ds : List Nat} {lo k : Nat} (hlo : w.heap.size + 2 ≤ lo) (hD : ∀ D ∈ Ds, D < lo) :
    OwnIn lo k (fun (p : β) W' => GwW w W' (N p) (f p) Ds) := by
  intro s A C row h hg hr
  refine h.turn hg (fun r e => ?_)
  obtain ⟨h1, _⟩ := hr r e
  exact ⟨by omega, fun hm => by have := hD r hm; omega⟩

end Go.Proofs.Ytplcbiconfpmlaa

/-! CountGradientWays, the program's. -/
namespace Go.Proofs.Ytplcbiconfpmlaa
open Go.RowKit Go.Shelf

attribute [local go_sem] Oper.semAt_some

theorem pairs_slI {w : World} {base e n : Nat} {v : Value} {L : List (Int × Int)} (h : w.ownsRow base e 2 v n ((flatP L).map (Value.int .i64))) :
    n = L.length ∧ ∃ a cap, v = .slice a L.length cap ∧ SlI w w.heap.size a (flatP L) := by
  have hl := h.1
  simp [flatP_len] at hl
  have hn : n = L.length := by omega
  refine ⟨hn, ?_⟩
  rcases h.2 with ⟨rfl, hn0⟩ | ⟨g, cap, cur, rfl, _, hg, _⟩
  · have : L = [] := List.eq_nil_of_length_eq_zero (by omega)
    subst this
    exact ⟨none, 0, rfl, .inl rfl⟩
  · refine ⟨_, cap, by rw [hn], .inr ⟨g, 0, (Array.getElem?_eq_some_iff.1 hg).1, rfl, fun i hi => ?_⟩⟩
    have := h.cells (g := g) rfl i (.int .i64 ((flatP L)[i]?.getD 0)) (by simp [hi])
    have hadd : (⟨g, 0, none⟩ : Addr).add i = ⟨g, i, none⟩ := by unfold Addr.add; split <;> simp_all
    rw [hadd] at this
    simpa using this

/-- Ahead of settled pair k. -/
def GwIn (w3 : World) (M C n c2 : Nat) (a2 : Option Addr) (a b : Int) (ps : List Int) (L : List Nat) (a' : Act) (W : World) : Prop :=
  ∃ (k : Nat) (Ds : List Nat) (us : Nat → Value), a' = { tmps := List.toArray (us 0 :: us 1 :: (.int .i64 a) :: us 3 :: us 4 :: us 5 :: us 6 :: us 7 :: us 8 :: us 9 :: us 10 :: us 11 :: (.map (some M)) :: (.pointer (some ⟨C + 1, 0, none⟩)) :: us 14 :: us 15 :: us 16 :: us 17 :: us 18 :: us 19 :: us 20 :: us 21 :: us 22 :: us 23 :: us 24 :: us 25 :: us 26 :: us 27 :: us 28 :: us 29 :: us 30 :: us 31 :: us 32 :: us 33 :: us 34 :: us 35 :: us 36 :: us 37 :: us 38 :: us 39 :: us 40 :: us 41 :: us 42 :: us 43 :: us 44 :: us 45 :: us 46 :: (.slice a2 n c2) :: (.int .i64 (n : Int)) :: (.int .i64 (k : Int)) :: us 50 :: us 51 :: us 52 :: us 53 :: us 54 :: us 55 :: us 56 :: us 57 :: us 58 :: us 59 :: us 60 :: us 61 :: us 62 :: us 63 :: us 64 :: us 65 :: us 66 :: us 67 :: us 68 :: us 69 :: []), defers := marks Ds } ∧ Hid (GwW w3 W (1 + 64 * k) (gwV ps n b L k) Ds) ∧ k ≤ n
theorem gwIn_of {w3 W : World} {M C n c2 : Nat} {a2 : Option Addr} {a b : Int} {ps : List Int} {L : List Nat} {k : Nat} {Ds : List Nat} (tm : Array Value) (ds : List Deferred) (hds : ds = marks Ds)
    (h : tm = List.toArray (tm.getD 0 undef :: tm.getD 1 undef :: (.int .i64 a) :: tm.getD 3 undef :: tm.getD 4 undef :: tm.getD 5 undef :: tm.getD 6 undef :: tm.getD 7 undef :: tm.getD 8 undef :: tm.getD 9 undef :: tm.getD 10 undef :: tm.getD 11 undef :: (.map (some M)) :: (.pointer (some ⟨C + 1, 0, none⟩)) :: tm.getD 14 undef :: tm.getD 15 undef :: tm.getD 16 undef :: tm.getD 17 undef :: tm.getD 18 undef :: tm.getD 19 undef :: tm.getD 20 undef :: tm.getD 21 undef :: tm.getD 22 undef :: tm.getD 23 undef :: tm.getD 24 undef :: tm.getD 25 undef :: tm.getD 26 undef :: tm.getD 27 undef :: tm.getD 28 undef :: tm.getD 29 undef :: tm.getD 30 undef :: tm.getD 31 undef :: tm.getD 32 undef :: tm.getD 33 undef :: tm.getD 34 undef :: tm.getD 35 undef :: tm.getD 36 undef :: tm.getD 37 undef :: tm.getD 38 undef :: tm.getD 39 undef :: tm.getD 40 undef :: tm.getD 41 undef :: tm.getD 42 undef :: tm.getD 43 undef :: tm.getD 44 undef :: tm.getD 45 undef :: tm.getD 46 undef :: (.slice a2 n c2) :: (.int .i64 (n : Int)) :: (.int .i64 (k : Int)) :: tm.getD 50 undef :: tm.getD 51 undef :: tm.getD 52 undef :: tm.getD 53 undef :: tm.getD 54 undef :: tm.getD 55 undef :: tm.getD 56 undef :: tm.getD 57 undef :: tm.getD 58 undef :: tm.getD 59 undef :: tm.getD 60 undef :: tm.getD 61 undef :: tm.getD 62 undef :: tm.getD 63 undef :: tm.getD 64 undef :: tm.getD 65 undef :: tm.getD 66 undef :: tm.getD 67 undef :: tm.getD 68 undef :: tm.getD 69 undef :: [])) (HW : Hid (GwW w3 W (1 + 64 * k) (gwV ps n b L k) Ds)) (h1 : k ≤ n) : GwIn w3 M C n c2 a2 a b ps L { tmps := tm, defers := ds } W :=
  ⟨k, Ds, fun i => tm.getD i undef, by rw [hds]; exact congrArg (fun t => ({ tmps := t, defers := marks Ds } : Act)) h, HW, h1⟩


end Go.Proofs.Ytplcbiconfpmlaa

/-! 'append(row, list...)' of pairs, as a run. -/
namespace Go.Proofs.Ytplcbiconfpmlaa
open Go.RowKit

theorem wp_append_run {P : Program} {o : Oper} {a : Act} {w w' : World} {K : Act → World → Prop} {Q : Exit → Act → World → Prop} {s y : Operand} {T : TypeId} (ho : o.op = .call { callee := .builtin .append, args := #[s, y], argTypes := #[T, T] })
    {v u v' : Value} (hs : a.eval s = v) (hy : a.eval y = u) (hr : (Builtin.append_ #[T, T] o.type #[v, u]).run P w = .ok v' w') (hK : K (a.put o.dst v') w') : o.wp P a w K Q := by
  unfold Oper.wp execOp
  simp only [ho, resolve, invoke, builtin, Sem.run_bind, Sem.run_pure, Result.andThen_ok, List.map_toArray, List.map_cons, List.map_nil, hs, hy, hr]
  exact hK
/-- 'append(row, list...)' of pairs, as a run. -/
theorem append_run {w : World} {base : Nat} {v : Value} {m : Nat} {xs ys : List Int} {ad : Addr} {l c : Nat} (hown : w.ownsRow base 49 2 v m (xs.map (Value.int .i64))) (hbase : base ≤ w.heap.size) (hm : m ≤ 1048576) (hl : l ≤ 1048576) (hys : ys.length = l * 2)
    (hc : ∀ j, j < l * 2 → w.cell? (ad.add j) = some (.int .i64 (ys[j]?.getD 0))) :
    ∃ v' w', (Builtin.append_ #[40, 40] 40 #[v, .slice (some ad) l c]).run Try.prog w = .ok v' w' ∧ w'.ownsRow base 49 2 v' (m + l) ((xs ++ ys).map (Value.int .i64)) ∧ w.grownBy w' v.ownBlock ∧ Below base w w' := by
  obtain ⟨i0, hi, hz0, hz1, hz2⟩ := info_parts info_pair
  obtain ⟨v', w', h1, h2, h3, _, _⟩ := run_append_own_at (P := Try.prog) (w := w) base 40 40 49 i0 (.agg #[.int .i64 0, .int .i64 0]) 2 16 Try.underlying40 hi hz0 hz1 hz2 rfl (by decide) v m (xs.map (Value.int .i64)) hown ad l c (ys.map (Value.int .i64)) (by simp [hys]) (fun j u hj => by
    have hjl : j < ys.length := by
      have := (List.getElem?_eq_some_iff.1 hj).1
      simpa using this
    have h := hc j (by omega)
    rw [List.getElem?_map, List.getElem?_eq_getElem hjl] at hj
    rw [List.getElem?_eq_getElem hjl] at h
    simp at hj h
    rw [h, hj]) (fun u hu => by
    obtain ⟨x, _, rfl⟩ := List.mem_map.1 hu
    rfl) (by unfold maxLen; omega) (by omega) hbase
  exact ⟨v', w', h1, by rw [List.map_append]; exact h2, h3, (Below.refl base w).grown h3 hbase (fun k hk => (hown.lt k hk).1)⟩
/-- A list of one pair. -/
theorem one_pair {w : World} {base : Nat} (hb : base ≤ w.heap.size) (x y : Int) : (w.alloc (.cells #[.int .i64 x, .int .i64 y] 49)).ownsRow base 49 2 (.slice (some ⟨w.heap.size, 0, none⟩) 1 1) 1 ([x, y].map (Value.int .i64)) :=
  ⟨by simp, .inr ⟨w.heap.size, 1, _, rfl, hb, heap_alloc_new w _, Nat.le_refl _, by decide, by simp, by simp⟩⟩

theorem wpList_append_run {P : Program} {ops : Array Oper} {rest : List Oper} {o : Oper} {a : Act} {w w' : World} {Q : Exit → Act → World → Prop} (hgd : o.guard = none) {s y : Operand} {T : TypeId} (ho : o.op = .call { callee := .builtin .append, args := #[s, y], argTypes := #[T, T] })
    {v u v' : Value} (hs : a.eval s = v) (hy : a.eval y = u) (hr : (Builtin.append_ #[T, T] o.type #[v, u]).run P w = .ok v' w') (hK : wpList P ops Q rest (a.put o.dst v') w') : wpList P ops Q (o :: rest) a w :=
  wpList_plain hgd fun _ hK' => wp_append_run ho hs hy hr (hK' _ _ hK)

theorem map_get {ys : List Int} {j : Nat} (h : j < ys.length) : (ys.map (Value.int .i64))[j]? = some (.int .i64 (ys[j]?.getD 0)) := by simp [h]

theorem own_pairs {w : World} {base b n c : Nat} {qs : List Int} (h : w.ownsRow base 49 2 (.slice (some ⟨b, 0, none⟩) n c) n (qs.map (Value.int .i64))) : b < w.heap.size ∧ n ≤ c ∧ ∀ i, i < qs.length → w.cell? ⟨b, 0 + i, none⟩ = some (.int .i64 (qs[i]?.getD 0)) := by
  refine ⟨(h.lt b rfl).2, ?_, fun i hi => ?_⟩
  · rcases h.2 with ⟨h1, _⟩ | ⟨g, cp, cur, h1, _, _, h2, _⟩
    · cases h1
    · injection h1 with _ h3
      omega
  · have := h.cells rfl i _ (map_get hi)
    have hadd : (⟨b, 0, none⟩ : Addr).add i = ⟨b, 0 + i, none⟩ := by unfold Addr.add; split <;> simp_all
    rwa [hadd] at this
theorem row_later {w w' : World} {B base e s n : Nat} {v : Value} {xs : List Value} (h : w.ownsRow base e s v n xs) (hb : Below w.heap.size w w') (_ : B = 0) : w'.ownsRow base e s v n xs :=
  h.kept (row := none) ⟨hb.os, hb.tape, hb.output, hb.size, fun q hq _ => hb.block q hq⟩ (by cases hv : v.ownBlock <;> simp)

end Go.Proofs.Ytplcbiconfpmlaa

/-! l02With: a pair is put into an ascending list. -/
namespace Go.Proofs.Ytplcbiconfpmlaa
open Go.RowKit

attribute [local go_sem] Oper.semAt_some

/-- The place of a pair: behind all that are not greater, from the end on. -/
def placeP (qs : List Int) (x y : Int) : Nat → Nat
  | 0 => 0
  | k + 1 => if lessP x y (at0 qs (k * 2)) (at0 qs (k * 2 + 1)) then placeP qs x y k else k + 1
theorem placeP_le (qs : List Int) (x y : Int) : ∀ n, placeP qs x y n ≤ n
  | 0 => Nat.le_refl _
  | k + 1 => by
    unfold placeP
    split
    · exact Nat.le_succ_of_le (placeP_le qs x y k)
    · exact Nat.le_refl _
/-- The list with the pair. -/
def insP (qs : List Int) (n : Nat) (x y : Int) : List Int := qs.take (2 * placeP qs x y n) ++ (x :: y :: qs.drop (2 * placeP qs x y n))
theorem insP_len {qs : List Int} {n : Nat} (h : qs.length = 2 * n) (x y : Int) : (insP qs n x y).length = 2 * (n + 1) := by
  have := placeP_le qs x y n
  unfold insP
  simp
  omega

/-- At the loop's end. -/
def WhOut (B : Nat) (V : Int) (a0 : Option Addr) (l cap : Nat) (a1 : Option Addr) (n cap1 : Nat) (x y : Int) (P : Nat) (a' : Act) : Prop :=
  ∃ us : Nat → Value, a' = { tmps := List.toArray ((.agg #[.int .i64 V, .slice a0 l cap]) :: (.slice a1 n cap1) :: (.agg #[.int .i64 x, .int .i64 y]) :: (.pointer (some ⟨B, 0, none⟩)) :: us 4 :: (.pointer (some ⟨B + 1, 0, none⟩)) :: (.slice none 0 0) :: (.bool false) :: (.int .i64 (P : Int)) :: us 9 :: us 10 :: us 11 :: us 12 :: us 13 :: us 14 :: us 15 :: us 16 :: us 17 :: us 18 :: us 19 :: us 20 :: us 21 :: us 22 :: us 23 :: us 24 :: us 25 :: us 26 :: us 27 :: us 28 :: us 29 :: us 30 :: us 31 :: us 32 :: us 33 :: us 34 :: us 35 :: us 36 :: us 37 :: us 38 :: us 39 :: us 40 :: us 41 :: us 42 :: []), defers := [] }
theorem whOut_of {B : Nat} {V : Int} {a0 : Option Addr} {l cap : Nat} {a1 : Option Addr} {n cap1 : Nat} {x y : Int} {P : Nat} (tm : Array Value) (h : tm = List.toArray ((.agg #[.int .i64 V, .slice a0 l cap]) :: (.slice a1 n cap1) :: (.agg #[.int .i64 x, .int .i64 y]) :: (.pointer (some ⟨B, 0, none⟩)) :: tm.getD 4 undef :: (.pointer (some ⟨B + 1, 0, none⟩)) :: (.slice none 0 0) :: (.bool false) :: (.int .i64 (P : Int)) :: tm.getD 9 undef :: tm.getD 10 undef :: tm.getD 11 undef :: tm.getD 12 undef :: tm.getD 13 undef :: tm.getD 14 undef :: tm.getD 15 undef :: tm.getD 16 undef :: tm.getD 17 undef :: tm.getD 18 undef :: tm.getD 19 undef :: tm.getD 20 undef :: tm.getD 21 undef :: tm.getD 22 undef :: tm.getD 23 undef :: tm.getD 24 undef :: tm.getD 25 undef :: tm.getD 26 undef :: tm.getD 27 undef :: tm.getD 28 undef :: tm.getD 29 undef :: tm.getD 30 undef :: tm.getD 31 undef :: tm.getD 32 undef :: tm.getD 33 undef :: tm.getD 34 undef :: tm.getD 35 undef :: tm.getD 36 undef :: tm.getD 37 undef :: tm.getD 38 undef :: tm.getD 39 undef :: tm.getD 40 undef :: tm.getD 41 undef :: tm.getD 42 undef :: [])) : WhOut B V a0 l cap a1 n cap1 x y P { tmps := tm, defers := [] } :=
  ⟨fun i => tm.getD i undef, congrArg (fun t => ({ tmps := t, defers := [] } : Act)) h⟩

def WhQ (W0 : World) (B : Nat) (V : Int) (a0 : Option Addr) (l cap : Nat) (a1 : Option Addr) (n cap1 : Nat) (x y : Int) (P : Nat) : Exit → Act → World → Prop
  | .exit 0, a', wr => WhOut B V a0 l cap a1 n cap1 x y P a' ∧ Below W0.heap.size W0 wr
  | _, _, _ => False

set_option maxRecDepth 1000000 in
set_option maxHeartbeats 4000000 in
theorem with_any (V : Int) (a0 : Option Addr) (cap : Nat) (fs : List Int) (b off n cap1 : Nat) (qs : List Int) (x y : Int) (w : World) (hx : SlI w w.heap.size a0 fs) (hb : b < w.heap.size) (hcl : ∀ i, i < qs.length → w.cell? ⟨b, off + i, none⟩ = some (.int .i64 (qs[i]?.getD 0))) (hl : fs.length ≤ 1048576) (hf : ∀ x ∈ fs, 1 ≤ x ∧ x ≤ 63) (hp : qs.length = 2 * n) (hn : n + 1 ≤ 1048576) (hcap : n ≤ cap1) :
    Calls Try.prog 76 #[.agg #[.int .i64 V, .slice a0 fs.length cap], .slice (some ⟨b, off, none⟩) n cap1, .agg #[.int .i64 x, .int .i64 y]] w fun e w' => ∃ v, e = .returned (.tuple #[v, .bool (pairingB fs (insP qs n x y) (n + 1))]) ∧ w'.ownsRow w.heap.size 49 2 v (n + 1) ((insP qs n x y).map (Value.int .i64)) ∧ Below w.heap.size w w' := by
  obtain ⟨W0, hW0⟩ : ∃ W0, W0 = (w.alloc (.cells #[.int .i64 V, .slice a0 fs.length cap] 28)).alloc (.cells #[.int .i64 x, .int .i64 y] 49) := ⟨_, rfl⟩
  have hB0 : Below w.heap.size w W0 := by rw [hW0]; exact ((Below.refl _ w).alloc (Nat.le_refl _) _).alloc (by simp) _
  have hs0 : W0.heap.size = w.heap.size + 2 := by rw [hW0]; simp
  have hpb : W0.heap[w.heap.size + 1]? = some (.cells #[.int .i64 x, .int .i64 y] 49 (0, 0)) := by
    have := heap_alloc_new (w.alloc (.cells #[.int .i64 V, .slice a0 fs.length cap] 28)) (.cells #[.int .i64 x, .int .i64 y] 49)
    rw [World.size_alloc] at this
    rw [hW0]
    exact this
  have hk0 : W0.cell? ⟨w.heap.size, 0, none⟩ = some (.int .i64 V) := by rw [hW0]; simp [go_sem]
  have hk1 : W0.cell? ⟨w.heap.size, 1, none⟩ = some (.slice a0 fs.length cap) := by rw [hW0]; simp [go_sem]
  have Hcl := hid hcl
  have Hp := hid hp
  have HB0 := hid hB0
  have Hpb := hid hpb
  have Hk0 := hid hk0
  have Hk1 := hid hk1
  have Hx := hid hx
  obtain ⟨P, hP⟩ : ∃ P, P = placeP qs x y n := ⟨_, rfl⟩
  have HP := hid hP
  clear hx hcl hp hB0 hpb hk0 hk1 hP
  go_enter Try.func76, Try.ntmps76
  go_wp2_with fail
  rw [← hW0]
  clear hW0
  refine wp_mono (Q := WhQ W0 w.heap.size V a0 fs.length cap (some ⟨b, off, none⟩) n cap1 x y P) ?_ ?_
  · go_loopw [8] (fun i wr => ∃ k : Nat, k ≤ n ∧ i = .int .i64 k ∧ Hid (placeP qs x y k = P) ∧ Below W0.heap.size W0 wr) (fun i _ => (intOf i).toNat)
    case atStart => exact ⟨n, Nat.le_refl _, rfl, hid HP.out.symm, Below.refl _ _⟩
    case round =>
      obtain ⟨k, hk, rfl, Hk, hB⟩ := hrel
      rcases k with _ | k
      · have HB := hid hB
        have HP0 : Hid (P = 0) := hid Hk.out.symm
        clear hB
        go_wp2_with fail
        go_quiet (fail)
        go_wp2_with fail
        rw [HP0.out]
        exact ⟨whOut_of _ rfl, HB.out.trans (below_drewN (Below.refl _ wr) _)⟩
      · have hcl := Hcl.out
        have hBw := HB0.out.trans (hB.mono HB0.out.size)
        have hc2 : wr.cell? ⟨b, off + k * 2, none⟩ = some (.int .i64 (at0 qs (k * 2))) := (hBw.cell (p := ⟨b, off + k * 2, none⟩) hb).trans (hcl _ (by have := Hp.out; omega))
        have hc3 : wr.cell? ⟨b, off + k * 2 + 1, none⟩ = some (.int .i64 (at0 qs (k * 2 + 1))) := (hBw.cell (p := ⟨b, off + (k * 2 + 1), none⟩) hb).trans (hcl _ (by have := Hp.out; omega))
        obtain ⟨x', hx'⟩ : ∃ x, x = at0 qs (k * 2) := ⟨_, rfl⟩
        obtain ⟨y', hy'⟩ : ∃ y, y = at0 qs (k * 2 + 1) := ⟨_, rfl⟩
        rw [← hx'] at hc2
        rw [← hy'] at hc3
        obtain ⟨p0, p1, _, _⟩ := two_of ((hB.block _ (lt_of_get Hpb.out)).trans Hpb.out)
        obtain ⟨c, hcc⟩ : ∃ c, c = lessP x y x' y' := ⟨_, rfl⟩
        have HL := hid (less_any x y x' y' wr.drew)
        rw [← hcc] at HL
        have hi0 : (0 : Int) ≤ (k : Int) := by omega
        have hi1 : (k : Int) < (n : Int) := by omega
        have hpos : (0 : Int) < ((k + 1 : Nat) : Int) := by omega
        have hwr : IntKind.i64.wrap ((k : Int) + 1 - 1) = (k : Int) := by rw [IntKind.wrap_i64]; omega
        have hwr3 : IntKind.i64.wrap (k : Int) = (k : Int) := by rw [IntKind.wrap_i64]; omega
        have hwr2 : IntKind.i64.wrap (((k + 1 : Nat) : Int) - 1) = (k : Int) := by rw [IntKind.wrap_i64]; omega
        have HB := hid hB
        have Hxy : Hid (placeP qs x y (k + 1) = if c then placeP qs x y k else k + 1) := hid (by rw [hcc, hx', hy']; rfl)
        clear hcl hx' hy' hB hBw hcc
        go_wp2_with fail
        go_region_with (go_at_call 131; refine HL.out.mono ?_; rintro e w2 ⟨rfl, hB2⟩; have HB2 := hid hB2; clear hB2)
        all_goals
          have HB3 := hid (HB.out.trans (((below_drewN (Below.refl _ wr) 1).trans HB2.out).mono HB.out.size))
          cases c
          · have HP0 : Hid (P = k + 1) := hid (by rw [← Hk.out, Hxy.out]; rfl)
            go_wp2_with fail
            rw [HP0.out]
            exact ⟨whOut_of _ rfl, HB3.out⟩
          · have HP0 : Hid (placeP qs x y k = P) := hid (by rw [← Hk.out, Hxy.out]; rfl)
            go_wp2_with fail
            go_roundw
            case rel => exact ⟨k, by omega, by go_num, HP0, HB3.out⟩
            case measure => simp [intOf]
  · rintro e a' wr h
    cases e with
    | exit id =>
      rcases id with _ | id
      · obtain ⟨⟨us, rfl⟩, hB⟩ := h
        have hPn := placeP_le qs x y n
        rw [← HP.out] at hPn
        have hBw := HB0.out.trans (hB.mono HB0.out.size)
        obtain ⟨p0, p1, _, _⟩ := two_of ((hB.block _ (lt_of_get Hpb.out)).trans Hpb.out)
        have k0 := (hB.cell (p := ⟨w.heap.size, 0, none⟩) (by simp only; omega)).trans Hk0.out
        have k1 := (hB.cell (p := ⟨w.heap.size, 1, none⟩) (by simp only; omega)).trans Hk1.out
        have hi0 : (0 : Int) ≤ (P : Int) := by omega
        have hi1 : (P : Int) ≤ (n : Int) := by omega
        have hi2 : (n : Int) ≤ (cap1 : Int) := by omega
        have hi3 : (P : Int) ≤ (cap1 : Int) := by omega
        have HBw := hid hBw
        have Hi := hid hPn
        clear hBw hPn
        have hcl := Hcl.out
        · obtain ⟨ad, had, hadc⟩ : ∃ ad : Addr, (if cap1 = P then some (⟨b, off, none⟩ : Addr) else some ⟨b, off + P * 2, none⟩) = some ad ∧ ∀ W', Below w.heap.size w W' → ∀ j, j < (n - P) * 2 → W'.cell? (ad.add j) = some (.int .i64 ((qs.drop (2 * P))[j]?.getD 0)) := by
            by_cases hcp : cap1 = P
            · exact ⟨_, if_pos hcp, fun W' _ j hj => by have := Hi.out; omega⟩
            · refine ⟨_, if_neg hcp, fun W' h j hj => ?_⟩
              have hadd : (⟨b, off + P * 2, none⟩ : Addr).add j = ⟨b, off + (P * 2 + j), none⟩ := by unfold Addr.add; split <;> simp_all [Nat.add_assoc]
              rw [hadd, (h.cell (p := ⟨b, off + (P * 2 + j), none⟩) hb), hcl _ (by have := Hp.out; omega), List.getElem?_drop, Nat.mul_comm 2 P]
          have hW1 := one_pair (w := wr.drew) (base := wr.heap.size) (Nat.le_refl _) x y
          have hBd : Below wr.heap.size wr (wr.drew.alloc (.cells #[.int .i64 x, .int .i64 y] 49)) := (below_drewN (Below.refl _ wr) 1).alloc (Nat.le_refl _) _
          obtain ⟨v1, W2, hr1, hown1, hg1, hb1⟩ := append_run (l := n - P) (c := cap1 - P) (ys := qs.drop (2 * P)) hW1 hBd.size (by omega) (by omega) (by have := Hp.out; simp; omega) (hadc _ (HBw.out.trans (hBd.mono HBw.out.size)))
          have hB2 := hBd.trans hb1
          obtain ⟨g1, c1, rfl, hg1l⟩ : ∃ g c, v1 = .slice (some ⟨g, 0, none⟩) (1 + (n - P)) c ∧ g < W2.heap.size := by
            rcases hown1.2 with ⟨_, h0⟩ | ⟨g, cp, cur, h1, _, h2, _⟩
            · omega
            · exact ⟨g, cp, h1, lt_of_get h2⟩
          have hown0 := World.ownsRow_made (base := wr.heap.size) (e := 49) (size := 2) W2 #[] 0 hB2.size (by unfold maxLen; omega) rfl
          have hB3 : Below wr.heap.size wr (W2.alloc (.cells #[] 49)) := hB2.alloc hB2.size _
          obtain ⟨v4, W4, hr4, hown4, hg4, hb4⟩ := append_run (xs := []) (ad := ⟨b, off, none⟩) (l := P) (c := cap1) (ys := qs.take (2 * P)) hown0 hB3.size (by omega) (by omega) (by have := Hp.out; have := Hi.out; simp; omega) (fun j hj => by
            have hadd : (⟨b, off, none⟩ : Addr).add j = ⟨b, off + j, none⟩ := by unfold Addr.add; split <;> simp_all
            rw [hadd, ((HBw.out.trans (hB3.mono HBw.out.size)).cell (p := ⟨b, off + j, none⟩) hb), hcl _ (by have := Hp.out; have := Hi.out; omega), List.getElem?_take_of_lt (by omega)])
          have hB4 := hB3.trans hb4
          have hown1' := (hown1.alloc (.cells #[] 49)).kept hg4 (.inr (by intro e; simp [Value.ownBlock] at e; omega))
          obtain ⟨v5, W5, hr5, hown5, hg5, hb5⟩ := append_run (ad := ⟨g1, 0, none⟩) (l := 1 + (n - P)) (c := c1) (ys := [x, y] ++ qs.drop (2 * P)) hown4 hB4.size (by have := Hi.out; omega) (by omega) (by have := Hp.out; simp; omega) (fun j hj => hown1'.cells rfl j _ (map_get (by have := Hp.out; simp; omega)))
          have hB5 := hB4.trans hb5
          have hall : ([] ++ qs.take (2 * P)) ++ ([x, y] ++ qs.drop (2 * P)) = insP qs n x y := by unfold insP; rw [← HP.out]; simp
          rw [hall, show 0 + P + (1 + (n - P)) = n + 1 by have := Hi.out; omega] at hown5
          obtain ⟨g5, c5, rfl⟩ : ∃ g c, v5 = .slice (some ⟨g, 0, none⟩) (n + 1) c := by
            rcases hown5.2 with ⟨_, h0⟩ | ⟨g, cp, cur, h1, _, h2, _⟩
            · omega
            · exact ⟨g, cp, h1⟩
          have hBW5 := HBw.out.trans (hB5.mono HBw.out.size)
          have HI := hid (pis_any V a0 cap fs (some ⟨g5, 0, none⟩) (n + 1) c5 (insP qs n x y) W5 (Hx.out.later hBW5 hBW5.size) (flat_slI hown5) hl hf (insP_len Hp.out x y) hn)
          have q0 := (hB5.cell (p := ⟨w.heap.size, 0, none⟩) (by have := HBw.out.size; have := lt_of_get Hpb.out; have := hB.size; simp only; omega)).trans k0
          have q1 := (hB5.cell (p := ⟨w.heap.size, 1, none⟩) (by have := HBw.out.size; have := lt_of_get Hpb.out; have := hB.size; simp only; omega)).trans k1
          have Hown5 := hid (ownsRow_base hown5 HBw.out.size)
          have HBW5 := hid hBW5
          clear hown5 hB5 hBW5 hall hown1' hB4 hown4 hg4 hb4 hB3 hown0 hB2 hown1 hg1 hb1 hg5 hb5 hW1 hBd hadc
          simp only [Exit.inBlock, Exit.then]
          go_wp2_with fail
          refine wp_region_any (by kernel_rfl) ?_
          refine wpAny_take (i := 2) (v := ?_) rfl (by kernel_rfl) (by kernel_rfl) (by kernel_rfl) (fun _ _ _ h => h) (Or.inl ⟨by rfl, ?_⟩) ?_
          rotate_left
          · intro w; go_simp; rfl
          refine wpAny_take (i := 3) (v := ?_) rfl (by kernel_rfl) (by kernel_rfl) (by kernel_rfl) (fun _ _ _ h => h) (Or.inl ⟨by rfl, ?_⟩) ?_
          rotate_left
          · intro w; go_simp; rfl
          refine wpAny_take (i := 4) (v := ?_) rfl (by kernel_rfl) (by kernel_rfl) (by kernel_rfl) (fun _ _ _ h => h) (Or.inl ⟨by rfl, ?_⟩) ?_
          rotate_left
          · intro w; go_simp; rfl
          refine wpAny_ready (rs := [0]) (by kernel_rfl) (by simp) ?_
          refine AllReady.cons rfl (fun K hK => ?_) AllReady.nil
          go_simp
          refine hK _ _ ?_
          clear hK K
          refine wpAny_ready (rs := [1]) (by kernel_rfl) (by simp) ?_
          refine AllReady.cons rfl (fun K hK => ?_) AllReady.nil
          go_simp
          refine hK _ _ ?_
          clear hK K
          refine wpAny_ready (rs := [5]) (by kernel_rfl) (by simp) ?_
          refine AllReady.cons rfl (fun K hK => ?_) AllReady.nil
          rw [if_pos (by rfl)]
          refine wp_append_run rfl rfl (show _ = Value.slice (some ad) (n - P) (cap1 - P) from by first | exact congrArg (fun t => Value.slice t (n - P) (cap1 - P)) had | (rw [← had]; rfl)) hr1 ?_
          refine hK _ _ ?_
          clear hK K
          refine wpAny_ready (rs := [6]) (by kernel_rfl) (by simp) ?_
          refine AllReady.cons rfl (fun K hK => ?_) AllReady.nil
          go_simp
          refine hK _ _ ?_
          clear hK K
          refine wpAny_done (by kernel_rfl) ?_ _
          simp only [Exit.then]
          go_wp2_with (first
            | (at_builtin; first | (refine wpList_append_run rfl rfl rfl rfl hr4 ?_) | (refine wpList_append_run rfl rfl rfl rfl hr5 ?_))
            | (go_at_call 129; refine HI.out.mono ?_; rintro e w6 ⟨rfl, hB6⟩; have HB6 := hid hB6; clear hB6))
          go_ret2
          exact ⟨_, rfl, Hown5.out.kept (row := none) ⟨HB6.out.os, HB6.out.tape, HB6.out.output, HB6.out.size, fun k hk _ => HB6.out.block k hk⟩ (.inr (by simp [Value.ownBlock])), HBW5.out.trans (HB6.out.mono HBW5.out.size)⟩
      · exact h.elim
    | normal => exact h.elim
    | goto l => exact h.elim
    | ret => exact h.elim
    | panic ch => exact h.elim
    | outgrown => exact h.elim

end Go.Proofs.Ytplcbiconfpmlaa

/-! slices.Clone and slices.BinarySearchFunc over pairs. -/
namespace Go.Proofs.Ytplcbiconfpmlaa
open Go.RowKit

set_option maxRecDepth 100000 in
set_option maxHeartbeats 2000000 in
theorem clone_any (a : Option Addr) (n cap : Nat) (ps : List Int) (w : World) (hx : SlI w w.heap.size a ps) (hp : ps.length = 2 * n) (hl : n ≤ 1048576) :
    Calls Try.prog 72 #[.slice a n cap] w fun e w' => ∃ v, e = .returned v ∧ w'.ownsRow w.heap.size 49 2 v n (ps.map (Value.int .i64)) ∧ Below w.heap.size w w' := by
  have q22 : ∀ (w : World) (a : Option Addr) (n c n' c' : Nat), (binOp .eql 40 (.slice a n c) (.slice none n' c')).run Try.prog w = .ok (.bool a.isNone) w := fun w a n c n' c' => Lib.run_eql_slice_nil w _ _ a n c n' c' Try.underlying40
  rcases a with _ | ad
  · obtain rfl : ps = [] := by
      rcases hx with h | ⟨b, off, _, h, _⟩
      · exact h
      · cases h
    obtain rfl : n = 0 := by simp at hp; omega
    go_enter Try.func72, Try.ntmps72
    go_wp2_with fail
    go_ret
    exact ⟨_, rfl, World.ownsRow_nil _ _ _ _, Below.refl _ _⟩
  · have hown0 := World.ownsRow_made (base := w.heap.size) (e := 49) (size := 2) w #[] 0 (Nat.le_refl _) (by unfold maxLen; omega) rfl
    have hB0 : Below w.heap.size w (w.alloc (.cells #[] 49)) := (Below.refl _ w).alloc (Nat.le_refl _) _
    obtain ⟨v4, W4, hr4, hown4, hg4, hb4⟩ := append_run (xs := []) (ad := ad) (l := n) (c := cap) (ys := ps) hown0 hB0.size (by omega) (by omega) (by omega) (fun j hj => by
      rcases hx with h | ⟨b, off, hb, h, hc⟩
      · subst h; simp at hp; omega
      · injection h with h
        subst h
        have hadd : (⟨b, off, none⟩ : Addr).add j = ⟨b, off + j, none⟩ := by unfold Addr.add; split <;> simp_all
        rw [hadd, hB0.cell (p := ⟨b, off + j, none⟩) hb]
        exact hc j (by omega))
    rw [Nat.zero_add, List.nil_append] at hown4
    have HO := hid hown4
    have HB := hid (hB0.trans hb4)
    clear hown4 hb4 hg4 hown0 hB0 hx
    go_enter Try.func72, Try.ntmps72
    go_wp2_with (at_builtin; refine wpList_append_run rfl rfl rfl rfl hr4 ?_)
    go_ret
    exact ⟨_, rfl, HO.out, HB.out⟩

/-- What stands ahead of a pair stands ahead of what does not. -/
def MonoP (ps : List Int) (n : Nat) : Prop := ∀ i j, i < j → j < n → lessP (at0 ps (i * 2)) (at0 ps (i * 2 + 1)) (at0 ps (j * 2)) (at0 ps (j * 2 + 1)) = true
theorem lessP_trans {x y x' y' x'' y'' : Int} (h1 : lessP x y x' y' = true) (h2 : lessP x' y' x'' y'' = true) : lessP x y x'' y'' = true := by
  unfold lessP at *
  simp only [Bool.or_eq_true, Bool.and_eq_true, decide_eq_true_eq] at *
  omega

set_option maxRecDepth 1000000 in
set_option maxHeartbeats 4000000 in
theorem bin_any (a : Option Addr) (n cap : Nat) (ps : List Int) (x y : Int) (w : World) (hx : SlI w w.heap.size a ps) (hp : ps.length = 2 * n) (hl : n ≤ 1048576) (hm : MonoP ps n) :
    Calls Try.prog 127 #[.slice a n cap, .agg #[.int .i64 x, .int .i64 y], .func (.func 88) #[] #[]] w fun e w' =>
      ∃ (k : Nat) (f : Bool), e = .returned (.tuple #[.int .i64 k, .bool f]) ∧ (k ≤ n ∧ (∀ j, j < k → lessP (at0 ps (j * 2)) (at0 ps (j * 2 + 1)) x y = true) ∧ (∀ j, k ≤ j → j < n → lessP (at0 ps (j * 2)) (at0 ps (j * 2 + 1)) x y = false)) ∧ Below w.heap.size w w' := by
  have hent : ∀ args w, (callFunc 88 args).run Try.prog w = .ok (.enter 88 args) w := enters_of Try.func88 (by kernel_rfl) rfl
  obtain ⟨W0, hW0⟩ : ∃ W0, W0 = w.alloc (.cells #[.int .i64 x, .int .i64 y] 49) := ⟨_, rfl⟩
  have hB0 : Below w.heap.size w W0 := by rw [hW0]; exact (Below.refl _ w).alloc (Nat.le_refl _) _
  have hpb : W0.heap[w.heap.size]? = some (.cells #[.int .i64 x, .int .i64 y] 49 (0, 0)) := by rw [hW0]; exact heap_alloc_new w _
  have Hc : Hid (0 < n → ∃ b off, b < w.heap.size ∧ a = some ⟨b, off, none⟩ ∧ ∀ i, i < ps.length → w.cell? ⟨b, off + i, none⟩ = some (.int .i64 (at0 ps i))) := hid (fun h0 => by
    rcases hx with rfl | h
    · simp at hp; omega
    · obtain ⟨b, off, h1, h2, h3⟩ := h
      exact ⟨b, off, h1, h2, h3⟩)
  have Hp := hid hp
  have HB0 := hid hB0
  have Hpb := hid hpb
  have M := hid hm
  clear hp hB0 hpb hm hx
  go_enter Try.func127, Try.ntmps127
  go_wp2_with fail
  rw [← hW0]
  clear hW0
  go_loopg [9, 10] n (fun kx s9 s10 wr => ∃ lo hi : Nat, s9 = .int .i64 lo ∧ s10 = .int .i64 hi ∧ lo ≤ hi ∧ hi ≤ n ∧ hi - lo ≤ kx ∧ Hid (Below W0.heap.size W0 wr) ∧
    Hid ((∀ t, t < lo → lessP (at0 ps (t * 2)) (at0 ps (t * 2 + 1)) x y = true) ∧ (∀ t, hi ≤ t → t < n → lessP (at0 ps (t * 2)) (at0 ps (t * 2 + 1)) x y = false)))
  case atStart => exact ⟨0, n, rfl, rfl, Nat.zero_le _, Nat.le_refl _, by omega, hid (Below.refl _ _), hid ⟨fun t ht => absurd ht (Nat.not_lt_zero _), fun t h1 h2 => by omega⟩⟩
  case round =>
    obtain ⟨lo, hi, rfl, rfl, hlh, hin, hg, HB, I⟩ := hrel
    have hBw := HB0.out.trans (HB.out.mono HB0.out.size)
    obtain ⟨p0, p1, _, _⟩ := two_of ((HB.out.block _ (lt_of_get Hpb.out)).trans Hpb.out)
    by_cases hlt : lo < hi
    · obtain ⟨b, off, hb, rfl, hc⟩ := Hc.out (by omega)
      obtain ⟨m, hm⟩ : ∃ m, m = (lo + hi) / 2 := ⟨_, rfl⟩
      have c0 : wr.cell? ⟨b, off + m * 2, none⟩ = some (.int .i64 (at0 ps (m * 2))) := (hBw.cell (p := ⟨b, off + m * 2, none⟩) hb).trans (hc _ (by have := Hp.out; omega))
      have c1 : wr.cell? ⟨b, off + m * 2 + 1, none⟩ = some (.int .i64 (at0 ps (m * 2 + 1))) := (hBw.cell (p := ⟨b, off + (m * 2 + 1), none⟩) hb).trans (hc _ (by have := Hp.out; omega))
      have HBw := hid hBw
      obtain ⟨x', hx'⟩ : ∃ x, x = at0 ps (m * 2) := ⟨_, rfl⟩
      obtain ⟨y', hy'⟩ : ∃ y, y = at0 ps (m * 2 + 1) := ⟨_, rfl⟩
      rw [← hx'] at c0
      rw [← hy'] at c1
      have Hstep : Hid ((lessP x' y' x y = true → ∀ t, t < m + 1 → lessP (at0 ps (t * 2)) (at0 ps (t * 2 + 1)) x y = true) ∧ (lessP x' y' x y = false → ∀ t, m ≤ t → t < n → lessP (at0 ps (t * 2)) (at0 ps (t * 2 + 1)) x y = false)) := hid (by
        rw [hx', hy']
        refine ⟨fun h t ht => ?_, fun h t h1 h2 => ?_⟩
        · by_cases e : t = m
          · rw [e]; exact h
          · exact lessP_trans (M.out t m (by omega) (by omega)) h
        · by_cases e : t = m
          · rw [e]; exact h
          · cases hc : lessP (at0 ps (t * 2)) (at0 ps (t * 2 + 1)) x y
            · rfl
            · rw [lessP_trans (M.out m t (by omega) h2) hc] at h
              cases h)
      have Hneg := hid (cmpP_neg x' y' x y)
      obtain ⟨q, hq⟩ : ∃ q, q = cmpP x' y' x y := ⟨_, rfl⟩
      have Hq := hid hq
      rw [← hq] at Hneg
      have hsum : ((lo : Int) + (hi : Int)) / 2 = (m : Int) := by omega
      have hi0 : (0 : Int) ≤ (m : Int) := by omega
      have hi1 : (m : Int) < (n : Int) := by omega
      have Hm : Hid (lo ≤ m ∧ m < hi) := hid (by omega)
      clear hx' hy' hq hBw hc hm
      go_wp2_with fail
      go_region_with (go_at_call 88; refine (cp_any x' y' x y _).mono ?_; rintro e w2 ⟨rfl, hB2⟩; rw [← Hq.out])
      all_goals
        have HB2 := hid (HB.out.trans (Below.mono (w := wr) ⟨hB2.os, hB2.tape, hB2.output, hB2.size, hB2.block⟩ HB.out.size))
        clear hB2
        by_cases hql : q < 0
        · have He := hid (Hstep.out.1 (Hneg.out.1 hql))
          go_wp2_with fail
          go_roundg (hi - (m + 1))
          case measure => have := Hm.out; omega
          case rel => exact ⟨m + 1, hi, by go_num, rfl, by have := Hm.out; omega, hin, Nat.le_refl _, HB2, hid ⟨He.out, I.out.2⟩⟩
        · have He := hid (Hstep.out.2 (by
            cases hc : lessP x' y' x y
            · rfl
            · exact absurd (Hneg.out.2 hc) hql))
          have hq0 : 0 ≤ q := by omega
          clear hql
          go_wp2_with fail
          go_roundg (m - lo)
          case measure => have := Hm.out; omega
          case rel => exact ⟨lo, m, rfl, by go_num, Hm.out.1, by have := Hm.out; omega, Nat.le_refl _, HB2, hid ⟨I.out.1, He.out⟩⟩
    · obtain rfl : hi = lo := by omega
      by_cases hn : hi < n
      · obtain ⟨b, off, hb, rfl, hc⟩ := Hc.out (by omega)
        have c0 : wr.cell? ⟨b, off + hi * 2, none⟩ = some (.int .i64 (at0 ps (hi * 2))) := (hBw.cell (p := ⟨b, off + hi * 2, none⟩) hb).trans (hc _ (by have := Hp.out; omega))
        have c1 : wr.cell? ⟨b, off + hi * 2 + 1, none⟩ = some (.int .i64 (at0 ps (hi * 2 + 1))) := (hBw.cell (p := ⟨b, off + (hi * 2 + 1), none⟩) hb).trans (hc _ (by have := Hp.out; omega))
        have HBw := hid hBw
        obtain ⟨x', hx'⟩ : ∃ x, x = at0 ps (hi * 2) := ⟨_, rfl⟩
        obtain ⟨y', hy'⟩ : ∃ y, y = at0 ps (hi * 2 + 1) := ⟨_, rfl⟩
        rw [← hx'] at c0
        rw [← hy'] at c1
        clear hx' hy' hBw hc
        go_wp2_with fail
        go_region_held3 (fun w' => w'.cell? ⟨w.heap.size, 0, none⟩ = some (.int .i64 x) ∧ w'.cell? ⟨w.heap.size, 1, none⟩ = some (.int .i64 y) ∧ w'.cell? ⟨b, off + hi * 2, none⟩ = some (.int .i64 x') ∧ w'.cell? ⟨b, off + hi * 2 + 1, none⟩ = some (.int .i64 y')) (go_keep) (first
          | (go_at_call 88; refine (cp_any x' y' x y _).mono ?_; rintro e w2 ⟨rfl, hB2⟩; have r0 := (hB2.cell (p := ⟨w.heap.size, 0, none⟩) (lt_of_get ((HB.out.block _ (lt_of_get Hpb.out)).trans Hpb.out))).trans p0; have r1 := (hB2.cell (p := ⟨w.heap.size, 1, none⟩) (lt_of_get ((HB.out.block _ (lt_of_get Hpb.out)).trans Hpb.out))).trans p1; have r2 := (hB2.cell (p := ⟨b, off + hi * 2, none⟩) (Nat.lt_of_lt_of_le hb HBw.out.size)).trans c0; have r3 := (hB2.cell (p := ⟨b, off + hi * 2 + 1, none⟩) (Nat.lt_of_lt_of_le hb HBw.out.size)).trans c1)
          | fail)
        all_goals
          go_wp2_with fail
          go_ret2
          exact ⟨hi, _, rfl, ⟨hin, I.out.1, I.out.2⟩, HB0.out.trans ((HB.out.trans (Below.mono (w := wr) ⟨hB2.os, hB2.tape, hB2.output, hB2.size, hB2.block⟩ HB.out.size)).mono HB0.out.size)⟩
      · have hnl : ¬ ((hi : Int) < (n : Int)) := by omega
        go_wp2_with fail
        go_quiet (fail)
        go_wp2_with fail
        go_ret2
        exact ⟨hi, _, rfl, ⟨hin, I.out.1, I.out.2⟩, hBw.trans ((below_drewN (Below.refl _ wr) _).mono hBw.size)⟩

end Go.Proofs.Ytplcbiconfpmlaa

/-! slices.Insert of one pair. -/
namespace Go.Proofs.Ytplcbiconfpmlaa
open Go.RowKit

theorem wp_copy_run {P : Program} (w : World) {o : Oper} {a : Act} {K : Act → World → Prop} {Q : Exit → Act → World → Prop} (d s : Operand) (t t' : TypeId)
    (ho : o.op = .call { callee := .builtin .copy, args := #[d, s], argTypes := #[t, t'] }) (v u : Value) (hd : a.eval d = v) (hs : a.eval s = u) {v' : Value} {w' : World}
    (hr : (Builtin.copy_ #[t, t'] o.type #[v, u]).run P w = .ok v' w') (h : K (a.put o.dst v') w') : o.wp P a w K Q := by
  unfold Oper.wp execOp
  simp only [ho, resolve, invoke, builtin, Sem.run_bind, Sem.run_pure, Result.andThen_ok, List.map_toArray, List.map_cons, List.map_nil, hd, hs, hr]
  exact h
theorem wpList_copy_run {P : Program} (w : World) {ops : Array Oper} {rest : List Oper} {o : Oper} {a : Act} {Q : Exit → Act → World → Prop} (hgd : o.guard = none) (d s : Operand) (t t' : TypeId)
    (ho : o.op = .call { callee := .builtin .copy, args := #[d, s], argTypes := #[t, t'] }) (v u : Value) (hd : a.eval d = v) (hs : a.eval s = u) {v' : Value} {w' : World}
    (hr : (Builtin.copy_ #[t, t'] o.type #[v, u]).run P w = .ok v' w') (h : wpList P ops Q rest (a.put o.dst v') w') : wpList P ops Q (o :: rest) a w :=
  wpList_plain hgd fun _ hK => wp_copy_run w d s t t' ho v u hd hs hr (hK _ _ h)
theorem step_copy_run {P : Program} {ops : Array Oper} {o : Oper} {a : Act} {w : World} {K : Act → World → Prop} {Q : Exit → Act → World → Prop} {E : Prop}
    (hg : o.guard = none) (d x : Operand) (dT sT : TypeId) (hop : o.op = Op.call { callee := Callee.builtin Builtin.copy, args := #[d, x], argTypes := #[dT, sT] })
    (v u : Value) (hd : a.eval d = v) (hx : a.eval x = u) {v' : Value} {w' : World} (hr : (Builtin.copy_ #[dT, sT] o.type #[v, u]).run P w = .ok v' w') (hK : K (a.put o.dst v') w') :
    if Region.wanted o (yielded ops a.tmps) = true then Oper.wp P o a w K Q else E := by
  have hw : Region.wanted o (yielded ops a.tmps) = true := by simp [Region.wanted, hg]
  rw [if_pos hw]
  exact wp_copy_run w d x dT sT hop v u hd hx hr hK

/-- 'copy' at elements of two cells. -/
theorem run_copy_two {P : Program} (w : World) (dT sT ty elem : TypeId) (b o dLen dCap : Nat) (a : Addr) (sLen sCap : Nat) (cs : List Value)
    (hu : P.underlying dT = some (.slice elem)) (hs : (P.info? elem).map (·.size) = some 2) (hn : cs.length = Nat.min sLen dLen * 2)
    (hsrc : ∀ j v, cs[j]? = some v → w.cell? (a.add j) = some v) (hc : ∀ j, j < cs.length → (w.cell? ⟨b, o + j, none⟩).isSome = true) (hf : ∀ j, j < cs.length → w.frozen? ⟨b, o + j, none⟩ = false) (h1 : ∀ v ∈ cs, v.oneCell' = true) :
    (Builtin.copy_ #[dT, sT] ty #[.slice (some ⟨b, o, none⟩) dLen dCap, .slice (some a) sLen sCap]).run P w = .ok (goInt (Nat.min sLen dLen)) (w.setCells b o cs) := by
  have hl := run_loadCells_list (P := P) w a cs hsrc
  have hst := run_storeCells_cells (P := P) b o cs 0 w (by simpa using hc) (by simpa using hf) h1
  cases hq : P.info? elem with
  | none => simp [hq] at hs
  | some i =>
    have hi : i.size = 2 := by simpa [hq] using hs
    simp [Builtin.copy_, run_underlying hu, Builtin.lenOf, Builtin.firstCells, sizeOf, typeInfo, hq, hi, ← hn, hl, hst]

/-- Values written over an array's cells. -/
def putA (cur : Array Value) : Nat → List Value → Array Value
  | _, [] => cur
  | o, v :: r => putA (cur.setIfInBounds o v) (o + 1) r
theorem putA_size : ∀ (vs : List Value) (cur : Array Value) (o : Nat), (putA cur o vs).size = cur.size
  | [], _, _ => rfl
  | v :: r, cur, o => by rw [putA, putA_size r]; simp
theorem putA_get : ∀ (vs : List Value) (cur : Array Value) (o j : Nat), o + vs.length ≤ cur.size → (putA cur o vs)[j]? = if o ≤ j ∧ j < o + vs.length then vs[j - o]? else cur[j]?
  | [], cur, o, j, _ => by
    rw [putA, if_neg (by simp)]
  | v :: r, cur, o, j, h => by
    simp only [List.length_cons] at h
    rw [putA, putA_get r _ (o + 1) j (by simp; omega)]
    by_cases h1 : o + 1 ≤ j ∧ j < o + 1 + r.length
    · rw [if_pos h1, if_pos (by simp only [List.length_cons]; omega), show j - o = (j - (o + 1)) + 1 by omega]
      simp
    · rw [if_neg h1]
      by_cases h2 : j = o
      · subst h2
        rw [if_pos (by simp only [List.length_cons]; omega)]
        simp [Array.getElem?_setIfInBounds]
        omega
      · rw [if_neg (by simp only [List.length_cons]; omega)]
        rw [Array.getElem?_setIfInBounds, if_neg (by omega)]
theorem setCells_heap {e : TypeId} {g : Nat} : ∀ (vs : List Value) (o : Nat) (w : World) (cur : Array Value), w.heap[g]? = some (.cells cur e (0, 0)) → (w.setCells g o vs).heap[g]? = some (.cells (putA cur o vs) e (0, 0))
  | [], _, _, _, h => h
  | v :: r, o, w, cur, h => by
    rw [World.setCells, putA]
    exact setCells_heap r (o + 1) _ _ (heap_setCell_same w g o cur e v h)
theorem setCells_grown {g : Nat} : ∀ (vs : List Value) (o : Nat) (w : World), w.grownBy (w.setCells g o vs) (some g)
  | [], _, w => ⟨rfl, rfl, rfl, Nat.le_refl _, fun _ _ _ => rfl⟩
  | v :: r, o, w => by
    rw [World.setCells]
    have h := setCells_grown (g := g) r (o + 1) (w.setCell ⟨g, o, none⟩ v)
    have h1 : w.grownBy (w.setCell ⟨g, o, none⟩ v) (some g) := ⟨rfl, rfl, rfl, by simp, fun k _ hk => heap_setCell_other w ⟨g, o, none⟩ k v (fun e => hk (by simp [e]))⟩
    exact ⟨h.os.trans h1.os, h.tape.trans h1.tape, h.output.trans h1.output, Nat.le_trans h1.size h.size, fun k hk hn => (h.block k (Nat.lt_of_lt_of_le hk h1.size) hn).trans (h1.block k hk hn)⟩
theorem setCells_output {g : Nat} (vs : List Value) (o : Nat) (w : World) : (w.setCells g o vs).output = w.output := (setCells_grown vs o w).output
theorem setCells_tape {g : Nat} (vs : List Value) (o : Nat) (w : World) : (w.setCells g o vs).tape = w.tape := (setCells_grown vs o w).tape
theorem setCells_os {g : Nat} (vs : List Value) (o : Nat) (w : World) : (w.setCells g o vs).os = w.os := (setCells_grown vs o w).os
theorem setCells_same {g : Nat} : ∀ (vs : List Value) (o : Nat) {w w' : World}, w.heap = w'.heap → (w.setCells g o vs).heap = (w'.setCells g o vs).heap
  | [], _, _, _, h => h
  | v :: r, o, w, w', h => by
    rw [World.setCells, World.setCells]
    exact setCells_same r (o + 1) (by unfold World.setCell; simp [h])
theorem setCells_size {g : Nat} : ∀ (vs : List Value) (o : Nat) (w : World), (w.setCells g o vs).heap.size = w.heap.size
  | [], _, _ => rfl
  | v :: r, o, w => by rw [World.setCells, setCells_size r]; simp

/-- What the row holds behind the insertion. -/
theorem put_two {cur : Array Value} {n i : Nat} {cs : List Value} {p q : Value} (hi : i ≤ n) (hcs : cs.length = n * 2) (hsz : (n + 1) * 2 ≤ cur.size) (hpre : ∀ j, j < i * 2 → cur[j]? = cs[j]?) :
    (putA (putA cur (i * 2 + 2) (cs.drop (i * 2))) (i * 2) [p, q]).toList.take ((n + 1) * 2) = cs.take (i * 2) ++ p :: q :: cs.drop (i * 2) := by
  apply List.ext_getElem?
  intro j
  rw [List.getElem?_take]
  have hd : (cs.drop (i * 2)).length = n * 2 - i * 2 := by rw [List.length_drop, hcs]
  by_cases hj : j < (n + 1) * 2
  · rw [if_pos hj, Array.getElem?_toList, putA_get _ _ _ _ (by rw [putA_size]; simp; omega), putA_get _ _ _ _ (by rw [hd]; omega), hd]
    have ht : (cs.take (i * 2)).length = i * 2 := by rw [List.length_take, hcs]; omega
    by_cases h1 : j < i * 2
    · rw [if_neg (by simp; omega), if_neg (by omega), hpre j h1, List.getElem?_append_left (by omega), List.getElem?_take, if_pos h1]
    · rw [List.getElem?_append_right (by omega), ht]
      by_cases h2 : j < i * 2 + 2
      · rw [if_pos (by simp; omega)]
        rcases (show j - i * 2 = 0 ∨ j - i * 2 = 1 by omega) with h3 | h3 <;> rw [h3] <;> rfl
      · rw [if_neg (by simp; omega), if_pos (by omega)]
        rw [show j - i * 2 = (j - (i * 2 + 2)) + 2 by omega]
        rfl
  · rw [if_neg hj, List.getElem?_eq_none]
    simp only [List.length_append, List.length_take, List.length_cons, hd, hcs]
    omega
theorem put_two' {cur : Array Value} {n i : Nat} {cs : List Value} {p q : Value} (hi : i ≤ n) (hcs : cs.length = n * 2) (hsz : (n + 1) * 2 ≤ cur.size) (hpre : ∀ j, j < i * 2 → cur[j]? = cs[j]?) :
    (putA (putA cur (i * 2) [p, q]) (i * 2 + 2) (cs.drop (i * 2))).toList.take ((n + 1) * 2) = cs.take (i * 2) ++ p :: q :: cs.drop (i * 2) := by
  rw [← put_two hi hcs hsz hpre]
  congr 2
  have hd : (cs.drop (i * 2)).length = n * 2 - i * 2 := by rw [List.length_drop, hcs]
  apply Array.ext_getElem?
  intro j
  rw [putA_get _ _ _ _ (by rw [putA_size, hd]; omega), putA_get _ _ _ _ (by simp; omega), putA_get _ _ _ _ (by rw [putA_size]; simp; omega), putA_get _ _ _ _ (by rw [hd]; omega)]
  by_cases h1 : i * 2 + 2 ≤ j ∧ j < i * 2 + 2 + (cs.drop (i * 2)).length
  · rw [if_pos h1, if_neg (by simp; omega), if_pos h1]
  · rw [if_neg h1]
    by_cases h2 : i * 2 ≤ j ∧ j < i * 2 + [p, q].length
    · rw [if_pos h2, if_pos h2]
    · rw [if_neg h2, if_neg h2, if_neg h1]

/-- The list with a pair put in at a place. -/
def insAt (xs : List Int) (i : Nat) (x y : Int) : List Int := xs.take (i * 2) ++ x :: y :: xs.drop (i * 2)
theorem insAt_map (xs : List Int) (i : Nat) (x y : Int) : (xs.map (Value.int .i64)).take (i * 2) ++ .int .i64 x :: .int .i64 y :: (xs.map (Value.int .i64)).drop (i * 2) = (insAt xs i x y).map (Value.int .i64) := by
  unfold insAt
  simp
theorem isSome_of {w : World} {g j : Nat} {cur : Array Value} {e : TypeId} (h : w.heap[g]? = some (.cells cur e (0, 0))) (hj : j < cur.size) : (w.cell? ⟨g, j, none⟩).isSome = true := by
  rw [cell_of_row w g j cur e (0, 0) h, Array.getElem?_eq_getElem hj]; rfl
theorem size_pair : (Try.prog.info? 49).map (·.size) = some 2 := by kernel_rfl

set_option maxRecDepth 100000 in
set_option maxHeartbeats 4000000 in
/-- At the end. -/
theorem ins_end (base : Nat) (v : Value) (n vb : Nat) (xs : List Int) (x y : Int) (w : World) (hown : w.ownsRow base 49 2 v n (xs.map (Value.int .i64))) (hbase : base ≤ w.heap.size) (hn : n ≤ 1048575)
    (hv : w.heap[vb]? = some (.cells #[.int .i64 x, .int .i64 y] 49 (0, 0))) :
    Calls Try.prog 128 #[v, .int .i64 n, .slice (some ⟨vb, 0, none⟩) 1 1] w fun e w' => ∃ v', e = .returned v' ∧ w'.ownsRow base 49 2 v' (n + 1) ((xs ++ [x, y]).map (Value.int .i64)) ∧ Below base w w' := by
  obtain ⟨v4, W4, hr4, hown4, hg4, hb4⟩ := append_run (ad := ⟨vb, 0, none⟩) (l := 1) (c := 1) (ys := [x, y]) hown hbase (by omega) (by omega) rfl (fun j hj => by
    obtain ⟨p0, p1, _, _⟩ := two_of hv
    have hadd : (⟨vb, 0, none⟩ : Addr).add j = ⟨vb, j, none⟩ := by unfold Addr.add; split <;> simp_all
    rw [hadd]
    rcases (show j = 0 ∨ j = 1 by omega) with rfl | rfl
    · exact p0
    · exact p1)
  have HO := hid hown4
  have HB := hid hb4
  have hlen := hown.1
  have hi0 : (0 : Int) ≤ (n : Int) := by omega
  rcases hown.2 with ⟨rfl, rfl⟩ | ⟨g, cap, cur, rfl, hg, hgg, hc1, hc2, hc3, hc4⟩
  · clear hown hlen hown4 hb4 hg4
    go_enter Try.func128, Try.ntmps128
    go_wp2_with (at_builtin; refine wpList_append_run rfl rfl rfl rfl hr4 ?_)
    all_goals
      go_ret
      exact ⟨v4, rfl, by simpa using HO.out, HB.out⟩
  · have hi1 : (n : Int) ≤ (cap : Int) := by omega
    clear hown hlen hown4 hb4 hg4 hgg hc3 hc4 hc2
    go_enter Try.func128, Try.ntmps128
    go_wp2_with (at_builtin; refine wpList_append_run rfl rfl rfl rfl hr4 ?_)
    all_goals
      go_ret
      exact ⟨v4, rfl, by simpa using HO.out, HB.out⟩

set_option maxRecDepth 100000 in
set_option maxHeartbeats 4000000 in
/-- There is room: in place. -/
theorem ins_room (base g cap n i vb : Nat) (xs : List Int) (x y : Int) (w : World) (hown : w.ownsRow base 49 2 (.slice (some ⟨g, 0, none⟩) n cap) n (xs.map (Value.int .i64))) (hbase : base ≤ w.heap.size) (hn : n ≤ 1048575) (hi : i < n) (hroom : n + 1 ≤ cap)
    (hv : w.heap[vb]? = some (.cells #[.int .i64 x, .int .i64 y] 49 (0, 0))) (hne : vb ≠ g) :
    Calls Try.prog 128 #[.slice (some ⟨g, 0, none⟩) n cap, .int .i64 i, .slice (some ⟨vb, 0, none⟩) 1 1] w fun e w' => ∃ v', e = .returned v' ∧ w'.ownsRow base 49 2 v' (n + 1) ((insAt xs i x y).map (Value.int .i64)) ∧ Below base w w' := by
  obtain ⟨cs, hcs⟩ : ∃ cs, cs = xs.map (Value.int .i64) := ⟨_, rfl⟩
  rw [← insAt_map, ← hcs]
  rw [← hcs] at hown
  have h1 : ∀ v ∈ cs, v.oneCell' = true := fun v hv => by
    rw [hcs] at hv
    obtain ⟨z, _, rfl⟩ := List.mem_map.1 hv
    rfl
  clear hcs
  obtain ⟨cur, hbg, hgg, hcm, hcz, htk⟩ : ∃ cur : Array Value, base ≤ g ∧ w.heap[g]? = some (.cells cur 49 (0, 0)) ∧ cap ≤ maxLen ∧ cur.size = cap * 2 ∧ cur.toList.take (n * 2) = cs := by
    rcases hown.2 with ⟨h', _⟩ | ⟨g', cap', cur, h', hb, hg, hnc, hcm, hcs, htake⟩
    · simp at h'
    · simp only [Value.slice.injEq, Option.some.injEq, Addr.mk.injEq, and_true, true_and] at h'
      obtain ⟨rfl, rfl⟩ := h'
      exact ⟨cur, hb, hg, hcm, hcs, htake⟩
  have hcl := hown.1
  have hdl : (cs.drop (i * 2)).length = n * 2 - i * 2 := by rw [List.length_drop, hcl]
  have hcell : ∀ j, j < n * 2 → w.cell? ⟨g, j, none⟩ = cs[j]? := fun j hj => hown.cellAt j hj
  have hfz : ∀ j, w.frozen? ⟨g, j, none⟩ = false := fun j => hown.frozenAt j
  obtain ⟨p0, p1, f0, _⟩ := two_of hv
  have hcp1 : ∀ ty dc sc, (Builtin.copy_ #[40, 40] ty #[.slice (some ⟨g, (i + 1) * 2, none⟩) (n - i) dc, .slice (some ⟨g, i * 2, none⟩) (n + 1 - i) sc]).run Try.prog w.drew = .ok (goInt (n - i : Nat)) (w.drew.setCells g ((i + 1) * 2) (cs.drop (i * 2))) := fun ty dc sc => by
    have hm : Nat.min (n + 1 - i) (n - i) = n - i := by show min _ _ = _; omega
    have h := run_copy_two (P := Try.prog) w.drew 40 40 ty 49 g ((i + 1) * 2) (n - i) dc ⟨g, i * 2, none⟩ (n + 1 - i) sc (cs.drop (i * 2)) Try.underlying40 size_pair (by rw [hm, hdl]; omega)
      (fun j v hj => by
        rw [Addr.add_lit]
        rw [List.getElem?_drop] at hj
        exact (hcell (i * 2 + j) (by have := (List.getElem?_eq_some_iff.1 hj).1; omega)).trans hj)
      (fun j hj => isSome_of (w := w.drew) hgg (by omega)) (fun j hj => hfz _) (fun v hv => h1 v (List.mem_of_mem_drop hv))
    rwa [hm] at h
  obtain ⟨W1, hW1⟩ : ∃ W1, W1 = w.drew.setCells g ((i + 1) * 2) (cs.drop (i * 2)) := ⟨_, rfl⟩
  have hgg1 : W1.heap[g]? = some (.cells (putA cur ((i + 1) * 2) (cs.drop (i * 2))) 49 (0, 0)) := by rw [hW1]; exact setCells_heap _ _ w.drew cur hgg
  have hgr1 : w.grownBy W1 (some g) := by
    have := setCells_grown (g := g) (cs.drop (i * 2)) ((i + 1) * 2) w.drew
    rw [← hW1] at this
    exact ⟨this.os, this.tape, this.output, this.size, this.block⟩
  have hv1 : W1.heap[vb]? = some (.cells #[.int .i64 x, .int .i64 y] 49 (0, 0)) := (hgr1.block vb (lt_of_get hv) (fun e => hne (by injection e))).trans hv
  have hcp2 : ∀ (W : World), (∀ x, W.cell? x = W1.cell? x) → (∀ x, W.frozen? x = W1.frozen? x) → ∀ ty dc sc, (Builtin.copy_ #[40, 40] ty #[.slice (some ⟨g, i * 2, none⟩) (n + 1 - i) dc, .slice (some ⟨vb, 0, none⟩) 1 sc]).run Try.prog W = .ok (goInt (1 : Nat)) (W.setCells g (i * 2) [.int .i64 x, .int .i64 y]) := fun W hWc hWf ty dc sc => by
    have hm : Nat.min 1 (n + 1 - i) = 1 := by show min _ _ = _; omega
    obtain ⟨q0, q1, _, _⟩ := two_of hv1
    have h := run_copy_two (P := Try.prog) W 40 40 ty 49 g (i * 2) (n + 1 - i) dc ⟨vb, 0, none⟩ 1 sc [.int .i64 x, .int .i64 y] Try.underlying40 size_pair (by rw [hm]; rfl)
      (fun j v hj => by
        rw [Addr.add_lit, hWc, Nat.zero_add]
        rcases j with _ | _ | j
        · rw [q0]; exact hj
        · rw [q1]; exact hj
        · cases hj)
      (fun j hj => by rw [hWc]; exact isSome_of hgg1 (by rw [putA_size]; simp at hj; omega)) (fun j hj => by rw [hWf]; exact frozen_of_row W1 g _ _ _ hgg1) (by simp [Value.oneCell'])
    rwa [hm] at h
  have hov : ∀ lb cb, (callFunc 180 #[.slice (some ⟨vb, 0, none⟩) 1 1, .slice (some ⟨g, (i + 1) * 2, none⟩) lb cb]).run Try.prog w = .ok (.value (.bool false)) w := fun lb cb => by
    rw [run_callFunc_extern Try.func180 (by kernel_rfl) (by kernel_rfl) (by kernel_rfl) (e := Extern.SlicesOverlaps.overlaps #[40, 40] #[4]) (by kernel_rfl),
      Lib.run_overlaps_apart w 40 4 49 Try.underlying40 2 Try.sizeOf49 ⟨vb, 0, none⟩ ⟨g, (i + 1) * 2, none⟩ 1 1 lb cb hne 49 49 2 cur.size (by simp [World.shape?, hv]) (by simp [World.shape?, hgg]) (by omega) f0 (by simp [World.frozen?, hv])]
    rfl
  have HF : Hid (∀ W : World, (∀ k, W.heap[k]? = (W1.setCells g (i * 2) [.int .i64 x, .int .i64 y]).heap[k]?) → W.heap.size = (W1.setCells g (i * 2) [.int .i64 x, .int .i64 y]).heap.size → W.os = (W1.setCells g (i * 2) [.int .i64 x, .int .i64 y]).os → W.tape = (W1.setCells g (i * 2) [.int .i64 x, .int .i64 y]).tape → W.output = (W1.setCells g (i * 2) [.int .i64 x, .int .i64 y]).output →
      W.ownsRow base 49 2 (.slice (some ⟨g, 0, none⟩) (n + 1) cap) (n + 1) (cs.take (i * 2) ++ .int .i64 x :: .int .i64 y :: cs.drop (i * 2)) ∧ Below base w W) := hid (fun W h1 h2 h3 h4 h5 => by
    have hf := setCells_heap (g := g) [.int .i64 x, .int .i64 y] (i * 2) W1 _ hgg1
    have hgr := setCells_grown (g := g) [.int .i64 x, .int .i64 y] (i * 2) W1
    refine ⟨⟨by simp only [List.length_append, List.length_take, List.length_cons, hdl, hcl]; omega, .inr ⟨g, cap, _, rfl, hbg, (h1 g).trans hf, hroom, hcm, by rw [putA_size, putA_size]; exact hcz, ?_⟩⟩, ?_⟩
    · rw [show (i + 1) * 2 = i * 2 + 2 by omega]
      exact put_two (by omega) hcl (by omega) (fun j hj => by rw [← htk, List.getElem?_take, if_pos (by omega), Array.getElem?_toList])
    · refine ⟨(h3.trans hgr.os).trans hgr1.os, (h4.trans hgr.tape).trans hgr1.tape, (h5.trans hgr.output).trans hgr1.output, by rw [h2]; exact Nat.le_trans hgr1.size hgr.size, fun k hk => ?_⟩
      rw [h1]
      exact (hgr.block k (by have := hgr1.size; omega) (fun e => by injection e; omega)).trans (hgr1.block k (by omega) (fun e => by injection e; omega)))
  have hi0 : (0 : Int) ≤ (i : Int) := by omega
  have hi1 : (i : Int) ≤ (n : Int) := by omega
  have hi2 : ¬ ((i : Int) = (n : Int)) := by omega
  have hi3 : (i : Int) ≤ (n : Int) + 1 := by omega
  have hi4 : (n : Int) ≤ (cap : Int) := by omega
  have hi5 : (n : Int) + 1 ≤ (cap : Int) := by omega
  have hi6 : ¬ ((n : Int) + 1 > (cap : Int)) := by omega
  have hw1 : IntKind.i64.wrap ((i : Int) + 1) = (i : Int) + 1 := by rw [IntKind.wrap_i64]; omega
  have hb1 : (0 : Int) ≤ (i : Int) + 1 := by omega
  have htn : ((i : Int) + 1).toNat = i + 1 := by omega
  have hb2 : ¬ (cap = i + 1) := by omega
  have hb4 : ¬ (cap = i) := by omega
  have hb5 : (i : Int) + 1 ≤ (n : Int) + 1 := by omega
  have htn2 : ((n : Int) + 1).toNat = n + 1 := by omega
  rw [← hW1] at hcp1
  clear hW1 hgg1 hgr1 hv1 hown hcell hfz p0 p1 f0 hgg hcz htk h1 hcl hdl hv hcm
  go_enter Try.func128, Try.ntmps128
  go_wp2_with (simp only [hov])
  go_region_law (refine step_copy_run rfl _ _ 40 40 rfl _ _ (by simp [Act.eval, Act.put]) (by simp [Act.eval, Act.put]) (hcp1 _ _ _) ?_)
  go_wp2_with (at_builtin; refine wpList_copy_run _ rfl _ _ 40 40 rfl _ _ rfl rfl (hcp2 _ (fun _ => rfl) (fun _ => rfl) _ _ _) ?_)
  go_ret
  exact ⟨_, rfl, HF.out _ (fun _ => rfl) rfl rfl rfl rfl⟩

set_option maxRecDepth 100000 in
set_option maxHeartbeats 4000000 in
/-- There is no room: a new row. -/
theorem ins_grow (base g n i vb : Nat) (xs : List Int) (x y : Int) (w : World) (hown : w.ownsRow base 49 2 (.slice (some ⟨g, 0, none⟩) n n) n (xs.map (Value.int .i64))) (hbase : base ≤ w.heap.size) (hn : n ≤ 1048575) (hi : i < n)
    (hv : w.heap[vb]? = some (.cells #[.int .i64 x, .int .i64 y] 49 (0, 0))) :
    Calls Try.prog 128 #[.slice (some ⟨g, 0, none⟩) n n, .int .i64 i, .slice (some ⟨vb, 0, none⟩) 1 1] w fun e w' => ∃ v', e = .returned v' ∧ w'.ownsRow base 49 2 v' (n + 1) ((insAt xs i x y).map (Value.int .i64)) ∧ Below base w w' := by
  obtain ⟨cs, hcs⟩ : ∃ cs, cs = xs.map (Value.int .i64) := ⟨_, rfl⟩
  rw [← insAt_map, ← hcs]
  rw [← hcs] at hown
  have h1 : ∀ v ∈ cs, v.oneCell' = true := fun v hv => by
    rw [hcs] at hv
    obtain ⟨z, _, rfl⟩ := List.mem_map.1 hv
    rfl
  clear hcs
  have hcl := hown.1
  have hdl : (cs.drop (i * 2)).length = n * 2 - i * 2 := by rw [List.length_drop, hcl]
  have hcell : ∀ j, j < n * 2 → w.cell? ⟨g, j, none⟩ = cs[j]? := fun j hj => hown.cellAt j hj
  have hgw : g < w.heap.size := (hown.lt g rfl).2
  have hvw := lt_of_get hv
  obtain ⟨i0, hi0, hz0, hzs, hzb⟩ := info_parts info_pair
  obtain ⟨G, hG⟩ : ∃ G, G = grownCap w (n + 1) n 49 := ⟨_, rfl⟩
  have hGn : n + 1 ≤ G := by rw [hG]; exact grownCap_ge w _ _ _
  have hG63 : G ≤ maxLen := by rw [hG]; exact grownCap_le_maxLen w (n + 1) n 49 (by unfold maxLen; omega)
  have hik : i + (n + 1 - i) = n + 1 := by omega
  have hold : (Builtin.firstCells i0.size i (.slice (some ⟨g, 0, none⟩) i n)).run Try.prog w.drew = .ok (cs.take (i * 2)).toArray w.drew := by
    rw [hzs]
    exact run_firstCells_some w.drew 2 i ⟨g, 0, none⟩ i n (cs.take (i * 2)) (by rw [List.length_take]; omega) (fun j v hj => by
      rw [Addr.add_lit, Nat.zero_add]
      rw [List.getElem?_take] at hj
      split at hj
      · exact (hcell j (by omega)).trans hj
      · cases hj)
  have hrz := Lib.run_append_grow_zeros (P := Try.prog) w 40 3 40 49 i0 _ .i64 .i64 Try.underlying40 Try.underlying3 hi0 hz0 (some ⟨g, 0, none⟩) i n (cs.take (i * 2)) hold (n + 1 - i) (by omega) (by omega) (by omega) (by omega) (by rw [hzb]; omega) (by rw [hzb, hik]; exact growslice_fits (by omega) (by omega))
  rw [hik, ← hG] at hrz
  obtain ⟨ROW, hROW⟩ : ∃ ROW : Array Value, ROW = (cs.take (i * 2)).toArray ++ Builtin.zeroCells (Value.agg #[.int .i64 0, .int .i64 0]).cells (n + 1 - i) ++ Builtin.zeroCells (Value.agg #[.int .i64 0, .int .i64 0]).cells (G - (n + 1)) := ⟨_, rfl⟩
  rw [← hROW] at hrz
  have hRz : ROW.size = G * 2 := by
    rw [hROW]
    simp [Builtin.zeroCells, Value.cells, hcl]
    omega
  have hpre : ∀ j, j < i * 2 → ROW[j]? = cs[j]? := fun j hj => by
    have ht : (cs.take (i * 2)).length = i * 2 := by rw [List.length_take, hcl]; omega
    rw [hROW, Array.getElem?_append_left (by simp; omega), Array.getElem?_append_left (by simp; omega)]
    simp only [List.getElem?_toArray]
    rw [List.getElem?_take, if_pos hj]
  clear hROW
  obtain ⟨W1, hW1⟩ : ∃ W1, W1 = w.drew.alloc (.cells ROW 49) := ⟨_, rfl⟩
  rw [← hW1] at hrz
  have hgg1 : W1.heap[w.heap.size]? = some (.cells ROW 49 (0, 0)) := by rw [hW1]; exact heap_alloc_new w.drew _
  have hgr1 : w.grownBy W1 none := by
    have := World.grownBy_alloc w.drew (.cells ROW 49) none
    rw [← hW1] at this
    exact ⟨this.os, this.tape, this.output, this.size, this.block⟩
  have hz1 : W1.heap.size = w.heap.size + 1 := by rw [hW1]; simp
  have hv1 : W1.heap[vb]? = some (.cells #[.int .i64 x, .int .i64 y] 49 (0, 0)) := (hgr1.block vb hvw (fun e => by cases e)).trans hv
  have hcp1 : ∀ (W : World), (∀ x, W.cell? x = W1.cell? x) → (∀ x, W.frozen? x = W1.frozen? x) → ∀ ty dc sc, (Builtin.copy_ #[40, 40] ty #[.slice (some ⟨w.heap.size, i * 2, none⟩) (n + 1 - i) dc, .slice (some ⟨vb, 0, none⟩) 1 sc]).run Try.prog W = .ok (goInt (1 : Nat)) (W.setCells w.heap.size (i * 2) [.int .i64 x, .int .i64 y]) := fun W hWc hWf ty dc sc => by
    have hm : Nat.min 1 (n + 1 - i) = 1 := by show min _ _ = _; omega
    obtain ⟨q0, q1, _, _⟩ := two_of hv1
    have h := run_copy_two (P := Try.prog) W 40 40 ty 49 w.heap.size (i * 2) (n + 1 - i) dc ⟨vb, 0, none⟩ 1 sc [.int .i64 x, .int .i64 y] Try.underlying40 size_pair (by rw [hm]; rfl)
      (fun j v hj => by
        rw [Addr.add_lit, hWc, Nat.zero_add]
        rcases j with _ | _ | j
        · rw [q0]; exact hj
        · rw [q1]; exact hj
        · cases hj)
      (fun j hj => by rw [hWc]; exact isSome_of hgg1 (by simp at hj; omega)) (fun j hj => by rw [hWf]; exact frozen_of_row W1 w.heap.size _ _ _ hgg1) (by simp [Value.oneCell'])
    rwa [hm] at h
  obtain ⟨W2, hW2⟩ : ∃ W2, W2 = W1.setCells w.heap.size (i * 2) [.int .i64 x, .int .i64 y] := ⟨_, rfl⟩
  have hgg2 : W2.heap[w.heap.size]? = some (.cells (putA ROW (i * 2) [.int .i64 x, .int .i64 y]) 49 (0, 0)) := by rw [hW2]; exact setCells_heap _ _ W1 ROW hgg1
  have hgr2 : W1.grownBy W2 (some w.heap.size) := by rw [hW2]; exact setCells_grown _ _ _
  have hcell2 : ∀ j, j < n * 2 → W2.cell? ⟨g, j, none⟩ = cs[j]? := fun j hj => (World.cell?_of_block (a := ⟨g, j, none⟩) ((hgr2.block g (by omega) (fun e => by injection e; omega)).trans (hgr1.block g hgw (fun e => by cases e)))).trans (hcell j hj)
  have hcp2 : ∀ (W : World), (∀ x, W.cell? x = W2.cell? x) → (∀ x, W.frozen? x = W2.frozen? x) → ∀ ty dc sc, (Builtin.copy_ #[40, 40] ty #[.slice (some ⟨w.heap.size, (i + 1) * 2, none⟩) (n - i) dc, .slice (some ⟨g, i * 2, none⟩) (n - i) sc]).run Try.prog W = .ok (goInt (n - i : Nat)) (W.setCells w.heap.size ((i + 1) * 2) (cs.drop (i * 2))) := fun W hWc hWf ty dc sc => by
    have hm : Nat.min (n - i) (n - i) = n - i := by show min _ _ = _; omega
    have h := run_copy_two (P := Try.prog) W 40 40 ty 49 w.heap.size ((i + 1) * 2) (n - i) dc ⟨g, i * 2, none⟩ (n - i) sc (cs.drop (i * 2)) Try.underlying40 size_pair (by rw [hm, hdl]; omega)
      (fun j v hj => by
        rw [Addr.add_lit, hWc]
        rw [List.getElem?_drop] at hj
        exact (hcell2 (i * 2 + j) (by have := (List.getElem?_eq_some_iff.1 hj).1; omega)).trans hj)
      (fun j hj => by rw [hWc]; exact isSome_of hgg2 (by rw [putA_size]; omega)) (fun j hj => by rw [hWf]; exact frozen_of_row W2 w.heap.size _ _ _ hgg2) (fun v hv => h1 v (List.mem_of_mem_drop hv))
    rwa [hm] at h
  have HF : Hid (∀ W : World, (∀ k, W.heap[k]? = (W2.setCells w.heap.size ((i + 1) * 2) (cs.drop (i * 2))).heap[k]?) → W.heap.size = (W2.setCells w.heap.size ((i + 1) * 2) (cs.drop (i * 2))).heap.size → W.os = (W2.setCells w.heap.size ((i + 1) * 2) (cs.drop (i * 2))).os → W.tape = (W2.setCells w.heap.size ((i + 1) * 2) (cs.drop (i * 2))).tape → W.output = (W2.setCells w.heap.size ((i + 1) * 2) (cs.drop (i * 2))).output →
      W.ownsRow base 49 2 (.slice (some ⟨w.heap.size, 0, none⟩) (n + 1) G) (n + 1) (cs.take (i * 2) ++ .int .i64 x :: .int .i64 y :: cs.drop (i * 2)) ∧ Below base w W) := hid (fun W h1 h2 h3 h4 h5 => by
    have hf := setCells_heap (g := w.heap.size) (cs.drop (i * 2)) ((i + 1) * 2) W2 _ hgg2
    have hgr := setCells_grown (g := w.heap.size) (cs.drop (i * 2)) ((i + 1) * 2) W2
    refine ⟨⟨by simp only [List.length_append, List.length_take, List.length_cons, hdl, hcl]; omega, .inr ⟨w.heap.size, G, _, rfl, hbase, (h1 _).trans hf, hGn, hG63, by rw [putA_size, putA_size]; exact hRz, ?_⟩⟩, ?_⟩
    · rw [show (i + 1) * 2 = i * 2 + 2 by omega]
      exact put_two' (by omega) hcl (by omega) hpre
    · refine ⟨((h3.trans hgr.os).trans hgr2.os).trans hgr1.os, ((h4.trans hgr.tape).trans hgr2.tape).trans hgr1.tape, ((h5.trans hgr.output).trans hgr2.output).trans hgr1.output, by rw [h2]; exact Nat.le_trans hgr1.size (Nat.le_trans hgr2.size hgr.size), fun k hk => ?_⟩
      rw [h1]
      exact ((hgr.block k (by have := hgr1.size; have := hgr2.size; omega) (fun e => by injection e; omega)).trans (hgr2.block k (by have := hgr1.size; omega) (fun e => by injection e; omega))).trans (hgr1.block k (by omega) (fun e => by cases e)))
  have hkk : (n : Int) + 1 - (i : Int) = ((n + 1 - i : Nat) : Int) := by omega
  rw [← hkk] at hrz
  have hi0' : (0 : Int) ≤ (i : Int) := by omega
  have hi1 : (i : Int) ≤ (n : Int) := by omega
  have hi2 : ¬ ((i : Int) = (n : Int)) := by omega
  have hi3 : (i : Int) ≤ (n : Int) + 1 := by omega
  have hi6 : (n : Int) + 1 > (n : Int) := by omega
  have hw1 : IntKind.i64.wrap ((i : Int) + 1) = (i : Int) + 1 := by rw [IntKind.wrap_i64]; omega
  have hb1 : (0 : Int) ≤ (i : Int) + 1 := by omega
  have htn : ((i : Int) + 1).toNat = i + 1 := by omega
  have hb2 : ¬ (G = i + 1) := by omega
  have hb4 : ¬ (G = i) := by omega
  have hb6 : ¬ (n = i) := by omega
  have hb5 : (i : Int) + 1 ≤ (n : Int) + 1 := by omega
  have hin : i ≤ n := by omega
  have hg64 : G ≤ 9223372036854775807 := by have := hG63; unfold maxLen at this; omega
  subst hW2
  subst hW1
  have hE1 : ∀ x, ((w.alloc (.cells ROW 49)).drew).cell? x = (w.drew.alloc (.cells ROW 49)).cell? x := fun x => rfl
  have hE2 : ∀ x, ((w.alloc (.cells ROW 49)).drew).frozen? x = (w.drew.alloc (.cells ROW 49)).frozen? x := fun x => rfl
  have hF1 : ∀ z, (((w.alloc (.cells ROW 49)).drew.setCells w.heap.size (i * 2) [.int .i64 x, .int .i64 y]).drew).cell? z = ((w.drew.alloc (.cells ROW 49)).setCells w.heap.size (i * 2) [.int .i64 x, .int .i64 y]).cell? z := fun z => rfl
  have hF2 : ∀ z, (((w.alloc (.cells ROW 49)).drew.setCells w.heap.size (i * 2) [.int .i64 x, .int .i64 y]).drew).frozen? z = ((w.drew.alloc (.cells ROW 49)).setCells w.heap.size (i * 2) [.int .i64 x, .int .i64 y]).frozen? z := fun z => rfl
  clear hkk hgg1 hgr1 hz1 hv1 hgg2 hgr2 hcell2 hown hcell hold hpre h1 hcl hdl hv hG hRz hG63 hi0 hz0 hzs hzb
  go_enter Try.func128, Try.ntmps128
  go_wp2_with (first
    | (at_builtin; refine Lib.wpList_append_run _ rfl _ _ _ _ rfl _ _ rfl rfl _ _ hrz ?_)
    | (at_builtin; refine wpList_copy_run _ rfl _ _ 40 40 rfl _ _ rfl rfl (hcp1 _ hE1 hE2 _ _ _) ?_))
  go_region_law (refine step_copy_run rfl _ _ 40 40 rfl (.slice (some ⟨w.heap.size, (i + 1) * 2, none⟩) (n - i) (G - (i + 1))) (.slice (some ⟨g, i * 2, none⟩) (n - i) (n - i)) (by simp [Act.eval, Act.put]) (by simp [Act.eval, Act.put]) (hcp2 _ hF1 hF2 3 (G - (i + 1)) (n - i)) ?_)
  go_wp2_with fail
  go_ret
  have hW : ((w.alloc (.cells ROW 49)).drew.setCells w.heap.size (i * 2) [.int .i64 x, .int .i64 y]).drew.heap = ((w.drew.alloc (.cells ROW 49)).setCells w.heap.size (i * 2) [.int .i64 x, .int .i64 y]).heap := rfl
  exact ⟨_, rfl, HF.out _ (fun k => by rw [setCells_same _ _ hW]) (by rw [setCells_same _ _ hW]) (by rw [setCells_os, setCells_os]; rfl) (by rw [setCells_tape, setCells_tape]; rfl) (by rw [setCells_output, setCells_output]; rfl)⟩

/-- slices.Insert of one pair, on a row of the call's own. -/
theorem ins_any (base : Nat) (v : Value) (n i vb : Nat) (xs : List Int) (x y : Int) (w : World) (hown : w.ownsRow base 49 2 v n (xs.map (Value.int .i64))) (hbase : base ≤ w.heap.size) (hn : n ≤ 1048575) (hi : i ≤ n)
    (hv : w.heap[vb]? = some (.cells #[.int .i64 x, .int .i64 y] 49 (0, 0))) (hne : v.ownBlock ≠ some vb) :
    Calls Try.prog 128 #[v, .int .i64 i, .slice (some ⟨vb, 0, none⟩) 1 1] w fun e w' => ∃ v', e = .returned v' ∧ w'.ownsRow base 49 2 v' (n + 1) ((insAt xs i x y).map (Value.int .i64)) ∧ Below base w w' := by
  have hl : xs.length = n * 2 := by have := hown.1; simpa using this
  by_cases hin : i = n
  · subst hin
    have h := ins_end base v i vb xs x y w hown hbase hn hv
    have e : insAt xs i x y = xs ++ [x, y] := by
      unfold insAt
      rw [List.take_of_length_le (by omega), List.drop_eq_nil_of_le (by omega)]
    rw [e]
    exact h
  · rcases hown.2 with ⟨rfl, rfl⟩ | ⟨g, cap, cur, rfl, hg, hgg, hc1, hc2, hc3, hc4⟩
    · omega
    · by_cases hr : n + 1 ≤ cap
      · exact ins_room base g cap n i vb xs x y w hown hbase hn (by omega) hr hv (fun e => hne (by simp [Value.ownBlock, e]))
      · obtain rfl : cap = n := by omega
        exact ins_grow base g cap i vb xs x y w hown hbase hn (by omega) hv

end Go.Proofs.Ytplcbiconfpmlaa

/-! A pair put into a pairing: the mathematics. -/
namespace Go.Proofs.Ytplcbiconfpmlaa
open Go.RowKit

theorem okTo_mono {fs ps : List Int} {n : Nat} (h : OkTo fs ps n) : MonoP ps n := by
  intro i j hij hj
  obtain ⟨d, rfl⟩ : ∃ d, j = i + d + 1 := ⟨j - i - 1, by omega⟩
  clear hij
  induction d with
  | zero => exact (h (i + 0 + 1) hj).2.1 (by omega)
  | succ d ih =>
    have h1 := ih (by omega)
    have h2 := (h (i + (d + 1) + 1) hj).2.1 (by omega)
    rw [show i + (d + 1) + 1 - 1 = i + d + 1 by omega] at h2
    exact lessP_trans h1 h2

/-- No pair of the list has a face of the pair. -/
def NoT (ps : List Int) (n : Nat) (x y : Int) : Prop := ∀ j, j < n → clashB x y (at0 ps (j * 2)) (at0 ps (j * 2 + 1)) = false
theorem clash_comm (a b c d : Int) : clashB a b c d = clashB c d a b := by
  cases h : clashB c d a b
  · rw [clash_iff] at h ⊢
    exact ⟨Ne.symm h.1, Ne.symm h.2.2.1, Ne.symm h.2.1, Ne.symm h.2.2.2⟩
  · cases h2 : clashB a b c d
    · rw [clash_iff] at h2
      have : clashB c d a b = false := clash_iff.2 ⟨Ne.symm h2.1, Ne.symm h2.2.2.1, Ne.symm h2.2.1, Ne.symm h2.2.2.2⟩
      rw [this] at h; cases h
    · rfl
theorem less_other {x y u v : Int} (h : lessP u v x y = false) (hc : clashB x y u v = false) : lessP x y u v = true := by
  have hn := clash_iff.1 hc
  unfold lessP at *
  simp only [Bool.or_eq_true, Bool.and_eq_true, decide_eq_true_eq, Bool.or_eq_false_iff, Bool.and_eq_false_iff, decide_eq_false_iff_not] at *
  omega

theorem place_eq {ps : List Int} {n k : Nat} {x y : Int} (hk : k ≤ n) (h1 : ∀ j, j < k → lessP (at0 ps (j * 2)) (at0 ps (j * 2 + 1)) x y = true) (h2 : ∀ j, k ≤ j → j < n → lessP (at0 ps (j * 2)) (at0 ps (j * 2 + 1)) x y = false) (hc : NoT ps n x y) : placeP ps x y n = k := by
  have key : ∀ d, k + d ≤ n → placeP ps x y (k + d) = k := by
    intro d
    induction d with
    | zero =>
      intro _
      cases k with
      | zero => rfl
      | succ k =>
        unfold placeP
        rw [if_neg (by rw [less_asym (h1 k (by omega))]; simp)]
    | succ d ih =>
      intro hd
      rw [show k + (d + 1) = (k + d) + 1 by omega]
      unfold placeP
      rw [if_pos (less_other (h2 (k + d) (by omega) (by omega)) (hc (k + d) (by omega)))]
      exact ih (by omega)
  have := key (n - k) (by omega)
  rwa [show k + (n - k) = n by omega] at this
theorem insAt_eq (ps : List Int) (n : Nat) (x y : Int) : insAt ps (placeP ps x y n) x y = insP ps n x y := by
  unfold insAt insP
  rw [Nat.mul_comm]

theorem insAt_lo {ps : List Int} {n k : Nat} (hp : ps.length = 2 * n) (hk : k ≤ n) (x y : Int) {j : Nat} (hj : j < k * 2) : at0 (insAt ps k x y) j = at0 ps j := by
  unfold insAt at0
  rw [List.getElem?_append_left (by rw [List.length_take]; omega), List.getElem?_take, if_pos hj]
theorem insAt_mid {ps : List Int} {n k : Nat} (hp : ps.length = 2 * n) (hk : k ≤ n) (x y : Int) : at0 (insAt ps k x y) (k * 2) = x ∧ at0 (insAt ps k x y) (k * 2 + 1) = y := by
  unfold insAt at0
  have hl : (ps.take (k * 2)).length = k * 2 := by rw [List.length_take]; omega
  constructor
  · rw [List.getElem?_append_right (by omega), hl, Nat.sub_self]; rfl
  · rw [List.getElem?_append_right (by omega), hl, show k * 2 + 1 - k * 2 = 1 by omega]; rfl
theorem insAt_hi {ps : List Int} {n k : Nat} (hp : ps.length = 2 * n) (hk : k ≤ n) (x y : Int) {j : Nat} (hj : k * 2 ≤ j) : at0 (insAt ps k x y) (j + 2) = at0 ps j := by
  unfold insAt at0
  have hl : (ps.take (k * 2)).length = k * 2 := by rw [List.length_take]; omega
  rw [List.getElem?_append_right (by omega), hl, show j + 2 - k * 2 = (j - k * 2) + 2 by omega, List.getElem?_cons_succ, List.getElem?_cons_succ, List.getElem?_drop, show k * 2 + (j - k * 2) = j by omega]

theorem okTo_ins {fs ps : List Int} {n k : Nat} {x y : Int} (hp : ps.length = 2 * n) (h : OkTo fs ps n) (hxy : pairB fs x y = true) (hk : k ≤ n) (h1 : ∀ j, j < k → lessP (at0 ps (j * 2)) (at0 ps (j * 2 + 1)) x y = true) (h2 : ∀ j, k ≤ j → j < n → lessP (at0 ps (j * 2)) (at0 ps (j * 2 + 1)) x y = false) (hc : NoT ps n x y) : OkTo fs (insAt ps k x y) (n + 1) := by
  obtain ⟨m0, m1⟩ := insAt_mid hp hk x y
  have lo : ∀ i, i < k → at0 (insAt ps k x y) (i * 2) = at0 ps (i * 2) ∧ at0 (insAt ps k x y) (i * 2 + 1) = at0 ps (i * 2 + 1) := fun i hi => ⟨insAt_lo hp hk x y (by omega), insAt_lo hp hk x y (by omega)⟩
  have hi : ∀ i, k ≤ i → at0 (insAt ps k x y) ((i + 1) * 2) = at0 ps (i * 2) ∧ at0 (insAt ps k x y) ((i + 1) * 2 + 1) = at0 ps (i * 2 + 1) := fun i hi => ⟨by rw [show (i + 1) * 2 = i * 2 + 2 by omega]; exact insAt_hi hp hk x y (by omega), by rw [show (i + 1) * 2 + 1 = (i * 2 + 1) + 2 by omega]; exact insAt_hi hp hk x y (by omega)⟩
  intro i hin
  rcases Nat.lt_trichotomy i k with hik | hik | hik
  · rw [(lo i hik).1, (lo i hik).2]
    refine ⟨(h i (by omega)).1, fun hi1 => ?_, fun j hj => ?_⟩
    · rw [(lo (i - 1) (by omega)).1, (lo (i - 1) (by omega)).2]
      exact (h i (by omega)).2.1 hi1
    · rw [(lo j (by omega)).1, (lo j (by omega)).2]
      exact (h i (by omega)).2.2 j hj
  · subst hik
    rw [m0, m1]
    refine ⟨hxy, fun hi1 => ?_, fun j hj => ?_⟩
    · rw [(lo (i - 1) (by omega)).1, (lo (i - 1) (by omega)).2]
      exact h1 (i - 1) (by omega)
    · rw [(lo j hj).1, (lo j hj).2]
      exact hc j (by omega)
  · obtain ⟨t, rfl⟩ : ∃ t, i = t + 1 := ⟨i - 1, by omega⟩
    rw [(hi t (by omega)).1, (hi t (by omega)).2]
    refine ⟨(h t (by omega)).1, fun _ => ?_, fun j hj => ?_⟩
    · rw [show t + 1 - 1 = t by omega]
      by_cases e : t = k
      · rw [e, m0, m1]
        exact less_other (h2 k (Nat.le_refl _) (by omega)) (hc k (by omega))
      · obtain ⟨s, rfl⟩ : ∃ s, t = s + 1 := ⟨t - 1, by omega⟩
        rw [(hi s (by omega)).1, (hi s (by omega)).2]
        have := (h (s + 1) (by omega)).2.1 (by omega)
        rwa [show s + 1 - 1 = s by omega] at this
    · rcases Nat.lt_trichotomy j k with hjk | hjk | hjk
      · rw [(lo j hjk).1, (lo j hjk).2]
        exact (h t (by omega)).2.2 j (by omega)
      · rw [hjk, m0, m1, clash_comm]
        exact hc t (by omega)
      · obtain ⟨s, rfl⟩ : ∃ s, j = s + 1 := ⟨j - 1, by omega⟩
        rw [(hi s (by omega)).1, (hi s (by omega)).2]
        exact (h t (by omega)).2.2 s (by omega)

theorem not_of_ins {fs ps : List Int} {n k : Nat} {x y : Int} (hp : ps.length = 2 * n) (hk : k ≤ n) (h : OkTo fs (insAt ps k x y) (n + 1)) : NoT ps n x y := by
  obtain ⟨m0, m1⟩ := insAt_mid hp hk x y
  intro j hj
  by_cases hjk : j < k
  · have := (h k (by omega)).2.2 j hjk
    rwa [m0, m1, insAt_lo hp hk x y (by omega), insAt_lo hp hk x y (by omega)] at this
  · have := (h (j + 1) (by omega)).2.2 k (by omega)
    rw [m0, m1, show (j + 1) * 2 = j * 2 + 2 by omega, show j * 2 + 2 + 1 = (j * 2 + 1) + 2 by omega, insAt_hi hp hk x y (by omega), insAt_hi hp hk x y (by omega)] at this
    rw [clash_comm]
    exact this

/-- Where a pair belongs. -/
theorem place_ex {ps : List Int} {n : Nat} (hm : MonoP ps n) (x y : Int) : ∃ k, k ≤ n ∧ (∀ j, j < k → lessP (at0 ps (j * 2)) (at0 ps (j * 2 + 1)) x y = true) ∧ (∀ j, k ≤ j → j < n → lessP (at0 ps (j * 2)) (at0 ps (j * 2 + 1)) x y = false) := by
  induction n with
  | zero => exact ⟨0, Nat.le_refl _, fun j h => by omega, fun j _ h => by omega⟩
  | succ n ih =>
    obtain ⟨k, h0, h1, h2⟩ := ih (fun i j h hj => hm i j h (by omega))
    by_cases hkn : k = n
    · cases hl : lessP (at0 ps (n * 2)) (at0 ps (n * 2 + 1)) x y
      · exact ⟨k, by omega, h1, fun j a b => by
          by_cases e : j = n
          · rw [e]; exact hl
          · exact h2 j a (by omega)⟩
      · exact ⟨n + 1, by omega, fun j a => by
          by_cases e : j = n
          · rw [e]; exact hl
          · exact h1 j (by omega), fun j a b => by omega⟩
    · refine ⟨k, by omega, h1, fun j a b => ?_⟩
      by_cases e : j = n
      · subst e
        cases hl : lessP (at0 ps (j * 2)) (at0 ps (j * 2 + 1)) x y
        · rfl
        · have := lessP_trans (hm k j (by omega) (by omega)) hl
          rw [h2 k (Nat.le_refl _) (by omega)] at this
          cases this
      · exact h2 j a (by omega)

/-- A pair can be put in: the model's test and the program's. -/
theorem pairing_ins {fs ps : List Int} {n : Nat} {x y : Int} (hp : ps.length = 2 * n) (h : OkTo fs ps n) (hxy : pairB fs x y = true) : OkTo fs (insP ps n x y) (n + 1) ↔ NoT ps n x y := by
  constructor
  · intro hO
    rw [← insAt_eq] at hO
    exact not_of_ins hp (placeP_le ps x y n) hO
  · intro hT
    obtain ⟨k, h0, h1, h2⟩ := place_ex (okTo_mono h) x y
    rw [← insAt_eq, place_eq h0 h1 h2 hT]
    exact okTo_ins hp h hxy h0 h1 h2 hT

/-- A pairing with a pair more is an acyclic pairing. -/
noncomputable def withB (fs ps : List Int) (n : Nat) (x y : Int) : Bool := pairingB fs (insP ps n x y) (n + 1) && acyB (insP ps n x y) (n + 1)
theorem withB_no {fs ps : List Int} {n : Nat} {x y : Int} (hp : ps.length = 2 * n) (h : OkTo fs ps n) (hxy : pairB fs x y = true) (hT : ¬ NoT ps n x y) : withB fs ps n x y = false := by
  unfold withB
  rw [pairingB_false (fun h2 => hT ((pairing_ins hp h hxy).1 h2))]
  rfl
theorem withB_yes {fs ps : List Int} {n : Nat} {x y : Int} (hp : ps.length = 2 * n) (h : OkTo fs ps n) (hxy : pairB fs x y = true) (hT : NoT ps n x y) : withB fs ps n x y = acyB (insP ps n x y) (n + 1) := by
  unfold withB
  rw [pairingB_true ((pairing_ins hp h hxy).2 hT)]
  rfl
theorem withB_ok {fs ps : List Int} {n : Nat} {x y : Int} (h : withB fs ps n x y = true) : OkTo fs (insP ps n x y) (n + 1) := by
  unfold withB at h
  by_cases hO : OkTo fs (insP ps n x y) (n + 1)
  · exact hO
  · rw [pairingB_false hO] at h
    cases h

end Go.Proofs.Ytplcbiconfpmlaa
