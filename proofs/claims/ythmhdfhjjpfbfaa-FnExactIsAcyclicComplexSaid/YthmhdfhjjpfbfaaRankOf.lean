import Derived.Test.YthmhdfhjjpfbfaaRankT
/-! RankOf, the model's and the program's: the codes, and both answers. -/
namespace Go.Proofs.Ythmhdfhjjpfbfaa
open Go.RowKit

noncomputable def codeR (V : Int) (fs : List Int) (p : Int) : Int := if isCB V fs then (if p = 2 ∨ p = 3 then 0 else 2) else 1
noncomputable def rankR (V : Int) (fs : List Int) (d p : Int) : Int × Int := if isCB V fs then (if (0 ≤ d ∧ d ≤ 6) ∧ (p = 2 ∨ p = 3) then ((rankN fs d p : Int), 0) else (0, 2)) else (0, 1)

theorem num_mono {fn : FuncId} {args : Array Value} {w : World} {B : Nat} {P : Program} {R : Int × Int} {ys c : Int} (hR : R = (ys, c))
    (h : Calls P fn args w fun e w' => e = .returned (.tuple #[.int .i64 ys, .int .i64 c]) ∧ Below B w w') :
    Calls P fn args w fun e w' => e = .returned (.tuple #[.int .i64 R.1, .int .i64 R.2]) ∧ Below B w w' := by
  subst hR
  exact h
theorem eq_false {a b : Int} (h : a ≠ b) : (a == b) = false := by simpa using h
theorem ne_true {a b : Int} (h : a ≠ b) : (a != b) = true := by simpa using h

set_option maxHeartbeats 400000 in
theorem mod_yes (p : Int) (w : World) (hp : p = 2 ∨ p = 3) :
    Calls Try.prog 88 #[.int .i64 p] w fun e w' => e = .returned (.bool true) ∧ w = w' := by
  rcases hp with rfl | rfl
  all_goals
    go_enter Try.func88, Try.ntmps88
    go_wp2
    go_ret
    exact ⟨rfl, rfl⟩
set_option maxHeartbeats 400000 in
theorem mod_no (p : Int) (w : World) (hp : ¬ (p = 2 ∨ p = 3)) :
    Calls Try.prog 88 #[.int .i64 p] w fun e w' => e = .returned (.bool false) ∧ w = w' := by
  have g2 : (p == 2) = false := eq_false (by omega)
  have g3 : (p == 3) = false := eq_false (by omega)
  go_enter Try.func88, Try.ntmps88
  go_wp2
  go_ret
  exact ⟨rfl, rfl⟩

set_option maxHeartbeats 1000000 in
theorem code_any (V : Int) (a0 : Option Addr) (cap : Nat) (fs : List Int) (p : Int) (w : World) (hx : SlI w w.heap.size a0 fs) (hl : fs.length ≤ 1048576) :
    Calls Try.prog 85 #[.agg #[.int .i64 V, .slice a0 fs.length cap], .int .i64 p] w fun e w' => e = .returned (.int .i64 (codeR V fs p)) ∧ Below w.heap.size w w' := by
  have hB0 : Below w.heap.size w (w.alloc (.cells #[.int .i64 V, .slice a0 fs.length cap] 28)) := (Below.refl _ w).alloc (Nat.le_refl _) _
  have hx1 := hx.later hB0 hB0.size
  obtain ⟨E, hE⟩ : ∃ E, E = codeR V fs p := ⟨_, rfl⟩
  rw [← hE]
  by_cases hC : IsC V fs
  · have HI := hid (is_yes V a0 cap fs _ hx1 hl hC)
    have hE1 : E = if p = 2 ∨ p = 3 then 0 else 2 := by rw [hE, codeR, isCB_true hC, if_pos rfl]
    clear hx hx1 hC hE
    by_cases h2 : p = 2
    · have He : Hid (E = 0) := hid (by rw [hE1, if_pos (.inl h2)])
      subst h2
      clear hE1
      go_enter Try.func85, Try.ntmps85
      go_wp2_with fail
      refine HI.out.mono ?_
      rintro e w1 ⟨rfl, hB1⟩
      go_wp2_with fail
      go_ret
      exact ⟨ret_int (by rw [He.out]), hB0.trans (hB1.mono (by simp))⟩
    · by_cases h3 : p = 3
      · have He : Hid (E = 0) := hid (by rw [hE1, if_pos (.inr h3)])
        subst h3
        clear hE1
        go_enter Try.func85, Try.ntmps85
        go_wp2_with fail
        refine HI.out.mono ?_
        rintro e w1 ⟨rfl, hB1⟩
        go_wp2_with fail
        go_ret
        exact ⟨ret_int (by rw [He.out]), hB0.trans (hB1.mono (by simp))⟩
      · have He : Hid (E = 2) := hid (by rw [hE1, if_neg (by omega)])
        have g2 : (p != 2) = true := ne_true h2
        have g3 : (p != 3) = true := ne_true h3
        clear hE1 h2 h3
        go_enter Try.func85, Try.ntmps85
        go_wp2_with fail
        refine HI.out.mono ?_
        rintro e w1 ⟨rfl, hB1⟩
        go_wp2_with fail
        go_ret
        exact ⟨ret_int (by rw [He.out]), hB0.trans (hB1.mono (by simp))⟩
  · have HI := hid (is_no V a0 cap fs _ hx1 hl hC)
    have He : Hid (E = 1) := hid (by rw [hE, codeR, isCB_false hC, if_neg (by simp)])
    clear hx hx1 hC hE
    go_enter Try.func85, Try.ntmps85
    go_wp2_with fail
    refine HI.out.mono ?_
    rintro e w1 ⟨rfl, hB1⟩
    go_wp2_with fail
    go_ret
    exact ⟨ret_int (by rw [He.out]), hB0.trans (hB1.mono (by simp))⟩

theorem code_eq {V : Int} {a0 : Option Addr} {cap : Nat} {fs : List Int} {p : Int} {w : World} (c : Int) (hx : SlI w w.heap.size a0 fs) (hl : fs.length ≤ 1048576) (h : codeR V fs p = c) :
    Calls Try.prog 85 #[.agg #[.int .i64 V, .slice a0 fs.length cap], .int .i64 p] w fun e w' => e = .returned (.int .i64 c) ∧ Below w.heap.size w w' := by
  have := code_any V a0 cap fs p w hx hl
  rwa [h] at this

set_option maxHeartbeats 1000000 in
theorem specRankOf (V : Int) (a0 : Option Addr) (cap : Nat) (fs : List Int) (d p : Int) (w : World) (hx : SlI w w.heap.size a0 fs) (hl : fs.length ≤ 1048576) (_wd : (Lit.int .i64 d).wf = true) (_wp : (Lit.int .i64 p).wf = true) :
    Calls Try.prog 44 #[.agg #[.int .i64 V, .slice a0 fs.length cap], .int .i64 d, .int .i64 p] w fun e w' => e = .returned (.tuple #[.int .i64 (rankR V fs d p).1, .int .i64 (rankR V fs d p).2]) ∧ Below w.heap.size w w' := by
  have hB0 : Below w.heap.size w (w.alloc (.cells #[.int .i64 V, .slice a0 fs.length cap] 28)) := (Below.refl _ w).alloc (Nat.le_refl _) _
  have hx1 := hx.later hB0 hB0.size
  by_cases hC : IsC V fs
  · by_cases hp : p = 2 ∨ p = 3
    · have HK := hid (code_eq (V := V) (a0 := a0) (cap := cap) (p := p) 0 hx1 hl (by rw [codeR, isCB_true hC, if_pos rfl, if_pos hp]))
      by_cases hd : 0 ≤ d ∧ d ≤ 6
      · refine num_mono (show rankR V fs d p = ((rankN fs d p : Int), 0) by rw [rankR, isCB_true hC, if_pos rfl, if_pos ⟨hd, hp⟩]) ?_
        have HC := hid hC
        have HX := hid hx
        have Hp := hid hp
        have h0 := hd.1
        have h6 := hd.2
        clear hx hx1 hC hp hd
        go_enter Try.func44, Try.ntmps44
        go_wp2_with fail
        refine HK.out.mono ?_
        rintro e w1 ⟨rfl, hB1⟩
        have k0 : w1.cell? ⟨w.heap.size, 0, none⟩ = some (.int .i64 V) := (hB1.cell (p := ⟨w.heap.size, 0, none⟩) (by simp)).trans (by simp [go_sem])
        have k1 : w1.cell? ⟨w.heap.size, 1, none⟩ = some (.slice a0 fs.length cap) := (hB1.cell (p := ⟨w.heap.size, 1, none⟩) (by simp)).trans (by simp [go_sem])
        have HB1 := hid (hB0.trans (hB1.mono (by simp)))
        clear hB0 hB1
        go_wp2_with (go_at_call 86; refine (in_yes _ _ _ _ h0 h6).mono ?_; rintro e w' ⟨rfl, rfl⟩)
        refine (rkS_any V a0 cap fs d p w1 (HX.out.later HB1.out HB1.out.size) hl HC.out Hp.out h0 (by omega)).mono ?_
        rintro e w2 ⟨rfl, hB2⟩
        go_wp2_with fail
        go_ret2
        exact ⟨rfl, HB1.out.trans (hB2.mono HB1.out.size)⟩
      · refine num_mono (show rankR V fs d p = (0, 2) by rw [rankR, isCB_true hC, if_pos rfl, if_neg (fun h => hd h.1)]) ?_
        clear hx hx1 hC hp
        go_enter Try.func44, Try.ntmps44
        go_wp2_with fail
        refine HK.out.mono ?_
        rintro e w1 ⟨rfl, hB1⟩
        go_wp2_with (go_at_call 86; refine (in_no _ _ _ _ hd).mono ?_; rintro e w' ⟨rfl, rfl⟩)
        go_ret2
        exact ⟨rfl, hB0.trans (hB1.mono (by simp))⟩
    · have HK := hid (code_eq (V := V) (a0 := a0) (cap := cap) (p := p) 2 hx1 hl (by rw [codeR, isCB_true hC, if_pos rfl, if_neg hp]))
      refine num_mono (show rankR V fs d p = (0, 2) by rw [rankR, isCB_true hC, if_pos rfl, if_neg (fun h => hp h.2)]) ?_
      clear hx hx1 hC hp
      go_enter Try.func44, Try.ntmps44
      go_wp2_with fail
      refine HK.out.mono ?_
      rintro e w1 ⟨rfl, hB1⟩
      go_wp2_with fail
      go_ret2
      exact ⟨rfl, hB0.trans (hB1.mono (by simp))⟩
  · have HK := hid (code_eq (V := V) (a0 := a0) (cap := cap) (p := p) 1 hx1 hl (by rw [codeR, isCB_false hC, if_neg (by simp)]))
    refine num_mono (show rankR V fs d p = (0, 1) by rw [rankR, isCB_false hC, if_neg (by simp)]) ?_
    clear hx hx1 hC
    go_enter Try.func44, Try.ntmps44
    go_wp2_with fail
    refine HK.out.mono ?_
    rintro e w1 ⟨rfl, hB1⟩
    go_wp2_with fail
    go_ret2
    exact ⟨rfl, hB0.trans (hB1.mono (by simp))⟩

set_option maxHeartbeats 1000000 in
theorem implRankOf (V : Int) (a0 : Option Addr) (cap : Nat) (fs : List Int) (d p : Int) (w : World) (hx : SlI w w.heap.size a0 fs) (hl : fs.length ≤ 1048576) (_wd : (Lit.int .i64 d).wf = true) (_wp : (Lit.int .i64 p).wf = true) :
    Calls Try.prog 45 #[.agg #[.int .i64 V, .slice a0 fs.length cap], .int .i64 d, .int .i64 p] w fun e w' => e = .returned (.tuple #[.int .i64 (rankR V fs d p).1, .int .i64 (rankR V fs d p).2]) ∧ Below w.heap.size w w' := by
  have hB0 : Below w.heap.size w (w.alloc (.cells #[.int .i64 V, .slice a0 fs.length cap] 28)) := (Below.refl _ w).alloc (Nat.le_refl _) _
  have hx1 := hx.later hB0 hB0.size
  by_cases hC : IsC V fs
  · have HK := hid (isc_yes V a0 cap fs _ hx1 hl hC)
    by_cases hd : 0 ≤ d ∧ d ≤ 6
    · have g1 : decide (d < 0) = false := decide_eq_false (by omega)
      have g2 : decide (6 < d) = false := decide_eq_false (by omega)
      by_cases hp : p = 2 ∨ p = 3
      · refine num_mono (show rankR V fs d p = ((rankN fs d p : Int), 0) by rw [rankR, isCB_true hC, if_pos rfl, if_pos ⟨hd, hp⟩]) ?_
        have HC := hid hC
        have HX := hid hx
        have Hp := hid hp
        have h0 := hd.1
        have h6 := hd.2
        clear hx hx1 hC hp hd
        go_enter Try.func45, Try.ntmps45
        go_wp2_with fail
        refine HK.out.mono ?_
        rintro e w1 ⟨rfl, hB1⟩
        have k0 : w1.cell? ⟨w.heap.size, 0, none⟩ = some (.int .i64 V) := (hB1.cell (p := ⟨w.heap.size, 0, none⟩) (by simp)).trans (by simp [go_sem])
        have k1 : w1.cell? ⟨w.heap.size, 1, none⟩ = some (.slice a0 fs.length cap) := (hB1.cell (p := ⟨w.heap.size, 1, none⟩) (by simp)).trans (by simp [go_sem])
        have HB1 := hid (hB0.trans (hB1.mono (by simp)))
        clear hB0 hB1
        go_wp2_with (go_at_call 88; refine (mod_yes _ _ Hp.out).mono ?_; rintro e w' ⟨rfl, rfl⟩)
        refine (brank_any V a0 cap fs d p w1 (HX.out.later HB1.out HB1.out.size) hl HC.out Hp.out (by omega) (by omega)).mono ?_
        rintro e w2 ⟨rfl, hB2⟩
        go_wp2_with fail
        go_ret2
        exact ⟨rfl, HB1.out.trans (hB2.mono HB1.out.size)⟩
      · refine num_mono (show rankR V fs d p = (0, 2) by rw [rankR, isCB_true hC, if_pos rfl, if_neg (fun h => hp h.2)]) ?_
        clear hx hx1 hC hd
        go_enter Try.func45, Try.ntmps45
        go_wp2_with fail
        refine HK.out.mono ?_
        rintro e w1 ⟨rfl, hB1⟩
        go_wp2_with (go_at_call 88; refine (mod_no _ _ hp).mono ?_; rintro e w' ⟨rfl, rfl⟩)
        go_ret2
        exact ⟨rfl, hB0.trans (hB1.mono (by simp))⟩
    · refine num_mono (show rankR V fs d p = (0, 2) by rw [rankR, isCB_true hC, if_pos rfl, if_neg (fun h => hd h.1)]) ?_
      clear hx hx1 hC
      by_cases hd0 : d < 0
      · have g1 : decide (d < 0) = true := decide_eq_true hd0
        clear hd hd0
        go_enter Try.func45, Try.ntmps45
        go_wp2_with fail
        refine HK.out.mono ?_
        rintro e w1 ⟨rfl, hB1⟩
        go_wp2_with fail
        go_ret2
        exact ⟨rfl, hB0.trans (hB1.mono (by simp))⟩
      · have g1 : decide (d < 0) = false := decide_eq_false hd0
        have g2 : decide (6 < d) = true := decide_eq_true (by omega)
        clear hd hd0
        go_enter Try.func45, Try.ntmps45
        go_wp2_with fail
        refine HK.out.mono ?_
        rintro e w1 ⟨rfl, hB1⟩
        go_wp2_with fail
        go_ret2
        exact ⟨rfl, hB0.trans (hB1.mono (by simp))⟩
  · have HK := hid (isc_no V a0 cap fs _ hx1 hl hC)
    refine num_mono (show rankR V fs d p = (0, 1) by rw [rankR, isCB_false hC, if_neg (by simp)]) ?_
    clear hx hx1 hC
    go_enter Try.func45, Try.ntmps45
    go_wp2_with fail
    refine HK.out.mono ?_
    rintro e w1 ⟨rfl, hB1⟩
    go_wp2_with fail
    go_ret2
    exact ⟨rfl, hB0.trans (hB1.mono (by simp))⟩

end Go.Proofs.Ythmhdfhjjpfbfaa
