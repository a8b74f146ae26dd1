import Derived.Test.YtojnpacklcajpaaSpecC
import Derived.Test.YtojnpacklcajpaaOnes
import Derived.Test.YtojnpacklcajpaaCx
/-! Pairs compared. -/
namespace Go.Proofs.Ytojnpacklcajpaa
open Go.RowKit

/-- A pair comes ahead of another one. -/
def lessP (x y x' y' : Int) : Bool := decide (x < x') || (decide (x = x') && decide (y < y'))

set_option maxRecDepth 100000 in
set_option maxHeartbeats 1000000 in
theorem less_any (x y x' y' : Int) (w : World) :
    Calls Try.prog 121 #[.agg #[.int .i64 x, .int .i64 y], .agg #[.int .i64 x', .int .i64 y']] w fun e w' => e = .returned (.bool (lessP x y x' y')) ∧ Below w.heap.size w w' := by
  have HB : Hid (Below w.heap.size w ((w.alloc (.cells #[.int .i64 x, .int .i64 y] 63)).alloc (.cells #[.int .i64 x', .int .i64 y'] 63))) := hid (((Below.refl _ w).alloc (Nat.le_refl _) _).alloc (by simp) _)
  by_cases h1 : x < x'
  · have hd : decide (x < x') = true := decide_eq_true h1
    have He : Hid (lessP x y x' y' = true) := hid (by unfold lessP; simp [h1])
    clear h1
    go_enter Try.func121, Try.ntmps121
    go_wp2
    go_ret
    exact ⟨ret_bool He.out.symm, HB.out⟩
  · have hd : decide (x < x') = false := decide_eq_false h1
    by_cases h2 : x = x'
    · have hd2 : (x == x') = true := by simp [h2]
      have He : Hid (lessP x y x' y' = decide (y < y')) := hid (by unfold lessP; simp [h2])
      clear h1 h2
      go_enter Try.func121, Try.ntmps121
      go_wp2
      go_ret
      exact ⟨ret_bool He.out.symm, HB.out⟩
    · have hd2 : (x == x') = false := by simp [h2]
      have He : Hid (lessP x y x' y' = false) := hid (by unfold lessP; simp [h1, h2])
      clear h1 h2
      go_enter Try.func121, Try.ntmps121
      go_wp2
      go_ret
      exact ⟨ret_bool He.out.symm, HB.out⟩

/-- -1, 0 or 1. -/
def cmpI (x y : Int) : Int := if x < y then -1 else if y < x then 1 else 0

set_option maxRecDepth 100000 in
set_option maxHeartbeats 1000000 in
theorem nan_any (x : Int) (w : World) : Calls Try.prog 130 #[.int .i64 x] w fun e w' => e = .returned (.bool false) ∧ w = w' := by
  have hne : (x != x) = false := by simp
  go_enter Try.func130, Try.ntmps130
  go_wp2
  go_ret
  exact ⟨rfl, rfl⟩

set_option maxRecDepth 100000 in
set_option maxHeartbeats 1000000 in
theorem cmp_any (x y : Int) (w : World) : Calls Try.prog 128 #[.int .i64 x, .int .i64 y] w fun e w' => e = .returned (.int .i64 (cmpI x y)) ∧ w = w' := by
  by_cases h1 : x < y
  · have hd : decide (x < y) = true := decide_eq_true h1
    have He : Hid (cmpI x y = -1) := hid (by unfold cmpI; simp [h1])
    clear h1
    go_enter Try.func128, Try.ntmps128
    go_wp2_with (go_at_call 130; refine (nan_any _ _).mono ?_; rintro e w' ⟨rfl, rfl⟩)
    go_ret
    exact ⟨ret_int He.out.symm, rfl⟩
  · have hd : decide (x < y) = false := decide_eq_false h1
    by_cases h2 : y < x
    · have hd2 : decide (y < x) = true := decide_eq_true h2
      have He : Hid (cmpI x y = 1) := hid (by unfold cmpI; simp [h1, h2])
      clear h1 h2
      go_enter Try.func128, Try.ntmps128
      go_wp2_with (go_at_call 130; refine (nan_any _ _).mono ?_; rintro e w' ⟨rfl, rfl⟩)
      go_ret
      exact ⟨ret_int He.out.symm, rfl⟩
    · have hd2 : decide (y < x) = false := decide_eq_false h2
      have He : Hid (cmpI x y = 0) := hid (by unfold cmpI; simp [h1, h2])
      clear h1 h2
      go_enter Try.func128, Try.ntmps128
      go_wp2_with (go_at_call 130; refine (nan_any _ _).mono ?_; rintro e w' ⟨rfl, rfl⟩)
      go_ret
      exact ⟨ret_int He.out.symm, rfl⟩

/-- The first of two that is not 0. -/
def orI (u v : Int) : Int := if u = 0 then v else u

theorem two_new (W : World) (H : Nat) (hH : W.heap.size = H) (u v : Value) (t : Nat) : (W.alloc (.cells #[u, v] t)).cell? ⟨H, 0, none⟩ = some u ∧ (W.alloc (.cells #[u, v] t)).cell? ⟨H, 1, none⟩ = some v := by
  subst hH
  constructor <;> simp [go_sem]

theorem two_new_d (W : World) (H : Nat) (hH : W.heap.size = H) (u v : Value) (t : Nat) : (W.alloc (.cells #[u, v] t)).drew.cell? ⟨H, 0, none⟩ = some u ∧ (W.alloc (.cells #[u, v] t)).drew.cell? ⟨H, 1, none⟩ = some v := two_new W H hH u v t

set_option maxRecDepth 100000 in
set_option maxHeartbeats 1000000 in
theorem or_any (u v : Int) (b : Nat) (w : World) (h0 : w.cell? ⟨b, 0, none⟩ = some (.int .i64 u)) (h1 : w.cell? ⟨b, 1, none⟩ = some (.int .i64 v)) :
    Calls Try.prog 127 #[.slice (some ⟨b, 0, none⟩) 2 2] w fun e w' => e = .returned (.int .i64 (orI u v)) ∧ w = w' := by
  by_cases hu : u = 0
  · have hd : (u != 0) = false := by simp [hu]
    by_cases hv : v = 0
    · have hd2 : (v != 0) = false := by simp [hv]
      have He : Hid (orI u v = 0) := hid (by unfold orI; rw [if_pos hu, hv])
      clear hu hv
      go_enter Try.func127, Try.ntmps127
      go_wp2
      refine wp_loop_rounds 3 ?_; rw [rounds_succ]
      go_wp2
      rw [rounds_succ]
      go_wp2
      rw [rounds_succ]
      go_wp2
      go_ret
      exact ⟨ret_int He.out.symm, rfl⟩
    · have hd2 : (v != 0) = true := by simp [hv]
      have He : Hid (orI u v = v) := hid (by unfold orI; rw [if_pos hu])
      clear hu hv
      go_enter Try.func127, Try.ntmps127
      go_wp2
      refine wp_loop_rounds 3 ?_; rw [rounds_succ]
      go_wp2
      rw [rounds_succ]
      go_wp2
      go_ret
      exact ⟨ret_int He.out.symm, rfl⟩
  · have hd : (u != 0) = true := by simp [hu]
    have He : Hid (orI u v = u) := hid (by unfold orI; rw [if_neg hu])
    clear hu
    go_enter Try.func127, Try.ntmps127
    go_wp2
    refine wp_loop_rounds 3 ?_; rw [rounds_succ]
    go_wp2
    go_ret
    exact ⟨ret_int He.out.symm, rfl⟩

/-- What comparePairs hands back. -/
def cmpP (x y x' y' : Int) : Int := orI (cmpI x x') (cmpI y y')

theorem cmpP_neg (x y x' y' : Int) : cmpP x y x' y' < 0 ↔ lessP x y x' y' = true := by
  unfold cmpP orI cmpI lessP
  simp only [Bool.or_eq_true, Bool.and_eq_true, decide_eq_true_eq]
  repeat' split
  all_goals omega

set_option maxRecDepth 100000 in
set_option maxHeartbeats 1000000 in
theorem cp_any (x y x' y' : Int) (w : World) :
    Calls Try.prog 123 #[.agg #[.int .i64 x, .int .i64 y], .agg #[.int .i64 x', .int .i64 y']] w fun e w' => e = .returned (.int .i64 (cmpP x y x' y')) ∧ Below w.heap.size w w' := by
  go_enter Try.func123, Try.ntmps123
  go_wp2
  have q0 : ((w.alloc (.cells #[.int .i64 x, .int .i64 y] 63)).alloc (.cells #[.int .i64 x', .int .i64 y'] 63)).cell? ⟨w.heap.size, 0, none⟩ = some (.int .i64 x) := by simp [go_sem]
  have q1 : ((w.alloc (.cells #[.int .i64 x, .int .i64 y] 63)).alloc (.cells #[.int .i64 x', .int .i64 y'] 63)).cell? ⟨w.heap.size, 1, none⟩ = some (.int .i64 y) := by simp [go_sem]
  have q2 : ((w.alloc (.cells #[.int .i64 x, .int .i64 y] 63)).alloc (.cells #[.int .i64 x', .int .i64 y'] 63)).cell? ⟨w.heap.size + 1, 0, none⟩ = some (.int .i64 x') := by simp [go_sem]
  have q3 : ((w.alloc (.cells #[.int .i64 x, .int .i64 y] 63)).alloc (.cells #[.int .i64 x', .int .i64 y'] 63)).cell? ⟨w.heap.size + 1, 1, none⟩ = some (.int .i64 y') := by simp [go_sem]
  have hsz : ((w.alloc (.cells #[.int .i64 x, .int .i64 y] 63)).alloc (.cells #[.int .i64 x', .int .i64 y'] 63)).heap.size = w.heap.size + 1 + 1 := by simp
  have HB : Hid (Below w.heap.size w ((w.alloc (.cells #[.int .i64 x, .int .i64 y] 63)).alloc (.cells #[.int .i64 x', .int .i64 y'] 63))) := hid (((Below.refl _ w).alloc (Nat.le_refl _) _).alloc (by simp) _)
  obtain ⟨W, hW⟩ : ∃ W, W = (w.alloc (.cells #[.int .i64 x, .int .i64 y] 63)).alloc (.cells #[.int .i64 x', .int .i64 y'] 63) := ⟨_, rfl⟩
  rw [← hW] at q0 q1 q2 q3 hsz HB ⊢
  clear hW
  go_region_held3 (fun w' => w'.cell? ⟨w.heap.size, 0, none⟩ = some (.int .i64 x) ∧ w'.cell? ⟨w.heap.size, 1, none⟩ = some (.int .i64 y) ∧ w'.cell? ⟨w.heap.size + 1, 0, none⟩ = some (.int .i64 x') ∧ w'.cell? ⟨w.heap.size + 1, 1, none⟩ = some (.int .i64 y')) (go_keep) (first
    | (go_at_call 128; refine (cmp_any _ _ _).mono ?_; rintro e w' ⟨rfl, rfl⟩)
    | (go_at_call 127; refine (or_any (cmpI x x') (cmpI y y') _ _ (two_new_d W _ hsz _ _ _).1 (two_new_d W _ hsz _ _ _).2).mono ?_; rintro e w' ⟨rfl, rfl⟩))
  all_goals
    go_wp2_with fail
    go_ret
    exact ⟨rfl, HB.out.trans (Below.mono (w := W) (((Below.refl _ W).alloc (Nat.le_refl _) _).drew) HB.out.size)⟩

end Go.Proofs.Ytojnpacklcajpaa
