import Derived.Test.YthmhdfhjjpfbfaaHaving
/-! The signs of the sides of a face, the model's. -/
namespace Go.Proofs.Ythmhdfhjjpfbfaa
open Go.RowKit

/-- The first j signs of a face with n + 1 vertices. -/
def sgTo (n j : Nat) : List Int := (List.range j).map fun i => 1 - 2 * (((n - i) % 2 : Nat) : Int)
def signL (f : Nat) : List Int := if ones f = 1 then [] else sgTo (ones f - 1) (ones f)
theorem sgTo_succ (n j : Nat) : sgTo n (j + 1) = sgTo n j ++ [1 - 2 * (((n - j) % 2 : Nat) : Int)] := by simp [sgTo, List.range_succ]
theorem sgTo_len (n j : Nat) : (sgTo n j).length = j := by simp [sgTo]

set_option maxRecDepth 100000 in
set_option maxHeartbeats 1000000 in
theorem signs_any (f : Nat) (w : World) (hf : f < 64) (h0 : f ≠ 0) :
    Calls Try.prog 58 #[.int .i64 (f : Int)] w fun e w' => ∃ v, e = .returned v ∧ Res w w' v (signL f) := by
  have hown0 := World.ownsRow_made (base := w.heap.size) (e := 2) (size := 1) w #[] 0 (by simp) (by simp [maxLen]) rfl
  have Hown0 := hid hown0
  have hop := ones_pos ⟨f, hf⟩ h0
  have ho := ones_le f
  obtain ⟨n, hn⟩ : ∃ n, ones f = n + 1 := ⟨ones f - 1, by have : 0 < ones f := hop; omega⟩
  have HO : Hid (∀ w, Calls Try.prog 70 #[.int .i64 (f : Int)] w fun e w' => e = .returned (.int .i64 ((n : Int) + 1)) ∧ w = w') := hid (fun w => (ones_any f w hf).mono fun _ _ ⟨he, hw⟩ => ⟨by rw [he, hn]; rfl, hw⟩)
  have hn5 : n ≤ 5 := by omega
  have hsg : signL f = if n = 0 then [] else sgTo n (n + 1) := by unfold signL; rw [hn]; simp
  rw [hsg]
  clear hown0 hop ho hn hsg
  by_cases hz : n = 0
  · subst hz
    go_enter Try.func58, Try.ntmps58
    go_wp2_with (go_at_call 70; refine (HO.out _).mono ?_; rintro e w' ⟨rfl, rfl⟩)
    go_ret
    exact ⟨_, rfl, by simpa using Hown0.out, (Below.refl _ w).alloc (Nat.le_refl _) _⟩
  · rw [if_neg hz]
    have hd : ((n : Int) == 0) = false := beq_eq_false_iff_ne.2 (by omega)
    clear hz
    go_enter Try.func58, Try.ntmps58
    go_wp2_with (go_at_call 70; refine (HO.out _).mono ?_; rintro e w' ⟨rfl, rfl⟩)
    go_loopw [3, 4] (fun v p wr => ∃ j : Nat, j ≤ n + 1 ∧ p = .int .i64 ((n : Int) - j) ∧ wr.ownsRow w.heap.size 2 1 v (sgTo n j).length ((sgTo n j).map (Value.int .i64)) ∧ Below w.heap.size w wr) (fun _ p _ => (intOf p + 1).toNat)
    case atStart => exact ⟨0, Nat.zero_le _, by simp, by simpa [sgTo] using Hown0.out, (Below.refl _ w).alloc (Nat.le_refl _) _⟩
    case round =>
      obtain ⟨j, hj, rfl, hown, hB⟩ := hrel
      have HB := hid hB
      have Hown := hid hown
      have Hsz := hid hB.size
      have hle := sgTo_len n j
      by_cases hjn : j = n + 1
      · subst hjn
        have e : (n : Int) - ((n + 1 : Nat) : Int) = -1 := by omega
        rw [e]
        clear e hown hB
        go_wp2
        go_ret
        exact ⟨_, rfl, Hown.out, HB.out⟩
      · obtain ⟨q, hq⟩ : ∃ q : Nat, n = q + j := ⟨n - j, by omega⟩
        have e : (n : Int) - (j : Int) = (q : Int) := by omega
        have He : Hid (((n : Int) - ((j + 1 : Nat) : Int)) = (q : Int) - 1) := hid (by omega)
        have hs := sgTo_succ n j
        rw [show n - j = q by omega] at hs
        rw [e]
        have hq0 : (0 : Int) ≤ (q : Int) := by omega
        have hqw : IntKind.i64.wrap ((q : Int) - 1) = (q : Int) - 1 := by rw [IntKind.wrap_i64]; omega
        have hmod : (q : Int).tmod 2 = ((q % 2 : Nat) : Int) := by rw [Int.tmod_eq_emod_of_nonneg (by omega)]; omega
        rcases Nat.mod_two_eq_zero_or_one q with h2 | h2
        · rw [h2] at hmod hs
          have Hs := hid hs
          clear e hown hB hs h2 hq
          have hmod' : (q : Int).tmod 2 = 0 := hmod
          clear hmod
          · skip
            go_wp2_with (at_builtin; refine append_int rfl rfl Hown.out Hsz.out (by omega) rfl rfl ?_; intro v' w2 hown2 hgrow2 hB2)
            go_roundw
            case rel => exact ⟨j + 1, by omega, by rw [He.out], by rw [Hs.out]; exact hown2, HB.out.trans hB2⟩
            case measure => simp [intOf] <;> omega
        · rw [h2] at hmod hs
          have Hs := hid hs
          clear e hown hB hs h2 hq
          have hmod' : (q : Int).tmod 2 = 1 := hmod
          clear hmod
          · skip
            go_wp2_with (at_builtin; refine append_int rfl rfl Hown.out Hsz.out (by omega) rfl rfl ?_; intro v' w2 hown2 hgrow2 hB2)
            go_roundw
            case rel => exact ⟨j + 1, by omega, by rw [He.out], by rw [Hs.out]; exact hown2, HB.out.trans hB2⟩
            case measure => simp [intOf] <;> omega

/-- What SignsOf hands back. -/
noncomputable def signsOfR (V : Int) (fs : List Int) (f : Int) : List Int × Int := if isCB V fs then (if f ∈ fs then (signL f.toNat, 0) else ([], 2)) else ([], 1)

theorem signsOfR_len (V : Int) (fs : List Int) (f : Int) (_h : fs.length ≤ 1048576) : (signsOfR V fs f).1.length ≤ 1048576 := by
  unfold signsOfR
  have := ones_le f.toNat
  split
  · split
    · unfold signL
      split
      · simp
      · simp only [sgTo_len]; omega
    · simp
  · simp

theorem sign_mono {P : Program} {fn : FuncId} {args : Array Value} {w : World} {r : List Int × Int} {xs : List Int} {c : Int} (hr : r = (xs, c))
    (h : Calls P fn args w fun e w' => ∃ v, e = .returned (.tuple #[v, .int .i64 c]) ∧ Res w w' v xs) : Calls P fn args w fun e w' => ∃ v, e = .returned (.tuple #[v, .int .i64 r.2]) ∧ Res w w' v r.1 := by
  subst hr; exact h

set_option maxRecDepth 100000 in
set_option maxHeartbeats 1000000 in
theorem specSignsOf (V : Int) (a0 : Option Addr) (cap : Nat) (fs : List Int) (f : Int) (_hwf : (Lit.int .i64 f).wf = true) (w : World) (hx : SlI w w.heap.size a0 fs) (hl : fs.length ≤ 1048576) :
    Calls Try.prog 24 #[.agg #[.int .i64 V, .slice a0 fs.length cap], .int .i64 f] w fun e w' => ∃ v, e = .returned (.tuple #[v, .int .i64 (signsOfR V fs f).2]) ∧ Res w w' v (signsOfR V fs f).1 := by
  have hB0 : Below w.heap.size w (w.alloc (.cells #[.int .i64 V, .slice a0 fs.length cap] 28)) := (Below.refl _ w).alloc (Nat.le_refl _) _
  have hx1 := hx.later hB0 hB0.size
  by_cases hC : IsC V fs
  · by_cases hm : f ∈ fs
    · refine sign_mono (show signsOfR V fs f = (signL f.toNat, 0) by unfold signsOfR; rw [isCB_true hC, if_pos rfl, if_pos hm]) ?_
      have HI := hid (face_yes V a0 cap fs f _ hx1 hl hC hm)
      have hr := hC.range63 f hm
      obtain ⟨q, rfl⟩ : ∃ q : Nat, f = q := ⟨f.toNat, by omega⟩
      have HS := hid (fun w => signs_any q w (by omega) (by omega))
      rw [Int.toNat_natCast]
      clear hx hx1 hC hm hr
      go_enter Try.func24, Try.ntmps24
      go_wp2_with fail
      refine HI.out.mono ?_
      rintro e w1 ⟨rfl, hB1⟩
      have HB1 := hid (hB0.trans (hB1.mono (by simp)))
      clear hB0 hB1
      go_wp2_with fail
      refine (HS.out _).mono ?_
      rintro e w2 ⟨v, rfl, hr⟩
      go_wp2_with fail
      go_ret2
      exact ⟨v, rfl, hr.later HB1.out⟩
    · refine sign_mono (show signsOfR V fs f = ([], 2) by unfold signsOfR; rw [isCB_true hC, if_pos rfl, if_neg hm]) ?_
      have HI := hid (face_no V a0 cap fs f _ hx1 hl hC hm)
      clear hx hx1 hC hm
      go_enter Try.func24, Try.ntmps24
      go_wp2_with fail
      refine HI.out.mono ?_
      rintro e w1 ⟨rfl, hB1⟩
      go_wp2_with fail
      go_ret2
      exact ⟨_, rfl, res_nil _ _ (hB0.trans (hB1.mono (by simp)))⟩
  · refine sign_mono (show signsOfR V fs f = ([], 1) by unfold signsOfR; rw [isCB_false hC, if_neg (by simp)]) ?_
    have HI := hid (face_bad V a0 cap fs f _ hx1 hl hC)
    clear hx hx1 hC
    go_enter Try.func24, Try.ntmps24
    go_wp2_with fail
    refine HI.out.mono ?_
    rintro e w1 ⟨rfl, hB1⟩
    go_wp2_with fail
    go_ret2
    exact ⟨_, rfl, res_nil _ _ (hB0.trans (hB1.mono (by simp)))⟩

end Go.Proofs.Ythmhdfhjjpfbfaa
