import Derived.Laws.OwnMore
import Derived.Test.YtplcbiconfpmlaaMB10
import Derived.Test.YtplcbiconfpmlaaMB6
import Derived.Test.YtplcbiconfpmlaaMB1
import Derived.Test.YtplcbiconfpmlaaMB5
/-! InequalitiesFor: what it says, and the program's test of the numbers. -/
namespace Go.Proofs.Ytplcbiconfpmlaa
open Go.RowKit

/-- The alternating sums. -/
def sumW (gs hs : List Int) : Nat → Int
  | 0 => 0
  | k + 1 => wrap64 (wrap64 (gs[k]?.getD 0 - hs[k]?.getD 0) - sumW gs hs k)
def weakB (gs hs : List Int) (k : Nat) : Bool := (List.range k).all fun i => decide (hs[i]?.getD 0 ≤ gs[i]?.getD 0)
def strongB (gs hs : List Int) (k : Nat) : Bool := (List.range k).all fun i => decide (0 ≤ sumW gs hs (i + 1))
theorem weakB_succ (gs hs : List Int) (k : Nat) : weakB gs hs (k + 1) = (weakB gs hs k && decide (hs[k]?.getD 0 ≤ gs[k]?.getD 0)) := by
  unfold weakB
  rw [List.range_succ, List.all_append]
  simp
theorem strongB_succ (gs hs : List Int) (k : Nat) : strongB gs hs (k + 1) = (strongB gs hs k && decide (0 ≤ sumW gs hs (k + 1))) := by
  unfold strongB
  rw [List.range_succ, List.all_append]
  simp
def oneB (b : Bool) : Int := if b then 1 else 0
def ineL (gs hs : List Int) : List Int := [oneB (weakB gs hs gs.length), oneB (strongB gs hs gs.length), oneB (decide (sumW gs hs gs.length = 0))]
def inB (gs : List Int) : Bool := gs.all fun x => decide (0 ≤ x ∧ x ≤ 1000)
noncomputable def ineR (V : Int) (fs gs : List Int) : List Int × Int :=
  if isCB V fs then (if gs.length = (top fs + 1).toNat ∧ inB gs = true then (ineL gs (bettiL fs 2 (top fs + 1).toNat), 0) else ([], 2)) else ([], 1)
theorem ineR_len (V : Int) (fs gs : List Int) (_h : fs.length ≤ 1048576) (_hg : gs.length ≤ 1048576) : (ineR V fs gs).1.length ≤ 1048576 := by
  unfold ineR
  split
  · split
    · simp [ineL]
    · simp
  · simp
theorem ints_monoI {P : Program} {f : FuncId} {args : Array Value} {w : World} {r : List Int × Int} {xs : List Int} {c : Int} (hr : r = (xs, c))
    (h : Calls P f args w fun e w' => ∃ v, e = .returned (.tuple #[v, .int .i64 c]) ∧ Res w w' v xs) : Calls P f args w fun e w' => ∃ v, e = .returned (.tuple #[v, .int .i64 r.2]) ∧ Res w w' v r.1 := by
  subst hr; exact h
theorem inB_take {gs : List Int} {k : Nat} (hk : k < gs.length) : inB (gs.take (k + 1)) = (inB (gs.take k) && decide (0 ≤ gs[k]?.getD 0 ∧ gs[k]?.getD 0 ≤ 1000)) := by
  unfold inB
  rw [take_snoc hk, List.all_append]
  simp
theorem inB_not {gs : List Int} {k : Nat} (hk : k < gs.length) (h : ¬ (0 ≤ gs[k]?.getD 0 ∧ gs[k]?.getD 0 ≤ 1000)) : inB gs = false := by
  unfold inB
  rw [List.all_eq_false]
  exact ⟨gs[k]?.getD 0, getD_mem hk, by simpa using h⟩

/-- Outside of 0..1000. -/
def outB (x : Int) : Bool := decide (x < 0) || decide (1000 < x)
theorem outB_false {x : Int} : outB x = false ↔ (0 ≤ x ∧ x ≤ 1000) := by
  unfold outB
  simp

set_option maxHeartbeats 400000 in
theorem outs_any (x : Int) (w : World) :
    Calls Try.prog 59 #[.int .i64 x] w fun e w' => e = .returned (.bool (outB x)) ∧ w = w' := by
  by_cases h1 : x < 0
  · have hd : decide (x < 0) = true := decide_eq_true h1
    have He : Hid (outB x = true) := hid (by unfold outB; simp [h1])
    clear h1
    go_enter Try.func59, Try.ntmps59
    go_wp2
    go_ret
    exact ⟨ret_bool He.out.symm, rfl⟩
  · have hd : decide (x < 0) = false := decide_eq_false h1
    have He : Hid (outB x = decide (1000 < x)) := hid (by unfold outB; simp [h1])
    clear h1
    go_enter Try.func59, Try.ntmps59
    go_wp2
    go_ret
    exact ⟨ret_bool (by rw [He.out]), rfl⟩

set_option maxRecDepth 100000 in
set_option maxHeartbeats 1000000 in
theorem idxo_any (a : Option Addr) (cap : Nat) (xs : List Int) (w : World) (hx : SlI w w.heap.size a xs) (hl : xs.length ≤ 1048576) :
    Calls Try.prog 120 #[.slice a xs.length cap, .func (.func 59) #[] #[]] w fun e w' => ∃ i : Int, e = .returned (.int .i64 i) ∧ -1 ≤ i ∧ (0 ≤ i ↔ inB xs = false) ∧ w = w' := by
  have hent : ∀ args w, (callFunc 59 args).run Try.prog w = .ok (.enter 59 args) w := enters_of Try.func59 (by kernel_rfl) rfl
  rcases hx with rfl | ⟨b, off, hb, rfl, hc⟩
  · go_enter Try.func120, Try.ntmps120
    go_wp2
    refine wp_loop_rounds 1 ?_; rw [rounds_succ]
    go_wp2
    go_ret
    exact ⟨-1, rfl, by decide, by simp [inB], rfl⟩
  · have Hc := hid hc
    clear hc
    go_enter Try.func120, Try.ntmps120
    go_wp2
    go_loop [8] (fun i => ∃ k : Nat, k ≤ xs.length ∧ i = .int .i64 k ∧ Hid (inB (xs.take k) = true)) (fun i => xs.length - (intOf i).toNat)
    case atStart => exact ⟨0, Nat.zero_le _, rfl, hid (by simp [inB])⟩
    case round =>
      obtain ⟨k, hk, rfl, Hk⟩ := hrel
      by_cases hlt : k < xs.length
      · obtain ⟨y, hy⟩ : ∃ y, y = xs[k]?.getD 0 := ⟨_, rfl⟩
        have hck : w.cell? ⟨b, off + k, none⟩ = some (.int .i64 y) := by rw [hy]; exact Hc.out k hlt
        have Hy := hid hy
        have hi0 : (0 : Int) ≤ (k : Int) := by omega
        have hi1 : (k : Int) < (xs.length : Int) := by omega
        clear hy
        cases hd : outB y
        · have He : Hid (inB (xs.take (k + 1)) = true) := hid (by
            rw [inB_take hlt, Hk.out, ← Hy.out, decide_eq_true (outB_false.1 hd)]
            rfl)
          go_wp2_with (go_at_call 59; refine (outs_any y _).mono ?_; rintro e w' ⟨rfl, rfl⟩; rw [hd])
          go_round
          case rel => exact ⟨k + 1, by omega, by go_num, He.out⟩
          case measure => simp [intOf]; omega
        · have He : Hid (inB xs = false) := hid (inB_not hlt (by
            rw [← Hy.out]
            intro h
            rw [outB_false.2 h] at hd
            cases hd))
          go_wp2_with (go_at_call 59; refine (outs_any y _).mono ?_; rintro e w' ⟨rfl, rfl⟩; rw [hd])
          go_ret
          exact ⟨k, rfl, by omega, ⟨fun _ => He.out, fun _ => by omega⟩, rfl⟩
      · have He : Hid (inB xs = true) := hid (by
          have := Hk.out
          rwa [List.take_of_length_le (by omega)] at this)
        go_wp2
        go_ret
        exact ⟨-1, rfl, by decide, ⟨fun h => absurd h (by decide), fun h => by rw [He.out] at h; cases h⟩, rfl⟩

set_option maxRecDepth 100000 in
set_option maxHeartbeats 1000000 in
theorem cono_any (a : Option Addr) (cap : Nat) (xs : List Int) (w : World) (hx : SlI w w.heap.size a xs) (hl : xs.length ≤ 1048576) :
    Calls Try.prog 60 #[.slice a xs.length cap, .func (.func 59) #[] #[]] w fun e w' => e = .returned (.bool (!inB xs)) ∧ w = w' := by
  have HI := hid (idxo_any a cap xs w hx hl)
  obtain ⟨c, hc⟩ : ∃ c, c = inB xs := ⟨_, rfl⟩
  rw [← hc] at HI ⊢
  clear hc hx
  go_enter Try.func60, Try.ntmps60
  go_wp2_with fail
  refine HI.out.mono ?_
  rintro e w' ⟨i, rfl, h1, h2, rfl⟩
  have Hi := hid h2
  have H1 := hid h1
  clear h1 h2
  by_cases h0 : 0 ≤ i
  · have He : Hid (c = false) := hid (Hi.out.1 h0)
    go_wp2_with fail
    go_ret
    exact ⟨ret_bool (by rw [He.out]; simp), rfl⟩
  · have He : Hid (c = true) := hid (by
      cases hcc : c
      · exact absurd (Hi.out.2 hcc) h0
      · rfl)
    have hlt : i < 0 := by omega
    go_wp2_with fail
    go_ret
    exact ⟨ret_bool (by rw [He.out]; simp [hlt]), rfl⟩

set_option maxHeartbeats 400000 in
theorem oneIf_any (b : Bool) (w : World) :
    Calls Try.prog 61 #[.bool b] w fun e w' => e = .returned (.int .i64 (oneB b)) ∧ w = w' := by
  cases b
  all_goals
    go_enter Try.func61, Try.ntmps61
    go_wp2
    go_ret
    exact ⟨rfl, rfl⟩

end Go.Proofs.Ytplcbiconfpmlaa

/-! InequalitiesFor, the program's. -/
namespace Go.Proofs.Ytplcbiconfpmlaa
open Go.RowKit

set_option maxRecDepth 1000000 in
set_option maxHeartbeats 8000000 in
theorem implInequalitiesFor (V : Int) (a0 : Option Addr) (cap : Nat) (fs : List Int) (a1 : Option Addr) (cap1 : Nat) (gs : List Int) (w : World) (hx : SlI w w.heap.size a0 fs) (hx1 : SlI w w.heap.size a1 gs) (hl : fs.length ≤ 1048576) (hg : gs.length ≤ 1048576) :
    Calls Try.prog 19 #[.agg #[.int .i64 V, .slice a0 fs.length cap], .slice a1 gs.length cap1] w fun e w' => ∃ v, e = .returned (.tuple #[v, .int .i64 (ineR V fs gs).2]) ∧ Res w w' v (ineR V fs gs).1 := by
  have hB0 : Below w.heap.size w (w.alloc (.cells #[.int .i64 V, .slice a0 fs.length cap] 28)) := (Below.refl _ w).alloc (Nat.le_refl _) _
  have HK := hid (implBettiNumbers V a0 cap fs 2 _ (hx.later hB0 hB0.size) hl)
  have Hy := hid hx1
  by_cases hC : IsC V fs
  · have HRb : Hid (bettiR V fs 2 = (bettiL fs 2 (top fs + 1).toNat, 0)) := hid (by unfold bettiR; rw [isCB_true hC, if_pos rfl, if_pos (Or.inl rfl)])
    rw [HRb.out] at HK
    obtain ⟨hs, hhs⟩ : ∃ hs, hs = bettiL fs 2 (top fs + 1).toNat := ⟨_, rfl⟩
    have HHl : Hid (hs.length = (top fs + 1).toNat) := hid (by rw [hhs, bettiL_len])
    have HT : Hid (hs.length ≤ 64) := hid (by rw [HHl.out]; have := top_hi fs; omega)
    by_cases hok : gs.length = (top fs + 1).toNat ∧ inB gs = true
    · refine ints_monoI (show ineR V fs gs = (ineL gs hs, 0) by unfold ineR; rw [isCB_true hC, if_pos rfl, if_pos hok, hhs]) ?_
      rw [← hhs] at HK
      have hle : gs.length = hs.length := by rw [HHl.out]; exact hok.1
      have Hin := hid hok.2
      have Hle := hid hle
      clear hx hx1 hC hok hhs hle HRb
      go_enter Try.func19, Try.ntmps19
      go_wp2_with fail
      refine HK.out.mono ?_
      rintro e w1 ⟨v1, rfl, hr1⟩
      obtain ⟨_, ah, ch, rfl, hs1⟩ := ownsRow_slI hr1.1
      have HB1 := hid (hB0.trans (hr1.2.mono (by simp)))
      have Hs1 := hid hs1
      have HCo := hid (cono_any a1 cap1 gs w1 (Hy.out.later HB1.out HB1.out.size) hg)
      rw [Hin.out] at HCo
      have hlc : ((gs.length : Int) != (hs.length : Int)) = false := by rw [Hle.out]; simp
      have hgl : gs.length ≤ 64 := by rw [Hle.out]; exact HT.out
      have hhl := HT.out
      clear hr1 hs1 hB0
      go_wp2_with (go_at_call 60; refine HCo.out.mono ?_; rintro e w' ⟨rfl, rfl⟩)
      go_loopw [9, 10, 11, 34] (fun a b s i wr => ∃ k : Nat, k ≤ gs.length ∧ i = .int .i64 k ∧ a = .bool (weakB gs hs k) ∧ b = .bool (strongB gs hs k) ∧ s = .int .i64 (sumW gs hs k) ∧ w1 = wr) (fun _ _ _ i _ => gs.length - (intOf i).toNat)
      case atStart => exact ⟨0, Nat.zero_le _, rfl, rfl, rfl, rfl, rfl⟩
      case round =>
        obtain ⟨k, hk, rfl, rfl, rfl, rfl, rfl⟩ := hrel
        by_cases hlt : k < gs.length
        · obtain ⟨b1, off1, hb1, rfl, hc1⟩ : ∃ b off, b < w1.heap.size ∧ a1 = some ⟨b, off, none⟩ ∧ ∀ i, i < gs.length → w1.cell? ⟨b, off + i, none⟩ = some (.int .i64 (gs[i]?.getD 0)) := by
            rcases Hy.out.later HB1.out HB1.out.size with h | h
            · rw [h] at hlt; simp at hlt
            · exact h
          obtain ⟨b2, off2, hb2, rfl, hc2⟩ : ∃ b off, b < w1.heap.size ∧ ah = some ⟨b, off, none⟩ ∧ ∀ i, i < hs.length → w1.cell? ⟨b, off + i, none⟩ = some (.int .i64 (hs[i]?.getD 0)) := by
            rcases Hs1.out with h | h
            · exact absurd hlt (by rw [Hle.out, h]; simp)
            · exact h
          have c1 := hc1 k hlt
          have c2 := hc2 k (by rw [← Hle.out]; exact hlt)
          have HW := hid (weakB_succ gs hs k)
          have HSt := hid (strongB_succ gs hs k)
          have HSu : Hid (sumW gs hs (k + 1) = wrap64 (wrap64 (gs[k]?.getD 0 - hs[k]?.getD 0) - sumW gs hs k)) := hid rfl
          obtain ⟨g, hgg⟩ : ∃ g, g = gs[k]?.getD 0 := ⟨_, rfl⟩
          obtain ⟨h, hhh⟩ : ∃ h, h = hs[k]?.getD 0 := ⟨_, rfl⟩
          obtain ⟨wk, hwk⟩ : ∃ b, b = weakB gs hs k := ⟨_, rfl⟩
          obtain ⟨st, hst⟩ : ∃ b, b = strongB gs hs k := ⟨_, rfl⟩
          obtain ⟨s, hss⟩ : ∃ s, s = sumW gs hs k := ⟨_, rfl⟩
          rw [← hgg] at c1
          rw [← hhh] at c2
          rw [← hgg, ← hhh, ← hwk] at HW
          rw [← hst] at HSt
          rw [← hgg, ← hhh, ← hss] at HSu
          rw [← hwk, ← hst, ← hss]
          have hi0 : (0 : Int) ≤ (k : Int) := by omega
          have hi1 : (k : Int) < (gs.length : Int) := by omega
          have hi2 : (k : Int) < (hs.length : Int) := by have := Hle.out; omega
          have Hlt := hid hlt
          have HG := hid (show wrap64 (wrap64 (g - h) - s) = sumW gs hs (k + 1) from HSu.out.symm)
          have HW2 : Hid ((if wk = true then decide (h ≤ g) else false) = weakB gs hs (k + 1)) := hid (by rw [HW.out]; cases wk <;> simp)
          clear hc1 hc2 hgg hhh hwk hst hss
          cases wk <;> cases st
          all_goals
            go_wp2_with fail
            go_roundw
            case rel => exact ⟨k + 1, by have := Hlt.out; omega, by go_num, by rw [HW.out]; simp, by rw [HSt.out, ← HG.out]; simp, by rw [HG.out], trivial⟩
            case measure => have := Hlt.out; simp [intOf]; omega
        · obtain rfl : k = gs.length := by omega
          have HF := hid (show ineL gs hs = [oneB (weakB gs hs gs.length), oneB (strongB gs hs gs.length), oneB (decide (sumW gs hs gs.length = 0))] from rfl)
          obtain ⟨wk, hwk⟩ : ∃ b, b = weakB gs hs gs.length := ⟨_, rfl⟩
          obtain ⟨st, hst⟩ : ∃ b, b = strongB gs hs gs.length := ⟨_, rfl⟩
          obtain ⟨s, hss⟩ : ∃ s, s = sumW gs hs gs.length := ⟨_, rfl⟩
          rw [← hwk, ← hst, ← hss] at HF ⊢
          clear hwk hst hss
          go_wp2_with (first
            | (go_at_call 61; refine (oneIf_any _ _).mono ?_; rintro e w' ⟨rfl, rfl⟩))
          go_ret2
          refine ⟨_, rfl, ?_, HB1.out.alloc HB1.out.size _⟩
          rw [HF.out]
          exact World.ownsRow_lit (base := w.heap.size) (e := 2) (size := 1) w1 #[.int .i64 (oneB wk), .int .i64 (oneB st), .int .i64 (oneB (decide (s = 0)))] 3 HB1.out.size (by decide) rfl
    · have hin : gs.length = hs.length → inB gs = false := fun h => by
        cases hb : inB gs
        · rfl
        · exact absurd ⟨by rw [← HHl.out]; exact h, hb⟩ hok
      refine ints_monoI (show ineR V fs gs = ([], 2) by unfold ineR; rw [isCB_true hC, if_pos rfl, if_neg hok]) ?_
      rw [← hhs] at HK
      have Hin := hid hin
      clear hx hx1 hC hok hhs HRb hin
      by_cases hle : gs.length = hs.length
      · have hlc : ((gs.length : Int) != (hs.length : Int)) = false := by rw [hle]; simp
        have Hi := hid (Hin.out hle)
        clear hle
        go_enter Try.func19, Try.ntmps19
        go_wp2_with fail
        refine HK.out.mono ?_
        rintro e w1 ⟨v1, rfl, hr1⟩
        obtain ⟨_, ah, ch, rfl, hs1⟩ := ownsRow_slI hr1.1
        have HB1 := hid (hB0.trans (hr1.2.mono (by simp)))
        have HCo := hid (cono_any a1 cap1 gs w1 (Hy.out.later HB1.out HB1.out.size) hg)
        rw [Hi.out] at HCo
        clear hr1 hs1 hB0
        go_wp2_with (go_at_call 60; refine HCo.out.mono ?_; rintro e w' ⟨rfl, rfl⟩)
        go_ret2
        exact ⟨_, rfl, res_nil _ _ HB1.out⟩
      · have hlc : ((gs.length : Int) != (hs.length : Int)) = true := by simp; omega
        clear hle
        go_enter Try.func19, Try.ntmps19
        go_wp2_with fail
        refine HK.out.mono ?_
        rintro e w1 ⟨v1, rfl, hr1⟩
        obtain ⟨_, ah, ch, rfl, hs1⟩ := ownsRow_slI hr1.1
        have HB1 := hid (hB0.trans (hr1.2.mono (by simp)))
        clear hr1 hs1 hB0
        go_wp2_with fail
        go_ret2
        exact ⟨_, rfl, res_nil _ _ HB1.out⟩
  · have HRb : Hid (bettiR V fs 2 = ([], 1)) := hid (by unfold bettiR; rw [isCB_false hC, if_neg (by simp)])
    rw [HRb.out] at HK
    refine ints_monoI (show ineR V fs gs = ([], 1) by unfold ineR; rw [isCB_false hC, if_neg (by simp)]) ?_
    clear hx hx1 hC HRb
    go_enter Try.func19, Try.ntmps19
    go_wp2_with fail
    refine HK.out.mono ?_
    rintro e w1 ⟨v1, rfl, hr1⟩
    obtain ⟨_, ah, ch, rfl, hs1⟩ := ownsRow_slI hr1.1
    have HB1 := hid (hB0.trans (hr1.2.mono (by simp)))
    clear hr1 hs1 hB0
    go_wp2_with fail
    go_ret2
    exact ⟨_, rfl, res_nil _ _ HB1.out⟩

end Go.Proofs.Ytplcbiconfpmlaa

/-! InequalitiesFor, the model's. -/
namespace Go.Proofs.Ytplcbiconfpmlaa
open Go.RowKit

theorem oneB_and (a b : Bool) : oneB (a && b) = if b = true then oneB a else 0 := by cases a <;> cases b <;> rfl

theorem row3a {w : World} {B g : Nat} {a b : Int} (h : w.ownsRow B 2 1 (.slice (some ⟨g, 0, none⟩) 3 3) 3 ([a, b, 1].map (Value.int .i64))) : (w.setCell ⟨g, 0, none⟩ (.int .i64 0)).ownsRow B 2 1 (.slice (some ⟨g, 0, none⟩) 3 3) 3 ([0, b, 1].map (Value.int .i64)) := (h.stored 0 _).1
theorem row3b {w : World} {B g : Nat} {a b : Int} (h : w.ownsRow B 2 1 (.slice (some ⟨g, 0, none⟩) 3 3) 3 ([a, b, 1].map (Value.int .i64))) : (w.setCell ⟨g, 1, none⟩ (.int .i64 0)).ownsRow B 2 1 (.slice (some ⟨g, 0, none⟩) 3 3) 3 ([a, 0, 1].map (Value.int .i64)) := (h.stored 1 _).1
theorem row3c {w : World} {B g : Nat} {a b : Int} (h : w.ownsRow B 2 1 (.slice (some ⟨g, 0, none⟩) 3 3) 3 ([a, b, 1].map (Value.int .i64))) : (w.setCell ⟨g, 2, none⟩ (.int .i64 0)).ownsRow B 2 1 (.slice (some ⟨g, 0, none⟩) 3 3) 3 ([a, b, 0].map (Value.int .i64)) := (h.stored 2 _).1
theorem row3d {w : World} {B g n : Nat} {a b c : Int} (h : w.ownsRow B 2 1 (.slice (some ⟨g, 0, none⟩) 3 3) 3 ([a, b, c].map (Value.int .i64))) : (w.drewN n).ownsRow B 2 1 (.slice (some ⟨g, 0, none⟩) 3 3) 3 ([a, b, c].map (Value.int .i64)) := h
theorem below_dn {B : Nat} {w w' : World} (h : Below B w w') (n : Nat) : Below B w (w'.drewN n) := ⟨h.os, h.tape, h.output, h.size, h.block⟩

set_option maxRecDepth 1000000 in
set_option maxHeartbeats 8000000 in
theorem specInequalitiesFor (V : Int) (a0 : Option Addr) (cap : Nat) (fs : List Int) (a1 : Option Addr) (cap1 : Nat) (gs : List Int) (w : World) (hx : SlI w w.heap.size a0 fs) (hx1 : SlI w w.heap.size a1 gs) (hl : fs.length ≤ 1048576) (hg : gs.length ≤ 1048576) :
    Calls Try.prog 16 #[.agg #[.int .i64 V, .slice a0 fs.length cap], .slice a1 gs.length cap1] w fun e w' => ∃ v, e = .returned (.tuple #[v, .int .i64 (ineR V fs gs).2]) ∧ Res w w' v (ineR V fs gs).1 := by
  have hB0 : Below w.heap.size w (w.alloc (.cells #[.int .i64 V, .slice a0 fs.length cap] 28)) := (Below.refl _ w).alloc (Nat.le_refl _) _
  have Hx := hid (hx.later hB0 hB0.size)
  have Hx0 := hid hx
  have Hy := hid hx1
  by_cases hC : IsC V fs
  · have HK := hid (fun (W : World) (h : Below w.heap.size w W) => bettiS_any V a0 cap fs 2 W (Hx0.out.later h h.size) hl hC (Or.inl rfl))
    obtain ⟨hs, hhs⟩ : ∃ hs, hs = bettiL fs 2 (top fs + 1).toNat := ⟨_, rfl⟩
    have HHl : Hid (hs.length = (top fs + 1).toNat) := hid (by rw [hhs, bettiL_len])
    have HT : Hid (hs.length ≤ 64) := hid (by rw [HHl.out]; have := top_hi fs; omega)
    have HC := hid hC
    by_cases hok : gs.length = (top fs + 1).toNat ∧ inB gs = true
    · refine ints_monoI (show ineR V fs gs = (ineL gs hs, 0) by unfold ineR; rw [isCB_true hC, if_pos rfl, if_pos hok, hhs]) ?_
      rw [← hhs] at HK
      have hle : gs.length = hs.length := by rw [HHl.out]; exact hok.1
      have Hin : Hid (∀ k, k < gs.length → 0 ≤ gs[k]?.getD 0 ∧ gs[k]?.getD 0 ≤ 1000) := hid (fun k hk => Classical.byContradiction fun hn => by
        have := inB_not hk hn
        rw [hok.2] at this
        cases this)
      have Hle := hid hle
      clear hx hx1 hC hok hhs hle
      go_enter Try.func16, Try.ntmps16
      go_wp2_with fail
      refine (is_yes V a0 cap fs _ Hx.out hl HC.out).mono ?_
      rintro e w0 ⟨rfl, hB1⟩
      have HB00 := hid (hB0.trans (hB1.mono (by simp)))
      have q0 : w0.heap[w.heap.size]? = some (.cells #[.int .i64 V, .slice a0 fs.length cap] 28 (0, 0)) := (hB1.block _ (by simp)).trans (heap_alloc_new _ _)
      obtain ⟨k0, k1, _, _⟩ := two_of q0
      clear hB0 hB1
      go_wp2_with fail
      refine (HK.out w0 HB00.out).mono ?_
      rintro e w1 ⟨v1, rfl, hr1⟩
      obtain ⟨_, ah, ch, rfl, hs1⟩ := ownsRow_slI hr1.1
      have HB1 := hid (HB00.out.trans (hr1.2.mono HB00.out.size))
      have Hs1 := hid hs1
      have hlc : ((gs.length : Int) != (hs.length : Int)) = false := by rw [Hle.out]; simp
      have hgl : gs.length ≤ 64 := by rw [Hle.out]; exact HT.out
      have hhl := HT.out
      clear hr1 hs1 q0 k0 k1
      obtain ⟨W1, hW1⟩ : ∃ W1, W1 = w1.alloc (.cells #[.int .i64 1, .int .i64 1, .int .i64 1] 2) := ⟨_, rfl⟩
      have HO1 : Hid (W1.ownsRow w.heap.size 2 1 (.slice (some ⟨w1.heap.size, 0, none⟩) 3 3) 3 ([oneB (weakB gs hs 0), oneB (strongB gs hs 0), 1].map (Value.int .i64))) := hid (by
        rw [hW1]
        exact World.ownsRow_lit (base := w.heap.size) (e := 2) (size := 1) w1 #[.int .i64 1, .int .i64 1, .int .i64 1] 3 HB1.out.size (by decide) rfl)
      have HBW := hid (show Below w1.heap.size w1 W1 by rw [hW1]; exact (Below.refl _ w1).alloc (Nat.le_refl _) _)
      go_wp2_with fail
      rw [← hW1]
      clear hW1
      go_loopw [9] (fun i wr => ∃ k : Nat, k ≤ gs.length ∧ i = .int .i64 k ∧ W1 = wr) (fun i _ => gs.length - (intOf i).toNat)
      case atStart => exact ⟨0, Nat.zero_le _, rfl, rfl⟩
      case round =>
        obtain ⟨k, hk, rfl, rfl⟩ := hrel
        by_cases hlt : k < gs.length
        · obtain ⟨b1, off1, hb1, rfl, hc1⟩ : ∃ b off, b < w.heap.size ∧ a1 = some ⟨b, off, none⟩ ∧ ∀ i, i < gs.length → w.cell? ⟨b, off + i, none⟩ = some (.int .i64 (gs[i]?.getD 0)) := by
            rcases Hy.out with h | h
            · rw [h] at hlt; simp at hlt
            · exact h
          have c1 := ((HB1.out.trans (HBW.out.mono HB1.out.size)).cell (p := ⟨b1, off1 + k, none⟩) hb1).trans (hc1 k hlt)
          have hi0 : (0 : Int) ≤ (k : Int) := by omega
          have hi1 : (k : Int) < (gs.length : Int) := by omega
          have HIn := hid (in_yes (gs[k]?.getD 0) 0 1000 W1 (Hin.out k hlt).1 (Hin.out k hlt).2)
          obtain ⟨g, hgg⟩ : ∃ g, g = gs[k]?.getD 0 := ⟨_, rfl⟩
          rw [← hgg] at c1 HIn
          have Hlt := hid hlt
          clear hc1 hgg
          go_wp2_with (go_at_call 57; refine HIn.out.mono ?_; rintro e w' ⟨rfl, rfl⟩)
          go_roundw
          case rel => exact ⟨k + 1, by have := Hlt.out; omega, by go_num, trivial⟩
          case measure => have := Hlt.out; simp [intOf]; omega
        · obtain rfl : k = gs.length := by omega
          go_wp2_with fail
          go_loopw [8, 10] (fun s i wr => ∃ k : Nat, k ≤ gs.length ∧ i = .int .i64 k ∧ s = .int .i64 (sumW gs hs k) ∧ Hid (wr.ownsRow w.heap.size 2 1 (.slice (some ⟨w1.heap.size, 0, none⟩) 3 3) 3 ([oneB (weakB gs hs k), oneB (strongB gs hs k), 1].map (Value.int .i64))) ∧ Hid (Below w1.heap.size w1 wr)) (fun _ i _ => gs.length - (intOf i).toNat)
          case atStart => exact ⟨0, Nat.zero_le _, rfl, rfl, HO1, HBW⟩
          case round =>
            obtain ⟨k, hk, rfl, rfl, HO, HB⟩ := hrel
            have f0 := HO.out.frozenAt 0
            have f1 := HO.out.frozenAt 1
            have f2 := HO.out.frozenAt 2
            have n0 : wr.cell? ⟨w1.heap.size, 0, none⟩ = some (.int .i64 (oneB (weakB gs hs k))) := HO.out.cellAt 0 (by omega)
            have n1 : wr.cell? ⟨w1.heap.size, 1, none⟩ = some (.int .i64 (oneB (strongB gs hs k))) := HO.out.cellAt 1 (by omega)
            have n2 : wr.cell? ⟨w1.heap.size, 2, none⟩ = some (.int .i64 1) := HO.out.cellAt 2 (by omega)
            by_cases hlt : k < gs.length
            · obtain ⟨b1, off1, hb1, rfl, hc1⟩ : ∃ b off, b < w.heap.size ∧ a1 = some ⟨b, off, none⟩ ∧ ∀ i, i < gs.length → w.cell? ⟨b, off + i, none⟩ = some (.int .i64 (gs[i]?.getD 0)) := by
                rcases Hy.out with h | h
                · rw [h] at hlt; simp at hlt
                · exact h
              obtain ⟨b2, off2, hb2, rfl, hc2⟩ : ∃ b off, b < w1.heap.size ∧ ah = some ⟨b, off, none⟩ ∧ ∀ i, i < hs.length → w1.cell? ⟨b, off + i, none⟩ = some (.int .i64 (hs[i]?.getD 0)) := by
                rcases Hs1.out with h | h
                · exact absurd hlt (by rw [Hle.out, h]; simp)
                · exact h
              have c1 := ((HB1.out.trans (HB.out.mono HB1.out.size)).cell (p := ⟨b1, off1 + k, none⟩) hb1).trans (hc1 k hlt)
              have c2 := (HB.out.cell (p := ⟨b2, off2 + k, none⟩) hb2).trans (hc2 k (by rw [← Hle.out]; exact hlt))
              have hbne1 : b1 ≠ w1.heap.size := by have := HB1.out.size; omega
              have hbne2 : b2 ≠ w1.heap.size := by omega
              have HW := hid (weakB_succ gs hs k)
              have HSt := hid (strongB_succ gs hs k)
              have HSu : Hid (sumW gs hs (k + 1) = wrap64 (wrap64 (gs[k]?.getD 0 - hs[k]?.getD 0) - sumW gs hs k)) := hid rfl
              obtain ⟨g, hgg⟩ : ∃ g, g = gs[k]?.getD 0 := ⟨_, rfl⟩
              obtain ⟨h, hhh⟩ : ∃ h, h = hs[k]?.getD 0 := ⟨_, rfl⟩
              obtain ⟨s, hss⟩ : ∃ s, s = sumW gs hs k := ⟨_, rfl⟩
              rw [← hgg] at c1
              rw [← hhh] at c2
              rw [← hgg, ← hhh] at HW
              rw [← hgg, ← hhh, ← hss] at HSu
              rw [← hss]
              obtain ⟨t, ht⟩ : ∃ t, t = sumW gs hs (k + 1) := ⟨_, rfl⟩
              rw [← ht] at HSu HSt
              have Ht := hid ht
              have hi0 : (0 : Int) ≤ (k : Int) := by omega
              have hi1 : (k : Int) < (gs.length : Int) := by omega
              have hi2 : (k : Int) < (hs.length : Int) := by have := Hle.out; omega
              have Hlt := hid hlt
              have hwr : wrap64 (wrap64 (g - h) - s) = t := HSu.out.symm
              clear hc1 hc2 hgg hhh hss ht
              by_cases hA : g < h
              · have hWa : oneB (weakB gs hs (k + 1)) = 0 := by rw [HW.out, decide_eq_false (by omega)]; simp [oneB]
                have HWa := hid hWa
                clear hWa
                by_cases hBt : t < 0
                · have HSb : Hid (oneB (strongB gs hs (k + 1)) = 0) := hid (by rw [HSt.out, decide_eq_false (by omega)]; simp [oneB])
                  go_wp2_with fail
                  go_quiet (fail)
                  go_wp2_with fail
                  go_quiet (fail)
                  go_wp2_with fail
                  go_roundw
                  case measure => have := Hlt.out; simp [intOf]; omega
                  case rel => exact ⟨k + 1, by have := Hlt.out; omega, by go_num, by rw [← HSu.out, Ht.out], hid (by rw [HWa.out, HSb.out]; exact row3b (row3d (row3a (row3d HO.out)))), hid (((below_dn ((below_dn HB.out _).setCell (p := ⟨w1.heap.size, 0, none⟩) (Nat.le_refl _) _) _).setCell (p := ⟨w1.heap.size, 1, none⟩) (Nat.le_refl _) _))⟩
                · have HSb : Hid (oneB (strongB gs hs (k + 1)) = oneB (strongB gs hs k)) := hid (by rw [HSt.out, decide_eq_true (by omega)]; simp)
                  go_wp2_with fail
                  go_quiet (fail)
                  go_wp2_with fail
                  go_quiet (fail)
                  go_wp2_with fail
                  go_roundw
                  case measure => have := Hlt.out; simp [intOf]; omega
                  case rel => exact ⟨k + 1, by have := Hlt.out; omega, by go_num, by rw [← HSu.out, Ht.out], hid (by rw [HWa.out, HSb.out]; exact row3d (row3a (row3d HO.out))), hid (below_dn ((below_dn HB.out _).setCell (p := ⟨w1.heap.size, 0, none⟩) (Nat.le_refl _) _) _)⟩
              · have HWa : Hid (oneB (weakB gs hs (k + 1)) = oneB (weakB gs hs k)) := hid (by rw [HW.out, decide_eq_true (by omega)]; simp)
                by_cases hBt : t < 0
                · have HSb : Hid (oneB (strongB gs hs (k + 1)) = 0) := hid (by rw [HSt.out, decide_eq_false (by omega)]; simp [oneB])
                  go_wp2_with fail
                  go_quiet (fail)
                  go_wp2_with fail
                  go_quiet (fail)
                  go_wp2_with fail
                  go_roundw
                  case measure => have := Hlt.out; simp [intOf]; omega
                  case rel => exact ⟨k + 1, by have := Hlt.out; omega, by go_num, by rw [← HSu.out, Ht.out], hid (by rw [HWa.out, HSb.out]; exact row3b (row3d HO.out)), hid ((below_dn HB.out _).setCell (p := ⟨w1.heap.size, 1, none⟩) (Nat.le_refl _) _)⟩
                · have HSb : Hid (oneB (strongB gs hs (k + 1)) = oneB (strongB gs hs k)) := hid (by rw [HSt.out, decide_eq_true (by omega)]; simp)
                  go_wp2_with fail
                  go_quiet (fail)
                  go_wp2_with fail
                  go_quiet (fail)
                  go_wp2_with fail
                  go_roundw
                  case measure => have := Hlt.out; simp [intOf]; omega
                  case rel => exact ⟨k + 1, by have := Hlt.out; omega, by go_num, by rw [← HSu.out, Ht.out], hid (by rw [HWa.out, HSb.out]; exact row3d HO.out), hid (below_dn HB.out _)⟩
            · obtain rfl : k = gs.length := by omega
              have HF : Hid (ineL gs hs = [oneB (weakB gs hs gs.length), oneB (strongB gs hs gs.length), oneB (decide (sumW gs hs gs.length = 0))]) := hid rfl
              obtain ⟨s, hss⟩ : ∃ s, s = sumW gs hs gs.length := ⟨_, rfl⟩
              rw [← hss] at HF ⊢
              clear hss
              by_cases h0 : s = 0
              · have hd : (s != 0) = false := by simp [h0]
                have HF2 : Hid (ineL gs hs = [oneB (weakB gs hs gs.length), oneB (strongB gs hs gs.length), 1]) := hid (by rw [HF.out, decide_eq_true h0]; rfl)
                clear h0
                go_wp2_with fail
                go_ret2
                exact ⟨_, rfl, by rw [HF2.out]; exact HO.out, HB1.out.trans (HB.out.mono HB1.out.size)⟩
              · have hd : (s != 0) = true := by simp [h0]
                have HF2 : Hid (ineL gs hs = [oneB (weakB gs hs gs.length), oneB (strongB gs hs gs.length), 0]) := hid (by rw [HF.out, decide_eq_false h0]; rfl)
                clear h0
                go_wp2_with fail
                go_ret2
                exact ⟨_, rfl, by rw [HF2.out]; exact row3c HO.out, HB1.out.trans ((HB.out.setCell (p := ⟨w1.heap.size, 2, none⟩) (Nat.le_refl _) _).mono HB1.out.size)⟩
    · refine ints_monoI (show ineR V fs gs = ([], 2) by unfold ineR; rw [isCB_true hC, if_pos rfl, if_neg hok]) ?_
      rw [← hhs] at HK
      have hin : gs.length = hs.length → inB gs = false := fun h => by
        cases hb : inB gs
        · rfl
        · exact absurd ⟨by rw [← HHl.out]; exact h, hb⟩ hok
      have Hin := hid hin
      clear hx hx1 hC hok hhs hin
      go_enter Try.func16, Try.ntmps16
      go_wp2_with fail
      refine (is_yes V a0 cap fs _ Hx.out hl HC.out).mono ?_
      rintro e w0 ⟨rfl, hB1⟩
      have HB00 := hid (hB0.trans (hB1.mono (by simp)))
      have q0 : w0.heap[w.heap.size]? = some (.cells #[.int .i64 V, .slice a0 fs.length cap] 28 (0, 0)) := (hB1.block _ (by simp)).trans (heap_alloc_new _ _)
      obtain ⟨k0, k1, _, _⟩ := two_of q0
      clear hB0 hB1
      go_wp2_with fail
      refine (HK.out w0 HB00.out).mono ?_
      rintro e w1 ⟨v1, rfl, hr1⟩
      obtain ⟨_, ah, ch, rfl, _⟩ := ownsRow_slI hr1.1
      have HB1 := hid (HB00.out.trans (hr1.2.mono HB00.out.size))
      clear hr1 q0 k0 k1
      by_cases hle : gs.length = hs.length
      · have hlc : ((gs.length : Int) != (hs.length : Int)) = false := by rw [hle]; simp
        have hgl : gs.length ≤ 64 := by rw [hle]; exact HT.out
        have Hi := hid (Hin.out hle)
        have HBW := hid (show Below w1.heap.size w1 (w1.alloc (.cells #[.int .i64 1, .int .i64 1, .int .i64 1] 2)) from (Below.refl _ w1).alloc (Nat.le_refl _) _)
        clear hle
        go_wp2_with fail
        obtain ⟨W1, hW1⟩ : ∃ W1, W1 = w1.alloc (.cells #[.int .i64 1, .int .i64 1, .int .i64 1] 2) := ⟨_, rfl⟩
        rw [← hW1] at HBW ⊢
        clear hW1
        go_loopw [9] (fun i wr => ∃ k : Nat, k ≤ gs.length ∧ i = .int .i64 k ∧ Hid (inB (gs.take k) = true) ∧ W1 = wr) (fun i _ => gs.length - (intOf i).toNat)
        case atStart => exact ⟨0, Nat.zero_le _, rfl, hid (by simp [inB]), rfl⟩
        case round =>
          obtain ⟨k, hk, rfl, Hk, rfl⟩ := hrel
          by_cases hlt : k < gs.length
          · obtain ⟨b1, off1, hb1, rfl, hc1⟩ : ∃ b off, b < w.heap.size ∧ a1 = some ⟨b, off, none⟩ ∧ ∀ i, i < gs.length → w.cell? ⟨b, off + i, none⟩ = some (.int .i64 (gs[i]?.getD 0)) := by
              rcases Hy.out with h | h
              · rw [h] at hlt; simp at hlt
              · exact h
            have c1 := ((HB1.out.trans (HBW.out.mono HB1.out.size)).cell (p := ⟨b1, off1 + k, none⟩) hb1).trans (hc1 k hlt)
            have hi0 : (0 : Int) ≤ (k : Int) := by omega
            have hi1 : (k : Int) < (gs.length : Int) := by omega
            have Hlt := hid hlt
            by_cases hg1 : 0 ≤ gs[k]?.getD 0 ∧ gs[k]?.getD 0 ≤ 1000
            · have HIn := hid (in_yes (gs[k]?.getD 0) 0 1000 W1 hg1.1 hg1.2)
              have He : Hid (inB (gs.take (k + 1)) = true) := hid (by rw [inB_take hlt, Hk.out, decide_eq_true hg1]; rfl)
              obtain ⟨g, hgg⟩ : ∃ g, g = gs[k]?.getD 0 := ⟨_, rfl⟩
              rw [← hgg] at c1 HIn
              clear hc1 hgg hg1
              go_wp2_with (go_at_call 57; refine HIn.out.mono ?_; rintro e w' ⟨rfl, rfl⟩)
              go_roundw
              case rel => exact ⟨k + 1, by have := Hlt.out; omega, by go_num, He, trivial⟩
              case measure => have := Hlt.out; simp [intOf]; omega
            · have HIn := hid (in_no (gs[k]?.getD 0) 0 1000 W1 hg1)
              obtain ⟨g, hgg⟩ : ∃ g, g = gs[k]?.getD 0 := ⟨_, rfl⟩
              rw [← hgg] at c1 HIn
              clear hc1 hgg hg1
              go_wp2_with (go_at_call 57; refine HIn.out.mono ?_; rintro e w' ⟨rfl, rfl⟩)
              go_ret2
              exact ⟨_, rfl, res_nil _ _ (HB1.out.trans (HBW.out.mono HB1.out.size))⟩
          · obtain rfl : k = gs.length := by omega
            exact absurd Hk.out (by rw [List.take_of_length_le (Nat.le_refl _), Hi.out]; simp)
      · have hlc : ((gs.length : Int) != (hs.length : Int)) = true := by simp; omega
        clear hle
        go_wp2_with fail
        go_ret2
        exact ⟨_, rfl, res_nil _ _ HB1.out⟩
  · refine ints_monoI (show ineR V fs gs = ([], 1) by unfold ineR; rw [isCB_false hC, if_neg (by simp)]) ?_
    clear hx1
    go_enter Try.func16, Try.ntmps16
    go_wp2_with fail
    refine (is_no V a0 cap fs _ Hx.out hl hC).mono ?_
    rintro e w1 ⟨rfl, hB1⟩
    go_wp2_with fail
    go_ret2
    exact ⟨_, rfl, res_nil _ _ (hB0.trans (hB1.mono (by simp)))⟩

end Go.Proofs.Ytplcbiconfpmlaa

/-! The law on InequalitiesFor, walked. -/
namespace Go.Proofs.Ytplcbiconfpmlaa
open Go.RowKit

set_option maxRecDepth 100000 in
set_option maxHeartbeats 8000000 in
theorem law_InequalitiesFor (V0 : Int) (a0 : Option Addr) (cap0 : Nat) (xs0 : List Int) (a1 : Option Addr) (cap1 : Nat) (gs1 : List Int) (w : World) (hx0 : SlI w w.heap.size a0 xs0) (hx1 : SlI w w.heap.size a1 gs1)  (hn0 : xs0.length ≤ 9223372036854775807)  :
    Calls Try.prog 3 #[.agg #[.int .i64 V0, .slice a0 xs0.length cap0], .slice a1 gs1.length cap1] w fun e w' => e = .returned (.bool true) ∧ Below w.heap.size w w' := by
  have F0 : Book w w [(a0, xs0), (a1, gs1)] [] [] := ⟨Below.refl _ _, by simp; exact ⟨hx0, hx1⟩, by simp, by simp⟩
  have F0 := F0.alloc (.cells #[.int .i64 V0, .slice a0 xs0.length cap0] 24)
  (try simp only [World.size_alloc] at F0)
  have B0 := hid F0
  clear F0 hx0 hx1
  obtain ⟨r0, hr0⟩ : ∃ r, r = szR 1048576 xs0.length := ⟨_, rfl⟩
  have Hr0 := hid hr0
  by_cases hbL1 : 1048576 < gs1.length
  · clear hr0
    have hbi1 : (gs1.length : Int) > 1048576 := by omega
    go_enter Try.func3, Try.ntmps3
    go_wp2_with fail
    go_ret
    exact ⟨rfl, B0.out.from0⟩
  have hl1 : gs1.length ≤ 1048576 := by omega
  have hbi1 : ¬ (gs1.length : Int) > 1048576 := by omega
  by_cases hb0 : 1048576 < xs0.length
  · have hm0 : r0 = -1 := by rw [hr0]; exact szR_big (by omega)
    clear hb0
    clear hr0
    go_enter Try.func3, Try.ntmps3
    go_wp2_with fail
    refine (szCx V0 a0 xs0.length cap0 1048576 _ (by omega) (by omega) hn0).mono ?_
    rintro e s0 ⟨rfl, hB⟩
    have zs0 := hB.size
    (try simp only [World.size_alloc] at zs0)
    have B0 := hid (B0.out.below hB)
    clear hB
    rw [← Hr0.out]
    go_wp2_with fail
    go_ret
    exact ⟨rfl, B0.out.from0⟩
  · have hv0 : r0 = 1048576 - xs0.length := by rw [hr0, szR_fit (by omega)]
    have hg0 : 0 ≤ r0 := by omega
    have hu0 : r0 ≤ 1048576 := by omega
    have hl0 : xs0.length ≤ 1048576 := by omega
    clear hr0 hb0
    have Hv0 := hid hv0
    clear hv0
    obtain ⟨R, hR⟩ : ∃ R, R = ineR V0 xs0 gs1 := ⟨_, rfl⟩
    have hRl : R.1.length ≤ 1048576 := by rw [hR]; exact ineR_len V0 xs0 gs1 hl0 hl1
    obtain ⟨ys, c⟩ := R
    simp only at hRl
    have HS : Hid (∀ a0 cap0 a1 cap1 w', SlI w' w'.heap.size a0 xs0 → SlI w' w'.heap.size a1 gs1 → Calls Try.prog 16 #[.agg #[.int .i64 V0, .slice a0 xs0.length cap0], .slice a1 gs1.length cap1] w' fun e w'' => ∃ v, e = .returned (.tuple #[v, .int .i64 c]) ∧ Res w' w'' v ys) :=
      hid (fun a0 cap0 a1 cap1 w' hs0 hs1 => by have := specInequalitiesFor V0 a0 cap0 xs0 a1 cap1 gs1 w' hs0 hs1 hl0 hl1; rwa [← hR] at this)
    have HI : Hid (∀ a0 cap0 a1 cap1 w', SlI w' w'.heap.size a0 xs0 → SlI w' w'.heap.size a1 gs1 → Calls Try.prog 19 #[.agg #[.int .i64 V0, .slice a0 xs0.length cap0], .slice a1 gs1.length cap1] w' fun e w'' => ∃ v, e = .returned (.tuple #[v, .int .i64 c]) ∧ Res w' w'' v ys) :=
      hid (fun a0 cap0 a1 cap1 w' hs0 hs1 => by have := implInequalitiesFor V0 a0 cap0 xs0 a1 cap1 gs1 w' hs0 hs1 hl0 hl1; rwa [← hR] at this)
    have hcc : (c != c) = false := by simp
    clear hR
    go_enter Try.func3, Try.ntmps3
    go_wp2_with fail
    refine (szCx V0 a0 xs0.length cap0 1048576 _ (by omega) (by omega) hn0).mono ?_
    rintro e s0 ⟨rfl, hB⟩
    have zs0 := hB.size
    (try simp only [World.size_alloc] at zs0)
    have B0 := hid (B0.out.below hB)
    clear hB
    rw [← Hr0.out]
    obtain ⟨q0, q1⟩ := B0.out.two (.head _)
    go_wp2_with fail
    clear q0 q1
    refine (toCx V0 a0 cap0 xs0 _ (B0.out.arg (.head _)) hl0).mono ?_
    rintro e u0 ⟨gu0, rfl, hown, hB⟩
    have zu0 := hB.size
    (try simp only [World.size_alloc] at zu0)
    have B0 := hid (B0.out.row hown hB)
    clear hown hB
    (try simp only [World.size_alloc] at B0)
    go_wp2_with fail
    refine (toInts a1 cap1 gs1 _ (B0.out.arg (.tail _ (.head _))) hl1).mono ?_
    rintro e u1 ⟨rfl, hown, hB⟩
    have zu1 := hB.size
    (try simp only [World.size_alloc] at zu1)
    have B0 := hid (B0.out.row hown hB)
    clear hown hB
    (try simp only [World.size_alloc] at B0)
    go_wp2_with fail
    refine (HS.out _ _ _ _ _ (B0.out.slI (.tail _ (.head _))) (B0.out.slI (.head _))).mono ?_
    rintro e u9 ⟨vw, rfl, hres⟩
    have zu9 := hres.2.size
    (try simp only [World.size_alloc] at zu9)
    obtain ⟨_, aw, cw, rfl, _⟩ := ownsRow_slI hres.1
    have B0 := hid (B0.out.row hres.1 hres.2)
    clear hres
    (try simp only [World.size_alloc] at B0)
    obtain ⟨q0, q1⟩ := B0.out.two (.head _)
    go_wp2_with fail
    clear q0 q1
    refine (toCx V0 a0 cap0 xs0 _ (B0.out.arg (.head _)) hl0).mono ?_
    rintro e x0 ⟨gx0, rfl, hown, hB⟩
    have zx0 := hB.size
    (try simp only [World.size_alloc] at zx0)
    have B0 := hid (B0.out.row hown hB)
    clear hown hB
    (try simp only [World.size_alloc] at B0)
    have B0 := hid (B0.out.alloc (.cells #[.int .i64 V0, .slice (some ⟨gx0, 0, none⟩) xs0.length xs0.length] 28))
    go_wp2_with fail
    refine (toInts a1 cap1 gs1 _ (B0.out.arg (.tail _ (.head _))) hl1).mono ?_
    rintro e x1 ⟨rfl, hown, hB⟩
    have zx1 := hB.size
    (try simp only [World.size_alloc] at zx1)
    have B0 := hid (B0.out.row hown hB)
    clear hown hB
    (try simp only [World.size_alloc] at B0)
    obtain ⟨p00, p01⟩ := B0.out.two (.head _)
    go_wp2_with fail
    clear p00 p01
    refine (HI.out _ _ _ _ _ (B0.out.slI (.tail _ (.head _))) (B0.out.slI (.head _))).mono ?_
    rintro e v9 ⟨vg, rfl, hres⟩
    have zv9 := hres.2.size
    (try simp only [World.size_alloc] at zv9)
    obtain ⟨_, ag, cg, rfl, _⟩ := ownsRow_slI hres.1
    have B0 := hid (B0.out.row hres.1 hres.2)
    clear hres
    (try simp only [World.size_alloc] at B0)
    go_wp2_with fail
    refine (eqInts_yes _ _ _ _ ys ys _ (B0.out.slI (.head _)) (B0.out.slI (.tail _ (.tail _ (.tail _ (.head _))))) hRl hRl rfl).mono ?_
    rintro e e1 ⟨rfl, hB⟩
    have ze1 := hB.size
    (try simp only [World.size_alloc] at ze1)
    have B0 := hid (B0.out.below hB)
    clear hB
    obtain ⟨lxb00, lxb01⟩ := B0.out.two (.head _)
    obtain ⟨lk00, lk01⟩ := B0.out.two (.tail _ (.head _))
    go_wp2_with fail
    go_region_with (first
      | (go_at_call 17; refine (toCx V0 a0 cap0 xs0 _ (B0.out.drew.arg (.head _)) hl0).mono ?_; rintro e f0 ⟨gf0, rfl, hown, hB⟩; have zf0 := hB.size; have C0 := hid (B0.out.drew.row hown hB); clear hown hB; obtain ⟨m00, m01⟩ := C0.out.two (.head _))
      | (go_at_call 21; refine (eqCx_yes V0 _ _ _ _ xs0 xs0 _ (C0.out.slI (.tail _ (.tail _ (.tail _ (.head _))))) (C0.out.slI (.head _)) hl0 hl0 rfl).mono ?_; rintro e h0 ⟨rfl, hB⟩))
    all_goals
      have zh0 := hB.size
      have D0 := hid (C0.out.below hB)
      clear hB C0 B0 m00 m01
      clear lxb00 lxb01
      clear lk00 lk01
      have B0 := D0
      clear D0
      skip
      go_wp2_with fail
      refine (toInts a1 cap1 gs1 _ (B0.out.arg (.tail _ (.head _))) hl1).mono ?_
      rintro e f1 ⟨rfl, hown, hB⟩
      have zf1 := hB.size
      (try simp only [World.size_alloc] at zf1)
      have B0 := hid (B0.out.row hown hB)
      clear hown hB
      (try simp only [World.size_alloc] at B0)
      go_wp2_with fail
      refine (eqInts_yes _ _ _ _ gs1 gs1 _ (B0.out.slI (.tail _ (.tail _ (.tail _ (.head _))))) (B0.out.slI (.head _)) hl1 hl1 rfl).mono ?_
      rintro e h1 ⟨rfl, hB⟩
      have zh1 := hB.size
      (try simp only [World.size_alloc] at zh1)
      have B0 := hid (B0.out.below hB)
      clear hB
      (try simp only [World.size_alloc] at B0)
      have B0 := hid (B0.out.only (bs' := _) (L' := [⟨u9.heap.size, x0.heap.size, 2, 1, xs0.length, .slice (some ⟨gx0, 0, none⟩) xs0.length xs0.length, xs0⟩, ⟨x0.heap.size + 1, x1.heap.size, 2, 1, gs1.length, .slice (some ⟨x0.heap.size + 1, 0, none⟩) gs1.length gs1.length, gs1⟩, ⟨x1.heap.size, v9.heap.size, 2, 1, ys.length, .slice ag ys.length cg, ys⟩, ⟨u1.heap.size, u9.heap.size, 2, 1, ys.length, .slice aw ys.length cw, ys⟩]) (fun _ h => h) (by simp))
      obtain ⟨lxb00, lxb01⟩ := B0.out.two (.head _)
      go_wp2_with fail
      clear lxb00 lxb01
      refine (markCx V0 _ _ _ xs0 (1) _ (B0.out.own (.head _)) hl0 (by omega) (by omega)).mono ?_
      rintro e m0 ⟨rfl, hown, hg⟩
      have zm0 := hg.size
      (try simp only [World.size_alloc] at zm0)
      have B0 := hid (B0.out.mark (ys := count (1) xs0.length) (L' := [⟨x0.heap.size + 1, x1.heap.size, 2, 1, gs1.length, .slice (some ⟨x0.heap.size + 1, 0, none⟩) gs1.length gs1.length, gs1⟩, ⟨x1.heap.size, v9.heap.size, 2, 1, ys.length, .slice ag ys.length cg, ys⟩, ⟨u1.heap.size, u9.heap.size, 2, 1, ys.length, .slice aw ys.length cw, ys⟩]) (.head _) hown hg (by simp only; omega) (by simp; omega) (by simp <;> omega))
      clear hown hg
      go_wp2_with fail
      refine (markInts _ _ _ gs1 (1 + xs0.length) _ (B0.out.own (.head _)) hl1 (by omega) (by omega)).mono ?_
      rintro e m1 ⟨rfl, hown, hg⟩
      have zm1 := hg.size
      (try simp only [World.size_alloc] at zm1)
      have B0 := hid (B0.out.mark (ys := count (1 + xs0.length) gs1.length) (L' := [⟨x1.heap.size, v9.heap.size, 2, 1, ys.length, .slice ag ys.length cg, ys⟩, ⟨u1.heap.size, u9.heap.size, 2, 1, ys.length, .slice aw ys.length cw, ys⟩]) (.head _) hown hg (by simp only; omega) (by simp; omega) (by simp <;> omega))
      clear hown hg
      go_wp2_with fail
      refine (eqInts_yes _ _ _ _ ys ys _ (B0.out.slI (.head _)) (B0.out.slI (.tail _ (.head _))) hRl hRl rfl).mono ?_
      rintro e e2 ⟨rfl, hB⟩
      have ze2 := hB.size
      (try simp only [World.size_alloc] at ze2)
      have B0 := hid (B0.out.below hB)
      clear hB
      go_wp2_with fail
      refine (markInts _ _ _ ys 1 _ (B0.out.own (.head _)) hRl (by omega) (by omega)).mono ?_
      rintro e m8 ⟨rfl, hown, hg⟩
      have zm8 := hg.size
      (try simp only [World.size_alloc] at zm8)
      have B0 := hid (B0.out.mark (ys := count 1 ys.length) (L' := [⟨x1.heap.size, v9.heap.size, 2, 1, ys.length, .slice ag ys.length cg, count 1 ys.length⟩, ⟨u1.heap.size, u9.heap.size, 2, 1, ys.length, .slice aw ys.length cw, ys⟩]) (.head _) hown hg (by simp only; omega) (by simp; omega) (by simp <;> omega))
      clear hown hg
      go_wp2_with fail
      refine (heldInts _ _ ys.length _ 1 _ rfl (B0.out.slI (.head _)) hRl (by omega) (by omega)).mono ?_
      rintro e t1 ⟨rfl, hB⟩
      have zt1 := hB.size
      (try simp only [World.size_alloc] at zt1)
      have B0 := hid (B0.out.below hB)
      clear hB
      have hnn : ((1 : Int) + ys.length != 1 + ys.length) = false := by simp
      obtain ⟨q0, q1⟩ := B0.out.two (.tail _ (.head _))
      go_wp2_with fail
      clear q0 q1
      refine (toCx V0 a0 cap0 xs0 _ (B0.out.arg (.head _)) hl0).mono ?_
      rintro e y0 ⟨gy0, rfl, hown, hB⟩
      have zy0 := hB.size
      (try simp only [World.size_alloc] at zy0)
      have B0 := hid (B0.out.row hown hB)
      clear hown hB
      (try simp only [World.size_alloc] at B0)
      go_wp2_with fail
      refine (toInts a1 cap1 gs1 _ (B0.out.arg (.tail _ (.head _))) hl1).mono ?_
      rintro e y1 ⟨rfl, hown, hB⟩
      have zy1 := hB.size
      (try simp only [World.size_alloc] at zy1)
      have B0 := hid (B0.out.row hown hB)
      clear hown hB
      (try simp only [World.size_alloc] at B0)
      go_wp2_with fail
      refine (HI.out _ _ _ _ _ (B0.out.slI (.tail _ (.head _))) (B0.out.slI (.head _))).mono ?_
      rintro e t2 ⟨vh, rfl, hres⟩
      have zt2 := hres.2.size
      (try simp only [World.size_alloc] at zt2)
      obtain ⟨_, ah, ch, rfl, _⟩ := ownsRow_slI hres.1
      have B0 := hid (B0.out.row hres.1 hres.2)
      clear hres
      (try simp only [World.size_alloc] at B0)
      go_wp2_with fail
      refine (eqInts_yes _ _ _ _ ys ys _ (B0.out.slI (.head _)) (B0.out.slI (.tail _ (.tail _ (.tail _ (.tail _ (.head _)))))) hRl hRl rfl).mono ?_
      rintro e t3 ⟨rfl, hB⟩
      have zt3 := hB.size
      (try simp only [World.size_alloc] at zt3)
      have B0 := hid (B0.out.below hB)
      clear hB
      go_wp2_with fail
      refine (heldInts _ _ ys.length _ 1 _ rfl (B0.out.slI (.tail _ (.tail _ (.tail _ (.head _))))) hRl (by omega) (by omega)).mono ?_
      rintro e t4 ⟨rfl, hB⟩
      have zt4 := hB.size
      (try simp only [World.size_alloc] at zt4)
      have B0 := hid (B0.out.below hB)
      clear hB
      go_wp2_with fail
      go_ret
      exact ⟨rfl, B0.out.from0⟩

end Go.Proofs.Ytplcbiconfpmlaa
