import Derived.Test.YtbhdipljhelddaaMSC1
import Derived.Test.YtbhdipljhelddaaMSC2
import Derived.Test.YtbhdipljhelddaaMSC4
/-! firstCircle: isRing; a row that grows and is still begun as it was. -/
namespace Go.Proofs.Ytbhdipljhelddaa
open Go.RowKit

theorem xor_two : ∀ f g : Fin 64, bits BinOp.xor IntKind.i64 (f.val : Int) (g.val : Int) = ((f.val ^^^ g.val : Nat) : Int) := by decide +kernel
theorem xorL_take {L : List Int} {k : Nat} (h : k < L.length) : xorL (L.take (k + 1)) = xorL (L.take k) ^^^ (L[k]?.getD 0).toNat := by
  rw [take_snoc h, xorL_snoc]

set_option maxRecDepth 100000 in
set_option maxHeartbeats 4000000 in
theorem ring_any (a1 : Option Addr) (cap1 : Nat) (ch : List Int) (w : World) (hx1 : SlI w w.heap.size a1 ch) (hl : ch.length ≤ 1048576) (hch : ∀ x ∈ ch, 1 ≤ x ∧ x ≤ 63) :
    Calls Try.prog 108 #[.slice a1 ch.length cap1] w fun e w' => e = .returned (.bool (ringB ch)) ∧ w' = w := by
  have HX := hid hx1
  have HCh := hid hch
  clear hx1 hch
  go_enter Try.func108, Try.ntmps108
  go_wp2_with fail
  go_loop [3, 8] (fun ov iv => ∃ k q : Nat, k ≤ ch.length ∧ iv = .int .i64 k ∧ ov = .int .i64 (q : Int) ∧ Hid (q < 64 ∧ q = xorL (ch.take k))) (fun _ iv => ch.length - (intOf iv).toNat)
  case atStart => exact ⟨0, 0, Nat.zero_le _, rfl, rfl, hid ⟨by omega, by simp [xorL]⟩⟩
  case round =>
    obtain ⟨k, q, hk, rfl, rfl, HQ⟩ := hrel
    obtain ⟨hq, hqe⟩ := HQ.out
    by_cases hlt : k < ch.length
    · obtain ⟨x, hx⟩ : ∃ x, x = ch[k]?.getD 0 := ⟨_, rfl⟩
      have hxr := HCh.out x (by rw [hx]; exact getD_mem hlt)
      obtain ⟨f, rfl⟩ : ∃ f : Nat, x = f := ⟨x.toNat, by omega⟩
      obtain ⟨b3, o3, hb3, rfl, hc3⟩ : ∃ b off, b < w.heap.size ∧ a1 = some ⟨b, off, none⟩ ∧ w.cell? ⟨b, off + k, none⟩ = some (.int .i64 (f : Int)) := by
        rcases HX.out with h | ⟨b, off, hb, h, hc⟩
        · rw [h] at hlt; simp at hlt
        · exact ⟨b, off, hb, h, by rw [hx]; exact hc k hlt⟩
      have hki : (k : Int) < (ch.length : Int) := by omega
      have hk0 : (0 : Int) ≤ (k : Int) := by omega
      have hbit : bits BinOp.xor IntKind.i64 (q : Int) (f : Int) = ((q ^^^ f : Nat) : Int) := xor_two ⟨q, hq⟩ ⟨f, by omega⟩
      have HN : Hid (q ^^^ f < 64 ∧ q ^^^ f = xorL (ch.take (k + 1))) := hid ⟨Nat.xor_lt_two_pow (n := 6) (by omega) (by omega), by rw [xorL_take hlt, ← hx, Int.toNat_natCast, ← hqe]⟩
      clear hx hqe HQ
      go_wp2_with fail
      go_round
      case rel => exact ⟨k + 1, q ^^^ f, hlt, by go_num, by first | rfl | (rw [hbit]), HN⟩
      case measure => simp [intOf]; omega
    · have hke : k = ch.length := by omega
      have hki : ¬ (k : Int) < (ch.length : Int) := by omega
      have HR : Hid (ringB ch = decide (q = 0)) := hid (by unfold ringB; rw [hqe, hke, List.take_length])
      clear hqe HQ
      go_wp2_with fail
      go_ret
      refine ⟨?_, rfl⟩
      rw [HR.out]
      refine ret_bool ?_
      by_cases h0 : q = 0 <;> simp [h0]

theorem own_prefix {w1 w2 : World} {base T n : Nat} {v v' : Value} {xs ys : List Value} (h1 : w1.ownsRow base T 1 v n xs) (h1' : w1.ownsRow base T 1 v' (n + 1) ys) (h2 : w2.ownsRow base T 1 v' (n + 1) ys) (hy : ys.take n = xs) (hg : w1.grownBy w2 v'.ownBlock) : w2.ownsRow base T 1 v n xs := by
  by_cases hb : v.ownBlock = v'.ownBlock
  · refine ⟨h1.1, ?_⟩
    rcases h1.2 with h | ⟨g, cap, cur, rfl, hbg, hh, hn, hcm, hcs, ht⟩
    · exact .inl h
    · rcases h1'.2 with ⟨_, h⟩ | ⟨g', cap', cur', rfl, hbg', hh', hn', hcm', hcs', ht'⟩
      · omega
      · injection hb with hb
        simp only at hb
        subst hb
        rw [hh] at hh'
        injection hh' with hh'
        injection hh' with e1
        subst e1
        rcases h2.2 with ⟨h, _⟩ | ⟨g2, cap2, cur2, e2, _, hh2, hn2, hcm2, hcs2, ht2⟩
        · cases h
        · injection e2 with e3 _ e4
          injection e3 with e3
          injection e3 with e3
          subst e3; subst e4
          refine .inr ⟨g, cap, cur2, rfl, hbg, hh2, hn, hcm, by omega, ?_⟩
          rw [← hy, ← ht2, List.take_take]
          congr 1
          omega
  · exact h1.kept hg (.inr hb)

theorem run_keep {w : World} {base c : Nat} {v : Value} {xs : List Int} {x : Int} {a : Addr} (hown : w.ownsRow base 2 1 v xs.length (xs.map (Value.int .i64))) (hbase : base ≤ w.heap.size) (hl : xs.length ≤ 1048576)
    (hc : w.cell? a = some (.int .i64 x)) :
    ∃ v' w', (Builtin.append_ #[22, 22] 22 #[v, .slice (some a) 1 c]).run Try.prog w = .ok v' w' ∧ w'.ownsRow base 2 1 v' (xs.length + 1) ((xs ++ [x]).map (Value.int .i64)) ∧ w.grownBy w' v.ownBlock ∧ w'.ownsRow base 2 1 v xs.length (xs.map (Value.int .i64)) ∧ (v'.ownBlock = v.ownBlock ∨ v'.ownBlock = some w.heap.size) ∧ v' ≠ .slice none 0 0 := by
  obtain ⟨i0, hi, hz0, hz1, hz2⟩ := info_parts info_i64
  have hnews : ∀ j u, [Value.int .i64 x][j]? = some u → w.cell? (a.add j) = some u := fun j u hj => by
    have hjl : j = 0 := by
      have := (List.getElem?_eq_some_iff.1 hj).1
      simpa using this
    subst hjl
    simp at hj
    rw [← hj]
    exact hc
  have hone : ∀ u ∈ [Value.int .i64 x], u.oneCell' = true := fun u hu => by simp at hu; rw [hu]; rfl
  obtain ⟨v', w', h1, h2, h3, h4, h5⟩ := run_append_own_at (P := Try.prog) (w := w) base 22 22 2 i0 (.int .i64 0) 1 8 Try.underlying22 hi hz0 hz1 hz2 rfl (by decide) v xs.length _ hown a 1 c [.int .i64 x] (by simp) hnews hone (by unfold maxLen; omega) (by omega) hbase
  refine ⟨v', w', h1, by simpa using h2, h3, ?_, by simpa using h5, fun h => by have := h4.1 h; omega⟩
  rcases hown.2 with ⟨rfl, h0⟩ | ⟨g, cap, cur, rfl, hbg, hh, hn, hcm, hcs, ht⟩
  · exact ⟨hown.1, .inl ⟨rfl, h0⟩⟩
  · by_cases hroom : xs.length + 1 ≤ cap
    · have hr := run_append_room (P := Try.prog) w 22 22 2 i0 Try.underlying22 hi g xs.length cap cur hh a 1 c [.int .i64 x] (by simp [hz1]) hnews hone hroom (by simp [hz1]; omega)
      rw [h1] at hr
      injection hr with e1 e2
      subst e1; subst e2
      rcases h2.2 with ⟨h, _⟩ | ⟨g2, cap2, cur2, e2, _, hh2, hn2, hcm2, hcs2, ht2⟩
      · cases h
      · injection e2 with e3 _ e4
        injection e3 with e3
        injection e3 with e3
        subst e3; subst e4
        refine ⟨hown.1, .inr ⟨g, cap, cur2, rfl, hbg, hh2, hn, hcm, hcs2, ?_⟩⟩
        have : cur2.toList.take (xs.length * 1) = (cur2.toList.take ((xs.length + 1) * 1)).take xs.length := by
          rw [List.take_take, show min xs.length ((xs.length + 1) * 1) = xs.length * 1 by omega]
        rw [this, ht2, List.take_left' (by simp)]
    · have hr := run_append_grow (P := Try.prog) w 22 22 2 i0 (.int .i64 0) Try.underlying22 hi hz0 ⟨g, 0, none⟩ xs.length cap (xs.map (Value.int .i64)) (by simp [hz1]) (hown.cells (g := g) rfl) a 1 c [.int .i64 x] (by simp [hz1]) hnews (by omega) (by omega) (growslice_fits (by omega) (by rw [hz2]; omega))
      rw [h1] at hr
      injection hr with e1 e2
      subst e2
      refine ⟨hown.1, .inr ⟨g, cap, cur, rfl, hbg, ?_, hn, hcm, hcs, ht⟩⟩
      rw [heap_alloc_old w.drew _ (by have := (hown.lt g rfl).2; simpa using this)]
      exact hh

end Go.Proofs.Ytbhdipljhelddaa

/-! Pairs compared. -/
namespace Go.Proofs.Ytbhdipljhelddaa
open Go.RowKit

/-- A pair comes ahead of another one. -/
def lessP (x y x' y' : Int) : Bool := decide (x < x') || (decide (x = x') && decide (y < y'))

set_option maxRecDepth 100000 in
set_option maxHeartbeats 1000000 in
theorem less_any (x y x' y' : Int) (w : World) :
    Calls Try.prog 114 #[.agg #[.int .i64 x, .int .i64 y], .agg #[.int .i64 x', .int .i64 y']] w fun e w' => e = .returned (.bool (lessP x y x' y')) ∧ Below w.heap.size w w' := by
  have HB : Hid (Below w.heap.size w ((w.alloc (.cells #[.int .i64 x, .int .i64 y] 65)).alloc (.cells #[.int .i64 x', .int .i64 y'] 65))) := hid (((Below.refl _ w).alloc (Nat.le_refl _) _).alloc (by simp) _)
  by_cases h1 : x < x'
  · have hd : decide (x < x') = true := decide_eq_true h1
    have He : Hid (lessP x y x' y' = true) := hid (by unfold lessP; simp [h1])
    clear h1
    go_enter Try.func114, Try.ntmps114
    go_wp2
    go_ret
    exact ⟨ret_bool He.out.symm, HB.out⟩
  · have hd : decide (x < x') = false := decide_eq_false h1
    by_cases h2 : x = x'
    · have hd2 : (x == x') = true := by simp [h2]
      have He : Hid (lessP x y x' y' = decide (y < y')) := hid (by unfold lessP; simp [h2])
      clear h1 h2
      go_enter Try.func114, Try.ntmps114
      go_wp2
      go_ret
      exact ⟨ret_bool He.out.symm, HB.out⟩
    · have hd2 : (x == x') = false := by simp [h2]
      have He : Hid (lessP x y x' y' = false) := hid (by unfold lessP; simp [h1, h2])
      clear h1 h2
      go_enter Try.func114, Try.ntmps114
      go_wp2
      go_ret
      exact ⟨ret_bool He.out.symm, HB.out⟩

/-- -1, 0 or 1. -/
def cmpI (x y : Int) : Int := if x < y then -1 else if y < x then 1 else 0

set_option maxRecDepth 100000 in
set_option maxHeartbeats 1000000 in
theorem nan_any (x : Int) (w : World) : Calls Try.prog 180 #[.int .i64 x] w fun e w' => e = .returned (.bool false) ∧ w = w' := by
  have hne : (x != x) = false := by simp
  go_enter Try.func180, Try.ntmps180
  go_wp2
  go_ret
  exact ⟨rfl, rfl⟩

set_option maxRecDepth 100000 in
set_option maxHeartbeats 1000000 in
theorem cmp_any (x y : Int) (w : World) : Calls Try.prog 123 #[.int .i64 x, .int .i64 y] w fun e w' => e = .returned (.int .i64 (cmpI x y)) ∧ w = w' := by
  by_cases h1 : x < y
  · have hd : decide (x < y) = true := decide_eq_true h1
    have He : Hid (cmpI x y = -1) := hid (by unfold cmpI; simp [h1])
    clear h1
    go_enter Try.func123, Try.ntmps123
    go_wp2_with (go_at_call 180; refine (nan_any _ _).mono ?_; rintro e w' ⟨rfl, rfl⟩)
    go_ret
    exact ⟨ret_int He.out.symm, rfl⟩
  · have hd : decide (x < y) = false := decide_eq_false h1
    by_cases h2 : y < x
    · have hd2 : decide (y < x) = true := decide_eq_true h2
      have He : Hid (cmpI x y = 1) := hid (by unfold cmpI; simp [h1, h2])
      clear h1 h2
      go_enter Try.func123, Try.ntmps123
      go_wp2_with (go_at_call 180; refine (nan_any _ _).mono ?_; rintro e w' ⟨rfl, rfl⟩)
      go_ret
      exact ⟨ret_int He.out.symm, rfl⟩
    · have hd2 : decide (y < x) = false := decide_eq_false h2
      have He : Hid (cmpI x y = 0) := hid (by unfold cmpI; simp [h1, h2])
      clear h1 h2
      go_enter Try.func123, Try.ntmps123
      go_wp2_with (go_at_call 180; refine (nan_any _ _).mono ?_; rintro e w' ⟨rfl, rfl⟩)
      go_ret
      exact ⟨ret_int He.out.symm, rfl⟩

/-- The first of two that is not 0. -/
def orI (u v : Int) : Int := if u = 0 then v else u

theorem two_new (W : World) (H : Nat) (hH : W.heap.size = H) (u v : Value) (t : Nat) : (W.alloc (.cells #[u, v] t)).cell? ⟨H, 0, none⟩ = some u ∧ (W.alloc (.cells #[u, v] t)).cell? ⟨H, 1, none⟩ = some v := by
  subst hH
  constructor <;> simp [go_sem]

theorem two_new_d (W : World) (H : Nat) (hH : W.heap.size = H) (u v : Value) (t : Nat) : (W.alloc (.cells #[u, v] t)).drew.cell? ⟨H, 0, none⟩ = some u ∧ (W.alloc (.cells #[u, v] t)).drew.cell? ⟨H, 1, none⟩ = some v := two_new W H hH u v t

set_option maxRecDepth 100000 in
set_option maxHeartbeats 1000000 in
theorem or_any (u v : Int) (b : Nat) (w : World) (h0 : w.cell? ⟨b, 0, none⟩ = some (.int .i64 u)) (h1 : w.cell? ⟨b, 1, none⟩ = some (.int .i64 v)) :
    Calls Try.prog 122 #[.slice (some ⟨b, 0, none⟩) 2 2] w fun e w' => e = .returned (.int .i64 (orI u v)) ∧ w = w' := by
  by_cases hu : u = 0
  · have hd : (u != 0) = false := by simp [hu]
    by_cases hv : v = 0
    · have hd2 : (v != 0) = false := by simp [hv]
      have He : Hid (orI u v = 0) := hid (by unfold orI; rw [if_pos hu, hv])
      clear hu hv
      go_enter Try.func122, Try.ntmps122
      go_wp2
      refine wp_loop_rounds 3 ?_; rw [rounds_succ]
      go_wp2
      rw [rounds_succ]
      go_wp2
      rw [rounds_succ]
      go_wp2
      go_ret
      exact ⟨ret_int He.out.symm, rfl⟩
    · have hd2 : (v != 0) = true := by simp [hv]
      have He : Hid (orI u v = v) := hid (by unfold orI; rw [if_pos hu])
      clear hu hv
      go_enter Try.func122, Try.ntmps122
      go_wp2
      refine wp_loop_rounds 3 ?_; rw [rounds_succ]
      go_wp2
      rw [rounds_succ]
      go_wp2
      go_ret
      exact ⟨ret_int He.out.symm, rfl⟩
  · have hd : (u != 0) = true := by simp [hu]
    have He : Hid (orI u v = u) := hid (by unfold orI; rw [if_neg hu])
    clear hu
    go_enter Try.func122, Try.ntmps122
    go_wp2
    refine wp_loop_rounds 3 ?_; rw [rounds_succ]
    go_wp2
    go_ret
    exact ⟨ret_int He.out.symm, rfl⟩

/-- What comparePairs hands back. -/
def cmpP (x y x' y' : Int) : Int := orI (cmpI x x') (cmpI y y')

theorem cmpP_neg (x y x' y' : Int) : cmpP x y x' y' < 0 ↔ lessP x y x' y' = true := by
  unfold cmpP orI cmpI lessP
  simp only [Bool.or_eq_true, Bool.and_eq_true, decide_eq_true_eq]
  repeat' split
  all_goals omega

set_option maxRecDepth 100000 in
set_option maxHeartbeats 1000000 in
theorem cp_any (x y x' y' : Int) (w : World) :
    Calls Try.prog 59 #[.agg #[.int .i64 x, .int .i64 y], .agg #[.int .i64 x', .int .i64 y']] w fun e w' => e = .returned (.int .i64 (cmpP x y x' y')) ∧ Below w.heap.size w w' := by
  go_enter Try.func59, Try.ntmps59
  go_wp2
  have q0 : ((w.alloc (.cells #[.int .i64 x, .int .i64 y] 65)).alloc (.cells #[.int .i64 x', .int .i64 y'] 65)).cell? ⟨w.heap.size, 0, none⟩ = some (.int .i64 x) := by simp [go_sem]
  have q1 : ((w.alloc (.cells #[.int .i64 x, .int .i64 y] 65)).alloc (.cells #[.int .i64 x', .int .i64 y'] 65)).cell? ⟨w.heap.size, 1, none⟩ = some (.int .i64 y) := by simp [go_sem]
  have q2 : ((w.alloc (.cells #[.int .i64 x, .int .i64 y] 65)).alloc (.cells #[.int .i64 x', .int .i64 y'] 65)).cell? ⟨w.heap.size + 1, 0, none⟩ = some (.int .i64 x') := by simp [go_sem]
  have q3 : ((w.alloc (.cells #[.int .i64 x, .int .i64 y] 65)).alloc (.cells #[.int .i64 x', .int .i64 y'] 65)).cell? ⟨w.heap.size + 1, 1, none⟩ = some (.int .i64 y') := by simp [go_sem]
  have hsz : ((w.alloc (.cells #[.int .i64 x, .int .i64 y] 65)).alloc (.cells #[.int .i64 x', .int .i64 y'] 65)).heap.size = w.heap.size + 1 + 1 := by simp
  have HB : Hid (Below w.heap.size w ((w.alloc (.cells #[.int .i64 x, .int .i64 y] 65)).alloc (.cells #[.int .i64 x', .int .i64 y'] 65))) := hid (((Below.refl _ w).alloc (Nat.le_refl _) _).alloc (by simp) _)
  obtain ⟨W, hW⟩ : ∃ W, W = (w.alloc (.cells #[.int .i64 x, .int .i64 y] 65)).alloc (.cells #[.int .i64 x', .int .i64 y'] 65) := ⟨_, rfl⟩
  rw [← hW] at q0 q1 q2 q3 hsz HB ⊢
  clear hW
  go_region_held3 (fun w' => w'.cell? ⟨w.heap.size, 0, none⟩ = some (.int .i64 x) ∧ w'.cell? ⟨w.heap.size, 1, none⟩ = some (.int .i64 y) ∧ w'.cell? ⟨w.heap.size + 1, 0, none⟩ = some (.int .i64 x') ∧ w'.cell? ⟨w.heap.size + 1, 1, none⟩ = some (.int .i64 y')) (go_keep) (first
    | (go_at_call 123; refine (cmp_any _ _ _).mono ?_; rintro e w' ⟨rfl, rfl⟩)
    | (go_at_call 122; refine (or_any (cmpI x x') (cmpI y y') _ _ (two_new_d W _ hsz _ _ _).1 (two_new_d W _ hsz _ _ _).2).mono ?_; rintro e w' ⟨rfl, rfl⟩))
  all_goals
    go_wp2_with fail
    go_ret
    exact ⟨rfl, HB.out.trans (Below.mono (w := W) (((Below.refl _ W).alloc (Nat.le_refl _) _).drew) HB.out.size)⟩

end Go.Proofs.Ytbhdipljhelddaa

/-! slices.IsSortedFunc on a list of pairs. -/
namespace Go.Proofs.Ytbhdipljhelddaa
open Go.RowKit

/-- The number at a place. -/
def at0 (ps : List Int) (i : Nat) : Int := ps[i]?.getD 0

/-- No pair comes ahead of the one before it, from place k on. -/
def NoDrop (ps : List Int) (n k : Nat) : Prop := ∀ j, k ≤ j → 1 ≤ j → j < n → lessP (at0 ps (j * 2)) (at0 ps (j * 2 + 1)) (at0 ps ((j - 1) * 2)) (at0 ps ((j - 1) * 2 + 1)) = false

noncomputable def noDropB (ps : List Int) (n : Nat) : Bool := @decide (NoDrop ps n 1) (Classical.propDecidable _)
theorem noDropB_true {ps : List Int} {n : Nat} (h : NoDrop ps n 1) : noDropB ps n = true := by unfold noDropB; exact @decide_eq_true _ (Classical.propDecidable _) h
theorem noDropB_false {ps : List Int} {n : Nat} (h : ¬ NoDrop ps n 1) : noDropB ps n = false := by unfold noDropB; exact @decide_eq_false _ (Classical.propDecidable _) h

set_option maxRecDepth 100000 in
set_option maxHeartbeats 2000000 in
theorem sorted_any (a : Option Addr) (n cap : Nat) (ps : List Int) (w : World) (hx : SlI w w.heap.size a ps) (hp : ps.length = 2 * n) (hl : n ≤ 1048576) :
    Calls Try.prog 221 #[.slice a n cap, .func (.func 59) #[] #[]] w fun e w' => e = .returned (.bool (noDropB ps n)) ∧ Below w.heap.size w w' := by
  have hent : ∀ args w, (callFunc 59 args).run Try.prog w = .ok (.enter 59 args) w := enters_of Try.func59 (by kernel_rfl) rfl
  by_cases hn : n ≤ 1
  · have He : Hid (noDropB ps n = true) := hid (noDropB_true (fun j h1 h2 h3 => by omega))
    clear hx hp
    have h0 : n = 0 ∨ n = 1 := by omega
    rcases h0 with rfl | rfl
    · go_enter Try.func221, Try.ntmps221
      go_wp2
      refine wp_loop_rounds 1 ?_; rw [rounds_succ]
      go_wp2
      go_ret
      exact ⟨ret_bool He.out.symm, Below.refl _ _⟩
    · go_enter Try.func221, Try.ntmps221
      go_wp2
      refine wp_loop_rounds 1 ?_; rw [rounds_succ]
      go_wp2
      go_ret
      exact ⟨ret_bool He.out.symm, Below.refl _ _⟩
  · obtain ⟨b, off, hb, rfl, hc⟩ : ∃ b off, b < w.heap.size ∧ a = some ⟨b, off, none⟩ ∧ ∀ i, i < ps.length → w.cell? ⟨b, off + i, none⟩ = some (.int .i64 (ps[i]?.getD 0)) := by
      rcases hx with rfl | h
      · simp at hp; omega
      · exact h
    have Hc := hid hc
    have Hp := hid hp
    clear hc hx hp
    go_enter Try.func221, Try.ntmps221
    go_wp2
    go_loopw [5] (fun i wr => ∃ k : Nat, k < n ∧ i = .int .i64 k ∧ Hid (NoDrop ps n (k + 1)) ∧ Below w.heap.size w wr) (fun i _ => (intOf i).toNat)
    case atStart => exact ⟨n - 1, by omega, by go_num, hid (fun j h1 h2 h3 => by omega), Below.refl _ _⟩
    case round =>
      obtain ⟨k, hk, rfl, Hk, hB⟩ := hrel
      by_cases hlt : 0 < k
      · obtain ⟨m, rfl⟩ : ∃ m : Nat, k = m + 1 := ⟨k - 1, by omega⟩
        have c0 : wr.cell? ⟨b, off + (m + 1) * 2, none⟩ = some (.int .i64 (at0 ps ((m + 1) * 2))) := (hB.cell (p := ⟨b, off + (m + 1) * 2, none⟩) hb).trans (Hc.out _ (by have := Hp.out; omega))
        have c1 : wr.cell? ⟨b, off + (m + 1) * 2 + 1, none⟩ = some (.int .i64 (at0 ps ((m + 1) * 2 + 1))) := (hB.cell (p := ⟨b, off + ((m + 1) * 2 + 1), none⟩) hb).trans (Hc.out _ (by have := Hp.out; omega))
        have d0 : wr.cell? ⟨b, off + m * 2, none⟩ = some (.int .i64 (at0 ps (m * 2))) := (hB.cell (p := ⟨b, off + m * 2, none⟩) hb).trans (Hc.out _ (by have := Hp.out; omega))
        have d1 : wr.cell? ⟨b, off + m * 2 + 1, none⟩ = some (.int .i64 (at0 ps (m * 2 + 1))) := (hB.cell (p := ⟨b, off + (m * 2 + 1), none⟩) hb).trans (Hc.out _ (by have := Hp.out; omega))
        obtain ⟨x, hx⟩ : ∃ x, x = at0 ps ((m + 1) * 2) := ⟨_, rfl⟩
        obtain ⟨y, hy⟩ : ∃ y, y = at0 ps ((m + 1) * 2 + 1) := ⟨_, rfl⟩
        obtain ⟨x', hx'⟩ : ∃ x, x = at0 ps (m * 2) := ⟨_, rfl⟩
        obtain ⟨y', hy'⟩ : ∃ y, y = at0 ps (m * 2 + 1) := ⟨_, rfl⟩
        rw [← hx] at c0
        rw [← hy] at c1
        rw [← hx'] at d0
        rw [← hy'] at d1
        have Hstep : Hid (∀ c, lessP x y x' y' = c → (c = false → NoDrop ps n (m + 1)) ∧ (c = true → ¬ NoDrop ps n 1)) := hid (fun c hc => by
          refine ⟨fun h0 j h1 h2 h3 => ?_, fun h0 hno => ?_⟩
          · by_cases hj : j = m + 1
            · subst hj
              rw [Nat.add_sub_cancel, ← hx, ← hy, ← hx', ← hy', hc, h0]
            · exact Hk.out j (by omega) h2 h3
          · have := hno (m + 1) (by omega) (by omega) hk
            rw [Nat.add_sub_cancel, ← hx, ← hy, ← hx', ← hy', hc, h0] at this
            cases this)
        have Hneg := hid (cmpP_neg x y x' y')
        obtain ⟨q, hq⟩ : ∃ q, q = cmpP x y x' y' := ⟨_, rfl⟩
        have Hq := hid hq
        rw [← hq] at Hneg
        have hi0 : (0 : Int) ≤ (m : Int) := by omega
        have hi1 : (m : Int) < (n : Int) := by omega
        have hi2 : (m : Int) + 1 < (n : Int) := by omega
        have hi3 : (0 : Int) ≤ (m : Int) + 1 := by omega
        have hw1 : IntKind.i64.wrap (m : Int) = m := by rw [IntKind.wrap_i64]; omega
        have hw2 : IntKind.i64.wrap ((m : Int) + 1 - 1) = m := by rw [show (m : Int) + 1 - 1 = m by omega]; exact hw1
        have hw3 : wrap64 (m : Int) = m := IntWalk.wrap64_in _ ⟨by omega, by omega⟩
        have HB := hid hB
        clear hx hy hx' hy' hq hB Hk
        go_wp2_with fail
        go_region_with (go_at_call 59; refine (cp_any x y x' y' _).mono ?_; rintro e w2 ⟨rfl, hB2⟩; rw [← Hq.out])
        all_goals
          have HB2 := hid (HB.out.trans (Below.mono (w := wr) ⟨hB2.os, hB2.tape, hB2.output, hB2.size, hB2.block⟩ HB.out.size))
          clear hB2
          by_cases hql : q < 0
          · have He : Hid (noDropB ps n = false) := hid (noDropB_false ((Hstep.out true (Hneg.out.1 hql)).2 rfl))
            go_wp2_with fail
            go_ret
            exact ⟨ret_bool He.out.symm, HB2.out⟩
          · have hq0 : 0 ≤ q := by omega
            have He : Hid (NoDrop ps n (m + 1)) := hid ((Hstep.out false (by
              cases hc : lessP x y x' y'
              · rfl
              · exact absurd (Hneg.out.2 hc) hql)).1 rfl)
            clear hql
            go_wp2_with fail
            go_roundw
            case rel => exact ⟨m, by omega, by go_num, He.out, HB2.out⟩
            case measure => simp [intOf] <;> omega
      · obtain rfl : k = 0 := by omega
        have He : Hid (noDropB ps n = true) := hid (noDropB_true (fun j h1 h2 h3 => Hk.out j (by omega) h2 h3))
        go_wp2
        go_ret
        exact ⟨ret_bool He.out.symm, hB⟩

end Go.Proofs.Ytbhdipljhelddaa

/-! l02High, l02Next: the steps from a face. -/
namespace Go.Proofs.Ytbhdipljhelddaa
open Go.RowKit

/-- The high face of the first pair with a low face; 0: there is none. -/
def highOf (ps : List Int) (n : Nat) (a : Int) : Int := match (List.range n).find? (fun i => decide (at0 ps (i * 2) = a)) with
  | some i => at0 ps (i * 2 + 1)
  | none => 0
theorem highOf_some {ps : List Int} {n i : Nat} {a : Int} (hi : i < n) (ha : at0 ps (i * 2) = a) (h : ∀ j, j < i → at0 ps (j * 2) ≠ a) : highOf ps n a = at0 ps (i * 2 + 1) := by
  have : (List.range n).find? (fun i => decide (at0 ps (i * 2) = a)) = some i := by
    rw [List.find?_range_eq_some]
    exact ⟨by simp [ha], by simpa using hi, fun j hj => by simpa using h j hj⟩
  unfold highOf
  rw [this]
theorem highOf_none {ps : List Int} {n : Nat} {a : Int} (h : ∀ j, j < n → at0 ps (j * 2) ≠ a) : highOf ps n a = 0 := by
  have : (List.range n).find? (fun i => decide (at0 ps (i * 2) = a)) = none := by
    rw [List.find?_eq_none]
    intro i hi
    simpa using h i (by simpa using hi)
  unfold highOf
  rw [this]
/-- The faces to which steps lead. -/
def nextL (ps : List Int) (n : Nat) (a : Int) : List Int := if highOf ps n a = 0 then [] else (belowR (highOf ps n a).toNat 63).filter fun y => decide (y ≠ a)
theorem nextL_len (ps : List Int) (n : Nat) (a : Int) : (nextL ps n a).length ≤ 63 := by
  unfold nextL
  split
  · simp
  · exact Nat.le_trans (List.length_filter_le _ _) (belowR_len _ _)

/-- 'append' of a number; where the row lies afterwards. -/
theorem append_int_at {w : World} {ops : Array Oper} {rest : List Oper} {o : Oper} {a : Act} {Q : Exit → Act → World → Prop} (hgd : o.guard = none) {s y : Operand}
    (ho : o.op = .call { callee := .builtin .append, args := #[s, y], argTypes := #[22, 22] })
    {base : Nat} {v : Value} {xs : List Int} {x : Int} (hown : w.ownsRow base 2 1 v xs.length (xs.map (Value.int .i64))) (hbase : base ≤ w.heap.size) (hl : xs.length ≤ 1099511627776)
    (hs : a.eval s = v) (hy : a.eval y = .slice (some ⟨w.heap.size, 0, none⟩) 1 1)
    (hK : ∀ v' w', w'.ownsRow base 2 1 v' (xs ++ [x]).length ((xs ++ [x]).map (Value.int .i64)) → w.grownBy w' v.ownBlock → (v'.ownBlock = v.ownBlock ∨ v'.ownBlock = some (w.heap.size + 1)) → Below base w w' → wpList Try.prog ops Q rest (a.put o.dst v') w') :
    wpList Try.prog ops Q (o :: rest) a (w.alloc (.cells #[.int .i64 x] 2)) := by
  obtain ⟨i0, hi, hz0, hz1, hz2⟩ := info_parts info_i64
  refine wpList_append_own_at _ hgd s y 22 ho base 2 i0 (.int .i64 0) 1 8 Try.underlying22 hi hz0 hz1 hz2 rfl (by decide) v _ _ hs (hown.alloc _) ⟨w.heap.size, 0, none⟩ 1 1 [.int .i64 x] hy rfl (cell_one_new _ _ _) (by simp [Value.oneCell']) (by unfold maxLen; omega) (by omega) (by simp; omega) ?_
  intro v' w1 hown1 hgrow1 _ hat
  have hg : w.grownBy w1 v.ownBlock := (World.grownBy_alloc w _ _).trans hgrow1
  exact hK v' w1 (by simpa using hown1) hg (by simpa using hat) ((Below.refl base w).grown hg hbase (fun k hk => (hown.lt k hk).1))

set_option maxRecDepth 100000 in
set_option maxHeartbeats 2000000 in
theorem high_any (a1 : Option Addr) (n cap : Nat) (ps : List Int) (a : Int) (w : World) (hx : SlI w w.heap.size a1 ps) (hp : ps.length = 2 * n) (hl : n ≤ 1048576) :
    Calls Try.prog 53 #[.slice a1 n cap, .int .i64 a] w fun e w' => e = .returned (.int .i64 (highOf ps n a)) ∧ w = w' := by
  obtain ⟨E, hE⟩ : ∃ E, E = highOf ps n a := ⟨_, rfl⟩
  have HE := hid hE
  rw [← hE]
  clear hE
  have Hx := hid hx
  have Hp := hid hp
  clear hx hp
  go_enter Try.func53, Try.ntmps53
  go_wp2
  go_loop [5] (fun i => ∃ k : Nat, k ≤ n ∧ i = .int .i64 k ∧ Hid (∀ j, j < k → at0 ps (j * 2) ≠ a)) (fun i => n - (intOf i).toNat)
  case atStart => exact ⟨0, Nat.zero_le _, rfl, hid (fun j hj => absurd hj (Nat.not_lt_zero _))⟩
  case round =>
    obtain ⟨k, hk, rfl, Hk⟩ := hrel
    by_cases hlt : k < n
    · obtain ⟨b, off, hb, rfl, hc⟩ : ∃ b off, b < w.heap.size ∧ a1 = some ⟨b, off, none⟩ ∧ ∀ i, i < ps.length → w.cell? ⟨b, off + i, none⟩ = some (.int .i64 (ps[i]?.getD 0)) := by
        rcases Hx.out with h | h
        · have := Hp.out; rw [h] at this; simp at this; omega
        · exact h
      have c0 : w.cell? ⟨b, off + k * 2, none⟩ = some (.int .i64 (at0 ps (k * 2))) := hc _ (by have := Hp.out; omega)
      have c1 : w.cell? ⟨b, off + k * 2 + 1, none⟩ = some (.int .i64 (at0 ps (k * 2 + 1))) := hc (k * 2 + 1) (by have := Hp.out; omega)
      obtain ⟨x, hx⟩ : ∃ x, x = at0 ps (k * 2) := ⟨_, rfl⟩
      obtain ⟨y, hy⟩ : ∃ y, y = at0 ps (k * 2 + 1) := ⟨_, rfl⟩
      rw [← hx] at c0
      rw [← hy] at c1
      have hi0 : (0 : Int) ≤ (k : Int) := by omega
      have hi1 : (k : Int) < (n : Int) := by omega
      clear hc
      by_cases hxa : x = a
      · have hd : (x == a) = true := by simp [hxa]
        have He : Hid (E = y) := hid (by rw [HE.out, hy]; exact highOf_some hlt (by rw [← hx, hxa]) Hk.out)
        clear hxa hx hy
        go_wp2
        go_ret
        exact ⟨ret_int (by rw [He.out]), rfl⟩
      · have hd : (x == a) = false := by simp [hxa]
        have He : Hid (∀ j, j < k + 1 → at0 ps (j * 2) ≠ a) := hid (fun j hj => by
          by_cases h : j = k
          · rw [h, ← hx]; exact hxa
          · exact Hk.out j (by omega))
        clear hxa hx hy
        go_wp2
        go_round
        case rel => exact ⟨k + 1, by omega, by go_num, He.out⟩
        case measure => simp [intOf]; omega
    · have He : Hid (E = 0) := hid (by rw [HE.out]; exact highOf_none (fun j hj => Hk.out j (by omega)))
      go_wp2
      go_ret
      exact ⟨ret_int (by rw [He.out]), rfl⟩

theorem owned_some {w : World} {base e size n : Nat} {v : Value} {xs : List Value} (h : w.ownsRow base e size v n xs) (hn : v.ownBlock ≠ none) : ∃ g cap, v = .slice (some ⟨g, 0, none⟩) n cap ∧ n ≤ cap := by
  rcases h.2 with ⟨rfl, _⟩ | ⟨g, cap, cur, rfl, _, _, h1, _⟩
  · exact absurd rfl hn
  · exact ⟨g, cap, rfl, h1⟩

set_option maxRecDepth 100000 in
set_option maxHeartbeats 2000000 in
theorem next_any (a1 : Option Addr) (n cap : Nat) (ps : List Int) (a : Int) (w : World) (hx : SlI w w.heap.size a1 ps) (hp : ps.length = 2 * n) (hl : n ≤ 1048576) (hh : 0 ≤ highOf ps n a ∧ highOf ps n a < 64) :
    Calls Try.prog 113 #[.slice a1 n cap, .int .i64 a] w fun e w' => ∃ g c, e = .returned (.slice (some ⟨g, 0, none⟩) (nextL ps n a).length c) ∧ Res w w' (.slice (some ⟨g, 0, none⟩) (nextL ps n a).length c) (nextL ps n a) := by
  have HI := hid (high_any a1 n cap ps a w hx hp hl)
  obtain ⟨f, hf⟩ : ∃ f : Nat, highOf ps n a = f := ⟨(highOf ps n a).toNat, by omega⟩
  have hN : nextL ps n a = if f = 0 then [] else (belowR f 63).filter fun y => decide (y ≠ a) := by
    unfold nextL
    rw [hf, Int.toNat_natCast]
    by_cases h : f = 0
    · rw [if_pos h, if_pos (by omega)]
    · rw [if_neg h, if_neg (by omega)]
  have hf64 : f < 64 := by omega
  rw [hf] at HI
  rw [hN]
  clear hx hp hh hN hf
  have Hown0 := hid (World.ownsRow_made (base := w.heap.size) (e := 2) (size := 1) w #[] 0 (Nat.le_refl _) (by simp [maxLen]) rfl)
  by_cases h0 : f = 0
  · subst h0
    rw [if_pos rfl]
    go_enter Try.func113, Try.ntmps113
    go_wp2_with (go_at_call 53; refine HI.out.mono ?_; rintro e w' ⟨rfl, rfl⟩)
    go_ret
    exact ⟨w.heap.size, 0, rfl, Hown0.out, (Below.refl _ w).alloc (Nat.le_refl _) _⟩
  · rw [if_neg h0]
    have hne : ((f : Int) == 0) = false := by simp; omega
    obtain ⟨ys, hys⟩ : ∃ ys, ys = belowR f 63 := ⟨_, rfl⟩
    have HB := hid (fun w => below_any f w hf64)
    have hyl : ys.length ≤ 63 := by rw [hys]; exact belowR_len _ _
    rw [← hys] at HB ⊢
    clear hys h0
    go_enter Try.func113, Try.ntmps113
    go_wp2_with (go_at_call 53; refine HI.out.mono ?_; rintro e w' ⟨rfl, rfl⟩)
    refine (HB.out _).mono ?_
    rintro e w2 ⟨v, rfl, hown2, hB2⟩
    obtain ⟨_, av, cv, rfl, hs⟩ := ownsRow_slI hown2
    have hown1 := ownsRow_below Hown0.out hB2 (fun g hg => (Hown0.out.lt g hg).2)
    have hB12 : Below w.heap.size w w2 := ((Below.refl _ w).alloc (Nat.le_refl _) _).trans (hB2.mono (by simp))
    have hb0 : ∀ b off, av = some ⟨b, off, none⟩ → w.heap.size + 1 ≤ b := fun b off h => by
      have := (hown2.lt b (by rw [h]; rfl)).1
      simpa using this
    have Hown1 := hid hown1
    have HB12 := hid hB12
    clear hown1 hB12 hown2 hB2
    rcases hs with rfl | ⟨b, off, hb, rfl, hc⟩
    · go_wp2_with fail
      refine wp_loop_rounds 1 ?_; rw [rounds_succ]
      go_wp2
      go_ret
      exact ⟨w.heap.size, 0, rfl, Hown1.out, HB12.out⟩
    · have hbw := hb0 b off rfl
      have Hc := hid hc
      clear hc hb0
      go_wp2_with fail
      go_loopw [6, 8] (fun v i wr => ∃ k : Nat, k ≤ ys.length ∧ i = .int .i64 k ∧ wr.ownsRow w.heap.size 2 1 v ((ys.take k).filter fun y => decide (y ≠ a)).length (((ys.take k).filter fun y => decide (y ≠ a)).map (Value.int .i64)) ∧ v.ownBlock ≠ none ∧ v.ownBlock ≠ some b ∧ Hid (b < wr.heap.size ∧ ∀ i, i < ys.length → wr.cell? ⟨b, off + i, none⟩ = some (.int .i64 (ys[i]?.getD 0))) ∧ Below w.heap.size w wr) (fun _ i _ => ys.length - (intOf i).toNat)
      case atStart => exact ⟨0, Nat.zero_le _, rfl, Hown1.out, by simp [Value.ownBlock], by simp [Value.ownBlock]; omega, hid ⟨hb, Hc.out⟩, HB12.out⟩
      case round =>
        obtain ⟨k, hk, rfl, hown, hnn, hne', HC, hB⟩ := hrel
        by_cases hlt : k < ys.length
        · obtain ⟨y, hy⟩ : ∃ y, y = ys[k]?.getD 0 := ⟨_, rfl⟩
          have hck : wr.cell? ⟨b, off + k, none⟩ = some (.int .i64 y) := by rw [hy]; exact HC.out.2 k hlt
          have Htk : Hid (ys.take (k + 1) = ys.take k ++ [y]) := hid (by rw [take_snoc hlt, hy])
          have hi0 : (0 : Int) ≤ (k : Int) := by omega
          have hi1 : (k : Int) < (ys.length : Int) := by omega
          have hfl : ((ys.take k).filter fun y => decide (y ≠ a)).length ≤ 1048576 := Nat.le_trans (List.length_filter_le _ _) (by simp; omega)
          have hsz := hB.size
          have HB' := hid hB
          have Hown := hid hown
          clear hy hown hB
          by_cases hya : y = a
          · have hd : (y != a) = false := by simp [hya]
            have He : Hid ((ys.take (k + 1)).filter (fun y => decide (y ≠ a)) = (ys.take k).filter (fun y => decide (y ≠ a))) := hid (by rw [Htk.out, List.filter_append]; simp [hya])
            clear hya
            go_wp2_with fail
            go_roundw
            case rel => exact ⟨k + 1, by omega, by go_num, by rw [He.out]; exact Hown.out, hnn, hne', HC, HB'.out⟩
            case measure => simp [intOf]; omega
          · have hd : (y != a) = true := by simp [hya]
            have He : Hid ((ys.take (k + 1)).filter (fun y => decide (y ≠ a)) = (ys.take k).filter (fun y => decide (y ≠ a)) ++ [y]) := hid (by rw [Htk.out, List.filter_append]; simp [hya])
            clear hya
            go_wp2_with (at_builtin; refine append_int_at rfl rfl Hown.out hsz (by omega) rfl rfl ?_; intro v' w4 hown4 hgrow4 hat4 hB4)
            go_roundw
            case rel =>
              have hbn := HC.out.1
              refine ⟨k + 1, by omega, by go_num, by rw [He.out]; exact hown4, ?_, ?_, hid ⟨Nat.lt_of_lt_of_le hbn hB4.size, fun i hi => ?_⟩, HB'.out.trans hB4⟩
              · rcases hat4 with h | h
                · rw [h]; exact hnn
                · rw [h]; intro e; cases e
              · rcases hat4 with h | h
                · rw [h]; exact hne'
                · rw [h]; intro e; injection e with e; omega
              · rw [hgrow4.cell_far _ hbn (fun e => hne' e.symm)]; exact HC.out.2 i hi
            case measure => simp [intOf]; omega
        · obtain rfl : k = ys.length := by omega
          rw [List.take_length] at hown
          have HB' := hid hB
          have Hown := hid hown
          clear hB hown
          go_wp2_with fail
          obtain ⟨g, c, rfl, _⟩ := owned_some Hown.out hnn
          go_ret
          exact ⟨g, c, rfl, Hown.out, HB'.out⟩

end Go.Proofs.Ytbhdipljhelddaa

/-! Contracts of the laws' small helpers: sizes, copies, comparisons. -/
namespace Go.Proofs.Ytbhdipljhelddaa
open Go.RowKit

theorem fill_step {xs : List Int} {k : Nat} (h : k < xs.length) :
    ((xs.take k ++ List.replicate (xs.length - k) (0 : Int)).map (Value.int .i64)).set k (.int .i64 (xs[k]?.getD 0)) = (xs.take (k + 1) ++ List.replicate (xs.length - (k + 1)) (0 : Int)).map (Value.int .i64) := by
  rw [take_snoc h, ← List.map_set]
  congr 1
  have e : xs.length - k = (xs.length - (k + 1)) + 1 := by omega
  rw [e, List.replicate_succ, List.set_append_right _ _ (by simp <;> omega)]
  simp [Nat.min_eq_left (Nat.le_of_lt h)]

set_option maxHeartbeats 400000 in
theorem toInts (a : Option Addr) (cap : Nat) (xs : List Int) (w : World) (hx : SlI w w.heap.size a xs) (hl : xs.length ≤ 1048576) :
    Calls Try.prog 30 #[.slice a xs.length cap] w fun e w' =>
      e = .returned (.slice (some ⟨w.heap.size, 0, none⟩) xs.length xs.length) ∧ w'.ownsRow w.heap.size 2 1 (.slice (some ⟨w.heap.size, 0, none⟩) xs.length xs.length) xs.length (xs.map (Value.int .i64)) ∧ Below w.heap.size w w' := by
  go_enter Try.func30, Try.ntmps30
  go_wp2_with (at_make; refine make_int rfl rfl rfl rfl (by omega) ?_; intro w1 hown hg hB)
  rcases hx with rfl | ⟨b, off, hb, rfl, hc⟩
  · refine wp_loop_rounds 1 ?_; rw [rounds_succ]
    go_wp2
    go_ret
    exact ⟨rfl, hown, hB⟩
  · go_loopw [4] (fun i wr => ∃ k : Nat, k ≤ xs.length ∧ i = .int .i64 k ∧ wr.ownsRow w.heap.size 2 1 (.slice (some ⟨w.heap.size, 0, none⟩) xs.length xs.length) xs.length ((xs.take k ++ List.replicate (xs.length - k) (0 : Int)).map (Value.int .i64)) ∧ Below w.heap.size w wr) (fun i _ => xs.length - (intOf i).toNat)
    case atStart => exact ⟨0, Nat.zero_le _, rfl, by simpa using hown, hB⟩
    case round =>
      obtain ⟨k, hk, rfl, hown, hB⟩ := hrel
      by_cases hlt : k < xs.length
      · obtain ⟨x, hx⟩ : ∃ x, x = xs[k]?.getD 0 := ⟨_, rfl⟩
        have hck : wr.cell? ⟨b, off + k, none⟩ = some (.int .i64 x) := by rw [hx]; exact (hB.cell (p := ⟨b, off + k, none⟩) hb).trans (hc k hlt)
        have hcg : wr.cell? ⟨w.heap.size, k, none⟩ = some (.int .i64 0) := by
          rw [hown.cellAt k (by omega)]
          rw [List.getElem?_map, List.getElem?_append_right (by simp <;> omega)]
          simp [List.getElem?_replicate, Nat.min_eq_left hk]
          omega
        have hfg := hown.frozenAt k
        have Hx := hid hx
        have Hc := hid hc
        clear hx hc
        have hst := hown.stored k (.int .i64 x)
        have Hst := hid hst.1
        clear hst
        go_wp2
        go_roundw
        case rel =>
          refine ⟨k + 1, by omega, by go_num, ?_, hB.setCell (p := ⟨w.heap.size, k, none⟩) (Nat.le_refl _) _⟩
          have h := Hst.out
          rw [Hx.out, fill_step hlt, ← Hx.out] at h
          exact h
        case measure => simp [intOf]; omega
      · go_wp2
        go_ret
        obtain rfl : k = xs.length := by omega
        exact ⟨rfl, by simpa using hown, hB⟩

/-- What is left of a size. -/
def szR (left : Int) (n : Nat) : Int := if left < n then -1 else left - n
theorem szR_big {left : Int} {n : Nat} (h : left < n) : szR left n = -1 := by unfold szR; rw [if_pos h]
theorem szR_fit {left : Int} {n : Nat} (h : ¬ left < n) : szR left n = left - n := by unfold szR; rw [if_neg h]

set_option maxHeartbeats 400000 in
theorem szInts (a : Option Addr) (n cap : Nat) (left : Int) (w : World) (h1 : 0 ≤ left) (h2 : left ≤ 1048576) (hn : n ≤ 9223372036854775807) :
    Calls Try.prog 41 #[.slice a n cap, .int .i64 left] w fun e w' => e = .returned (.int .i64 (szR left n)) ∧ w = w' := by
  by_cases h : left < n
  · have H := hid (szR_big h)
    go_enter Try.func41, Try.ntmps41
    go_wp2
    go_ret
    exact ⟨ret_int (by rw [H.out]), rfl⟩
  · have H := hid (szR_fit h)
    go_enter Try.func41, Try.ntmps41
    go_wp2
    go_ret
    exact ⟨ret_int (by rw [H.out]), rfl⟩

set_option maxHeartbeats 400000 in
theorem szCx (V : Int) (a : Option Addr) (n cap : Nat) (left : Int) (w : World) (h1 : 0 ≤ left) (h2 : left ≤ 1048576) (hn : n ≤ 9223372036854775807) :
    Calls Try.prog 11 #[.agg #[.int .i64 V, .slice a n cap], .int .i64 left] w fun e w' => e = .returned (.int .i64 (szR left n)) ∧ Below w.heap.size w w' := by
  have hr : szR left n = -1 ∨ 0 ≤ szR left n := by
    by_cases h : left < n
    · exact .inl (szR_big h)
    · rw [szR_fit h]; right; omega
  have hr' : szR left n < 0 ∨ 0 ≤ szR left n := by omega
  have hm : szR left n < 0 → szR left n = -1 := by omega
  have Hm := hid hm
  clear hr hm
  obtain ⟨r, hr0⟩ : ∃ r, r = szR left n := ⟨_, rfl⟩
  rw [← hr0] at hr'
  have hr := hr'
  have H := hid hr0
  clear hr0 hr'
  go_enter Try.func11, Try.ntmps11
  go_wp2_with fail
  refine (szInts a n cap left _ h1 h2 hn).mono ?_
  rintro e w' ⟨rfl, rfl⟩
  rw [← H.out]
  rcases hr with hr | hr
  · go_wp2
    go_ret
    exact ⟨ret_int (Hm.out (by rw [← H.out]; exact hr)).symm, (Below.refl _ w).alloc (Nat.le_refl _) _⟩
  · go_wp2
    go_ret
    exact ⟨ret_int H.out, (Below.refl _ w).alloc (Nat.le_refl _) _⟩

set_option maxHeartbeats 400000 in
theorem toCx (V : Int) (a : Option Addr) (cap : Nat) (xs : List Int) (w : World) (hx : SlI w w.heap.size a xs) (hl : xs.length ≤ 1048576) :
    Calls Try.prog 13 #[.agg #[.int .i64 V, .slice a xs.length cap]] w fun e w' =>
      ∃ g, e = .returned (.agg #[.int .i64 V, .slice (some ⟨g, 0, none⟩) xs.length xs.length]) ∧ w'.ownsRow w.heap.size 2 1 (.slice (some ⟨g, 0, none⟩) xs.length xs.length) xs.length (xs.map (Value.int .i64)) ∧ Below w.heap.size w w' := by
  go_enter Try.func13, Try.ntmps13
  go_wp2_with fail
  refine (toInts a cap xs _ (SlI.later hx (?hb : Below w.heap.size w _) ?hs) hl).mono ?_
  case hb => repeat (first | exact Below.refl _ _ | refine Below.alloc ?_ (by simp <;> omega) _ | refine Below.setCell ?_ (by simp <;> omega) _)
  case hs => simp <;> omega
  rintro e w1 ⟨rfl, hown, hB⟩
  have hB1 : Below w.heap.size w w1 := Below.trans (by repeat (first | exact Below.refl _ _ | refine Below.alloc ?_ (by simp <;> omega) _ | refine Below.setCell ?_ (by simp <;> omega) _)) (hB.mono (by simp <;> omega))
  have e0 : w1.cell? ⟨w.heap.size + 1 + 1, 0, none⟩ = some (.int .i64 V) := (hB.cell (p := ⟨w.heap.size + 1 + 1, 0, none⟩) (by simp)).trans (by simp [go_sem])
  have e1 : w1.cell? ⟨w.heap.size + 1 + 1, 1, none⟩ = some (.slice none 0 0) := (hB.cell (p := ⟨w.heap.size + 1 + 1, 1, none⟩) (by simp)).trans (by simp [go_sem])
  have e2 : w1.cell? ⟨w.heap.size + 1, 0, none⟩ = some (.int .i64 0) := (hB.cell (p := ⟨w.heap.size + 1, 0, none⟩) (by simp)).trans (by simp [go_sem])
  have e3 : w1.cell? ⟨w.heap.size + 1, 1, none⟩ = some (.slice none 0 0) := (hB.cell (p := ⟨w.heap.size + 1, 1, none⟩) (by simp)).trans (by simp [go_sem])
  have g1 : w1.frozen? ⟨w.heap.size + 1 + 1, 1, none⟩ = false := (hB.frozen (p := ⟨w.heap.size + 1 + 1, 1, none⟩) (by simp)).trans (by simp [go_sem])
  have g2 : w1.frozen? ⟨w.heap.size + 1, 0, none⟩ = false := (hB.frozen (p := ⟨w.heap.size + 1, 0, none⟩) (by simp)).trans (by simp [go_sem])
  have g3 : w1.frozen? ⟨w.heap.size + 1, 1, none⟩ = false := (hB.frozen (p := ⟨w.heap.size + 1, 1, none⟩) (by simp)).trans (by simp [go_sem])
  have hs1 := hB.size
  simp at hs1
  have Hown := hid (hown)
  clear hown
  go_wp2_with fail
  refine bodyPost_ret (v := .agg #[.int .i64 V, .slice (some ⟨w.heap.size + 1 + 1 + 1, 0, none⟩) xs.length xs.length]) (by simp [results, Try.results13, go_sem, e2, e3]) rfl ⟨w.heap.size + 1 + 1 + 1, rfl, ?_, ?_⟩
  · have h := Hown.out
    simp only [World.size_alloc] at h
    refine ownsRow_set (ownsRow_set (ownsRow_set (ownsRow_base h (by omega)) ?_ _) ?_ _) ?_ _ <;> (simp [Value.ownBlock] <;> omega)
  · exact ((hB1.setCell (by simp; omega) _).setCell (by simp) _).setCell (by simp) _

set_option maxHeartbeats 400000 in
theorem eqInts_any (a1 a2 : Option Addr) (c1 c2 : Nat) (xs ys : List Int) (w : World) (hx : SlI w w.heap.size a1 xs) (hy : SlI w w.heap.size a2 ys) (hl : xs.length ≤ 1048576) (hl2 : ys.length ≤ 1048576) :
    Calls Try.prog 15 #[.slice a1 xs.length c1, .slice a2 ys.length c2] w fun e w' => e = .returned (.bool (decide (xs = ys))) ∧ Below w.heap.size w w' := by
  by_cases hlen : xs.length = ys.length
  · rcases hx with rfl | ⟨b, off, hb, rfl, hc⟩
    · obtain rfl : ys = [] := List.eq_nil_of_length_eq_zero hlen.symm
      go_enter Try.func15, Try.ntmps15
      go_wp2
      refine wp_loop_rounds 1 ?_; rw [rounds_succ]
      go_wp2
      go_ret
      exact ⟨ret_bool (by simp), Below.refl _ _⟩
    · rcases hy with rfl | ⟨b2, off2, hb2, rfl, hc2⟩
      · obtain rfl : xs = [] := List.eq_nil_of_length_eq_zero hlen
        go_enter Try.func15, Try.ntmps15
        go_wp2
        refine wp_loop_rounds 1 ?_; rw [rounds_succ]
        go_wp2
        go_ret
        exact ⟨ret_bool (by simp), Below.refl _ _⟩
      · have Hc := hid hc
        have Hc2 := hid hc2
        have hne : ((xs.length : Int) != (ys.length : Int)) = false := by simp [hlen]
        have Hlen := hid hlen
        have hle : xs.length ≤ ys.length := by omega
        clear hc hc2 hlen
        go_enter Try.func15, Try.ntmps15
        go_wp2
        go_loopw [5] (fun i wr => ∃ k : Nat, k ≤ xs.length ∧ i = .int .i64 k ∧ Hid (∀ j, j < k → xs[j]?.getD 0 = ys[j]?.getD 0) ∧ Below w.heap.size w wr) (fun i _ => xs.length - (intOf i).toNat)
        case atStart => exact ⟨0, Nat.zero_le _, rfl, hid (by omega), Below.refl _ _⟩
        case round =>
          obtain ⟨k, hk, rfl, Hk, hB⟩ := hrel
          by_cases hlt : k < xs.length
          · obtain ⟨x, hx⟩ : ∃ x, x = xs[k]?.getD 0 := ⟨_, rfl⟩
            obtain ⟨y, hy⟩ : ∃ y, y = ys[k]?.getD 0 := ⟨_, rfl⟩
            have hck : wr.cell? ⟨b, off + k, none⟩ = some (.int .i64 x) := by rw [hx]; exact (hB.cell (p := ⟨b, off + k, none⟩) hb).trans (Hc.out k hlt)
            have hck2 : wr.cell? ⟨b2, off2 + k, none⟩ = some (.int .i64 y) := by rw [hy]; exact (hB.cell (p := ⟨b2, off2 + k, none⟩) hb2).trans (Hc2.out k (by omega))
            have Hx := hid hx
            have Hy := hid hy
            clear hx hy
            have hi0 : (0 : Int) ≤ (k : Int) := by omega
            have hi1 : (k : Int) < (xs.length : Int) := by omega
            have hi2 : (k : Int) < (ys.length : Int) := by omega
            by_cases hxy : x = y
            · have hd : (x != y) = false := by simp [hxy]
              have Hxy := hid hxy
              clear hxy
              go_wp2_with fail
              go_quiet (fail)
              go_wp2_with fail
              go_roundw
              case rel =>
                refine ⟨k + 1, by omega, by go_num, hid (fun j hj => ?_), hB.trans ⟨rfl, rfl, rfl, Nat.le_refl _, fun _ _ => rfl⟩⟩
                by_cases hjk : j < k
                · exact Hk.out j hjk
                · obtain rfl : j = k := by omega
                  rw [← Hx.out, ← Hy.out, Hxy.out]
              case measure => simp [intOf]; omega
            · have hd : (x != y) = true := by simp [hxy]
              go_wp2_with fail
              go_quiet (fail)
              go_wp2_with fail
              go_ret
              refine ⟨ret_bool ?_, hB.trans ⟨rfl, rfl, rfl, Nat.le_refl _, fun _ _ => rfl⟩⟩
              symm
              refine decide_eq_false (fun h => hxy ?_)
              rw [Hx.out, Hy.out, h]
          · obtain rfl : k = xs.length := by omega
            go_wp2
            go_ret
            refine ⟨ret_bool ?_, hB⟩
            symm
            refine decide_eq_true (List.ext_getElem Hlen.out (fun j h1 h2 => ?_))
            have := Hk.out j h1
            rw [List.getElem?_eq_getElem h1, List.getElem?_eq_getElem h2] at this
            simpa using this
  · have hne : ((xs.length : Int) != (ys.length : Int)) = true := by simp; omega
    have Hlen := hid hlen
    clear hlen
    go_enter Try.func15, Try.ntmps15
    go_wp2
    go_ret
    refine ⟨ret_bool ?_, Below.refl _ _⟩
    symm
    exact decide_eq_false (fun h => Hlen.out (by rw [h]))

theorem eqInts_yes (a1 a2 : Option Addr) (c1 c2 : Nat) (xs ys : List Int) (w : World) (hx : SlI w w.heap.size a1 xs) (hy : SlI w w.heap.size a2 ys) (hl : xs.length ≤ 1048576) (hl2 : ys.length ≤ 1048576) (h : xs = ys) :
    Calls Try.prog 15 #[.slice a1 xs.length c1, .slice a2 ys.length c2] w fun e w' => e = .returned (.bool true) ∧ Below w.heap.size w w' :=
  (eqInts_any a1 a2 c1 c2 xs ys w hx hy hl hl2).mono fun _ _ ⟨he, hw⟩ => ⟨by rw [he, decide_eq_true h], hw⟩

theorem eqInts_no (a1 a2 : Option Addr) (c1 c2 : Nat) (xs ys : List Int) (w : World) (hx : SlI w w.heap.size a1 xs) (hy : SlI w w.heap.size a2 ys) (hl : xs.length ≤ 1048576) (hl2 : ys.length ≤ 1048576) (h : ¬ xs = ys) :
    Calls Try.prog 15 #[.slice a1 xs.length c1, .slice a2 ys.length c2] w fun e w' => e = .returned (.bool false) ∧ Below w.heap.size w w' :=
  (eqInts_any a1 a2 c1 c2 xs ys w hx hy hl hl2).mono fun _ _ ⟨he, hw⟩ => ⟨by rw [he, decide_eq_false h], hw⟩

set_option maxHeartbeats 400000 in
theorem eqCx_yes (V : Int) (a1 a2 : Option Addr) (c1 c2 : Nat) (xs ys : List Int) (w : World) (hx : SlI w w.heap.size a1 xs) (hy : SlI w w.heap.size a2 ys) (hl : xs.length ≤ 1048576) (hl2 : ys.length ≤ 1048576) (h : xs = ys) :
    Calls Try.prog 16 #[.agg #[.int .i64 V, .slice a1 xs.length c1], .agg #[.int .i64 V, .slice a2 ys.length c2]] w fun e w' => e = .returned (.bool true) ∧ Below w.heap.size w w' := by
  have H := hid h
  clear h
  have hne : (V != V) = false := by simp
  go_enter Try.func16, Try.ntmps16
  go_wp2_with fail
  have hB : Below w.heap.size w ((w.alloc (.cells #[.int .i64 V, .slice a1 xs.length c1] 28)).alloc (.cells #[.int .i64 V, .slice a2 ys.length c2] 28)) := ((Below.refl _ w).alloc (Nat.le_refl _) _).alloc (by simp) _
  refine (eqInts_yes a1 a2 c1 c2 xs ys _ (SlI.later hx hB (by simp <;> omega)) (SlI.later hy hB (by simp <;> omega)) hl hl2 H.out).mono ?_
  rintro e w' ⟨rfl, hb⟩
  go_wp2_with fail
  go_ret
  exact ⟨rfl, hB.trans (hb.mono (by simp <;> omega))⟩

end Go.Proofs.Ytbhdipljhelddaa

/-! Marks: what the laws write into results, and find again. -/
namespace Go.Proofs.Ytbhdipljhelddaa
open Go.RowKit

/-- k, k + 1, .. -/
def count (k : Int) : Nat → List Int
  | 0 => []
  | n + 1 => count k n ++ [k + n]

theorem count_len (k : Int) : ∀ n, (count k n).length = n
  | 0 => rfl
  | n + 1 => by simp [count, count_len k n]

theorem count_get (k : Int) : ∀ n i, i < n → (count k n)[i]?.getD 0 = k + i
  | 0, i, h => by omega
  | n + 1, i, h => by
    unfold count
    by_cases hi : i < n
    · rw [List.getElem?_append_left (by rw [count_len]; exact hi)]
      exact count_get k n i hi
    · obtain rfl : i = n := by omega
      rw [List.getElem?_append_right (by rw [count_len]; omega), count_len]
      simp

theorem mark_step {k : Int} {xs : List Int} {j : Nat} (h : j < xs.length) :
    ((count k j ++ xs.drop j).map (Value.int .i64)).set j (.int .i64 (k + j)) = (count k (j + 1) ++ xs.drop (j + 1)).map (Value.int .i64) := by
  rw [← List.map_set]
  congr 1
  rw [List.set_append_right _ _ (by rw [count_len]; exact Nat.le_refl _), count_len, Nat.sub_self]
  rw [List.drop_eq_getElem_cons h, List.set_cons_zero]
  simp [count]

set_option maxHeartbeats 400000 in
theorem markInts (base : Nat) (a : Option Addr) (cap : Nat) (xs : List Int) (k : Int) (w : World) (hown : w.ownsRow base 2 1 (.slice a xs.length cap) xs.length (xs.map (Value.int .i64))) (hl : xs.length ≤ 1048576) (h0 : 0 ≤ k) (h1 : k ≤ 1099511627776) :
    Calls Try.prog 18 #[.slice a xs.length cap, .int .i64 k] w fun e w' => e = .returned (.int .i64 (k + xs.length)) ∧
      w'.ownsRow base 2 1 (.slice a xs.length cap) xs.length ((count k xs.length).map (Value.int .i64)) ∧ w.grownBy w' (Value.ownBlock (.slice a xs.length cap)) := by
  rcases hown.2 with ⟨hv, hn⟩ | ⟨g, cap', cur, hv, hb, hg, rest⟩
  · obtain rfl : xs = [] := List.eq_nil_of_length_eq_zero hn
    have Hown := hid hown
    clear hown hv hn
    go_enter Try.func18, Try.ntmps18
    go_wp2
    refine wp_loop_rounds 1 ?_; rw [rounds_succ]
    go_wp2
    go_ret
    exact ⟨ret_int (by simp), Hown.out, ⟨rfl, rfl, rfl, Nat.le_refl _, fun _ _ _ => rfl⟩⟩
  · cases hv
    have Hg := hid (And.intro hb hg)
    clear hb hg rest
    go_enter Try.func18, Try.ntmps18
    go_wp2
    go_loopw [1, 5] (fun m i wr => ∃ j : Nat, j ≤ xs.length ∧ i = .int .i64 j ∧ m = .int .i64 (k + j) ∧ wr.ownsRow base 2 1 (.slice (some ⟨g, 0, none⟩) xs.length cap) xs.length ((count k j ++ xs.drop j).map (Value.int .i64)) ∧ w.grownBy wr (some g)) (fun _ i _ => xs.length - (intOf i).toNat)
    case atStart => exact ⟨0, Nat.zero_le _, rfl, by simp, by simpa [count] using hown, ⟨rfl, rfl, rfl, Nat.le_refl _, fun _ _ _ => rfl⟩⟩
    case round =>
      obtain ⟨j, hj, rfl, rfl, hown, hgr⟩ := hrel
      by_cases hlt : j < xs.length
      · have hcg : ∃ u, wr.cell? ⟨g, j, none⟩ = some (.int .i64 u) := by
          rw [hown.cellAt j (by omega)]
          refine ⟨xs[j]?.getD 0, ?_⟩
          rw [List.getElem?_map, List.getElem?_append_right (by rw [count_len]; exact Nat.le_refl _), count_len, Nat.sub_self]
          simp [hlt]
        obtain ⟨u, hcu⟩ := hcg
        have hfg := hown.frozenAt j
        have hst := hown.stored j (.int .i64 (k + j))
        rw [mark_step hlt] at hst
        have Hst := hid hst
        have Hgr := hid hgr
        clear hst hown hgr
        go_wp2
        go_roundw
        case rel =>
          exact ⟨j + 1, by omega, by go_num, by go_num, Hst.out.1, Hgr.out.trans Hst.out.2⟩
        case measure => simp [intOf]; omega
      · go_wp2
        go_ret
        obtain rfl : j = xs.length := by omega
        exact ⟨rfl, by simpa using hown, hgr⟩

set_option maxHeartbeats 400000 in
theorem heldInts (a : Option Addr) (cap : Nat) (n : Nat) (xs : List Int) (k : Int) (w : World) (hxs : xs = count k n) (hx : SlI w w.heap.size a xs) (hl : n ≤ 1048576) (h0 : 0 ≤ k) (h1 : k ≤ 1099511627776) :
    Calls Try.prog 19 #[.slice a n cap, .int .i64 k] w fun e w' => e = .returned (.int .i64 (k + n)) ∧ Below w.heap.size w w' := by
  have hlen : xs.length = n := by rw [hxs, count_len]
  rcases hx with rfl | ⟨b, off, hb, rfl, hc⟩
  · obtain rfl : n = 0 := by simpa using hlen.symm
    clear hxs hlen
    go_enter Try.func19, Try.ntmps19
    go_wp2
    refine wp_loop_rounds 1 ?_; rw [rounds_succ]
    go_wp2
    go_ret
    exact ⟨ret_int (by simp), Below.refl _ _⟩
  · have Hc := hid hc
    have Hxs := hid hxs
    have Hlen := hid hlen
    clear hc hxs hlen
    go_enter Try.func19, Try.ntmps19
    go_wp2
    go_loop [1, 5] (fun m i => ∃ j : Nat, j ≤ n ∧ i = .int .i64 j ∧ m = .int .i64 (k + j)) (fun _ i => n - (intOf i).toNat)
    case atStart => exact ⟨0, Nat.zero_le _, rfl, by simp⟩
    case round =>
      obtain ⟨j, hj, rfl, rfl⟩ := hrel
      by_cases hlt : j < n
      · have hck : w.cell? ⟨b, off + j, none⟩ = some (.int .i64 (k + j)) := by
          have := Hc.out j (by rw [Hlen.out]; exact hlt)
          rw [Hxs.out, count_get _ _ _ hlt] at this
          exact this
        go_wp2
        go_round
        case rel => exact ⟨j + 1, by omega, by go_num, by go_num⟩
        case measure => simp [intOf]; omega
      · go_wp2
        go_ret
        obtain rfl : j = n := by omega
        exact ⟨rfl, Below.refl _ _⟩

/-! ### What a law keeps of the world: slices of its own, in the order in which they were made, and blocks -/

/-- A slice of int64 that lies in blocks from lo to hi. -/
structure Sl where
  lo : Nat
  hi : Nat
  v : Value
  xs : List Int

structure OwnI (w : World) (p : Sl) : Prop where
  own : w.ownsRow p.lo 2 1 p.v p.xs.length (p.xs.map (Value.int .i64))
  lt : ∀ g, p.v.ownBlock = some g → g < p.hi
  le : p.hi ≤ w.heap.size

structure Facts (w0 : World) (w : World) (A : List (Option Addr × List Int)) (bs : List (Nat × Obj)) (L : List Sl) : Prop where
  from0 : Below w0.heap.size w0 w
  args : ∀ q ∈ A, SlI w w0.heap.size q.1 q.2
  blocks : ∀ b ∈ bs, w.heap[b.1]? = some b.2
  slices : ∀ p ∈ L, OwnI w p

section
variable {w0 w w' : World} {A : List (Option Addr × List Int)} {bs : List (Nat × Obj)} {L : List Sl}

theorem Facts.ge (h : Facts w0 w A bs L) : w0.heap.size ≤ w.heap.size := h.from0.size

theorem Facts.below (h : Facts w0 w A bs L) (hb : Below w.heap.size w w') : Facts w0 w' A bs L where
  from0 := h.from0.trans (hb.mono h.ge)
  args := fun q hq => (h.args q hq).below (hb.mono h.ge)
  blocks := fun b hbm => (hb.block b.1 (Array.getElem?_eq_some_iff.1 (h.blocks b hbm)).1).trans (h.blocks b hbm)
  slices := fun p hp => ⟨ownsRow_below (h.slices p hp).own hb (fun g hg => Nat.lt_of_lt_of_le ((h.slices p hp).lt g hg) (h.slices p hp).le), (h.slices p hp).lt, Nat.le_trans (h.slices p hp).le hb.size⟩

theorem Facts.drew (h : Facts w0 w A bs L) : Facts w0 w.drew A bs L := h.below (Below.refl _ _).drew

theorem Facts.arg (h : Facts w0 w A bs L) {q : Option Addr × List Int} (hq : q ∈ A) : SlI w w.heap.size q.1 q.2 := (h.args q hq).mono h.ge

/-- A new block. -/
theorem Facts.alloc (h : Facts w0 w A bs L) (o : Obj) : Facts w0 (w.alloc o) A ((w.heap.size, o) :: bs) L where
  from0 := h.from0.alloc h.ge o
  args := fun q hq => (h.args q hq).below ((Below.refl _ w).alloc h.ge _)
  blocks := fun b hb => by
    rcases List.mem_cons.1 hb with rfl | hb
    · exact heap_alloc_new w o
    · exact (Below.heap_alloc w o _ (Array.getElem?_eq_some_iff.1 (h.blocks b hb)).1).trans (h.blocks b hb)
  slices := fun p hp => ⟨(h.slices p hp).own.alloc o, (h.slices p hp).lt, by have := (h.slices p hp).le; simp; omega⟩

/-- A new slice, out of a call. -/
theorem Facts.slice (h : Facts w0 w A bs L) {v : Value} {xs : List Int}
    (hown : w'.ownsRow w.heap.size 2 1 v xs.length (xs.map (Value.int .i64))) (hb : Below w.heap.size w w') : Facts w0 w' A bs (⟨w.heap.size, w'.heap.size, v, xs⟩ :: L) :=
  { h.below hb with
    slices := fun p hp => by
      rcases List.mem_cons.1 hp with rfl | hp
      · exact ⟨hown, fun g hg => (hown.lt g hg).2, Nat.le_refl _⟩
      · exact (h.below hb).slices p hp }

/-- A slice is marked: the others stay. -/
theorem Facts.mark {L' : List Sl} (h : Facts w0 w A bs L) {p : Sl} {ys : List Int} (hp : p ∈ L)
    (hown : w'.ownsRow p.lo 2 1 p.v ys.length (ys.map (Value.int .i64))) (hg : w.grownBy w' p.v.ownBlock)
    (hB : w0.heap.size ≤ p.lo) (hbs : ∀ b ∈ bs, b.1 < p.lo ∨ p.hi ≤ b.1) (hL : ∀ q ∈ L', q = { p with xs := ys } ∨ (q ∈ L ∧ (q.hi ≤ p.lo ∨ p.hi ≤ q.lo))) : Facts w0 w' A bs L' where
  from0 := h.from0.grown hg h.ge (fun k e => Nat.le_trans hB ((h.slices p hp).own.lt k e).1)
  args := fun q hq => (h.args q hq).below ((Below.refl _ w).grown hg h.ge (fun k e => Nat.le_trans hB ((h.slices p hp).own.lt k e).1))
  blocks := fun b hb => (hg.block b.1 (Array.getElem?_eq_some_iff.1 (h.blocks b hb)).1 (fun e => by
    have h1 := ((h.slices p hp).own.lt _ e.symm).1
    have h2 := (h.slices p hp).lt _ e.symm
    rcases hbs b hb with h3 | h3 <;> omega)).trans (h.blocks b hb)
  slices := fun q hq => by
    rcases hL q hq with rfl | ⟨hqm, hap⟩
    · exact ⟨hown, (h.slices p hp).lt, Nat.le_trans (h.slices p hp).le hg.size⟩
    · refine ⟨(h.slices q hqm).own.kept hg ?_, (h.slices q hqm).lt, Nat.le_trans (h.slices q hqm).le hg.size⟩
      cases hv : q.v.ownBlock with
      | none => exact .inl rfl
      | some g =>
        refine .inr (fun e => ?_)
        have h1 := ((h.slices p hp).own.lt _ e.symm).1
        have h2 := (h.slices p hp).lt _ e.symm
        have h3 := ((h.slices q hqm).own.lt _ hv).1
        have h4 := (h.slices q hqm).lt _ hv
        rcases hap with h5 | h5 <;> omega

theorem Facts.slI (h : Facts w0 w A bs L) {lo hi : Nat} {a : Option Addr} {m cap : Nat} {xs : List Int} (hp : (⟨lo, hi, .slice a m cap, xs⟩ : Sl) ∈ L) : SlI w w.heap.size a xs :=
  owned_slI (h.slices _ hp).own

theorem Facts.own (h : Facts w0 w A bs L) {lo hi : Nat} {v : Value} {xs : List Int} (hp : (⟨lo, hi, v, xs⟩ : Sl) ∈ L) : w.ownsRow lo 2 1 v xs.length (xs.map (Value.int .i64)) := (h.slices _ hp).own

theorem Facts.two (h : Facts w0 w A bs L) {b t : Nat} {u v : Value} (hb : (b, Obj.cells #[u, v] t (0, 0)) ∈ bs) : w.cell? ⟨b, 0, none⟩ = some u ∧ w.cell? ⟨b, 1, none⟩ = some v := by
  have := h.blocks _ hb
  constructor <;> simp [World.cell?, this]
end

set_option maxHeartbeats 400000 in
theorem markCx (V : Int) (base : Nat) (a : Option Addr) (cap : Nat) (xs : List Int) (k : Int) (w : World) (hown : w.ownsRow base 2 1 (.slice a xs.length cap) xs.length (xs.map (Value.int .i64))) (hl : xs.length ≤ 1048576) (h0 : 0 ≤ k) (h1 : k ≤ 1099511627776) :
    Calls Try.prog 17 #[.agg #[.int .i64 V, .slice a xs.length cap], .int .i64 k] w fun e w' => e = .returned (.int .i64 (k + xs.length)) ∧
      w'.ownsRow base 2 1 (.slice a xs.length cap) xs.length ((count k xs.length).map (Value.int .i64)) ∧ w.grownBy w' (Value.ownBlock (.slice a xs.length cap)) := by
  have Hown := hid (hown.alloc (.cells #[.int .i64 V, .slice a xs.length cap] 28))
  clear hown
  go_enter Try.func17, Try.ntmps17
  go_wp2_with fail
  refine (markInts base a cap xs k _ Hown.out hl h0 h1).mono ?_
  rintro e w1 ⟨rfl, hown1, hgr⟩
  go_wp2_with fail
  go_ret
  exact ⟨rfl, hown1, (World.grownBy_alloc w _ _).trans hgr⟩

set_option maxHeartbeats 400000 in
theorem heldCx (V : Int) (a : Option Addr) (cap n : Nat) (xs : List Int) (k : Int) (w : World) (hxs : xs = count k n) (hx : SlI w w.heap.size a xs) (hl : n ≤ 1048576) (h0 : 0 ≤ k) (h1 : k ≤ 1099511627776) :
    Calls Try.prog 32 #[.agg #[.int .i64 V, .slice a n cap], .int .i64 k] w fun e w' => e = .returned (.int .i64 (k + n)) ∧ Below w.heap.size w w' := by
  have hB : Below w.heap.size w (w.alloc (.cells #[.int .i64 V, .slice a n cap] 28)) := (Below.refl _ w).alloc (Nat.le_refl _) _
  have Hxs := hid hxs
  have Hx := hid (hx.later hB (by simp))
  clear hxs hx
  go_enter Try.func32, Try.ntmps32
  go_wp2_with fail
  refine (heldInts a cap n xs k _ Hxs.out Hx.out hl h0 h1).mono ?_
  rintro e w1 ⟨rfl, hB1⟩
  go_wp2_with fail
  go_ret
  exact ⟨rfl, hB.trans (hB1.mono (by simp))⟩

end Go.Proofs.Ytbhdipljhelddaa

/-! Lists of rows of integers in memory that the call itself has made: rows in blocks of their own, in ascending blocks. -/
namespace Go.Proofs.Ytbhdipljhelddaa
open Go.RowKit

theorem info_rowsG : (Try.prog.info? 22).map (fun i => (i.zero, i.size, i.bytes)) = some (some (.slice none 0 0), 1, 24) := by kernel_rfl

/-- v is a slice with the integers g. -/
def RowAt (w : World) (base : Nat) (v : Value) (g : List Int) : Prop := ∃ a c, v = .slice a g.length c ∧ w.ownsRow base 2 1 (.slice a g.length c) g.length (g.map (Value.int .i64))
theorem RowAt.own {w : World} {base : Nat} {v : Value} {g : List Int} (h : RowAt w base v g) : w.ownsRow base 2 1 v g.length (g.map (Value.int .i64)) := by
  obtain ⟨a, c, rfl, h⟩ := h
  exact h
theorem RowAt.slI {w : World} {base : Nat} {v : Value} {g : List Int} (h : RowAt w base v g) : ∃ a c, v = .slice a g.length c ∧ SlI w w.heap.size a g := by
  obtain ⟨a, c, rfl, h⟩ := h
  obtain ⟨_, a', c', e, hs⟩ := ownsRow_slI h
  cases e
  exact ⟨_, _, rfl, hs⟩
theorem RowAt.one {w : World} {base : Nat} {v : Value} {g : List Int} (h : RowAt w base v g) : v.oneCell' = true := by
  obtain ⟨a, c, rfl, _⟩ := h
  rfl
theorem rowAt_of {w : World} {base : Nat} {v : Value} {g : List Int} (h : w.ownsRow base 2 1 v g.length (g.map (Value.int .i64))) : RowAt w base v g := by
  obtain ⟨_, a, c, rfl, _⟩ := ownsRow_slI h
  exact ⟨a, c, rfl, h⟩

/-- Rows of two types lie in two blocks. -/
theorem own_neG {w : World} {base base' e e' s s' n n' : Nat} {v v' : Value} {xs xs' : List Value} (h : w.ownsRow base e s v n xs) (h' : w.ownsRow base' e' s' v' n' xs') (hne : e ≠ e') : v.ownBlock = none ∨ v.ownBlock ≠ v'.ownBlock := by
  rcases h.2 with ⟨rfl, _⟩ | ⟨g, cap, cur, rfl, _, hg, _⟩
  · exact .inl rfl
  · rcases h'.2 with ⟨rfl, _⟩ | ⟨g', cap', cur', rfl, _, hg', _⟩
    · exact .inr (by simp [Value.ownBlock])
    · refine .inr (fun e1 => ?_)
      simp [Value.ownBlock] at e1
      subst e1
      rw [hg] at hg'
      simp at hg'
      exact hne hg'.2

/-- A list of rows: the values of the rows, and what they hold. -/
structure RowsV (w : World) (base : Nat) (v : Value) (vs : List Value) (gs : List (List Int)) : Prop where
  own : w.ownsRow base 22 1 v gs.length vs
  len : vs.length = gs.length
  at_ : ∀ i, i < gs.length → RowAt w base (vs[i]?.getD undef) (gs[i]?.getD [])
  asc : ∀ i j, i < j → j < gs.length → ∀ g g', (vs[i]?.getD undef).ownBlock = some g → (vs[j]?.getD undef).ownBlock = some g' → g < g'

theorem RowsV.below {w w' : World} {base : Nat} {v : Value} {vs : List Value} {gs : List (List Int)} (h : RowsV w base v vs gs) (hb : Below w.heap.size w w') : RowsV w' base v vs gs :=
  ⟨ownsRow_below h.own hb (fun g hg => (h.own.lt g hg).2), h.len, fun i hi => by
    obtain ⟨a, c, e, ho⟩ := h.at_ i hi
    exact ⟨a, c, e, ownsRow_below ho hb (fun g hg => (ho.lt g hg).2)⟩, h.asc⟩

theorem RowsV.base {w : World} {b b' : Nat} {v : Value} {vs : List Value} {gs : List (List Int)} (h : RowsV w b v vs gs) (hb : b' ≤ b) : RowsV w b' v vs gs :=
  ⟨ownsRow_base h.own hb, h.len, fun i hi => by
    obtain ⟨a, c, e, ho⟩ := h.at_ i hi
    exact ⟨a, c, e, ownsRow_base ho hb⟩, h.asc⟩

theorem RowsV.nil {w : World} {base : Nat} {v : Value} (h : w.ownsRow base 22 1 v 0 []) : RowsV w base v [] [] :=
  ⟨h, rfl, fun i hi => absurd hi (by simp), fun i j _ hj => absurd hj (by simp)⟩

theorem RowsV.nil0 (w : World) (base : Nat) : RowsV w base (.slice none 0 0) [] [] := .nil ⟨rfl, .inl ⟨rfl, rfl⟩⟩

/-- What an append of a row of the call's own gives: the rows before are of an elder world. -/
theorem RowsV.snoc {w0 w w' : World} {base : Nat} {v v' nv : Value} {vs : List Value} {gs : List (List Int)} {g : List Int} (h : RowsV w0 base v vs gs) (hb : Below w0.heap.size w0 w) (hbase : base ≤ w0.heap.size) (hn : w.ownsRow w0.heap.size 2 1 nv g.length (g.map (Value.int .i64)))
    (hown : w'.ownsRow base 22 1 v' (gs.length + 1) (vs ++ [nv])) (hg : w.grownBy w' v.ownBlock) : RowsV w' base v' (vs ++ [nv]) (gs ++ [g]) := by
  have h1 := h.below hb
  have hl := h.len
  have keep : ∀ {b : Nat} {u : Value} {x : List Int}, w.ownsRow b 2 1 u x.length (x.map (Value.int .i64)) → w'.ownsRow b 2 1 u x.length (x.map (Value.int .i64)) := fun ho => ho.kept hg (own_neG ho h1.own (by decide))
  refine ⟨by simpa using hown, by simp [hl], fun i hi => ?_, fun i j hij hj => ?_⟩
  · by_cases e : i < gs.length
    · rw [List.getElem?_append_left (by rw [hl]; exact e), List.getElem?_append_left e]
      obtain ⟨a, c, e2, ho⟩ := h1.at_ i e
      exact ⟨a, c, e2, keep ho⟩
    · have : i = gs.length := by simp at hi; omega
      subst this
      rw [← hl, List.getElem?_append_right (Nat.le_refl _), hl, List.getElem?_append_right (Nat.le_refl _)]
      simp only [Nat.sub_self, List.getElem?_cons_zero, Option.getD_some]
      obtain ⟨a, c, e2, ho⟩ := rowAt_of hn
      exact ⟨a, c, e2, ownsRow_base (keep ho) hbase⟩
  · by_cases e : j < gs.length
    · rw [List.getElem?_append_left (by rw [hl]; omega), List.getElem?_append_left (by rw [hl]; exact e)]
      exact h.asc i j hij e
    · have : j = gs.length := by simp at hj; omega
      subst this
      intro b b' hbk hbk'
      rw [List.getElem?_append_left (by rw [hl]; exact hij)] at hbk
      rw [← hl, List.getElem?_append_right (Nat.le_refl _)] at hbk'
      simp only [Nat.sub_self, List.getElem?_cons_zero, Option.getD_some] at hbk'
      obtain ⟨a, c, e2, ho⟩ := h.at_ i hij
      rw [e2] at hbk
      have h2 := (ho.lt b hbk).2
      have h3 := (hn.lt b' hbk').1
      omega

/-- 'rows = append(rows, row)'. -/
theorem append_rowG {w : World} {ops : Array Oper} {rest : List Oper} {o : Oper} {a : Act} {Q : Exit → Act → World → Prop} (hgd : o.guard = none) {s y : Operand}
    (ho : o.op = .call { callee := .builtin .append, args := #[s, y], argTypes := #[56, 56] })
    {base n : Nat} {v x : Value} {xs : List Value} (hx : x.oneCell' = true) (hown : w.ownsRow base 22 1 v n xs) (hbase : base ≤ w.heap.size) (hl : n ≤ 1099511627776)
    (hs : a.eval s = v) (hy : a.eval y = .slice (some ⟨w.heap.size, 0, none⟩) 1 1)
    (hK : ∀ v' w', w'.ownsRow base 22 1 v' (n + 1) (xs ++ [x]) → w.grownBy w' v.ownBlock → Below base w w' → wpList Try.prog ops Q rest (a.put o.dst v') w') :
    wpList Try.prog ops Q (o :: rest) a (w.alloc (.cells #[x] 22)) := by
  obtain ⟨i0, hi, hz0, hz1, hz2⟩ := info_parts info_rowsG
  refine wpList_append_own _ hgd s y 56 ho base 22 i0 (.slice none 0 0) 1 24 Try.underlying56 hi hz0 hz1 hz2 rfl (by decide) v _ _ hs (hown.alloc _) ⟨w.heap.size, 0, none⟩ 1 1 [x] hy rfl (cell_one_new _ _ _) (by simpa using hx) (by unfold maxLen; omega) (by omega) (by simp; omega) ?_
  intro v' w1 hown1 hgrow1 _
  have hg : w.grownBy w1 v.ownBlock := (World.grownBy_alloc w _ _).trans hgrow1
  exact hK v' w1 hown1 hg ((Below.refl base w).grown hg hbase (fun k hk => (hown.lt k hk).1))

/-- A call of a function of three arguments, as one step of a region that draws. -/
theorem step_call3 {P : Program} {ops : Array Oper} {o : Oper} {a : Act} {w : World} {K : Act → World → Prop} {Q : Exit → Act → World → Prop} {E : Prop} (hg : o.guard = none) {f : FuncId} {fn : Func} (hfn : P.funcs[f]? = some fn) (hname : (fn.name == "runtime.NumGoroutine") = false) (hbody : fn.body.isNone = false) {x y z : Operand} {T : Array TypeId}
    (ho : o.op = .call { callee := .value (.func f), args := #[x, y, z], argTypes := T }) {vx vy vz r : Value} {R : World → Prop} (hx : a.eval x = vx) (hy : a.eval y = vy) (hz : a.eval z = vz)
    (hC : Calls P f #[vx, vy, vz] w fun e w' => e = .returned r ∧ R w') (hK : ∀ w', R w' → K (a.put o.dst r) w') :
    if Region.wanted o (yielded ops a.tmps) = true then Oper.wp P o a w K Q else E := by
  have hw : Region.wanted o (yielded ops a.tmps) = true := by simp [Region.wanted, hg]
  rw [if_pos hw]
  unfold Oper.wp
  have h : (execOp a.eval o).run P w = .ok (.enter f #[vx, vy, vz]) w := by
    have hf : a.eval (.func f) = .func (.func f) #[] #[] := rfl
    have h1 : ¬ fn.name = "runtime.NumGoroutine" := by simpa using hname
    have h2 : ¬ fn.body = none := fun e => by rw [e] at hbody; cases hbody
    simp [execOp, ho, resolve, invoke, hx, hy, hz, hf, Deferred.ofValue, callFunc, hfn, h1, h2]
  rw [h, Oper.upon_enter]
  exact hC.mono fun e w' ⟨he, hr⟩ => by subst he; exact hK w' hr

end Go.Proofs.Ytbhdipljhelddaa

/-! l03Sets: the sets of no numbers; a row behind one number. -/
namespace Go.Proofs.Ytbhdipljhelddaa
open Go.RowKit

theorem sub_len15 : ∀ (a b : List Int), a.Nodup → (∀ x ∈ a, x ∈ b) → a.length ≤ b.length := by
  intro a
  induction a with
  | nil => intro b _ _; simp
  | cons x a ih =>
    intro b hn hs
    obtain ⟨h1, h2⟩ := List.nodup_cons.1 hn
    have hx := hs x (by simp)
    have h3 := ih (b.erase x) h2 (fun y hy => (List.mem_erase_of_ne (fun e => h1 (by rw [← e]; exact hy))).2 (hs y (by simp [hy])))
    have h4 := List.length_erase_of_mem hx
    have h5 := List.length_pos_of_mem hx
    simp only [List.length_cons]
    omega
/-- Every row of a list has a block of its own (none is nil). -/
def Blocks (vs : List Value) : Prop := ∀ v ∈ vs, ∃ b, v.ownBlock = some b

/-- A list of rows stays when a row of rows elsewhere grows. -/
theorem RowsV.apart {w w' : World} {base base' n : Nat} {v u : Value} {vs us : List Value} {gs : List (List Int)} (h : RowsV w base v vs gs) (ho : w.ownsRow base' 22 1 u n us) (hne : v.ownBlock = none ∨ v.ownBlock ≠ u.ownBlock) (hg : w.grownBy w' u.ownBlock) : RowsV w' base v vs gs :=
  ⟨h.own.kept hg hne, h.len, fun i hi => by
    obtain ⟨a, c, e, hr⟩ := h.at_ i hi
    exact ⟨a, c, e, hr.kept hg (own_neG hr ho (by decide))⟩, h.asc⟩

theorem edges_le {V : Int} {fs : List Int} (hC : IsC V fs) : (ofDim fs 1).length ≤ 15 := by
  have hn : (ofDim fs 1).Nodup := (ofDim_asc hC.asc 1).imp (fun h => by omega)
  have hs : ∀ x ∈ ofDim fs 1, x ∈ ((List.range 64).filter fun f => decide (ones f = 2)).map fun f : Nat => (f : Int) := fun x hx => by
    obtain ⟨h1, h2⟩ := ofDim_mem.1 hx
    have h3 := hC.range63 x h1
    rw [List.mem_map]
    refine ⟨x.toNat, ?_, by omega⟩
    rw [List.mem_filter, List.mem_range]
    exact ⟨by omega, by simp; omega⟩
  have h15 : (((List.range 64).filter fun f => decide (ones f = 2)).map fun f : Nat => (f : Int)).length = 15 := by decide +kernel
  have := sub_len15 _ _ hn hs
  omega

/-- append([]int64{x}, g...) for a row g that is not nil. -/
theorem run_one_row {w : World} {base b c : Nat} {x : Int} {g : List Int} (hone : w.ownsRow base 2 1 (.slice (some ⟨b, 0, none⟩) 1 1) 1 [.int .i64 x]) (hbase : base ≤ w.heap.size) (hg : g.length ≤ 1048576) {a : Addr}
    (hc : ∀ i, i < g.length → w.cell? (a.add i) = some (.int .i64 (g[i]?.getD 0))) :
    ∃ v' w', (Builtin.append_ #[22, 22] 22 #[.slice (some ⟨b, 0, none⟩) 1 1, .slice (some a) g.length c]).run Try.prog w = .ok v' w' ∧ w'.ownsRow base 2 1 v' (x :: g).length ((x :: g).map (Value.int .i64)) ∧ w.grownBy w' (some b) ∧ (v'.ownBlock = some b ∨ v'.ownBlock = some w.heap.size) := by
  obtain ⟨i0, hi, hz0, hz1, hz2⟩ := info_parts info_i64
  obtain ⟨v', w', h1, h2, h3, h4, h5⟩ := run_append_own_at (P := Try.prog) (w := w) base 22 22 2 i0 (.int .i64 0) 1 8 Try.underlying22 hi hz0 hz1 hz2 rfl (by decide) (.slice (some ⟨b, 0, none⟩) 1 1) 1 _ hone a g.length c (g.map (Value.int .i64)) (by simp) (fun j u hj => by
    have hjl : j < g.length := by
      have := (List.getElem?_eq_some_iff.1 hj).1
      simpa using this
    rw [hc j hjl, ← hj, List.getElem?_map, List.getElem?_eq_getElem hjl]
    rfl) (fun u hu => by
    obtain ⟨y, _, rfl⟩ := List.mem_map.1 hu
    rfl) (by unfold maxLen; omega) (by omega) hbase
  refine ⟨v', w', h1, ?_, h3, h5⟩
  have e : (x :: g).length = 1 + g.length := by simp [Nat.add_comm]
  rw [e]
  exact h2

set_option maxRecDepth 100000 in
set_option maxHeartbeats 4000000 in
theorem sets_zero (l : List Int) (a : Option Addr) (cap k : Nat) (w : World) :
    Calls Try.prog 44 #[.slice a l.length cap, .int .i64 0, .int .i64 (k : Int)] w fun e w' => ∃ v vs, e = .returned v ∧ RowsV w' w.heap.size v vs [[]] ∧ Blocks vs ∧ Below w.heap.size w w' := by
  have hb : Below w.heap.size w ((w.alloc (.cells #[] 2)).alloc (.cells #[.slice (some ⟨w.heap.size, 0, none⟩) 0 0] 22)) := ((Below.refl _ w).alloc (Nat.le_refl _) _).alloc (by simp) _
  have HB := hid hb
  have h1 := World.ownsRow_made (base := w.heap.size) (e := 2) (size := 1) w #[] 0 (Nat.le_refl _) (by simp) rfl
  have HO : Hid (((w.alloc (.cells #[] 2)).alloc (.cells #[.slice (some ⟨w.heap.size, 0, none⟩) 0 0] 22)).ownsRow w.heap.size 2 1 (.slice (some ⟨w.heap.size, 0, none⟩) 0 0) 0 []) := hid (h1.alloc _)
  have HO2 : Hid (((w.alloc (.cells #[] 2)).alloc (.cells #[.slice (some ⟨w.heap.size, 0, none⟩) 0 0] 22)).ownsRow w.heap.size 22 1 (.slice (some ⟨w.heap.size + 1, 0, none⟩) 1 1) 1 [.slice (some ⟨w.heap.size, 0, none⟩) 0 0]) := hid ⟨rfl, .inr ⟨w.heap.size + 1, 1, _, rfl, by omega, by simpa using heap_alloc_new (w.alloc (.cells #[] 2)) (.cells #[.slice (some ⟨w.heap.size, 0, none⟩) 0 0] 22), Nat.le_refl _, by simp [maxLen], rfl, rfl⟩⟩
  clear hb h1
  go_enter Try.func44, Try.ntmps44
  go_wp2_with fail
  go_ret
  refine ⟨_, [.slice (some ⟨w.heap.size, 0, none⟩) 0 0], rfl, ⟨HO2.out, rfl, fun i hi => ?_, fun i j hij hj => ?_⟩, ?_, HB.out⟩
  · have : i = 0 := by simp at hi; omega
    subst this
    exact ⟨_, _, rfl, HO.out⟩
  · simp at hj; omega
  · intro v hv
    simp at hv
    rw [hv]
    exact ⟨_, rfl⟩

end Go.Proofs.Ytbhdipljhelddaa

/-! firstCircle: the first circle that begins with given edges. -/
namespace Go.Proofs.Ytbhdipljhelddaa
open Go.RowKit

theorem grow_of {w w' : World} {row : Option Nat} (h : Below w.heap.size w w') : w.grownBy w' row := ⟨h.os, h.tape, h.output, h.size, fun k hk _ => h.block k hk⟩
theorem grow_trans {w w1 w2 : World} {r1 r2 : Option Nat} (h1 : w.grownBy w1 r1) (h2 : w1.grownBy w2 r2) (hr : ∀ k, k < w.heap.size → some k ≠ r1 → some k ≠ r2) : w.grownBy w2 r1 :=
  ⟨h2.os.trans h1.os, h2.tape.trans h1.tape, h2.output.trans h1.output, Nat.le_trans h1.size h2.size, fun k hk hne => (h2.block k (Nat.lt_of_lt_of_le hk h1.size) (hr k hk hne)).trans (h1.block k hk hne)⟩

theorem slI_keep {w w' : World} {base : Nat} {a : Option Addr} {xs : List Int} (h : SlI w base a xs) (hb : Below base w w') : SlI w' base a xs := by
  rcases h with rfl | ⟨b, off, hlt, rfl, hc⟩
  · exact .inl rfl
  · exact .inr ⟨b, off, hlt, rfl, fun i hi => (hb.cell (p := ⟨b, off + i, none⟩) hlt).trans (hc i hi)⟩

/-- What firstCircle gives back. -/
def CirV (w : World) (base : Nat) (r : Value) : Option (List Int) → Prop
  | none => r = .slice none 0 0
  | some ch => ∃ b c, r = .slice (some ⟨b, 0, none⟩) ch.length c ∧ w.ownsRow base 2 1 r ch.length (ch.map (Value.int .i64))

theorem edges_dim {fs ch : List Int} (h : ∀ x ∈ ch, x ∈ ofDim fs 1) : ∀ x ∈ ch, x ∈ ofDim fs (dimC ch) := by
  intro x hx
  have hd : dimC ch = 1 := by
    have h0 : 0 < ch.length := List.length_pos_of_mem hx
    have := (ofDim_mem.1 (h _ (getD_mem h0))).2
    unfold dimC
    omega
  rw [hd]
  exact h x hx

theorem step_app_keep {P : Program} {ops : Array Oper} {o : Oper} {a : Act} {w w' : World} {K : Act → World → Prop} {Q : Exit → Act → World → Prop} {E : Prop} (hg : o.guard = none) {s y : Operand} {T : TypeId} (ho : o.op = .call { callee := .builtin .append, args := #[s, y], argTypes := #[T, T] })
    {v u v' : Value} (hs : a.eval s = v) (hy : a.eval y = u) (hr : (Builtin.append_ #[T, T] o.type #[v, u]).run P w = .ok v' w') (hK : K (a.put o.dst v') w') :
    if Region.wanted o (yielded ops a.tmps) = true then Oper.wp P o a w K Q else E := by
  have hw : Region.wanted o (yielded ops a.tmps) = true := by simp [Region.wanted, hg]
  rw [if_pos hw]
  unfold Oper.wp execOp
  simp only [ho, resolve, invoke, builtin, Sem.run_bind, Sem.run_pure, Result.andThen_ok, List.map_toArray, List.map_cons, List.map_nil, hs, hy, hr]
  exact hK

set_option maxRecDepth 100000 in
set_option maxHeartbeats 4000000 in
theorem first_any (V : Int) (a0 : Option Addr) (cap : Nat) (fs : List Int) (base : Nat) (hl : fs.length ≤ 1048576) (hC : IsC V fs) : ∀ (m : Nat) (ar : Option Addr) (cr : Nat) (rest xs : List Int) (v : Value) (w : World),
    xs.length + m ≤ 1000 → rest.length ≤ 1000 → rest.length ≤ cr → cr ≤ 9223372036854775807 → base ≤ w.heap.size → SlI w base a0 fs → SlI w base ar rest → (∀ x ∈ rest, x ∈ ofDim fs 1) → (∀ x ∈ xs, x ∈ ofDim fs 1) → w.ownsRow base 2 1 v xs.length (xs.map (Value.int .i64)) →
    Calls Try.prog 49 #[.agg #[.int .i64 V, .slice a0 fs.length cap], v, .slice ar rest.length cr, .int .i64 (m : Int)] w fun e w' => ∃ r, e = .returned r ∧ w.grownBy w' v.ownBlock ∧ w'.ownsRow base 2 1 v xs.length (xs.map (Value.int .i64)) ∧ CirV w' base r (firstC (circB fs) xs rest m) := by
  intro m
  induction m with
  | zero =>
    intro ar cr rest xs v w hm hrl hrc hcr hb hx hx1 hre hxe hown
    obtain ⟨W0, hW0⟩ : ∃ W0, W0 = w.alloc (.cells #[.int .i64 V, .slice a0 fs.length cap] 28) := ⟨_, rfl⟩
    have hB0 : Below w.heap.size w W0 := by rw [hW0]; exact (Below.refl _ w).alloc (Nat.le_refl _) _
    have hk0 : W0.heap[w.heap.size]? = some (.cells #[.int .i64 V, .slice a0 fs.length cap] 28 (0, 0)) := by rw [hW0]; exact heap_alloc_new _ _
    obtain ⟨_, av, cv, rfl, hs⟩ := ownsRow_slI hown
    have hown0 := ownsRow_below hown hB0 (fun g hg => (hown.lt g hg).2)
    have hx0 := owned_slI hown0
    have hxr : ∀ x ∈ xs, 1 ≤ x ∧ x ≤ 63 := fun x hx => hC.range63 x (ofDim_mem.1 (hxe x hx)).1
    have HRi := hid (ring_any av cv xs W0 hx0 (by omega) hxr)
    have HBd := hid (isBd_any V a0 cap fs av cv xs W0 ((hx.mono hb).later hB0 hB0.size) hx0 hl (by omega) hC (edges_dim hxe))
    rw [firstC_zero]
    obtain ⟨p, hp⟩ : ∃ p, p = ringB xs := ⟨_, rfl⟩
    obtain ⟨q, hq⟩ : ∃ q, q = boundsB fs xs := ⟨_, rfl⟩
    have HP : Hid (circB fs xs = (p && !q)) := hid (by unfold circB; rw [hp, hq])
    have HN : Hid (xs = [] → q = true) := hid (fun h => by rw [hq, h]; simp [boundsB])
    rw [← hp] at HRi
    rw [← hq] at HBd
    rw [HP.out]
    have HK := hid (two_of hk0)
    have HB0 := hid hB0
    have HO0 := hid hown0
    have Hown := hid hown
    clear hk0 hB0 hown0 hx0 hown hs hxr hp hq hx hx1 hre hxe HP
    subst hW0
    cases p
    · obtain ⟨n0, n1, _⟩ := HK.out
      go_enter Try.func49, Try.ntmps49
      go_wp2_with (go_at_call 108; refine HRi.out.mono ?_; rintro e w2 ⟨rfl, rfl⟩)
      go_ret
      exact ⟨_, rfl, grow_of HB0.out, HO0.out, rfl⟩
    · cases q
      · obtain ⟨n0, n1, _⟩ := HK.out
        go_enter Try.func49, Try.ntmps49
        go_wp2_with (first
          | (go_at_call 108; refine HRi.out.mono ?_; rintro e w2 ⟨rfl, rfl⟩)
          | (go_at_call 109; refine HBd.out.mono ?_; rintro e w3 ⟨rfl, hB3⟩; have HB3 := hid hB3; clear hB3))
        go_ret
        have hB := HB0.out.trans (HB3.out.mono HB0.out.size)
        have ho := ownsRow_below Hown.out hB (fun g hg => (Hown.out.lt g hg).2)
        refine ⟨_, rfl, grow_of hB, ho, ?_⟩
        rcases ho.2 with ⟨h, h0⟩ | ⟨g, c, cur, h, _⟩
        · have := HN.out (List.eq_nil_of_length_eq_zero h0)
          cases this
        · injection h with h1 _ h3
          subst h1; subst h3
          exact ⟨g, _, rfl, ho⟩
      · obtain ⟨n0, n1, _⟩ := HK.out
        go_enter Try.func49, Try.ntmps49
        go_wp2_with (first
          | (go_at_call 108; refine HRi.out.mono ?_; rintro e w2 ⟨rfl, rfl⟩)
          | (go_at_call 109; refine HBd.out.mono ?_; rintro e w3 ⟨rfl, hB3⟩; have HB3 := hid hB3; clear hB3))
        go_ret
        have hB := HB0.out.trans (HB3.out.mono HB0.out.size)
        exact ⟨_, rfl, grow_of hB, ownsRow_below Hown.out hB (fun g hg => (Hown.out.lt g hg).2), rfl⟩
  | succ m ih =>
    intro ar cr rest xs v w hm hrl hrc hcr hb hx hx1 hre hxe hown
    obtain ⟨W0, hW0⟩ : ∃ W0, W0 = w.alloc (.cells #[.int .i64 V, .slice a0 fs.length cap] 28) := ⟨_, rfl⟩
    have hB0 : Below w.heap.size w W0 := by rw [hW0]; exact (Below.refl _ w).alloc (Nat.le_refl _) _
    have hk0 : W0.heap[w.heap.size]? = some (.cells #[.int .i64 V, .slice a0 fs.length cap] 28 (0, 0)) := by rw [hW0]; exact heap_alloc_new _ _
    obtain ⟨_, av, cv, rfl, hs⟩ := ownsRow_slI hown
    clear hs
    have Hlt := hid (fun g (hg : (Value.slice av xs.length cv).ownBlock = some g) => hown.lt g hg)
    have HG0 : Hid (w.grownBy W0 (Value.slice av xs.length cv).ownBlock) := hid (grow_of hB0)
    have HO0 := hid (ownsRow_below hown hB0 (fun g hg => (hown.lt g hg).2))
    have HK0 := hid hk0
    have Hx := hid hx
    have Hx1 := hid hx1
    have Hre := hid hre
    have Hxe := hid hxe
    have HIH := hid ih
    have Hb := hid hb
    have Hm := hid hm
    have Hrl := hid hrl
    have HW0 := hid hW0
    have hmz : ¬ ((m : Int) + 1 = 0) := by omega
    have hmw : ((m + 1 : Nat) : Int) = (m : Int) + 1 := by omega
    have hm1 : (m : Int) ≤ 1000 := by omega
    have hm0 : (0 : Int) ≤ (m : Int) := by omega
    rw [hmw]
    have hrc' : (rest.length : Int) ≤ (cr : Int) := by omega
    have hr0 : (0 : Int) ≤ (rest.length : Int) := by omega
    have hcr' : (cr : Int) ≤ 9223372036854775807 := by omega
    clear hB0 hk0 hown hx hx1 hre hxe ih hb hm hrl hmw
    go_enter Try.func49, Try.ntmps49
    go_wp2_with fail
    rw [← HW0.out]
    go_loopw [25] (fun iv wx => ∃ k : Nat, Hid (k ≤ rest.length ∧ firstC (circB fs) xs rest (m + 1) = firstC (circB fs) xs (rest.drop k) (m + 1)) ∧ iv = .int .i64 (k : Int) ∧ Hid (wx.ownsRow base 2 1 (.slice av xs.length cv) xs.length (xs.map (Value.int .i64))) ∧ Hid (W0.grownBy wx (Value.slice av xs.length cv).ownBlock)) (fun iv _ => rest.length - (intOf iv).toNat)
    case atStart => exact ⟨0, hid ⟨Nat.zero_le _, by rw [List.drop_zero]⟩, rfl, HO0, hid (grow_of (Below.refl _ _))⟩
    case round =>
      obtain ⟨k, HK, rfl, HO, HG⟩ := hrel
      obtain ⟨hk, hfst⟩ := HK.out
      have hk0 : (0 : Int) ≤ (k : Int) := by omega
      have Hfst := hid hfst
      clear hfst HK
      by_cases hlt : k < rest.length
      · have hki : (k : Int) < (rest.length : Int) := by omega
        obtain ⟨x, hx⟩ : ∃ x, x = rest[k]?.getD 0 := ⟨_, rfl⟩
        have hgw := grow_trans HG0.out HG.out (fun _ _ h => h)
        have HBw : Hid (Below base w wr) := hid ((Below.refl base w).grown hgw Hb.out (fun g hg => (Hlt.out g hg).1))
        obtain ⟨b3, o3, hb3, rfl, hc3⟩ : ∃ b off, b < base ∧ ar = some ⟨b, off, none⟩ ∧ ∀ i, i < rest.length → w.cell? ⟨b, off + i, none⟩ = some (.int .i64 (rest[i]?.getD 0)) := by
          rcases Hx1.out with h | ⟨b, off, hb, h, hc⟩
          · rw [h] at hlt; simp at hlt
          · exact ⟨b, off, hb, h, hc⟩
        have hck : wr.cell? ⟨b3, o3 + k, none⟩ = some (.int .i64 x) := (HBw.out.cell (p := ⟨b3, o3 + k, none⟩) hb3).trans (by rw [hx]; exact hc3 k hlt)
        have hbw : w.heap.size < W0.heap.size := lt_get HK0.out
        have hnb : some w.heap.size ≠ (Value.slice av xs.length cv).ownBlock := fun h => by have := (Hlt.out _ h.symm).2; omega
        have HKw : Hid (wr.heap[w.heap.size]? = some (.cells #[.int .i64 V, .slice a0 fs.length cap] 28 (0, 0))) := hid ((HG.out.block _ hbw hnb).trans HK0.out)
        have Hwr : Hid (w.heap.size < wr.heap.size) := hid (lt_get HKw.out)
        have Hx' := hid hx
        clear hgw hc3 hb3 hx hnb
        go_wp2_with fail
        refine region_M 12 (fun W : World => W.cell? ⟨w.heap.size, 0, none⟩ = some (.int .i64 V) ∧ W.cell? ⟨w.heap.size, 1, none⟩ = some (.slice a0 fs.length cap)) (by kernel_rfl) ?_
        obtain ⟨x0, hx0⟩ : ∃ x, x = wr.drew := ⟨_, rfl⟩
        have hb0 : Below wr.heap.size wr x0 := by rw [hx0]; exact ⟨rfl, rfl, rfl, Nat.le_refl _, fun _ _ => rfl⟩
        rw [← hx0]
        clear hx0
        have hkx := two_of ((hb0.block _ Hwr.out).trans HKw.out)
        have HX0 : Hid (x0.cell? ⟨w.heap.size, 0, none⟩ = some (.int .i64 V) ∧ x0.cell? ⟨w.heap.size, 1, none⟩ = some (.slice a0 fs.length cap)) := hid ⟨hkx.1, hkx.2.1⟩
        have HKx : Hid (x0.heap[w.heap.size]? = some (.cells #[.int .i64 V, .slice a0 fs.length cap] 28 (0, 0))) := hid ((hb0.block _ Hwr.out).trans HKw.out)
        have HOx := hid (ownsRow_below HO.out hb0 (fun g hg => (HO.out.lt g hg).2))
        have HGx : Hid (W0.grownBy x0 (Value.slice av xs.length cv).ownBlock) := hid (grow_trans HG.out (grow_of hb0) (fun _ _ h => h))
        clear hb0 hkx hck HG HO HKw Hwr HBw hbw
        have hk1 : (k : Int) + 1 ≤ (rest.length : Int) := by omega
        have hk2 : (k : Int) + 1 ≤ (cr : Int) := by omega
        have hwk : IntKind.i64.wrap ((k : Int) + 1) = (k : Int) + 1 := IntWalk.i64_in _ (by omega)
        have hwm : IntKind.i64.wrap (m : Int) = (m : Int) := IntWalk.i64_in _ (by omega)
        have hk10 : (0 : Int) ≤ (k : Int) + 1 := by omega
        obtain ⟨aS, haS⟩ : ∃ a', a' = if cr = k + 1 then some (⟨b3, o3, none⟩ : Addr) else some ⟨b3, o3 + (k + 1), none⟩ := ⟨_, rfl⟩
        refine anyM_take (i := 0) (v := .agg #[.int .i64 V, .slice a0 fs.length cap]) [11, 12] rfl (by kernel_rfl) (fun _ _ _ h => h) (Or.inl ⟨by rfl, fun W hW => by (obtain ⟨z0, z1⟩ := hW; go_simp)⟩) HX0.out ?_
        refine anyM_take (i := 1) (v := .slice av xs.length cv) [4, 11, 12] rfl (by kernel_rfl) (fun _ _ _ h => h) (Or.inl ⟨by rfl, fun W hW => by go_simp⟩) HX0.out ?_
        refine anyM_take (i := 2) (v := .int .i64 x) [3, 4, 11, 12] rfl (by kernel_rfl) (fun _ _ _ h => h) (Or.inl ⟨by rfl, fun W hW => by go_simp⟩) HX0.out ?_
        refine anyM_take (i := 5) (v := .slice (some ⟨b3, o3, none⟩) rest.length cr) [8, 11, 12] rfl (by kernel_rfl) (fun _ _ _ h => h) (Or.inl ⟨by rfl, fun W hW => by go_simp⟩) HX0.out ?_
        refine anyM_take (i := 6) (v := .int .i64 (k : Int)) [7, 8, 11, 12] rfl (by kernel_rfl) (fun _ _ _ h => h) (Or.inl ⟨by rfl, fun W hW => by go_simp⟩) HX0.out ?_
        refine anyM_take (i := 7) (v := .int .i64 ((k : Int) + 1)) [8, 11, 12] rfl (by kernel_rfl) (fun _ _ _ h => h) (Or.inl ⟨by rfl, fun W hW => by go_simp⟩) HX0.out ?_
        refine anyM_take (i := 8) (v := .slice aS (rest.length - (k + 1)) (cr - (k + 1))) [11, 12] rfl (by kernel_rfl) (fun _ _ _ h => h) (Or.inl ⟨by rfl, fun W hW => by go_simp⟩) HX0.out ?_
        refine anyM_take (i := 9) (v := .int .i64 ((m : Int) + 1)) [10, 11, 12] rfl (by kernel_rfl) (fun _ _ _ h => h) (Or.inl ⟨by rfl, fun W hW => by go_simp⟩) HX0.out ?_
        refine anyM_take (i := 10) (v := .int .i64 (m : Int)) [11, 12] rfl (by kernel_rfl) (fun _ _ _ h => h) (Or.inl ⟨by rfl, fun W hW => by go_simp⟩) HX0.out ?_
        refine anyM_ready (rs := [3]) (by kernel_rfl) (by simp) ?_
        refine AllM.cons rfl (fun K hK => ?_) AllM.nil
        go_simp
        obtain ⟨B1, hB1⟩ : ∃ b, b = x0.heap.size := ⟨_, rfl⟩
        obtain ⟨x1, hx1⟩ : ∃ x', x' = x0.alloc (.cells #[.int .i64 x] 2) := ⟨_, rfl⟩
        have hb1 : Below x0.heap.size x0 x1 := by rw [hx1]; exact (Below.refl _ x0).alloc (Nat.le_refl _) _
        have hc1 : x1.cell? ⟨B1, 0, none⟩ = some (.int .i64 x) := by rw [hx1, hB1]; simp [go_sem]
        have hlx : w.heap.size < x0.heap.size := lt_get HKx.out
        have hlW : W0.heap.size ≤ x0.heap.size := HGx.out.size
        have hk1' : x1.heap[w.heap.size]? = some (.cells #[.int .i64 V, .slice a0 fs.length cap] 28 (0, 0)) := (hb1.block _ hlx).trans HKx.out
        have HX1 : Hid (x1.cell? ⟨w.heap.size, 0, none⟩ = some (.int .i64 V) ∧ x1.cell? ⟨w.heap.size, 1, none⟩ = some (.slice a0 fs.length cap)) := hid ⟨(two_of hk1').1, (two_of hk1').2.1⟩
        have HK1 := hid hk1'
        have HO1 := hid (ownsRow_below HOx.out hb1 (fun g hg => (HOx.out.lt g hg).2))
        have HG1 : Hid (W0.grownBy x1 (Value.slice av xs.length cv).ownBlock) := hid (grow_trans HGx.out (grow_of hb1) (fun _ _ h => h))
        have Hs1 : Hid (W0.heap.size ≤ x1.heap.size ∧ base ≤ x1.heap.size) := hid ⟨Nat.le_trans hlW hb1.size, Nat.le_trans Hb.out (Nat.le_trans (Nat.le_of_lt hlx) hb1.size)⟩
        have HC1 := hid hc1
        rw [← hB1, ← hx1]
        clear hx1 hB1 hb1 hc1 hlx hlW hk1' HX0 HKx HOx HGx
        refine hK.out _ _ (fun _ => HX1.out) ?_
        clear hK K
        refine anyM_ready (rs := [4]) (by kernel_rfl) (by simp) ?_
        refine AllM.cons rfl (fun K hK => ?_) AllM.nil
        obtain ⟨v', x2, hr, hown2, hg2, hok2, hat2, hnn⟩ := run_keep (c := 1) HO1.out Hs1.out.2 (by have := Hm.out; omega) HC1.out
        refine step_app_keep (s := .tmp 31) (y := .tmp 33) rfl rfl rfl rfl hr ?_
        have hnb : some w.heap.size ≠ (Value.slice av xs.length cv).ownBlock := fun h => by have := (Hlt.out _ h.symm).2; omega
        have hl1 : w.heap.size < x1.heap.size := lt_get HK1.out
        have hk2' := (hg2.block _ hl1 hnb).trans HK1.out
        have HX2 : Hid (x2.cell? ⟨w.heap.size, 0, none⟩ = some (.int .i64 V) ∧ x2.cell? ⟨w.heap.size, 1, none⟩ = some (.slice a0 fs.length cap)) := hid ⟨(two_of hk2').1, (two_of hk2').2.1⟩
        have HG2 : Hid (W0.grownBy x2 (Value.slice av xs.length cv).ownBlock) := hid (grow_trans HG1.out hg2 (fun _ _ h => h))
        have Hrow : Hid (∀ j, j < x1.heap.size → some j ≠ (Value.slice av xs.length cv).ownBlock → some j ≠ v'.ownBlock) := hid (fun j hj hne h => by
          rcases hat2 with h2 | h2
          · exact hne (h.trans h2)
          · rw [h2] at h
            injection h with h
            omega)
        have HN2 := hid hown2
        have HOk2 := hid hok2
        have Hs2 := hid hg2.size
        have hgw := grow_trans HG0.out HG2.out (fun _ _ h => h)
        have HBw : Hid (Below base w x2) := hid ((Below.refl base w).grown hgw Hb.out (fun g hg => (Hlt.out g hg).1))
        clear hk2' hg2 hok2 hown2 hat2 hr hgw HC1 HX1 HG1 HO1 hl1 hnb
        refine hK.out _ _ (fun _ => HX2.out) ?_
        clear hK K
        refine anyM_ready (rs := [11]) (by kernel_rfl) (by simp) ?_
        refine AllM.cons rfl (fun K hK => ?_) AllM.nil
        go_simp
        go_at_call 49
        have hdl : (rest.drop (k + 1)).length = rest.length - (k + 1) := by simp
        have hsD : SlI w base aS (rest.drop (k + 1)) := by
          by_cases hl : k + 1 < rest.length
          · rw [haS, if_neg (by omega)]
            refine .inr ⟨b3, o3 + (k + 1), ?_, rfl, fun i hi => ?_⟩
            · rcases Hx1.out with h | ⟨b, off, hb, h, hc⟩
              · rw [h] at hlt; simp at hlt
              · injection h with h; injection h with h _ _; omega
            · rcases Hx1.out with h | ⟨b, off, hb, h, hc⟩
              · rw [h] at hlt; simp at hlt
              · injection h with h; injection h with h1 h2 _
                have := hc (k + 1 + i) (by rw [hdl] at hi; omega)
                rw [h1, h2, Nat.add_assoc, this, List.getElem?_drop]
          · exact .inl (List.drop_eq_nil_of_le (by omega))
        have HD := HIH.out aS (cr - (k + 1)) (rest.drop (k + 1)) (xs ++ [x]) v' x2 (by have := Hm.out; simp; omega) (by have := Hrl.out; omega) (by omega) (by omega) (Nat.le_trans Hs1.out.2 Hs2.out) (slI_keep Hx.out HBw.out) (slI_keep hsD HBw.out) (fun y hy => Hre.out y (List.mem_of_mem_drop hy)) (fun y hy => by
          rcases List.mem_append.1 hy with h | h
          · exact Hxe.out y h
          · simp at h; rw [h, Hx'.out]; exact Hre.out _ (getD_mem hlt)) (by simpa using HN2.out)
        rw [hdl, haS] at HD
        refine HD.mono ?_
        rintro e x3 ⟨r, rfl, hg3, hok3, hcv⟩
        have hok3' : x3.ownsRow base 2 1 (.slice av xs.length cv) xs.length (xs.map (Value.int .i64)) := own_prefix HOk2.out HN2.out (by simpa using hok3) (by rw [List.map_append, List.take_left' (by simp)]) hg3
        have HG3 : Hid (W0.grownBy x3 (Value.slice av xs.length cv).ownBlock) := hid (grow_trans HG2.out hg3 (fun j hj hne => Hrow.out j (Nat.lt_of_lt_of_le hj Hs1.out.1) hne))
        have HO3 := hid hok3'
        have hnb : some w.heap.size ≠ (Value.slice av xs.length cv).ownBlock := fun h => by have := (Hlt.out _ h.symm).2; omega
        have hkz := (HG3.out.block _ (lt_get HK0.out) hnb).trans HK0.out
        have HX3 : Hid (x3.cell? ⟨w.heap.size, 0, none⟩ = some (.int .i64 V) ∧ x3.cell? ⟨w.heap.size, 1, none⟩ = some (.slice a0 fs.length cap)) := hid ⟨(two_of hkz).1, (two_of hkz).2.1⟩
        clear hdl hsD HD hok3 hok3' hg3 hnb hkz HX2 HG2 HN2 HOk2 Hs2 HBw Hrow
        refine hK.out _ _ (fun _ => HX3.out) ?_
        clear hK K
        refine anyM_ready (rs := [12]) (by kernel_rfl) (by simp) ?_
        refine AllM.cons rfl (fun K hK => ?_) AllM.nil
        go_simp
        refine hK.out _ _ (fun h => absurd rfl h) ?_
        clear hK K
        refine anyM_done (by kernel_rfl) ?_ _
        have hst := firstC_step (circB fs) xs (l := rest) hlt m
        rw [← Hx'.out] at hst
        obtain ⟨o, ho⟩ : ∃ o, o = firstC (circB fs) (xs ++ [x]) (rest.drop (k + 1)) m := ⟨_, rfl⟩
        rw [← ho] at hst hcv
        have Hst := hid hst
        clear hst ho HX3
        cases o with
        | none =>
          have hr : r = .slice none 0 0 := hcv
          subst hr
          clear hcv
          go_wp2_with fail
          go_roundw
          case rel => exact ⟨k + 1, hid ⟨hlt, by rw [Hfst.out, Hst.out]; rfl⟩, by go_num, HO3, HG3⟩
          case measure => simp [intOf]; omega
        | some ch =>
          obtain ⟨b, c, hr, hownr⟩ := hcv
          subst hr
          have Hown := hid hownr
          clear hownr
          go_wp2_with fail
          all_goals
            go_ret
            refine ⟨_, rfl, grow_trans HG0.out HG3.out (fun _ _ h => h), HO3.out, ?_⟩
            rw [Hfst.out, Hst.out]
            exact ⟨b, c, rfl, Hown.out⟩
      · have hke : k = rest.length := by omega
        have hki : ¬ (k : Int) < (rest.length : Int) := by omega
        go_wp2_with fail
        go_ret
        refine ⟨_, rfl, grow_trans HG0.out HG.out (fun _ _ h => h), HO.out, ?_⟩
        rw [Hfst.out, firstC_done _ _ (by omega)]
        rfl

end Go.Proofs.Ytbhdipljhelddaa
