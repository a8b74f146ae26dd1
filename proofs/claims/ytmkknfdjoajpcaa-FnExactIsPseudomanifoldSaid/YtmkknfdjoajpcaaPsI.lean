import Derived.Test.YtmkknfdjoajpcaaPsM
import Derived.Test.YtmkknfdjoajpcaaBdI
/-! IsPseudomanifold: the program's. -/
namespace Go.Proofs.Ytmkknfdjoajpcaa
open Go.RowKit Go.Shelf Go.Maps

set_option maxRecDepth 100000 in
set_option maxHeartbeats 4000000 in
/-- The kind's method. -/
theorem psHas_any (a : Option Addr) (cap : Nat) (xs : List Int) (w : World) (hx : SlI w w.heap.size a xs) (hl : xs.length ≤ 63) (hr : ∀ x ∈ xs, 1 ≤ x ∧ x ≤ 63) :
    Calls Try.prog 167 #[.agg #[], .slice a xs.length cap] w fun e w' => e = .returned (.bool (psI xs)) ∧ Below w.heap.size w w' := by
  obtain ⟨W, hW⟩ : ∃ W, W = w.alloc (.cells #[] 59) := ⟨_, rfl⟩
  have hB0 : Below w.heap.size w W := by rw [hW]; exact (Below.refl _ w).alloc (Nat.le_refl _) _
  have Hx := hid hx
  have HAr := hid (callsIn_wide.1 (around_in a cap xs W (hx.later hB0 hB0.size) hl hr))
  have HPu := hid (fun (W : World) (h : Below w.heap.size w W) => pureHas_any a cap xs W (hx.later h h.size) (by omega) hr)
  have Hal : Hid ((arL xs).length ≤ 441) := hid (by have := arL_len xs; omega)
  obtain ⟨L, hL⟩ : ∃ L, L = arL xs := ⟨_, rfl⟩
  have HR : Hid (psI xs = (L.all (fun x => decide (L.count x = 2)) && (decide (0 < xs.length) && pureB xs))) := hid (by rw [hL]; rfl)
  rw [← hL] at HAr Hal
  obtain ⟨R, hR⟩ : ∃ R, R = psI xs := ⟨_, rfl⟩
  rw [← hR] at HR ⊢
  have HW := hid hW
  have HB0 := hid hB0
  clear hx hW hB0 hr hL hR
  go_enter Try.func167, Try.ntmps167
  go_wp2_with fail
  rw [← HW.out]
  refine HAr.out.mono ?_
  rintro e w2 ⟨mb, rfl, hcnt, hmb, hB2⟩
  have HB2 := hid (HB0.out.trans (hB2.mono HB0.out.size))
  obtain ⟨D, hD0, hD1, hD2, hD3⟩ := hcnt
  have hsz2 := HB2.out.size
  have Hcnt := hid (And.intro hD2 hD3)
  have HD1 := hid hD1
  clear hD0 hD1 hD2 hD3 hB2
  go_wp2_with (at_range; refine wpList_range_own _ rfl _ 83 rfl 2 2 (Maps.int_keyed Try.underlying2) Try.underlying83 _ mb _ _ rfl HD1.out ?_; intro w3 hrg3 hg3 hs3)
  go_frame
  have hmb2 : mb < w2.heap.size := HD1.out.lt
  go_loopw [6] (fun _ wr => ∃ (left : Lit → Bool) (cnt : Nat), Hid (wr.ranges Try.prog 2 (plainElem (H := Unit) Try.prog 2) mb w2.heap.size L.length D left cnt) ∧ Hid (∀ x, has D (.int .i64 x) = true → left (.int .i64 x) = false → L.count x = 2) ∧ Hid (Below w.heap.size w wr))
    (fun _ wr => wr.rangeLeft mb w2.heap.size)
  case atStart =>
    refine ⟨_, _, hid hrg3, hid ?_, hid (HB2.out.grown hg3 hsz2 (fun r e => by cases e))⟩
    intro x h1 h2; rw [h1] at h2; cases h2
  case round =>
    obtain ⟨left, cnt, Hrg, HS, HB⟩ := hrel
    go_wp2_with (first
      | (at_next; refine wpList_next_ranges_ii _ rfl _ rfl 2 2 .i64 .i64 (Maps.int_keyed Try.underlying2) Try.underlying2 Try.underlying2 mb w2.heap.size L.length _ _ _ rfl Hrg.out ?_ ?_)
      | go_in)
    · intro hc0 hl0
      have hall : L.all (fun x => decide (L.count x = 2)) = true := List.all_eq_true.2 (fun x hx => decide_eq_true (HS.out x ((Hcnt.out.2 x).2 hx) (hl0 _)))
      rw [hall, Bool.true_and] at HR
      clear hc0 hl0 hall
      by_cases h0 : 0 < xs.length
      · have hd : decide ((0 : Int) < (xs.length : Int)) = true := decide_eq_true (by omega)
        rw [show decide (0 < xs.length) = true from decide_eq_true h0, Bool.true_and] at HR
        obtain ⟨b, hb⟩ : ∃ b, b = pureB xs := ⟨_, rfl⟩
        rw [← hb] at HPu HR
        clear hb
        cases b <;>
        · go_wp2_with fail
          refine (HPu.out wr HB.out).mono ?_
          rintro e w5 ⟨rfl, hB5⟩
          have HB5 := hid (HB.out.trans (hB5.mono HB.out.size))
          clear hB5
          go_wp2_with fail
          go_ret
          exact ⟨ret_bool HR.out.symm, HB5.out⟩
      · have hd : decide ((0 : Int) < (xs.length : Int)) = false := decide_eq_false (by omega)
        rw [show decide (0 < xs.length) = false from decide_eq_false h0, Bool.false_and] at HR
        go_wp2_with fail
        go_ret
        exact ⟨ret_bool HR.out.symm, HB.out⟩
    · intro x c w4 cnt4 hwx hwc hlx hat hrg4 hlt4 hg4 hs4 hen
      have hcx : c = (L.count x : Int) := by
        have h1 := Hcnt.out.1 x
        rw [hat] at h1
        injection h1 with h1
        injection h1 with _ h1
      have hhas : has D (.int .i64 x) = true := has_true_of_atKey hat
      have HB4 := hid (HB.out.grown hg4 HB.out.size (fun r e => by cases e; exact hsz2))
      have Hrg4 := hid hrg4
      have Hlt4 := hid hlt4
      clear hg4 hs4 hrg4 hat hlt4
      by_cases h2 : c = 2
      · have hd : (c != 2) = false := by simp [h2]
        have HN : Hid (∀ y, has D (.int .i64 y) = true → (left (.int .i64 y) && !(Lit.int .i64 y).sameKey (.int .i64 x)) = false → L.count y = 2) := hid (fun y h1 h3 => by
          by_cases e : y = x
          · subst e; omega
          · refine HS.out y h1 ?_
            simpa [e, Lit.sameKey] using h3)
        clear h2 hhas hlx
        go_wp2
        go_roundw
        case rel => exact ⟨_, cnt4, Hrg4, HN, HB4⟩
        case measure => rw [Hrg4.out.left_eq, Hrg.out.left_eq]; exact Hlt4.out
      · have hd : (c != 2) = true := by simpa using h2
        have hbad : L.all (fun x => decide (L.count x = 2)) = false := List.all_eq_false.2 ⟨x, (Hcnt.out.2 x).1 hhas, by simp; omega⟩
        rw [hbad, Bool.false_and] at HR
        clear h2 hhas hlx hbad
        go_wp2
        go_ret
        exact ⟨ret_bool HR.out.symm, HB4.out⟩

theorem method_ps (w : World) : (method 257 59 (.agg #[]) "loop.example/g01348/impl.has").run Try.prog w = .ok (167, .agg #[]) w := by kernel_rfl

set_option maxRecDepth 100000 in
set_option maxHeartbeats 1000000 in
theorem kindPs_any (V : Int) (a : Option Addr) (cap : Nat) (fs : List Int) (w : World) (hx : SlI w w.heap.size a fs) (hl : fs.length ≤ 1048576) :
    Calls Try.prog 59 #[.agg #[.int .i64 V, .slice a fs.length cap], .iface 59 (.agg #[])] w fun e w' => e = .returned (.tuple #[.bool (isPsR V fs).1, .int .i64 (isPsR V fs).2]) ∧ Below w.heap.size w w' := by
  obtain ⟨W, hW⟩ : ∃ W, W = w.alloc (.cells #[.int .i64 V, .slice a fs.length cap] 26) := ⟨_, rfl⟩
  have hB0 : Below w.heap.size w W := by rw [hW]; exact (Below.refl _ w).alloc (Nat.le_refl _) _
  have HF := hid (implFacetsOf V a cap fs W (hx.later hB0 hB0.size) hl)
  have HW := hid hW
  have HB0 := hid hB0
  clear hx hW hB0
  by_cases hC : IsC V fs
  · refine bool_mono' (show isPsR V fs = (psI (facetsL fs), 0) by unfold isPsR; rw [isCB_true hC, if_pos rfl, ps_eq hC]) ?_
    have hR : facetsOfR V fs = (facetsL fs, 0) := by unfold facetsOfR; rw [isCB_true hC, if_pos rfl]
    rw [hR] at HF
    have Hr := hid (facetsL_range hC)
    have Hle := hid (Nat.le_trans (facetsL_le fs) hC.len63)
    clear hR hC
    go_enter Try.func59, Try.ntmps59
    go_wp2_with fail
    rw [← HW.out]
    refine HF.out.mono ?_
    rintro e w1 ⟨v, rfl, hr⟩
    obtain ⟨_, av, cv, rfl, hs⟩ := ownsRow_slI hr.1
    have HB1 := hid (HB0.out.trans (hr.2.mono HB0.out.size))
    have hm := method_ps
    go_wp2_with fail
    refine (psHas_any av cv (facetsL fs) w1 hs Hle.out Hr.out).mono ?_
    rintro e w2 ⟨rfl, hB2⟩
    have HB2 := hid (HB1.out.trans (hB2.mono HB1.out.size))
    clear hB2
    go_wp2_with fail
    go_ret2
    exact ⟨rfl, HB2.out⟩
  · refine bool_mono' (show isPsR V fs = (false, 1) by unfold isPsR; rw [isCB_false hC, if_neg (by simp)]) ?_
    have hR : facetsOfR V fs = ([], 1) := by unfold facetsOfR; rw [isCB_false hC, if_neg (by simp)]
    rw [hR] at HF
    clear hR hC
    go_enter Try.func59, Try.ntmps59
    go_wp2_with fail
    rw [← HW.out]
    refine HF.out.mono ?_
    rintro e w1 ⟨v, rfl, hr⟩
    have HB1 := hid (HB0.out.trans (hr.2.mono HB0.out.size))
    go_wp2_with fail
    go_ret2
    exact ⟨rfl, HB1.out⟩

set_option maxRecDepth 100000 in
set_option maxHeartbeats 1000000 in
theorem implIsPseudomanifold (V : Int) (a : Option Addr) (cap : Nat) (fs : List Int) (w : World) (hx : SlI w w.heap.size a fs) (hl : fs.length ≤ 1048576) :
    Calls Try.prog 32 #[.agg #[.int .i64 V, .slice a fs.length cap]] w fun e w' => e = .returned (.tuple #[.bool (isPsR V fs).1, .int .i64 (isPsR V fs).2]) ∧ Below w.heap.size w w' := by
  have hB0 : Below w.heap.size w (w.alloc (.cells #[.int .i64 V, .slice a fs.length cap] 26)) := (Below.refl _ w).alloc (Nat.le_refl _) _
  have HK := hid (kindPs_any V a cap fs _ (hx.later hB0 hB0.size) hl)
  have HB0 := hid hB0
  obtain ⟨R, hR⟩ : ∃ R, R = isPsR V fs := ⟨_, rfl⟩
  rw [← hR] at HK
  rw [← hR]
  obtain ⟨b, c⟩ := R
  clear hx hB0 hR
  go_enter Try.func32, Try.ntmps32
  go_wp2_with fail
  refine HK.out.mono ?_
  rintro e w1 ⟨rfl, hB1⟩
  go_wp2_with fail
  go_ret2
  exact ⟨rfl, HB0.out.trans (hB1.mono HB0.out.size)⟩

end Go.Proofs.Ytmkknfdjoajpcaa
