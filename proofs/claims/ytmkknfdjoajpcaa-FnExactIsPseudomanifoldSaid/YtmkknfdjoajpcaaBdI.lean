import Derived.Test.YtmkknfdjoajpcaaBdM
import Derived.Maps.RangeWalk
/-! BoundaryComplex: the program's. -/
namespace Go.Proofs.Ytmkknfdjoajpcaa
open Go.RowKit Go.Shelf Go.Maps

/-- What the walk keeps of the world: the given complex's box, the result's block. -/
structure KrW (w W : World) (V : Int) (sl : Value) : Prop where
  below : Below w.heap.size w W
  kbox : W.heap[w.heap.size]? = some (.cells #[.int .i64 V, sl] 26 (0, 0))
  res : W.heap[w.heap.size + 1]? = some (.cells #[.int .i64 0, .slice none 0 0] 26 (0, 0))

theorem KrW.later {w W W' : World} {V : Int} {sl : Value} (h : KrW w W V sl) (hb : Below W.heap.size W W') : KrW w W' V sl where
  below := h.below.trans (hb.mono h.below.size)
  kbox := (hb.block _ (lt_get h.kbox)).trans h.kbox
  res := (hb.block _ (lt_get h.res)).trans h.res

theorem KrW.drew {w W : World} {V : Int} {sl : Value} (h : KrW w W V sl) : KrW w W.drew V sl := ⟨⟨h.below.os, h.below.tape, h.below.output, h.below.size, h.below.block⟩, h.kbox, h.res⟩
theorem KrW.alloc {w W : World} {V : Int} {sl : Value} (h : KrW w W V sl) (o : Obj) : KrW w (W.alloc o) V sl := h.later ((Below.refl _ W).alloc (Nat.le_refl _) _)

theorem KrW.grown {w W W' : World} {V : Int} {sl : Value} (h : KrW w W V sl) {row : Option Nat} (hg : W.grownBy W' row) (hr : ∀ r, row = some r → w.heap.size + 2 ≤ r) : KrW w W' V sl where
  below := h.below.grown hg h.below.size (fun k e => by have := hr k e; omega)
  kbox := (hg.block _ (lt_get h.kbox) (fun e => by have := hr _ e.symm; omega)).trans h.kbox
  res := (hg.block _ (lt_get h.res) (fun e => by have := hr _ e.symm; omega)).trans h.res

/-- .. behind an append to a row of the call's own. -/
theorem KrW.row {w W W' : World} {V : Int} {sl v : Value} {n : Nat} {xs : List Value} (h : KrW w W V sl) (ho : W.ownsRow w.heap.size 2 1 v n xs) (hg : W.grownBy W' v.ownBlock) : KrW w W' V sl where
  below := h.below.grown hg h.below.size (fun k hk => (ho.lt k hk).1)
  kbox := (hg.block _ (lt_get h.kbox) (row_ne ho h.kbox (by decide))).trans h.kbox
  res := (hg.block _ (lt_get h.res) (row_ne ho h.res (by decide))).trans h.res

set_option maxRecDepth 100000 in
set_option maxHeartbeats 4000000 in
theorem implBoundaryComplex (V : Int) (a : Option Addr) (cap : Nat) (fs : List Int) (w : World) (hx : SlI w w.heap.size a fs) (hl : fs.length ≤ 1048576) :
    Calls Try.prog 45 #[.agg #[.int .i64 V, .slice a fs.length cap]] w fun e w' => ∃ v, e = .returned (.tuple #[.agg #[.int .i64 (bdR V fs).1, v], .int .i64 (bdR V fs).2.2]) ∧ Res w w' v (bdR V fs).2.1 := by
  obtain ⟨W, hW⟩ : ∃ W, W = (w.alloc (.cells #[.int .i64 V, .slice a fs.length cap] 26)).alloc (.cells #[.int .i64 0, .slice none 0 0] 26) := ⟨_, rfl⟩
  have hK : KrW w W V (.slice a fs.length cap) := by
    rw [hW]
    exact { below := ((Below.refl _ w).alloc (Nat.le_refl _) _).alloc (by simp) _, kbox := (Below.heap_alloc _ _ _ (by simp)).trans (heap_alloc_new w _), res := new2 w _ _ }
  have HP := hid (pureFacets_any V a cap fs W (hx.later hK.below hK.below.size) hl)
  have HK := hid hK
  have HW := hid hW
  obtain ⟨k0, k1, _, _⟩ := two_of HK.out.kbox
  clear hx hK hW
  by_cases hgood : isCB V fs = true ∧ pureB (facetsL fs) = true
  · have hC := isCB_iff.1 hgood.1
    have hp := hgood.2
    have hP : pureFacetsR V fs = (facetsL fs, 0) := by unfold pureFacetsR; rw [hgood.1, if_pos rfl, hp, if_pos rfl]
    have hR : bdR V fs = (V, madeL V (bdT fs), 0) := by unfold bdR; rw [hgood.1, if_pos rfl, hp, if_pos rfl]
    rw [hP] at HP
    refine cx_mono hR ?_
    have h2 := hC.hi
    have Hr := hid (facetsL_range hC)
    have Hle : Hid ((facetsL fs).length ≤ 63) := hid (Nat.le_trans (facetsL_le fs) hC.len63)
    have Hmd := hid (fun S hS => made_bd (S := S) hC hp hS)
    have Har := hid (fun x hx => arL_range hC (x := x) hx)
    have Hal : Hid ((arL (facetsL fs)).length ≤ 441) := hid (by have := arL_len (facetsL fs); have := Hle.out; omega)
    obtain ⟨L, hL⟩ : ∃ L, L = arL (facetsL fs) := ⟨_, rfl⟩
    have HA := hid (fun (W : World) (a : Option Addr) (cap : Nat) (h : SlI W W.heap.size a (facetsL fs)) => callsIn_wide.1 (around_in a cap (facetsL fs) W h Hle.out Hr.out))
    rw [← hL] at Hmd Har Hal HA
    obtain ⟨T, hT⟩ : ∃ T, T = madeL V (bdT fs) := ⟨_, rfl⟩
    rw [← hT] at Hmd ⊢
    clear hgood hC hp hP hR hL hT
    go_enter Try.func45, Try.ntmps45
    go_wp2_with fail
    rw [← HW.out]
    refine HP.out.mono ?_
    rintro e w1 ⟨v1, rfl, hr1⟩
    obtain ⟨_, av, cv, rfl, hs1⟩ := ownsRow_slI hr1.1
    have HK1 := hid (HK.out.later hr1.2)
    have Hs1 := hid hs1
    clear hr1 hs1 k0 k1
    go_wp2_with fail
    refine (HA.out w1 av cv Hs1.out).mono ?_
    rintro e w2 ⟨mb, rfl, hcnt, hmb, hB2⟩
    have HK2 := hid (HK1.out.later hB2)
    obtain ⟨D, hD0, hD1, hD2, hD3⟩ := hcnt
    have hsz1 := HK1.out.below.size
    have hlt1 := lt_get HK1.out.res
    have hsz2 := HK2.out.below.size
    have hlt2 := lt_get HK2.out.res
    have Hcnt := hid (And.intro hD2 hD3)
    have HD1 := hid hD1
    clear hD0 hD1 hD2 hD3 hB2
    go_wp2_with (at_range; refine wpList_range_own _ rfl _ 83 rfl 2 2 (Maps.int_keyed Try.underlying2) Try.underlying83 _ mb _ _ rfl HD1.out ?_; intro w3 hrg3 hg3 hs3)
    go_frame
    have hmb2 : mb < w2.heap.size := HD1.out.lt
    go_loopw [6] (fun v wr => ∃ (left : Lit → Bool) (cnt : Nat) (S : List Int), Hid (wr.ranges Try.prog 2 (plainElem (H := Unit) Try.prog 2) mb w2.heap.size L.length D left cnt) ∧ Hid (wr.ownsRow (w2.heap.size + 1) 2 1 v S.length (S.map (Value.int .i64))) ∧ S.length + cnt ≤ 441 ∧ Hid (∀ x, x ∈ S ↔ (has D (.int .i64 x) = true ∧ left (.int .i64 x) = false ∧ L.count x = 1)) ∧ Hid (KrW w wr V (.slice a fs.length cap)) ∧ Hid (w2.heap.size + 1 ≤ wr.heap.size))
      (fun _ wr => wr.rangeLeft mb w2.heap.size)
    case atStart =>
      refine ⟨_, _, [], hid hrg3, hid (World.ownsRow_nil _ _ _ _), ?_, hid ?_, hid (HK2.out.grown hg3 (fun r e => by cases e)), hid (by omega)⟩
      · have := HD1.out.size_le
        have := Hal.out
        simp; omega
      · intro x
        constructor
        · intro h; simp at h
        · rintro ⟨h1, h2, _⟩; rw [h1] at h2; cases h2
    case round =>
      obtain ⟨left, cnt, S, Hrg, HO, hle, HS, HKr, Hsz⟩ := hrel
      go_wp2_with (first
        | (at_next; refine wpList_next_ranges_ii _ rfl _ rfl 2 2 .i64 .i64 (Maps.int_keyed Try.underlying2) Try.underlying2 Try.underlying2 mb w2.heap.size L.length _ _ _ rfl Hrg.out ?_ ?_)
        | go_in)
      · intro hc0 hl0
        obtain ⟨q0, q1, _, _⟩ := two_of HKr.out.kbox
        have hSs : ∀ x, x ∈ S ↔ x ∈ L ∧ L.count x = 1 := fun x => by rw [HS.out x, hl0, Hcnt.out.2 x]; simp
        have Hm := hid (Hmd.out S hSs)
        have Hrg2 : Hid (∀ x ∈ S, 0 ≤ x ∧ x ≤ allV V) := hid (fun x hx => Har.out x ((hSs x).1 hx).1)
        obtain ⟨_, sv, sc, rfl, hsS⟩ := ownsRow_slI HO.out
        have HM := hid (made_any V sv sc S wr hsS (by omega) h2 Hrg2.out)
        rw [Hm.out] at HM
        clear hSs hsS hc0 hl0
        go_wp2_with fail
        refine HM.out.mono ?_
        rintro e w5 ⟨v5, rfl, hr5⟩
        obtain ⟨_, rv, rc, rfl, _⟩ := ownsRow_slI hr5.1
        have HK5 := hid (HKr.out.later hr5.2)
        obtain ⟨d0, d1, g0, g1⟩ := two_of HK5.out.res
        have Hr5 := hid (hr5.later HKr.out.below)
        clear hr5
        go_wp2_with fail
        (try simp only [Exit.inBlock, Exit.then])
        have R4 := two_of (two_set HK5.out.res (.int .i64 V) (.slice rv T.length rc))
        refine done_cx (p := 2) (u := 3) (by kernel_rfl) rfl rfl R4.1 R4.2.1 rfl ⟨_, rfl, ?_⟩
        exact Hr5.out.set2 HK5.out.res (by decide) (by omega) _ _
      · intro x c w4 cnt4 hwx hwc hlx hat hrg4 hlt4 hg4 hs4 hen
        have hcx : c = (L.count x : Int) := by
          have h1 := Hcnt.out.1 x
          rw [hat] at h1
          injection h1 with h1
          injection h1 with _ h1
        have hhas : has D (.int .i64 x) = true := has_true_of_atKey hat
        have HO4 := hid (HO.out.kept hg4 (by
          right
          intro e
          have := (HO.out.lt _ e).1
          omega))
        have HK4 := hid (HKr.out.grown hg4 (fun r e => by cases e; omega))
        have Hrg4 := hid hrg4
        have hsz4 : w2.heap.size + 1 ≤ w4.heap.size := by rw [hs4]; exact Hsz.out
        have Hlt4 := hid hlt4
        have Hsnew : Hid (∀ S' : List Int, (∀ y, y ∈ S' ↔ y ∈ S ∨ (y = x ∧ L.count x = 1)) → ∀ y, y ∈ S' ↔ (has D (.int .i64 y) = true ∧ (left (.int .i64 y) && !(Lit.int .i64 y).sameKey (.int .i64 x)) = false ∧ L.count y = 1)) := hid (fun S' h y => by
          rw [h y, HS.out y]
          by_cases e : y = x
          · subst e
            simp [hhas, hlx, Lit.sameKey]
          · simp [e, Lit.sameKey])
        clear hg4 hs4 hrg4 hat hhas hlx hlt4
        by_cases h1 : c = 1
        · have hd : (c == 1) = true := by simp [h1]
          have HN := hid (Hsnew.out (S ++ [x]) (fun y => by rw [show L.count x = 1 by omega]; simp))
          clear h1 Hsnew
          go_wp2_with (first
            | (at_builtin; refine append_int rfl rfl HO4.out hsz4 (by omega) rfl rfl ?_; intro v5 w5 hown5 hgrow5 hB5)
            | go_in)
          go_roundw
          case rel =>
            have hlow : ∀ k, Value.ownBlock u6 = some k → w2.heap.size + 1 ≤ k := fun k hk => (HO4.out.lt k hk).1
            refine ⟨_, cnt4, S ++ [x], hid (Hrg4.out.kept hgrow5 (fun e => by have := hlow _ e.symm; omega) (fun e => by have := hlow _ e.symm; omega)), hid hown5, by have := Hlt4.out; simp; omega, HN, hid (HK4.out.grown hgrow5 (fun r e => by have := hlow _ e; omega)), hid (Nat.le_trans hsz4 hgrow5.size)⟩
          case measure =>
            have hlow : ∀ k, Value.ownBlock u6 = some k → w2.heap.size + 1 ≤ k := fun k hk => (HO4.out.lt k hk).1
            rw [(Hrg4.out.kept hgrow5 (fun e => by have := hlow _ e.symm; omega) (fun e => by have := hlow _ e.symm; omega)).left_eq, Hrg.out.left_eq]
            exact Hlt4.out
        · have hd : (c == 1) = false := by simpa using h1
          have HN := hid (Hsnew.out S (fun y => by constructor; exact .inl; rintro (h | ⟨_, h⟩); exact h; omega))
          clear h1 Hsnew
          go_wp2
          go_roundw
          case rel => exact ⟨_, cnt4, S, Hrg4, HO4, by have := Hlt4.out; omega, HN, HK4, hid hsz4⟩
          case measure => rw [Hrg4.out.left_eq, Hrg.out.left_eq]; exact Hlt4.out
  · obtain ⟨c, hc0, hP, hR⟩ : ∃ c, (c != 0) = true ∧ pureFacetsR V fs = ([], c) ∧ bdR V fs = (0, [], c) := by
      unfold pureFacetsR bdR
      by_cases h1 : isCB V fs = true
      · have h2 : pureB (facetsL fs) = false := by
          rw [Bool.eq_false_iff]
          exact fun h => hgood ⟨h1, h⟩
        exact ⟨5, by decide, by rw [h1, if_pos rfl, h2, if_neg (by decide)], by rw [h1, if_pos rfl, h2, if_neg (by decide)]⟩
      · exact ⟨1, by decide, by rw [if_neg h1], by rw [if_neg h1]⟩
    rw [hP] at HP
    refine cx_mono hR ?_
    clear hgood hP hR
    go_enter Try.func45, Try.ntmps45
    go_wp2_with fail
    rw [← HW.out]
    refine HP.out.mono ?_
    rintro e w1 ⟨v1, rfl, hr1⟩
    obtain ⟨_, av, cv, rfl, hs1⟩ := ownsRow_slI hr1.1
    have HK1 := hid (HK.out.later hr1.2)
    obtain ⟨d0, d1, g0, g1⟩ := two_of HK1.out.res
    clear hr1 hs1 k0 k1
    go_wp2_with fail
    (try simp only [Exit.inBlock, Exit.then])
    have R3 := two_of (two_set HK1.out.res (.int .i64 0) (.slice none 0 0))
    refine done_cx (p := 2) (u := 3) (by kernel_rfl) rfl rfl R3.1 R3.2.1 rfl ⟨_, rfl, ?_⟩
    exact (res_nil _ _ HK1.out.below).set2 HK1.out.res (by decide) (by omega) _ _

end Go.Proofs.Ytmkknfdjoajpcaa
