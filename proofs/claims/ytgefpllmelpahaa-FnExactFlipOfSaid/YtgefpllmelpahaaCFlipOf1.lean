import Derived.Test.YtgefpllmelpahaaMF6
import Derived.Test.YtgefpllmelpahaaMF5
/-! The law on FlipOf, walked. -/
namespace Go.Proofs.Ytgefpllmelpahaa
open Go.RowKit

set_option maxRecDepth 100000 in
set_option maxHeartbeats 4000000 in
theorem law_FlipOf (V : Int) (a : Option Addr) (cap : Nat) (xs : List Int) (d : Int) (wd : (Lit.int .i64 d).wf = true) (w : World) (hx : SlI w w.heap.size a xs) (hn : xs.length ≤ 9223372036854775807) :
    Calls Try.prog 5 #[.agg #[.int .i64 V, .slice a xs.length cap], .int .i64 d] w fun e w' => e = .returned (.bool true) ∧ Below w.heap.size w w' := by
  have hB0 : Below w.heap.size w (w.alloc (.cells #[.int .i64 V, .slice a xs.length cap] 24)) := (Below.refl _ w).alloc (Nat.le_refl _) _
  obtain ⟨r, hr⟩ : ∃ r, r = szR 1048576 xs.length := ⟨_, rfl⟩
  have Hr := hid hr
  by_cases hl : 1048576 < xs.length
  · have hr1 : r = -1 := by rw [hr]; exact szR_big (by omega)
    clear hr
    go_enter Try.func5, Try.ntmps5
    go_wp2_with fail
    refine (szCx V a xs.length cap 1048576 _ (by omega) (by omega) hn).mono ?_
    rintro e w1 ⟨rfl, hB1⟩
    rw [← Hr.out]
    go_wp2_with fail
    go_ret
    exact ⟨rfl, hB0.trans (hB1.mono (by simp))⟩
  · have hr1 : 0 ≤ r := by rw [hr, szR_fit (by omega)]; omega
    have hl' : xs.length ≤ 1048576 := by omega
    clear hr hl
    have F0 : Facts w w [(a, xs)] [] [] := ⟨Below.refl _ _, by simpa using hx, by simp, by simp⟩
    have F1 := F0.alloc (.cells #[.int .i64 V, .slice a xs.length cap] 24)
    obtain ⟨R, hR⟩ : ∃ R, R = flipR V xs d := ⟨_, rfl⟩
    have hRl : R.2.1.length ≤ 1048576 := by rw [hR]; exact flipR_len V xs d hl'
    obtain ⟨U, ys, c⟩ := R
    have HS : Hid (∀ a' cap' w', SlI w' w'.heap.size a' xs → Calls Try.prog 29 #[.agg #[.int .i64 V, .slice a' xs.length cap'], .int .i64 d] w' fun e w'' => ∃ v, e = .returned (.tuple #[.agg #[.int .i64 U, v], .int .i64 c]) ∧ Res w' w'' v ys) :=
      hid (fun a' cap' w' h => by have := specFlipOf V a' cap' xs d wd w' h hl'; rwa [← hR] at this)
    have HI : Hid (∀ a' cap' w', SlI w' w'.heap.size a' xs → Calls Try.prog 30 #[.agg #[.int .i64 V, .slice a' xs.length cap'], .int .i64 d] w' fun e w'' => ∃ v, e = .returned (.tuple #[.agg #[.int .i64 U, v], .int .i64 c]) ∧ Res w' w'' v ys) :=
      hid (fun a' cap' w' h => by have := implFlipOf V a' cap' xs d wd w' h hl'; rwa [← hR] at this)
    have hcc : (c != c) = false := by simp
    simp only at hRl
    clear hR hx hB0 F0
    go_enter Try.func5, Try.ntmps5
    go_wp2_with fail
    refine (szCx V a xs.length cap 1048576 _ (by omega) (by omega) hn).mono ?_
    rintro e w1 ⟨rfl, hB1⟩
    rw [← Hr.out]
    have F2 := F1.below hB1
    have z1 := hB1.size
    simp only [World.size_alloc] at z1
    obtain ⟨k0, k1⟩ := F2.two (.head _)
    go_wp2_with fail
    refine (toCx V a cap xs _ (F2.arg (.head _)) hl').mono ?_
    rintro e w2 ⟨g2, rfl, hown2, hB2⟩
    have F3 := F2.below hB2
    have z2 := hB2.size
    clear k0 k1
    go_wp2_with fail
    refine (HS.out _ _ _ (owned_slI hown2)).mono ?_
    rintro e w3 ⟨vw, rfl, hres3⟩
    have z3 := hres3.2.size
    obtain ⟨_, aw, cw, rfl, _⟩ := ownsRow_slI hres3.1
    have F4 := F3.slice hres3.1 hres3.2
    have F4 := F4.alloc (.cells #[.int .i64 U, .slice aw ys.length cw] 30)
    (try simp only [World.size_alloc] at F4)
    obtain ⟨k0, k1⟩ := F4.two (.tail _ (.head _))
    clear hown2 hB1 hB2 hres3
    go_wp2_with fail
    refine (toCx V a cap xs _ (F4.arg (.head _)) hl').mono ?_
    rintro e w4 ⟨g4, rfl, hown4, hB4⟩
    have z4 := hB4.size
    have F5 := (F4.slice hown4 hB4).alloc (.cells #[.int .i64 V, .slice (some ⟨g4, 0, none⟩) xs.length xs.length] 30)
    clear k0 k1 hown4 hB4
    go_wp2_with fail
    refine (HI.out _ _ _ (F5.slI (.head _))).mono ?_
    rintro e w5 ⟨vg, rfl, hres5⟩
    have z5 := hres5.2.size
    obtain ⟨_, ag, cg, rfl, _⟩ := ownsRow_slI hres5.1
    have F6 := F5.slice hres5.1 hres5.2
    simp only [World.size_alloc] at z4 z5 F6
    have F6 := F6.alloc (.cells #[.int .i64 U, .slice ag ys.length cg] 30)
    obtain ⟨l0, l1⟩ := F6.two (.head _)
    obtain ⟨m0, m1⟩ := F6.two (.tail _ (.tail _ (.head _)))
    clear hres5
    go_wp2_with fail
    clear l0 l1 m0 m1
    refine (eqCx_yes U _ _ _ _ ys ys _ (F6.slI (.head _)) (F6.slI (.tail _ (.tail _ (.head _)))) hRl hRl rfl).mono ?_
    rintro e w6 ⟨rfl, hB6⟩
    have F7 := F6.below hB6
    have F7d := F7.drew
    obtain ⟨j0, j1⟩ := F7.two (.tail _ (.head _))
    obtain ⟨k0, k1⟩ := F7.two (.tail _ (.tail _ (.tail _ (.head _))))
    have G7 := hid F7d
    clear F1 F2 F3 F4 F5 F6 F7 F7d hB6
    go_wp2_with fail
    go_region_with (first
      | (go_at_call 16; refine (toCx V a cap xs _ (G7.out.arg (.head _)) hl').mono ?_; rintro e w7 ⟨g7, rfl, hown7, hB7⟩; obtain ⟨j07, j17⟩ := (G7.out.below hB7).two (.tail _ (.head _)); have F8 := hid (G7.out.slice hown7 hB7); clear hown7 hB7)
      | (go_at_call 20; refine (eqCx_yes V _ _ _ _ xs xs _ (F8.out.slI (.tail _ (.tail _ (.head _)))) (F8.out.slI (.head _)) hl' hl' rfl).mono ?_; rintro e w8 ⟨rfl, hB8⟩))
    all_goals
      have F9 := F8.out.below hB8
      have G9 := hid F9
      obtain ⟨j09, j19⟩ := F9.two (.tail _ (.head _))
      clear F8 F9 hB8 G7 k0 k1 j0 j1 j07 j17
      go_wp2_with fail
      refine (markCx V _ _ _ xs 1 _ (G9.out.own (.tail _ (.tail _ (.head _)))) hl' (by omega) (by omega)).mono ?_
      rintro e w10 ⟨rfl, hown10, hg10⟩
      have G10 := hid (G9.out.mark (ys := count 1 xs.length) (L' := [⟨w4.heap.size + 1, w5.heap.size, .slice ag ys.length cg, ys⟩, ⟨w2.heap.size, w3.heap.size, .slice aw ys.length cw, ys⟩]) (.tail _ (.tail _ (.head _))) (by rw [count_len]; exact hown10) hg10 (by simp only; omega) (by simp; omega) (by simp <;> omega))
      clear G9 hown10 hg10 j09 j19
      obtain ⟨l0, l1⟩ := G10.out.two (.head _)
      obtain ⟨m0, m1⟩ := G10.out.two (.tail _ (.tail _ (.head _)))
      go_wp2_with fail
      clear l0 l1 m0 m1
      refine (eqCx_yes U _ _ _ _ ys ys _ (G10.out.slI (.head _)) (G10.out.slI (.tail _ (.head _))) hRl hRl rfl).mono ?_
      rintro e w11 ⟨rfl, hB11⟩
      have G11 := hid (G10.out.below hB11)
      clear G10 hB11
      obtain ⟨l0, l1⟩ := G11.out.two (.head _)
      go_wp2_with fail
      clear l0 l1
      refine (markCx U _ _ _ ys 1 _ (G11.out.own (.head _)) hRl (by omega) (by omega)).mono ?_
      rintro e w12 ⟨rfl, hown12, hg12⟩
      have G12 := hid (G11.out.mark (ys := count 1 ys.length) (L' := [⟨w4.heap.size + 1, w5.heap.size, .slice ag ys.length cg, count 1 ys.length⟩, ⟨w2.heap.size, w3.heap.size, .slice aw ys.length cw, ys⟩]) (.head _) (by rw [count_len]; exact hown12) hg12 (by simp only; omega) (by simp; omega) (by simp; omega))
      clear G11 hown12 hg12
      obtain ⟨l0, l1⟩ := G12.out.two (.head _)
      go_wp2_with fail
      clear l0 l1
      refine (heldCx U _ _ ys.length _ 1 _ rfl (G12.out.slI (.head _)) hRl (by omega) (by omega)).mono ?_
      rintro e w13 ⟨rfl, hB13⟩
      have G13 := hid (G12.out.below hB13)
      obtain ⟨k0, k1⟩ := G13.out.two (.tail _ (.tail _ (.tail _ (.head _))))
      clear G12 hB13
      have hnn : ((1 : Int) + ys.length != 1 + ys.length) = false := by simp
      go_wp2_with fail
      refine (toCx V a cap xs _ (G13.out.arg (.head _)) hl').mono ?_
      rintro e w14 ⟨g14, rfl, hown14, hB14⟩
      have G14 := hid (G13.out.below hB14)
      have Hown14 := hid (owned_slI hown14)
      clear G13 hB14 hown14 k0 k1
      go_wp2_with fail
      refine (HI.out _ _ _ Hown14.out).mono ?_
      rintro e w15 ⟨vh, rfl, hres15⟩
      obtain ⟨_, ah, ch, rfl, _⟩ := ownsRow_slI hres15.1
      have G15 := hid (G14.out.slice hres15.1 hres15.2)
      clear G14 Hown14 hres15
      have G15 := hid (G15.out.alloc (.cells #[.int .i64 U, .slice ah ys.length ch] 30))
      obtain ⟨l0, l1⟩ := G15.out.two (.head _)
      obtain ⟨m0, m1⟩ := G15.out.two (.tail _ (.tail _ (.tail _ (.head _))))
      go_wp2_with fail
      clear l0 l1 m0 m1
      refine (eqCx_yes U _ _ _ _ ys ys _ (G15.out.slI (.head _)) (G15.out.slI (.tail _ (.tail _ (.head _)))) hRl hRl rfl).mono ?_
      rintro e w16 ⟨rfl, hB16⟩
      have G16 := hid (G15.out.below hB16)
      clear G15 hB16
      obtain ⟨l0, l1⟩ := G16.out.two (.tail _ (.head _))
      go_wp2_with fail
      clear l0 l1
      refine (heldCx U _ _ ys.length _ 1 _ rfl (G16.out.slI (.tail _ (.head _))) hRl (by omega) (by omega)).mono ?_
      rintro e w17 ⟨rfl, hB17⟩
      have G17 := hid (G16.out.below hB17)
      clear G16 hB17
      go_wp2_with fail
      go_ret
      exact ⟨rfl, G17.out.from0⟩

end Go.Proofs.Ytgefpllmelpahaa
