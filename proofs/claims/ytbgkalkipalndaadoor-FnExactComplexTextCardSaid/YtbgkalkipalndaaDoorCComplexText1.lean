import Derived.Test.YtbgkalkipalndaaDoorMB3
/-! The law on ComplexText, walked. -/
namespace Go.Proofs.YtbgkalkipalndaaDoor
open Go.RowKit

set_option maxRecDepth 100000 in
set_option maxHeartbeats 4000000 in
theorem law_ComplexText (V : Int) (a : Option Addr) (cap : Nat) (xs : List Int) (w : World) (hx : SlI w w.heap.size a xs) (hn : xs.length ≤ 9223372036854775807) :
    Calls Tryd.prog 5 #[.agg #[.int .i64 V, .slice a xs.length cap]] w fun e w' => e = .returned (.bool true) ∧ Below w.heap.size w w' := by
  have hB0 : Below w.heap.size w (w.alloc (.cells #[.int .i64 V, .slice a xs.length cap] 37)) := (Below.refl _ w).alloc (Nat.le_refl _) _
  obtain ⟨r, hr⟩ : ∃ r, r = szR 1048576 xs.length := ⟨_, rfl⟩
  have Hr := hid hr
  by_cases hl : 1048576 < xs.length
  · have hr1 : r = -1 := by rw [hr]; exact szR_big (by omega)
    clear hr
    go_enter Tryd.func5, Tryd.ntmps5
    go_wp2_with fail
    refine (szCx V a xs.length cap 1048576 _ (by omega) (by omega) hn).mono ?_
    rintro e w1 ⟨rfl, hB1⟩
    rw [← Hr.out]
    go_wp2_with fail
    go_ret
    exact ⟨rfl, hB0.trans (hB1.mono (by simp))⟩
  · have hr1 : 0 ≤ r := by rw [hr, szR_fit (by omega)]; omega
    have hl' : xs.length ≤ 1048576 := by omega
    clear hr hl
    have F0 : Facts w w [(a, xs)] [] [] := ⟨Below.refl _ _, by simpa using hx, by simp, by simp⟩
    have F1 := F0.alloc (.cells #[.int .i64 V, .slice a xs.length cap] 37)
    have HS : Hid (∀ a' cap' w', SlI w' w'.heap.size a' xs → Calls Tryd.prog 18 #[.agg #[.int .i64 V, .slice a' xs.length cap']] w' fun e w'' => e = .returned (.tuple #[.string ⟨(textR V xs).1.toArray⟩, .int .i64 (textR V xs).2]) ∧ Below w'.heap.size w' w'') :=
      hid (fun a' cap' w' h => specComplexText V a' cap' xs w' h hl')
    have HI : Hid (∀ a' cap' w', SlI w' w'.heap.size a' xs → Calls Tryd.prog 20 #[.agg #[.int .i64 V, .slice a' xs.length cap']] w' fun e w'' => e = .returned (.tuple #[.string ⟨(textR V xs).1.toArray⟩, .int .i64 (textR V xs).2]) ∧ Below w'.heap.size w' w'') :=
      hid (fun a' cap' w' h => implComplexText V a' cap' xs w' h hl')
    generalize textR V xs = R at HS HI
    obtain ⟨m0, c⟩ := R
    simp only at HS HI
    generalize (⟨m0.toArray⟩ : ByteArray) = m at HS HI
    have hmm : (m.toList == m.toList) = true := by simp
    have hcc : (c != c) = false := by simp
    clear hx hB0 F0
    go_enter Tryd.func5, Tryd.ntmps5
    go_wp2_with fail
    refine (szCx V a xs.length cap 1048576 _ (by omega) (by omega) hn).mono ?_
    rintro e w1 ⟨rfl, hB1⟩
    rw [← Hr.out]
    have F2 := F1.below hB1
    obtain ⟨k0, k1⟩ := F2.two (.head _)
    go_wp2_with fail
    refine (toCx V a cap xs _ (F2.arg (.head _)) hl').mono ?_
    rintro e w2 ⟨g2, rfl, hown2, hB2⟩
    have F3 := F2.below hB2
    clear k0 k1
    go_wp2_with fail
    refine (HS.out _ _ _ (owned_slI hown2)).mono ?_
    rintro e w3 ⟨rfl, hB3⟩
    have F4 := F3.below hB3
    obtain ⟨k0, k1⟩ := F4.two (.head _)
    clear hown2 hB1 hB2 hB3
    go_wp2_with fail
    refine (toCx V a cap xs _ (F4.arg (.head _)) hl').mono ?_
    rintro e w4 ⟨g4, rfl, hown4, hB4⟩
    have F5 := (F4.slice hown4 hB4).alloc (.cells #[.int .i64 V, .slice (some ⟨g4, 0, none⟩) xs.length xs.length] 24)
    clear k0 k1 hown4 hB4
    go_wp2_with fail
    refine (HI.out _ _ _ (F5.slI (.head _))).mono ?_
    rintro e w6 ⟨rfl, hB6⟩
    have F7 := F5.below hB6
    have F7d := F7.drew
    obtain ⟨j0, j1⟩ := F7.two (.head _)
    obtain ⟨k0, k1⟩ := F7.two (.tail _ (.head _))
    have G7 := hid F7d
    clear F1 F2 F3 F4 F5 F7 F7d hB6
    go_wp2_with fail
    go_region_with (first
      | (go_at_call 19; refine (toCx V a cap xs _ (G7.out.arg (.head _)) hl').mono ?_; rintro e w7 ⟨g7, rfl, hown7, hB7⟩; obtain ⟨j07, j17⟩ := (G7.out.below hB7).two (.head _); have F8 := hid (G7.out.slice hown7 hB7); clear hown7 hB7)
      | (go_at_call 14; refine (eqCx_yes V _ _ _ _ xs xs _ (F8.out.slI (.tail _ (.head _))) (F8.out.slI (.head _)) hl' hl' rfl).mono ?_; rintro e w8 ⟨rfl, hB8⟩))
    all_goals
      have G9 := hid (F8.out.below hB8)
      clear F8 hB8 G7 k0 k1 j0 j1 j07 j17
      go_wp2_with fail
      go_ret
      exact ⟨rfl, G9.out.from0⟩

end Go.Proofs.YtbgkalkipalndaaDoor
