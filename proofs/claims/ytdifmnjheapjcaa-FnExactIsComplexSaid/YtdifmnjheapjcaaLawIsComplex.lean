import Derived.Test.YtdifmnjheapjcaaLawsA
import Derived.Test.YtdifmnjheapjcaaSpecC
import Derived.Test.YtdifmnjheapjcaaImplB
/-! The law on IsComplex, walked. -/
namespace Go.Proofs.Ytdifmnjheapjcaa
open Go.RowKit

set_option maxHeartbeats 1000000 in
theorem law_IsComplex (V : Int) (a : Option Addr) (cap : Nat) (xs : List Int) (w : World) (hx : SlI w w.heap.size a xs) (hn : xs.length ≤ 9223372036854775807) :
    Calls Try.prog 3 #[.agg #[.int .i64 V, .slice a xs.length cap]] w fun e w' => e = .returned (.bool true) ∧ Below w.heap.size w w' := by
  have hB0 : Below w.heap.size w (w.alloc (.cells #[.int .i64 V, .slice a xs.length cap] 24)) := (Below.refl _ w).alloc (Nat.le_refl _) _
  obtain ⟨r, hr⟩ : ∃ r, r = szR 1048576 xs.length := ⟨_, rfl⟩
  have Hr := hid hr
  by_cases hl : 1048576 < xs.length
  · have hr1 : r = -1 := by rw [hr]; exact szR_big (by omega)
    clear hr
    go_enter Try.func3, Try.ntmps3
    go_wp2_with fail
    refine (szCx V a xs.length cap 1048576 _ (by omega) (by omega) hn).mono ?_
    rintro e w1 ⟨rfl, hB1⟩
    rw [← Hr.out]
    go_wp2_with fail
    go_ret
    exact ⟨rfl, hB0.trans (hB1.mono (by simp))⟩
  · have hr1 : 0 ≤ r := by rw [hr, szR_fit (by omega)]; omega
    have hl' : xs.length ≤ 1048576 := by omega
    clear hr hl
    obtain ⟨c, hc⟩ : ∃ c, c = isCB V xs := ⟨_, rfl⟩
    have hcc : (c != c) = false := by simp
    have Hc := hid hc
    clear hc
    go_enter Try.func3, Try.ntmps3
    go_wp2_with fail
    refine (szCx V a xs.length cap 1048576 _ (by omega) (by omega) hn).mono ?_
    rintro e w1 ⟨rfl, hB1⟩
    rw [← Hr.out]
    have k0 : w1.cell? ⟨w.heap.size, 0, none⟩ = some (.int .i64 V) := (hB1.cell (p := ⟨w.heap.size, 0, none⟩) (by simp)).trans (by simp [go_sem])
    have k1 : w1.cell? ⟨w.heap.size, 1, none⟩ = some (.slice a xs.length cap) := (hB1.cell (p := ⟨w.heap.size, 1, none⟩) (by simp)).trans (by simp [go_sem])
    have hs0 := hB1.size
    simp only [World.size_alloc] at hs0
    have hx1 : SlI w1 w1.heap.size a xs := hx.later (hB0.trans (hB1.mono (by simp))) (by omega)
    go_wp2_with fail
    refine (toCx V a cap xs _ hx1 hl').mono ?_
    rintro e w2 ⟨g2, rfl, hown2, hB2⟩
    go_wp2_with fail
    refine (specIsComplex V _ _ xs _ (owned_slI hown2) hl').mono ?_
    rintro e w3 ⟨rfl, hB3⟩
    rw [← Hc.out]
    have hB23 : Below w1.heap.size w1 w3 := hB2.trans (hB3.mono hB2.size)
    have k0' := (hB23.cell (p := ⟨w.heap.size, 0, none⟩) (by simp; omega)).trans k0
    have k1' := (hB23.cell (p := ⟨w.heap.size, 1, none⟩) (by simp; omega)).trans k1
    have hx3 : SlI w3 w3.heap.size a xs := hx1.later hB23 hB23.size
    go_wp2_with fail
    refine (toCx V a cap xs _ hx3 hl').mono ?_
    rintro e w4 ⟨g4, rfl, hown4, hB4⟩
    have hB4' := hB23.trans (hB4.mono hB23.size)
    go_wp2_with fail
    have hBa : Below w4.heap.size w4 (w4.alloc (.cells #[.int .i64 V, .slice (some ⟨g4, 0, none⟩) xs.length xs.length] 27)) := (Below.refl _ _).alloc (Nat.le_refl _) _
    have hs4 := owned_slI hown4
    have hsz4 := hB4'.size
    refine (implIsComplex V _ _ xs _ (hs4.later hBa (by simp)) hl').mono ?_
    rintro e w5 ⟨rfl, hB5⟩
    rw [← Hc.out]
    have hB45 : Below w4.heap.size w4 w5 := hBa.trans (hB5.mono (by simp))
    have hB15 : Below w1.heap.size w1 w5 := hB4'.trans (hB45.mono hsz4)
    have j0 : w5.cell? ⟨w4.heap.size, 0, none⟩ = some (.int .i64 V) := (hB5.cell (p := ⟨w4.heap.size, 0, none⟩) (by simp)).trans (by simp [go_sem])
    have j1 : w5.cell? ⟨w4.heap.size, 1, none⟩ = some (.slice (some ⟨g4, 0, none⟩) xs.length xs.length) := (hB5.cell (p := ⟨w4.heap.size, 1, none⟩) (by simp)).trans (by simp [go_sem])
    have k05 := (hB15.cell (p := ⟨w.heap.size, 0, none⟩) (by simp; omega)).trans k0
    have k15 := (hB15.cell (p := ⟨w.heap.size, 1, none⟩) (by simp; omega)).trans k1
    have Hx5 : Hid (SlI w5.drew w5.drew.heap.size a xs) := hid (hx1.later (w' := w5.drew) ⟨hB15.os, hB15.tape, hB15.output, hB15.size, hB15.block⟩ hB15.size)
    have Hs5 : Hid (SlI w5 w5.heap.size (some ⟨g4, 0, none⟩) xs) := hid (hs4.later hB45 hB45.size)
    have Hend : Hid (∀ wz, Below w5.heap.size w5 wz → Below w.heap.size w wz) := hid (fun wz hz => (hB0.trans (hB1.mono (by simp))).trans ((hB15.trans (hz.mono hB15.size)).mono (by omega)))
    have hj5 : w4.heap.size < w5.drew.heap.size := by have := hB5.size; simp at this; show w4.heap.size < w5.heap.size; omega
    clear k0 k1 k0' k1' hx1 hx3 hs4 hown2 hown4 hB0 hB1 hB2 hB3 hB4 hB5 hB15 hB45 hB23 hB4' hBa
    go_wp2_with fail
    go_region_with (first
      | (go_at_call 15; refine (toCx V a cap xs _ Hx5.out hl').mono ?_; rintro e w6 ⟨g6, rfl, hown6, hB6⟩; have Hy6 := hid (owned_slI hown6); have Hx6 := hid (Hs5.out.later (w' := w6) ⟨hB6.os, hB6.tape, hB6.output, hB6.size, hB6.block⟩ hB6.size); have HB6 := hid hB6; have j06 := (hB6.cell (p := ⟨w4.heap.size, 0, none⟩) hj5).trans j0; have j16 := (hB6.cell (p := ⟨w4.heap.size, 1, none⟩) hj5).trans j1; clear hown6 hB6)
      | (go_at_call 17; refine (eqCx_yes V _ _ _ _ xs xs _ Hx6.out Hy6.out hl' hl' rfl).mono ?_; rintro e w7 ⟨rfl, hB7⟩))
    all_goals go_wp2_with fail
    all_goals
      have hB6 := HB6.out
      have hB56 : Below w5.heap.size w5 w6 := ⟨hB6.os, hB6.tape, hB6.output, hB6.size, hB6.block⟩
      go_ret
      exact ⟨rfl, Hend.out _ (hB56.trans (hB7.mono hB56.size))⟩

end Go.Proofs.Ytdifmnjheapjcaa
