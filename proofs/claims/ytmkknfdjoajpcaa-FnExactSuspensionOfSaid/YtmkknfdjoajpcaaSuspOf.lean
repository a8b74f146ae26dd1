import Derived.Test.YtmkknfdjoajpcaaJoinOf
/-! SuspensionOf, the model's and the program's. -/
namespace Go.Proofs.Ytmkknfdjoajpcaa
open Go.RowKit

theorem isC_two : IsC 2 [1, 2] where
  lo := by decide
  hi := by decide
  range := by simp [allV]
  asc := by simp
  closed := by
    intro x hx p hp0 hp
    have hx' : x = 1 ∨ x = 2 := by simpa using hx
    rcases hx' with rfl | rfl
    · have h := and_le_left' p 1 hp
      obtain rfl : p = 1 := by omega
      simp
    · have h := and_le_left' p 2 hp
      rcases (show p = 1 ∨ p = 2 by omega) with rfl | rfl
      · exact absurd hp (by decide)
      · simp

/-- What SuspensionOf hands back. -/
noncomputable def suspOfR (V : Int) (xs : List Int) : Int × List Int × Int := joinOfR V xs 2 [1, 2]

theorem suspOfR_len (V : Int) (xs : List Int) (h : xs.length ≤ 1048576) : (suspOfR V xs).2.1.length ≤ 1048576 := joinOfR_len V xs 2 [1, 2] h (by simp)

theorem slI_two (w : World) : SlI (w.alloc (.cells #[.int .i64 1, .int .i64 2] 2)) (w.alloc (.cells #[.int .i64 1, .int .i64 2] 2)).heap.size (some ⟨w.heap.size, 0, none⟩) [1, 2] := by
  refine .inr ⟨w.heap.size, 0, by simp, rfl, fun i hi => ?_⟩
  have h : i = 0 ∨ i = 1 := by simp at hi; omega
  rcases h with rfl | rfl <;> simp [go_sem]

set_option maxHeartbeats 2000000 in
theorem specSuspensionOf (V : Int) (a : Option Addr) (cap : Nat) (xs : List Int) (w : World) (hx : SlI w w.heap.size a xs) (hl : xs.length ≤ 1048576) :
    Calls Try.prog 27 #[.agg #[.int .i64 V, .slice a xs.length cap]] w fun e w' => ∃ v, e = .returned (.tuple #[.agg #[.int .i64 (suspOfR V xs).1, v], .int .i64 (suspOfR V xs).2.2]) ∧ Res w w' v (suspOfR V xs).2.1 := by
  have hB0 : Below w.heap.size w ((w.alloc (.cells #[.int .i64 V, .slice a xs.length cap] 26)).alloc (.cells #[.int .i64 0, .slice none 0 0] 26)) := ((Below.refl _ w).alloc (Nat.le_refl _) _).alloc (by simp) _
  have Hx := hid (hx.later hB0 (by simp <;> omega))
  by_cases hC : IsC V xs
  · have HC := hid hC
    have hv0 := hC.lo
    have hv1 := hC.hi
    have Hlx := hid hC.len63
    have Hfx := hid hC.range
    by_cases h6 : 6 < V + 2
    · refine cx_mono (show suspOfR V xs = (0, [], 3) by unfold suspOfR joinOfR; rw [isCB_true hC, isCB_true isC_two, if_pos rfl, if_pos rfl, if_neg (by omega)]) ?_
      have h6' : decide (6 < V + 2) = true := decide_eq_true h6
      clear hC h6
      go_enter Try.func27, Try.ntmps27
      go_wp2_with fail
      refine (is_yes V a cap xs _ Hx.out hl HC.out).mono ?_
      rintro e w1 ⟨rfl, hB1⟩
      have k0 : w1.cell? ⟨w.heap.size, 0, none⟩ = some (.int .i64 V) := (hB1.cell (p := ⟨w.heap.size, 0, none⟩) (by simp <;> omega)).trans (by simp [go_sem])
      have r1 : w1.heap[w.heap.size + 1]? = some (.cells #[.int .i64 0, .slice none 0 0] 26 (0, 0)) := (hB1.block _ (by simp <;> omega)).trans (new2 _ _ _)
      have hB01 := hB0.trans (hB1.mono (by simp <;> omega))
      obtain ⟨c0, c1, f0, f1⟩ := two_of r1
      have R1 := hid r1
      clear r1
      go_wp2_with fail
      (try simp only [Exit.inBlock, Exit.then])
      have R3 := two_of (two_set R1.out (.int .i64 0) (.slice none 0 0))
      refine done_cx (p := 2) (u := 3) (by kernel_rfl) rfl rfl R3.1 R3.2.1 rfl ⟨_, rfl, ?_⟩
      exact (res_nil _ _ hB01).set2 R1.out (by decide) (by omega) _ _
    · refine cx_mono (show suspOfR V xs = (V + 2, joinL V xs [1, 2], 0) by unfold suspOfR joinOfR; rw [isCB_true hC, isCB_true isC_two, if_pos rfl, if_pos rfl, if_pos (by omega)]) ?_
      have h6' : decide (6 < V + 2) = false := decide_eq_false h6
      clear hC
      go_enter Try.func27, Try.ntmps27
      go_wp2_with fail
      refine (is_yes V a cap xs _ Hx.out hl HC.out).mono ?_
      rintro e w1 ⟨rfl, hB1⟩
      have k0 : w1.cell? ⟨w.heap.size, 0, none⟩ = some (.int .i64 V) := (hB1.cell (p := ⟨w.heap.size, 0, none⟩) (by simp <;> omega)).trans (by simp [go_sem])
      have k1 : w1.cell? ⟨w.heap.size, 1, none⟩ = some (.slice a xs.length cap) := (hB1.cell (p := ⟨w.heap.size, 1, none⟩) (by simp <;> omega)).trans (by simp [go_sem])
      have r1 : w1.heap[w.heap.size + 1]? = some (.cells #[.int .i64 0, .slice none 0 0] 26 (0, 0)) := (hB1.block _ (by simp <;> omega)).trans (new2 _ _ _)
      have hB01 := hB0.trans (hB1.mono (by simp <;> omega))
      have R1 := hid r1
      clear r1
      go_wp2_with fail
      have hB2 : Below w.heap.size w (w1.alloc (.cells #[.int .i64 1, .int .i64 2] 2)) := hB01.alloc hB01.size _
      refine (join_any V 2 a (some ⟨w1.heap.size, 0, none⟩) cap 2 xs [1, 2] _ (hx.later hB2 hB2.size) (slI_two w1) Hlx.out (by simp) hv0 (by decide) (by omega) Hfx.out isC_two.range).mono ?_
      rintro e w3 ⟨v, rfl, hr⟩
      obtain ⟨_, av, cv, rfl, _⟩ := ownsRow_slI hr.1
      have R3 := hid ((hr.2.block _ (by have := lt_get R1.out; simp; omega)).trans ((Below.heap_alloc _ _ _ (lt_get R1.out)).trans R1.out))
      obtain ⟨d0, d1, g0, g1⟩ := two_of R3.out
      go_wp2_with fail
      (try simp only [Exit.inBlock, Exit.then])
      have R4 := two_of (two_set R3.out (.int .i64 (V + 2)) (.slice av (joinL V xs [1, 2]).length cv))
      refine done_cx (p := 2) (u := 3) (by kernel_rfl) rfl rfl R4.1 R4.2.1 rfl ⟨_, rfl, ?_⟩
      exact (hr.later hB2).set2 R3.out (by decide) (by omega) _ _
  · refine cx_mono (show suspOfR V xs = (0, [], 1) by unfold suspOfR joinOfR; rw [isCB_false hC, if_neg (by simp)]) ?_
    go_enter Try.func27, Try.ntmps27
    go_wp2_with fail
    refine (is_no V a cap xs _ Hx.out hl hC).mono ?_
    rintro e w1 ⟨rfl, hB1⟩
    have r1 : w1.heap[w.heap.size + 1]? = some (.cells #[.int .i64 0, .slice none 0 0] 26 (0, 0)) := (hB1.block _ (by simp <;> omega)).trans (new2 _ _ _)
    have hB01 := hB0.trans (hB1.mono (by simp <;> omega))
    obtain ⟨c0, c1, f0, f1⟩ := two_of r1
    have R1 := hid r1
    clear r1
    go_wp2_with fail
    (try simp only [Exit.inBlock, Exit.then])
    have R3 := two_of (two_set R1.out (.int .i64 0) (.slice none 0 0))
    refine done_cx (p := 2) (u := 3) (by kernel_rfl) rfl rfl R3.1 R3.2.1 rfl ⟨_, rfl, ?_⟩
    exact (res_nil _ _ hB01).set2 R1.out (by decide) (by omega) _ _

set_option maxRecDepth 100000 in
set_option maxHeartbeats 1000000 in
theorem implSuspensionOf (V : Int) (a : Option Addr) (cap : Nat) (xs : List Int) (w : World) (hx : SlI w w.heap.size a xs) (hl : xs.length ≤ 1048576) :
    Calls Try.prog 28 #[.agg #[.int .i64 V, .slice a xs.length cap]] w fun e w' => ∃ v, e = .returned (.tuple #[.agg #[.int .i64 (suspOfR V xs).1, v], .int .i64 (suspOfR V xs).2.2]) ∧ Res w w' v (suspOfR V xs).2.1 := by
  have hB0 : Below w.heap.size w ((w.alloc (.cells #[.int .i64 V, .slice a xs.length cap] 26)).alloc (.cells #[.int .i64 0, .slice none 0 0] 26)) := ((Below.refl _ w).alloc (Nat.le_refl _) _).alloc (by simp) _
  have hB1 := hB0.alloc (by simp <;> omega) (.cells #[.int .i64 1, .int .i64 2] 2)
  have Hx := hid (hx.later hB1 hB1.size)
  have R0 := hid (new2 w (.cells #[.int .i64 V, .slice a xs.length cap] 26) (.cells #[.int .i64 0, .slice none 0 0] 26))
  obtain ⟨W, hW⟩ : ∃ W, W = (w.alloc (.cells #[.int .i64 V, .slice a xs.length cap] 26)).alloc (.cells #[.int .i64 0, .slice none 0 0] 26) := ⟨_, rfl⟩
  have Hw := hid hW
  have hr0 : ∃ R, R = suspOfR V xs := ⟨_, rfl⟩
  obtain ⟨R, hR⟩ := hr0
  have HI : Hid (Calls Try.prog 57 #[.agg #[.int .i64 V, .slice a xs.length cap], .agg #[.int .i64 2, .slice (some ⟨W.heap.size, 0, none⟩) 2 2]] (W.alloc (.cells #[.int .i64 1, .int .i64 2] 2)) fun e w' => ∃ v, e = .returned (.tuple #[.agg #[.int .i64 R.1, v], .int .i64 R.2.2]) ∧ Res (W.alloc (.cells #[.int .i64 1, .int .i64 2] 2)) w' v R.2.1) := hid (by
    rw [hR, hW]
    exact implJoinOf V a cap xs 2 _ 2 [1, 2] _ Hx.out (slI_two _) hl (by simp))
  rw [← hR]
  clear hR
  have hsz : W.heap.size = w.heap.size + 1 + 1 := by rw [hW]; simp
  rw [hsz] at HI
  clear hW hsz
  obtain ⟨U, ys, c⟩ := R
  go_enter Try.func28, Try.ntmps28
  go_wp2_with fail
  rw [← Hw.out]
  refine HI.out.mono ?_
  rintro e w3 ⟨v, rfl, hr⟩
  obtain ⟨_, av, cv, rfl, _⟩ := ownsRow_slI hr.1
  have hBW : Below w.heap.size w (W.alloc (.cells #[.int .i64 1, .int .i64 2] 2)) := by rw [Hw.out]; exact hB1
  have RW : Hid (W.heap[w.heap.size + 1]? = some (.cells #[.int .i64 0, .slice none 0 0] 26 (0, 0))) := hid (by rw [Hw.out]; exact R0.out)
  have R3 := hid ((hr.2.block _ (by have := lt_get RW.out; simp; omega)).trans ((Below.heap_alloc _ _ _ (lt_get RW.out)).trans RW.out))
  obtain ⟨d0, d1, g0, g1⟩ := two_of R3.out
  go_wp2_with fail
  (try simp only [Exit.inBlock, Exit.then])
  have R4 := two_of (two_set R3.out (.int .i64 U) (.slice av ys.length cv))
  refine done_cx (p := 2) (u := 3) (by kernel_rfl) rfl rfl R4.1 R4.2.1 rfl ⟨_, rfl, ?_⟩
  exact (hr.later hBW).set2 R3.out (by decide) (by omega) _ _

end Go.Proofs.Ytmkknfdjoajpcaa
