import Derived.Test.YtojnpacklcajpaaColK
/-! CollapseOf and IsCollapsible, the model's. -/
namespace Go.Proofs.Ytojnpacklcajpaa
open Go.RowKit

theorem implCollapseOf (V : Int) (a0 : Option Addr) (cap : Nat) (fs : List Int) (w : World) (hx : SlI w w.heap.size a0 fs) (hl : fs.length ≤ 1048576) :
    Calls Try.prog 28 #[.agg #[.int .i64 V, .slice a0 fs.length cap]] w fun e w' => ∃ v q, e = .returned (.tuple #[.agg #[.int .i64 (colOR V fs).1, v], q, .int .i64 (colOR V fs).2.2.2]) ∧ Res w w' v (colOR V fs).2.1 ∧ ResP w w' q (colOR V fs).2.2.1 ∧ Apart v q := implCO V a0 cap fs w hx hl

set_option maxRecDepth 100000 in
set_option maxHeartbeats 2000000 in
theorem specCollapseOf (V : Int) (a0 : Option Addr) (cap : Nat) (fs : List Int) (w : World) (hx : SlI w w.heap.size a0 fs) (hl : fs.length ≤ 1048576) :
    Calls Try.prog 27 #[.agg #[.int .i64 V, .slice a0 fs.length cap]] w fun e w' => ∃ v q, e = .returned (.tuple #[.agg #[.int .i64 (colOR V fs).1, v], q, .int .i64 (colOR V fs).2.2.2]) ∧ Res w w' v (colOR V fs).2.1 ∧ ResP w w' q (colOR V fs).2.2.1 ∧ Apart v q := by
  have hB0 : Below w.heap.size w ((w.alloc (.cells #[.int .i64 V, .slice a0 fs.length cap] 29)).alloc (.cells #[.int .i64 0, .slice none 0 0] 29)) := ((Below.refl _ w).alloc (Nat.le_refl _) _).alloc (by simp) _
  have Hx := hid (hx.later hB0 hB0.size)
  by_cases hC : IsC V fs
  · refine ck_mono (show colOR V fs = (V, (colE [] fs).1, (colE [] fs).2, 0) by unfold colOR; rw [isCB_true hC, if_pos rfl]) ?_
    have HC := hid hC
    have Hf := hid hC.range63
    clear hC
    go_enter Try.func27, Try.ntmps27
    go_wp2_with fail
    refine (is_yes V a0 cap fs _ Hx.out hl HC.out).mono ?_
    rintro e w1 ⟨rfl, hB1⟩
    have k0 : w1.cell? ⟨w.heap.size, 0, none⟩ = some (.int .i64 V) := (hB1.cell (p := ⟨w.heap.size, 0, none⟩) (by simp <;> omega)).trans (by simp [go_sem])
    have k1 : w1.cell? ⟨w.heap.size, 1, none⟩ = some (.slice a0 fs.length cap) := (hB1.cell (p := ⟨w.heap.size, 1, none⟩) (by simp <;> omega)).trans (by simp [go_sem])
    have r1 : w1.heap[w.heap.size + 1]? = some (.cells #[.int .i64 0, .slice none 0 0] 29 (0, 0)) := (hB1.block _ (by simp <;> omega)).trans (new2 _ _ _)
    have HB01 := hid (hB0.trans (hB1.mono (by simp <;> omega)))
    have hx1 := hid (hx.later HB01.out HB01.out.size)
    have R1 := hid r1
    clear r1 hB1
    go_wp2_with fail
    refine (colS_any V a0 cap fs 0 none 0 [] _ hx1.out (.inl rfl) hl (by simp) Hf.out (fun cur _ => lowIn_nil cur)).mono ?_
    rintro e w4 ⟨v, q, rfl, hr⟩
    obtain ⟨ys, hys⟩ : ∃ ys, ys = (colE [] fs).1 := ⟨_, rfl⟩
    have Hys := hid hys
    rw [← hys] at hr
    have hr' : Res2 w1 w4 v ys q (colE [] fs).2 := hr
    have HR := hid ((hr'.later HB01.out).alloc (.cells #[.int .i64 V, v] 29))
    have R14 := hid ((Below.heap_alloc w4 (.cells #[.int .i64 V, v] 29) _ (Nat.lt_of_lt_of_le (lt_get R1.out) hr'.1.2.size)).trans ((hr'.1.2.block _ (lt_get R1.out)).trans R1.out))
    obtain ⟨_, av, cv, rfl, _⟩ := ownsRow_slI hr'.1.1
    obtain ⟨c0, c1, f0, f1⟩ := two_of R14.out
    clear k0 k1 hr hr' hys
    go_wp2_with fail
    (try simp only [Exit.inBlock, Exit.then])
    have R3 := two_of (two_set R14.out (.int .i64 V) (.slice av ys.length cv))
    refine done_cx3 (p := 2) (u := 3) (t := 4) (by kernel_rfl) rfl rfl R3.1 R3.2.1 rfl rfl ⟨_, _, rfl, ?_⟩
    rw [← Hys.out]
    exact HR.out.set2 R14.out (by omega) _ _
  · refine ck_mono (show colOR V fs = (0, [], [], 1) by unfold colOR; rw [isCB_false hC, if_neg (by simp)]) ?_
    go_enter Try.func27, Try.ntmps27
    go_wp2_with fail
    refine (is_no V a0 cap fs _ Hx.out hl hC).mono ?_
    rintro e w1 ⟨rfl, hB1⟩
    have r1 : w1.heap[w.heap.size + 1]? = some (.cells #[.int .i64 0, .slice none 0 0] 29 (0, 0)) := (hB1.block _ (by simp <;> omega)).trans (new2 _ _ _)
    have HB01 := hid (hB0.trans (hB1.mono (by simp <;> omega)))
    obtain ⟨c0, c1, f0, f1⟩ := two_of r1
    have R1 := hid r1
    clear r1 hB1
    go_wp2_with fail
    (try simp only [Exit.inBlock, Exit.then])
    have R3 := two_of (two_set R1.out (.int .i64 0) (.slice none 0 0))
    refine done_cx3 (p := 2) (u := 3) (t := 4) (by kernel_rfl) rfl rfl R3.1 R3.2.1 rfl rfl ⟨_, _, rfl, ?_⟩
    exact (res2_nil _ _ HB01.out).set2 R1.out (by omega) _ _

set_option maxRecDepth 100000 in
set_option maxHeartbeats 2000000 in
theorem specIsCollapsible (V : Int) (a0 : Option Addr) (cap : Nat) (fs : List Int) (w : World) (hx : SlI w w.heap.size a0 fs) (hl : fs.length ≤ 1048576) :
    Calls Try.prog 29 #[.agg #[.int .i64 V, .slice a0 fs.length cap]] w fun e w' => e = .returned (.tuple #[.bool (isColR V fs).1, .int .i64 (isColR V fs).2]) ∧ Below w.heap.size w w' := by
  have hB0 : Below w.heap.size w (w.alloc (.cells #[.int .i64 V, .slice a0 fs.length cap] 29)) := (Below.refl _ w).alloc (Nat.le_refl _) _
  have Hx := hid (hx.later hB0 hB0.size)
  by_cases hC : IsC V fs
  · refine ic_mono (show isColR V fs = (decide ((colE [] fs).1.length = 1), 0) by unfold isColR; rw [isCB_true hC, if_pos rfl]) ?_
    have HC := hid hC
    have Hf := hid hC.range63
    clear hC
    go_enter Try.func29, Try.ntmps29
    go_wp2_with fail
    refine (is_yes V a0 cap fs _ Hx.out hl HC.out).mono ?_
    rintro e w1 ⟨rfl, hB1⟩
    have k0 : w1.cell? ⟨w.heap.size, 0, none⟩ = some (.int .i64 V) := (hB1.cell (p := ⟨w.heap.size, 0, none⟩) (by simp <;> omega)).trans (by simp [go_sem])
    have k1 : w1.cell? ⟨w.heap.size, 1, none⟩ = some (.slice a0 fs.length cap) := (hB1.cell (p := ⟨w.heap.size, 1, none⟩) (by simp <;> omega)).trans (by simp [go_sem])
    have HB01 := hid (hB0.trans (hB1.mono (by simp <;> omega)))
    have hx1 := hid (hx.later HB01.out HB01.out.size)
    clear hB1
    go_wp2_with fail
    refine (colS_any V a0 cap fs 0 none 0 [] _ hx1.out (.inl rfl) hl (by simp) Hf.out (fun cur _ => lowIn_nil cur)).mono ?_
    rintro e w4 ⟨v, q, rfl, hr⟩
    have HB := hid (HB01.out.trans (hr.1.2.mono HB01.out.size))
    obtain ⟨ys, hys⟩ : ∃ ys, ys = (colE [] fs).1 := ⟨_, rfl⟩
    have Hys := hid hys
    rw [← hys] at hr
    obtain ⟨_, av, cv, rfl, _⟩ := ownsRow_slI hr.1.1
    have He : Hid (((ys.length : Int) == 1) = decide (ys.length = 1)) := hid (by rw [Bool.eq_iff_iff]; simp; omega)
    clear hr k0 k1 hys
    go_wp2_with fail
    go_ret2
    exact ⟨by rw [← Hys.out, ← He.out]; rfl, HB.out.alloc HB.out.size _⟩
  · refine ic_mono (show isColR V fs = (false, 1) by unfold isColR; rw [isCB_false hC, if_neg (by simp)]) ?_
    go_enter Try.func29, Try.ntmps29
    go_wp2_with fail
    refine (is_no V a0 cap fs _ Hx.out hl hC).mono ?_
    rintro e w1 ⟨rfl, hB1⟩
    go_wp2_with fail
    go_ret2
    exact ⟨rfl, hB0.trans (hB1.mono (by simp <;> omega))⟩

end Go.Proofs.Ytojnpacklcajpaa
