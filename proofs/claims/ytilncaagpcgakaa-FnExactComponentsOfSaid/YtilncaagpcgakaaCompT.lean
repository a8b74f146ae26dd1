import Derived.Test.YtilncaagpcgakaaCompS
/-! ComponentsOf, the model's door. -/
namespace Go.Proofs.Ytilncaagpcgakaa
open Go.RowKit

set_option maxRecDepth 100000 in
set_option maxHeartbeats 1000000 in
theorem specComponentsOf (V : Int) (a0 : Option Addr) (cap : Nat) (fs : List Int) (w : World) (hx : SlI w w.heap.size a0 fs) (hl : fs.length ≤ 1048576) :
    Calls Try.prog 33 #[.agg #[.int .i64 V, .slice a0 fs.length cap]] w fun e w' => ∃ v, e = .returned (.tuple #[v, .int .i64 (componentsOfR V fs).2]) ∧ Res w w' v (componentsOfR V fs).1 := by
  have hB0 : Below w.heap.size w (w.alloc (.cells #[.int .i64 V, .slice a0 fs.length cap] 30)) := (Below.refl _ w).alloc (Nat.le_refl _) _
  have Hx := hid (hx.later hB0 hB0.size)
  have Hx0 := hid hx
  clear hx
  by_cases hC : IsC V fs
  · obtain ⟨vn, rfl⟩ : ∃ vn : Nat, V = vn := ⟨V.toNat, by have := hC.lo; omega⟩
    refine comp_mono (show componentsOfR vn fs = (modL fs (leftTo fs vn), 0) by unfold componentsOfR; rw [isCB_true hC, if_pos rfl]; rfl) ?_
    have HC := hid hC
    clear hC
    go_enter Try.func33, Try.ntmps33
    go_wp2_with fail
    refine (is_yes (vn : Int) a0 cap fs _ Hx.out hl HC.out).mono ?_
    rintro e w1 ⟨rfl, hB1⟩
    have k0 : w1.cell? ⟨w.heap.size, 0, none⟩ = some (.int .i64 vn) := (hB1.cell (p := ⟨w.heap.size, 0, none⟩) (by simp)).trans (by simp [go_sem])
    have k1 : w1.cell? ⟨w.heap.size, 1, none⟩ = some (.slice a0 fs.length cap) := (hB1.cell (p := ⟨w.heap.size, 1, none⟩) (by simp)).trans (by simp [go_sem])
    have HB1 := hid (hB0.trans (hB1.mono (by simp)))
    have HJ := hid (comps_any vn a0 cap fs w1 (Hx0.out.later HB1.out HB1.out.size) hl HC.out)
    clear hB0 hB1
    go_wp2_with fail
    refine HJ.out.mono ?_
    rintro e w2 ⟨v, rfl, hr⟩
    go_wp2_with fail
    go_ret2
    exact ⟨v, rfl, hr.later HB1.out⟩
  · refine comp_mono (show componentsOfR V fs = ([], 1) by unfold componentsOfR; rw [isCB_false hC, if_neg (by simp)]) ?_
    go_enter Try.func33, Try.ntmps33
    go_wp2_with fail
    refine (is_no V a0 cap fs _ Hx.out hl hC).mono ?_
    rintro e w1 ⟨rfl, hB1⟩
    go_wp2_with fail
    go_ret2
    exact ⟨_, rfl, res_nil _ _ (hB0.trans (hB1.mono (by simp)))⟩

end Go.Proofs.Ytilncaagpcgakaa
