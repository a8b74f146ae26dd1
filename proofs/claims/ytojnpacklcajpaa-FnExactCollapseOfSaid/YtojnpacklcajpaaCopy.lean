import Derived.Test.YtojnpacklcajpaaJoin
import Derived.Test.YtojnpacklcajpaaCx
import Derived.Deep.RegionWith
/-! l01Copy: the model's copy of a complex. -/
namespace Go.Proofs.Ytojnpacklcajpaa
open Go.RowKit

set_option maxRecDepth 100000 in
set_option maxHeartbeats 2000000 in
theorem copy_any (V : Int) (a0 : Option Addr) (cap : Nat) (fs : List Int) (w : World) (hx : SlI w w.heap.size a0 fs) (hl : fs.length ≤ 1048576) :
    Calls Try.prog 71 #[.agg #[.int .i64 V, .slice a0 fs.length cap]] w fun e w' => ∃ v, e = .returned (.agg #[.int .i64 V, v]) ∧ Res w w' v fs := by
  have hB0 : Below w.heap.size w ((w.alloc (.cells #[.int .i64 V, .slice a0 fs.length cap] 29)).alloc (.cells #[.int .i64 0, .slice none 0 0] 29)) := ((Below.refl _ w).alloc (Nat.le_refl _) _).alloc (by simp) _
  obtain ⟨W, hW⟩ : ∃ W, W = (w.alloc (.cells #[.int .i64 V, .slice a0 fs.length cap] 29)).alloc (.cells #[.int .i64 0, .slice none 0 0] 29) := ⟨_, rfl⟩
  have Q0 := hid (show W.heap[w.heap.size]? = some (.cells #[.int .i64 V, .slice a0 fs.length cap] 29 (0, 0)) by rw [hW, Below.heap_alloc _ _ _ (by simp)]; exact heap_alloc_new _ _)
  have R0 := hid (show W.heap[w.heap.size + 1]? = some (.cells #[.int .i64 0, .slice none 0 0] 29 (0, 0)) by rw [hW]; exact new2 _ _ _)
  have HBW : Hid (Below w.heap.size w W) := hid (by rw [hW]; exact hB0)
  have HxW := hid (hx.later HBW.out HBW.out.size)
  obtain ⟨k0, k1, _, _⟩ := two_of Q0.out
  have HW := hid hW
  clear hB0 hW hx
  go_enter Try.func71, Try.ntmps71
  go_wp2_with fail
  rw [← HW.out]
  go_region_with (go_at_call 103; refine (own_any a0 cap fs W.drew HxW.out hl).mono ?_; rintro e w1 ⟨v, rfl, hr⟩; obtain ⟨_, av, cv, rfl, _⟩ := ownsRow_slI hr.1; have hrb : Below W.heap.size W w1 := ⟨hr.2.os, hr.2.tape, hr.2.output, hr.2.size, hr.2.block⟩; have r1 := (hrb.block _ (lt_get R0.out)).trans R0.out; obtain ⟨c0, c1, f0, f1⟩ := two_of r1; have k01 := (hrb.cell (p := ⟨w.heap.size, 0, none⟩) (lt_get Q0.out)).trans k0; have k11 := (hrb.cell (p := ⟨w.heap.size, 1, none⟩) (lt_get Q0.out)).trans k1; have R1 := hid r1; clear r1 hrb)
  all_goals
    go_wp2_with fail
    (try simp only [Exit.inBlock, Exit.then])
    have R2 := two_of (two_set R1.out (.int .i64 V) (.slice av fs.length cv))
    refine done_cx1 (p := 2) (by kernel_rfl) rfl rfl R2.1 R2.2.1 ⟨_, rfl, ?_⟩
    exact (Res.later hr ⟨HBW.out.os, HBW.out.tape, HBW.out.output, HBW.out.size, HBW.out.block⟩).set2 R1.out (by decide) (by omega) _ _

end Go.Proofs.Ytojnpacklcajpaa
