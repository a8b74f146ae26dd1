import Derived.Test.YtojnpacklcajpaaCx
import Derived.Test.YtojnpacklcajpaaContains
/-! The program's withoutFaces. -/
namespace Go.Proofs.Ytojnpacklcajpaa
open Go.RowKit

theorem woWanted (ts : List Int) (at0 : Option Addr) (ct : Nat) (bd : Nat) (x : Int) (w : World) (hd : w.cell? ⟨bd, 0, none⟩ = some (.slice at0 ts.length ct)) (hx : SlI w w.heap.size at0 ts) (hl : ts.length ≤ 1048576) :
    Calls Try.prog 93 #[.int .i64 x, .pointer (some ⟨bd, 0, none⟩)] w fun e w' => e = .returned (.bool (decide (x ∉ ts))) ∧ Below w.heap.size w w' := by
  have Hc := hid (contains_any at0 ct ts x w hx hl)
  clear hx
  go_enter Try.func93, Try.ntmps93
  go_wp2_with fail
  refine Hc.out.mono ?_
  rintro e w1 ⟨rfl, rfl⟩
  go_wp2_with fail
  go_ret
  exact ⟨ret_bool (by simp), Below.refl _ _⟩

set_option maxHeartbeats 1000000 in
theorem wo_any (V : Int) (a : Option Addr) (cap : Nat) (fs : List Int) (at0 : Option Addr) (ct : Nat) (ts : List Int) (w : World) (hx : SlI w w.heap.size a fs) (ht : SlI w w.heap.size at0 ts) (hl : fs.length ≤ 1048576) (hlt : ts.length ≤ 1048576) :
    Calls Try.prog 62 #[.agg #[.int .i64 V, .slice a fs.length cap], .slice at0 ts.length ct] w fun e w' => ∃ v, e = .returned (.agg #[.int .i64 V, v]) ∧ Res w w' v (fs.filter fun x => decide (x ∉ ts)) := by
  have hB0 : Below w.heap.size w (((w.alloc (.cells #[.int .i64 V, .slice a fs.length cap] 29)).alloc (.cells #[.slice at0 ts.length ct] 22)).alloc (.cells #[.int .i64 0, .slice none 0 0] 29)) := (((Below.refl _ w).alloc (Nat.le_refl _) _).alloc (by simp) _).alloc (by simp <;> omega) _
  have Hx := hid (hx.later hB0 (by simp <;> omega))
  have Ht := hid (ht.later hB0 (by simp <;> omega))
  obtain ⟨W, hW⟩ : ∃ W, W = ((w.alloc (.cells #[.int .i64 V, .slice a fs.length cap] 29)).alloc (.cells #[.slice at0 ts.length ct] 22)).alloc (.cells #[.int .i64 0, .slice none 0 0] 29) := ⟨_, rfl⟩
  have k0 : W.cell? ⟨w.heap.size, 0, none⟩ = some (.int .i64 V) := by rw [hW]; simp [go_sem]
  have k1 : W.cell? ⟨w.heap.size, 1, none⟩ = some (.slice a fs.length cap) := by rw [hW]; simp [go_sem]
  have k2 : W.cell? ⟨w.heap.size + 1, 0, none⟩ = some (.slice at0 ts.length ct) := by rw [hW]; simp [go_sem]
  have r1 : W.heap[w.heap.size + 1 + 1]? = some (.cells #[.int .i64 0, .slice none 0 0] 29 (0, 0)) := by rw [hW]; exact new3 _ _ _ _
  obtain ⟨ys, hys⟩ : ∃ ys, ys = fs.filter fun x => decide (x ∉ ts) := ⟨_, rfl⟩
  rw [← hys]
  have Hys := hid hys
  have hBW : Hid (Below w.heap.size w W) := hid (by rw [hW]; exact hB0)
  have R1 := hid r1
  have hWs : Hid (W.heap.size = w.heap.size + 3) := hid (by rw [hW]; simp)
  have HW := hid hW
  have HxW : Hid (SlI W W.heap.size a fs) := hid (by rw [HW.out]; exact Hx.out)
  have HtW : Hid (SlI W W.heap.size at0 ts) := hid (by rw [HW.out]; exact Ht.out)
  clear hB0 r1 hW hx ht hys
  go_enter Try.func62, Try.ntmps62
  go_wp2_with fail
  rw [← HW.out]
  refine (cw_any V a cap fs _ 93 _ ys ?_).mono ?_
  · intro W' hW1
    rw [Hys.out]
    refine fw_any V a cap fs W' 93 _ (fun x => decide (x ∉ ts)) (HxW.out.later hW1 hW1.size) hl (enters_of Try.func93 (by kernel_rfl) rfl) ?_
    intro W2 x hW2 hxm
    have hlt2 : w.heap.size + 1 < W.heap.size := by have := hWs.out; omega
    exact woWanted ts at0 ct _ x W2 ((hW2.cell (p := ⟨w.heap.size + 1, 0, none⟩) (Nat.lt_of_lt_of_le hlt2 hW1.size)).trans ((hW1.cell (p := ⟨w.heap.size + 1, 0, none⟩) hlt2).trans k2)) ((HtW.out.later hW1 hW1.size).later hW2 hW2.size) hlt
  rintro e w2 ⟨v, rfl, hr⟩
  obtain ⟨_, av, cv, rfl, _⟩ := ownsRow_slI hr.1
  have r2 := (hr.2.block _ (lt_get R1.out)).trans R1.out
  obtain ⟨c0, c1, f0, f1⟩ := two_of r2
  have R2 := hid r2
  clear r2
  go_wp2_with fail
  (try simp only [Exit.inBlock, Exit.then])
  have R3 := two_of (two_set R2.out (.int .i64 V) (.slice av ys.length cv))
  refine done_cx1 (p := 4) (by kernel_rfl) rfl rfl R3.1 R3.2.1 ⟨_, rfl, ?_⟩
  exact (hr.later hBW.out).set2 R2.out (by decide) (by omega) _ _

end Go.Proofs.Ytojnpacklcajpaa
