import Derived.Test.YthmhdfhjjpfbfaaFacesOf
import Derived.Test.YthmhdfhjjpfbfaaCx
import Derived.Test.YthmhdfhjjpfbfaaHaving
/-! The faces of a dimension: the program's facesOfDimension. -/
namespace Go.Proofs.Ythmhdfhjjpfbfaa
open Go.RowKit

theorem fodWanted (d : Int) (bd : Nat) (x : Int) (w : World) (hx0 : 1 ≤ x) (hx1 : x ≤ 63) (hd : w.cell? ⟨bd, 0, none⟩ = some (.int .i64 d)) :
    Calls Try.prog 144 #[.int .i64 x, .pointer (some ⟨bd, 0, none⟩)] w fun e w' => e = .returned (.bool (decide ((ones x.toNat : Int) = d + 1))) ∧ Below w.heap.size w w' := by
  obtain ⟨f, rfl⟩ : ∃ f : Nat, x = f := ⟨x.toNat, by omega⟩
  have hf : f < 64 := by omega
  rw [Int.toNat_natCast]
  have ho := ones_le f
  have He : Hid (((ones f : Int) - 1 == d) = decide ((ones f : Int) = d + 1)) := hid (by rw [Bool.eq_iff_iff]; simp; omega)
  go_enter Try.func144, Try.ntmps144
  go_wp2_with fail
  go_quiet ((go_at_call 56; exact quiet_of_eq (dim_any f _ hf)))
  go_wp2_with fail
  go_ret
  exact ⟨ret_bool He.out, ⟨rfl, rfl, rfl, Nat.le_refl _, fun _ _ => rfl⟩⟩

set_option maxRecDepth 100000 in
set_option maxHeartbeats 1000000 in
theorem fod_any (V : Int) (a : Option Addr) (cap : Nat) (fs : List Int) (d : Int) (w : World) (hx : SlI w w.heap.size a fs) (hl : fs.length ≤ 1048576) (hf : ∀ x ∈ fs, 1 ≤ x ∧ x ≤ 63) :
    Calls Try.prog 125 #[.agg #[.int .i64 V, .slice a fs.length cap], .int .i64 d] w fun e w' => ∃ v, e = .returned v ∧ Res w w' v (ofDim fs d) := by
  have hB0 : Below w.heap.size w ((w.alloc (.cells #[.int .i64 V, .slice a fs.length cap] 28)).alloc (.cells #[.int .i64 d] 2)) := ((Below.refl _ w).alloc (Nat.le_refl _) _).alloc (by simp) _
  have e1 : ((w.alloc (.cells #[.int .i64 V, .slice a fs.length cap] 28)).alloc (.cells #[.int .i64 d] 2)).heap[w.heap.size + 1]? = some (.cells #[.int .i64 d] 2 (0, 0)) := new2 _ _ _
  have HFW := hid (fw_any V a cap fs _ 144 (.pointer (some ⟨w.heap.size + 1, 0, none⟩)) (fun x => decide ((ones x.toNat : Int) = d + 1)) (hx.later hB0 hB0.size) hl (enters_of Try.func144 (by kernel_rfl) rfl) (fun W' x hW' hxm => fodWanted d _ x W' (hf x hxm).1 (hf x hxm).2 ((hW'.cell (p := ⟨w.heap.size + 1, 0, none⟩) (lt_of_get e1)).trans (box_cell e1).1)))
  clear hx hf e1
  go_enter Try.func125, Try.ntmps125
  go_wp2_with fail
  refine HFW.out.mono ?_
  rintro e w2 ⟨v, rfl, hr⟩
  go_wp2_with fail
  go_ret
  exact ⟨v, rfl, hr.later hB0⟩

end Go.Proofs.Ythmhdfhjjpfbfaa
