import Derived.Test.YtdifmnjheapjcabGen
/-! Numbers of vertices. -/
namespace Go.Proofs.Ytdifmnjheapjcab
open Go.RowKit


set_option maxHeartbeats 400000 in
theorem oc_any (f : Nat) (w : World) (hf : f < 64) :
    Calls Try.prog 52 #[.int .u64 (f : Int)] w fun e w' => e = .returned (.int .i64 (ones f : Int)) ∧ w = w' := by
  go_enter Try.func52, Try.ntmps52
  go_wp2
  go_ret
  refine ⟨ret_int ?_, rfl⟩
  clear w
  revert hf
  revert f
  decide +kernel

set_option maxHeartbeats 400000 in
theorem dim_any (f : Nat) (w : World) (hf : f < 64) :
    Calls Try.prog 31 #[.int .i64 (f : Int)] w fun e w' => e = .returned (.int .i64 ((ones f : Int) - 1)) ∧ w = w' := by
  have ho := ones_le f
  go_enter Try.func31, Try.ntmps31
  go_wp2_with fail
  refine (oc_any f _ hf).mono ?_
  rintro e w' ⟨rfl, rfl⟩
  go_wp2_with fail
  go_ret
  exact ⟨rfl, rfl⟩

end Go.Proofs.Ytdifmnjheapjcab
