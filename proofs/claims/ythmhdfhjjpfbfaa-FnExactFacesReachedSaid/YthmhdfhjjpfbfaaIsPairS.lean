import Derived.Test.YthmhdfhjjpfbfaaIsPair
/-! The model's IsPairing. -/
namespace Go.Proofs.Ythmhdfhjjpfbfaa
open Go.RowKit

set_option maxRecDepth 100000 in
set_option maxHeartbeats 1000000 in
theorem pis_any (V : Int) (a : Option Addr) (cap : Nat) (fs : List Int) (a1 : Option Addr) (n c2 : Nat) (ps : List Int) (w : World) (hx : SlI w w.heap.size a fs) (hx1 : SlI w w.heap.size a1 ps) (hl : fs.length ≤ 1048576) (hf : ∀ x ∈ fs, 1 ≤ x ∧ x ≤ 63) (hp : ps.length = 2 * n) (hn : n ≤ 1048576) :
    Calls Try.prog 116 #[.agg #[.int .i64 V, .slice a fs.length cap], .slice a1 n c2] w fun e w' => e = .returned (.bool (pairingB fs ps n)) ∧ Below w.heap.size w w' := by
  rcases hx1 with rfl | ⟨b, off, hb, rfl, hc⟩
  · obtain rfl : n = 0 := by simp at hp; omega
    have He := hid (pairingB_true (fs := fs) (ps := []) (n := 0) (fun i hi => by omega))
    clear hp hf hx
    go_enter Try.func116, Try.ntmps116
    go_wp2
    refine wp_loop_rounds 1 ?_; rw [rounds_succ]
    go_wp2
    go_ret
    exact ⟨ret_bool He.out.symm, (Below.refl _ w).alloc (Nat.le_refl _) _⟩
  · exact pis_some V a cap fs b off n c2 ps w hx hl hf hb hc hp hn

end Go.Proofs.Ythmhdfhjjpfbfaa
