import Derived.Test.YtmkknfdjoajpcaaSpecB
/-! The model's test whether something is a complex, at whatever comes in. -/
namespace Go.Proofs.Ytmkknfdjoajpcaa
open Go.RowKit

set_option maxHeartbeats 400000 in
theorem is_nil (V : Int) (a : Option Addr) (cap : Nat) (w : World) (h1 : 1 ≤ V) (h2 : V ≤ 6) :
    Calls Try.prog 49 #[.agg #[.int .i64 V, .slice a 0 cap]] w fun e w' => e = .returned (.bool true) ∧ Below w.heap.size w w' := by
  go_enter Try.func49, Try.ntmps49
  go_wp2_with (go_at_call 86; refine (in_yes _ _ _ _ h1 h2).mono ?_; rintro e w' ⟨rfl, rfl⟩)
  refine wp_loop_rounds 1 ?_; rw [rounds_succ]
  go_wp2
  refine wp_loop_rounds 1 ?_; rw [rounds_succ]
  go_wp2
  go_ret
  exact ⟨rfl, (Below.refl _ w).alloc (Nat.le_refl _) _⟩

/-- l01Is, whatever comes in. -/
theorem is_all (V : Int) (a : Option Addr) (cap : Nat) (fs : List Int) (w : World) (hx : SlI w w.heap.size a fs) (hl : fs.length ≤ 1048576) :
    Calls Try.prog 49 #[.agg #[.int .i64 V, .slice a fs.length cap]] w fun e w' => e = .returned (.bool (isCB V fs)) ∧ Below w.heap.size w w' := by
  by_cases hV : 1 ≤ V ∧ V ≤ 6
  · rcases hx with rfl | ⟨b, off, hb, rfl, hc⟩
    · exact (is_nil V a cap w hV.1 hV.2).mono fun _ _ ⟨he, hw⟩ => ⟨by rw [he, isCB_true (isC_nil hV.1 hV.2)], hw⟩
    · exact is_any V b off cap fs w hV.1 hV.2 hb hc hl
  · exact (is_no_range V a cap fs w hV).mono fun _ _ ⟨he, hw⟩ => ⟨by rw [he, isCB_false (fun h => hV ⟨h.lo, h.hi⟩)], hw⟩

theorem is_yes (V : Int) (a : Option Addr) (cap : Nat) (fs : List Int) (w : World) (hx : SlI w w.heap.size a fs) (hl : fs.length ≤ 1048576) (h : IsC V fs) :
    Calls Try.prog 49 #[.agg #[.int .i64 V, .slice a fs.length cap]] w fun e w' => e = .returned (.bool true) ∧ Below w.heap.size w w' :=
  (is_all V a cap fs w hx hl).mono fun _ _ ⟨he, hw⟩ => ⟨by rw [he, isCB_true h], hw⟩

theorem is_no (V : Int) (a : Option Addr) (cap : Nat) (fs : List Int) (w : World) (hx : SlI w w.heap.size a fs) (hl : fs.length ≤ 1048576) (h : ¬ IsC V fs) :
    Calls Try.prog 49 #[.agg #[.int .i64 V, .slice a fs.length cap]] w fun e w' => e = .returned (.bool false) ∧ Below w.heap.size w w' :=
  (is_all V a cap fs w hx hl).mono fun _ _ ⟨he, hw⟩ => ⟨by rw [he, isCB_false h], hw⟩


end Go.Proofs.Ytmkknfdjoajpcaa
