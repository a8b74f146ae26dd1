import Derived.Test.YthmhdfhjjpfbfaaIsPair
/-! The critical faces, the program's. -/
namespace Go.Proofs.Ythmhdfhjjpfbfaa
open Go.RowKit

noncomputable def pcodeR (V : Int) (fs : List Int) (n : Nat) (ps : List Int) : Int := if isCB V fs then (if pairingB fs ps n then 0 else 2) else 1
def critL (fs ps : List Int) : List Int := fs.filter fun x => !decide (x ∈ ps)
noncomputable def criticalFacesR (V : Int) (fs : List Int) (n : Nat) (ps : List Int) : List Int × Int := if pcodeR V fs n ps = 0 then (critL fs ps, 0) else ([], pcodeR V fs n ps)

theorem pcode_cases (V : Int) (fs : List Int) (n : Nat) (ps : List Int) :
    (IsC V fs ∧ OkTo fs ps n ∧ pcodeR V fs n ps = 0 ∧ isPairingR V fs n ps = (true, 0) ∧ pairingB fs ps n = true) ∨ (IsC V fs ∧ ¬ OkTo fs ps n ∧ pcodeR V fs n ps = 2 ∧ isPairingR V fs n ps = (false, 0) ∧ pairingB fs ps n = false) ∨ (¬ IsC V fs ∧ pcodeR V fs n ps = 1 ∧ isPairingR V fs n ps = (false, 1)) := by
  unfold pcodeR isPairingR
  by_cases hC : IsC V fs
  · rw [isCB_true hC]
    by_cases ho : OkTo fs ps n
    · rw [pairingB_true ho]; exact .inl ⟨hC, ho, by simp, by simp, rfl⟩
    · rw [pairingB_false ho]; exact .inr (.inl ⟨hC, ho, by simp, by simp, rfl⟩)
  · rw [isCB_false hC]; exact .inr (.inr ⟨hC, by simp, by simp⟩)

set_option maxRecDepth 100000 in
set_option maxHeartbeats 1000000 in
theorem pcode_impl (V : Int) (a0 : Option Addr) (cap : Nat) (fs : List Int) (a1 : Option Addr) (n cap1 : Nat) (ps : List Int) (w : World) (hx : SlI w w.heap.size a0 fs) (hx1 : SlI w w.heap.size a1 ps) (hl : fs.length ≤ 1048576) (hp : ps.length = 2 * n) (hn : n ≤ 1048576) (hw : ∀ x ∈ ps, (Lit.int .i64 x).wf = true) :
    Calls Try.prog 77 #[.agg #[.int .i64 V, .slice a0 fs.length cap], .slice a1 n cap1] w fun e w' => e = .returned (.int .i64 (pcodeR V fs n ps)) ∧ Below w.heap.size w w' := by
  have hB0 : Below w.heap.size w (w.alloc (.cells #[.int .i64 V, .slice a0 fs.length cap] 28)) := (Below.refl _ w).alloc (Nat.le_refl _) _
  have HI := hid (implIsPairing V a0 cap fs a1 n cap1 ps _ (hx.later hB0 hB0.size) (hx1.later hB0 hB0.size) hl hp hn hw)
  clear hx hx1 hp hw
  rcases pcode_cases V fs n ps with ⟨_, _, h0, h1, _⟩ | ⟨_, _, h0, h1, _⟩ | ⟨_, h0, h1⟩
  all_goals
    rw [h1] at HI
    rw [h0]
    clear h0 h1
    go_enter Try.func77, Try.ntmps77
    go_wp2_with fail
    refine HI.out.mono ?_
    rintro e w1 ⟨rfl, hB1⟩
    go_wp2_with fail
    go_ret
    exact ⟨rfl, hB0.trans (hB1.mono (by simp))⟩


end Go.Proofs.Ythmhdfhjjpfbfaa
