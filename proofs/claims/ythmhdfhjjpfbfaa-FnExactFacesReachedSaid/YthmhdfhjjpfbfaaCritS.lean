import Derived.Test.YthmhdfhjjpfbfaaCritI
import Derived.Test.YthmhdfhjjpfbfaaIsPairS
/-! The critical faces, the model's. -/
namespace Go.Proofs.Ythmhdfhjjpfbfaa
open Go.RowKit Go.Sort


set_option maxRecDepth 100000 in
set_option maxHeartbeats 1000000 in
theorem pcode_spec (V : Int) (a0 : Option Addr) (cap : Nat) (fs : List Int) (a1 : Option Addr) (n cap1 : Nat) (ps : List Int) (w : World) (hx : SlI w w.heap.size a0 fs) (hx1 : SlI w w.heap.size a1 ps) (hl : fs.length ≤ 1048576) (hp : ps.length = 2 * n) (hn : n ≤ 1048576) :
    Calls Try.prog 74 #[.agg #[.int .i64 V, .slice a0 fs.length cap], .slice a1 n cap1, .slice none 0 0] w fun e w' => e = .returned (.int .i64 (pcodeR V fs n ps)) ∧ Below w.heap.size w w' := by
  have hB0 : Below w.heap.size w (w.alloc (.cells #[.int .i64 V, .slice a0 fs.length cap] 28)) := (Below.refl _ w).alloc (Nat.le_refl _) _
  have Hx := hid (hx.later hB0 hB0.size)
  have Hx0 := hid hx
  have Hy := hid hx1
  clear hx hx1
  rcases pcode_cases V fs n ps with ⟨hC, _, h0, _, h1⟩ | ⟨hC, _, h0, _, h1⟩ | ⟨hC, h0, _⟩
  · rw [h0]
    have HC := hid hC
    clear hC h0
    go_enter Try.func74, Try.ntmps74
    go_wp2_with fail
    refine (is_yes V a0 cap fs _ Hx.out hl HC.out).mono ?_
    rintro e w1 ⟨rfl, hB1⟩
    have HB1 := hid (hB0.trans (hB1.mono (by simp)))
    have k0 : w1.cell? ⟨w.heap.size, 0, none⟩ = some (.int .i64 V) := (hB1.cell (p := ⟨w.heap.size, 0, none⟩) (by simp)).trans (by simp [go_sem])
    have k1 : w1.cell? ⟨w.heap.size, 1, none⟩ = some (.slice a0 fs.length cap) := (hB1.cell (p := ⟨w.heap.size, 1, none⟩) (by simp)).trans (by simp [go_sem])
    have HI := hid (pis_any V a0 cap fs a1 n cap1 ps w1 (Hx0.out.later HB1.out HB1.out.size) (Hy.out.later HB1.out HB1.out.size) hl HC.out.range63 hp hn)
    rw [h1] at HI
    clear hB0 hB1 h1 hp
    go_wp2_with fail
    refine HI.out.mono ?_
    rintro e w2 ⟨rfl, hB2⟩
    go_wp2_with fail
    refine wp_loop_rounds 1 ?_; rw [rounds_succ]
    go_wp2_with fail
    go_ret
    exact ⟨rfl, HB1.out.trans (hB2.mono HB1.out.size)⟩
  · rw [h0]
    have HC := hid hC
    clear hC h0
    go_enter Try.func74, Try.ntmps74
    go_wp2_with fail
    refine (is_yes V a0 cap fs _ Hx.out hl HC.out).mono ?_
    rintro e w1 ⟨rfl, hB1⟩
    have HB1 := hid (hB0.trans (hB1.mono (by simp)))
    have k0 : w1.cell? ⟨w.heap.size, 0, none⟩ = some (.int .i64 V) := (hB1.cell (p := ⟨w.heap.size, 0, none⟩) (by simp)).trans (by simp [go_sem])
    have k1 : w1.cell? ⟨w.heap.size, 1, none⟩ = some (.slice a0 fs.length cap) := (hB1.cell (p := ⟨w.heap.size, 1, none⟩) (by simp)).trans (by simp [go_sem])
    have HI := hid (pis_any V a0 cap fs a1 n cap1 ps w1 (Hx0.out.later HB1.out HB1.out.size) (Hy.out.later HB1.out HB1.out.size) hl HC.out.range63 hp hn)
    rw [h1] at HI
    clear hB0 hB1 h1 hp
    go_wp2_with fail
    refine HI.out.mono ?_
    rintro e w2 ⟨rfl, hB2⟩
    go_wp2_with fail
    go_ret
    exact ⟨rfl, HB1.out.trans (hB2.mono HB1.out.size)⟩
  · rw [h0]
    clear h0
    go_enter Try.func74, Try.ntmps74
    go_wp2_with fail
    refine (is_no V a0 cap fs _ Hx.out hl hC).mono ?_
    rintro e w1 ⟨rfl, hB1⟩
    go_wp2_with fail
    go_ret
    exact ⟨rfl, hB0.trans (hB1.mono (by simp))⟩


theorem criticalFacesR_len (V : Int) (fs : List Int) (n : Nat) (ps : List Int) (h : fs.length ≤ 1048576) (_hp : ps.length = 2 * n) (_hn : n ≤ 1048576) : (criticalFacesR V fs n ps).1.length ≤ 1048576 := by
  unfold criticalFacesR
  split
  · exact Nat.le_trans (List.length_filter_le _ _) h
  · simp

end Go.Proofs.Ythmhdfhjjpfbfaa
