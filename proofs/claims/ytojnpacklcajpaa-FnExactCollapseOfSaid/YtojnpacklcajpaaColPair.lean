import Derived.Test.YtojnpacklcajpaaFreeFace
/-! CollapsePair, the program's. -/
namespace Go.Proofs.Ytojnpacklcajpaa
open Go.RowKit

/-- A pair in a block of its own, read as two integers. -/
theorem pair_slI {w : World} {b : Nat} {x y : Int} (h : w.heap[b]? = some (.cells #[.int .i64 x, .int .i64 y] 63 (0, 0))) : SlI w w.heap.size (some ⟨b, 0, none⟩) [x, y] := by
  refine .inr ⟨b, 0, lt_get h, rfl, fun i hi => ?_⟩
  have : i = 0 ∨ i = 1 := by simp at hi; omega
  rcases this with rfl | rfl <;> simp [World.cell?, h]

set_option maxRecDepth 100000 in
set_option maxHeartbeats 4000000 in
theorem implCollapsePair (V : Int) (a : Option Addr) (cap : Nat) (fs : List Int) (d : Int) (wd : (Lit.int .i64 d).wf = true) (w : World) (hx : SlI w w.heap.size a fs) (hl : fs.length ≤ 1048576) :
    Calls Try.prog 25 #[.agg #[.int .i64 V, .slice a fs.length cap], .int .i64 d] w fun e w' => ∃ v, e = .returned (.tuple #[.agg #[.int .i64 (colPairR V fs d).1, v], .int .i64 (colPairR V fs d).2.2]) ∧ Res w w' v (colPairR V fs d).2.1 := by
  have hB0 : Below w.heap.size w ((w.alloc (.cells #[.int .i64 V, .slice a fs.length cap] 29)).alloc (.cells #[.int .i64 0, .slice none 0 0] 29)) := ((Below.refl _ w).alloc (Nat.le_refl _) _).alloc (by simp) _
  have Hx := hid (hx.later hB0 (by simp <;> omega))
  have Heq := eq_pairF
  by_cases hC : IsC V fs
  · have Hf := hid hC.range63
    have HC := hid hC
    by_cases hd : d ∈ fs
    · have hdr := hC.range63 d hd
      have Hd := hid hd
      by_cases hg : freeG fs d.toNat = 0
      · refine cp_mono (show colPairR V fs d = (0, [], 5) by unfold colPairR; rw [isCB_true hC, if_pos rfl, if_pos hd, if_pos hg]) ?_
        have Hc := fpo_yes V a cap fs d _ Hx.out hl hC hd
        unfold fpOf at Hc
        rw [if_pos hg] at Hc
        have HCC := hid Hc
        clear hC hd Hc
        go_enter Try.func25, Try.ntmps25
        go_wp2_with fail
        refine HCC.out.mono ?_
        rintro e w1 ⟨rfl, hB1⟩
        have r1 : w1.heap[w.heap.size + 1]? = some (.cells #[.int .i64 0, .slice none 0 0] 29 (0, 0)) := (hB1.block _ (by simp <;> omega)).trans (new2 _ _ _)
        have hB01 := hB0.trans (hB1.mono (by simp <;> omega))
        have R1 := hid ((Below.heap_alloc w1 (.cells #[.int .i64 0, .int .i64 0] 63) _ (lt_get r1)).trans r1)
        obtain ⟨c0, c1, f0, f1⟩ := two_of R1.out
        clear r1
        go_wp2_with fail
        (try simp only [Exit.inBlock, Exit.then])
        have R3 := two_of (two_set R1.out (.int .i64 0) (.slice none 0 0))
        refine done_cx (p := 4) (u := 5) (by kernel_rfl) rfl rfl R3.1 R3.2.1 rfl ⟨_, rfl, ?_⟩
        exact (res_nil _ _ (hB01.alloc hB01.size _)).set2 R1.out (by decide) (by omega) _ _
      · refine cp_mono (show colPairR V fs d = (V, takeL fs d, 0) by unfold colPairR; rw [isCB_true hC, if_pos rfl, if_pos hd, if_neg hg]) ?_
        have Hc := fpo_yes V a cap fs d _ Hx.out hl hC hd
        unfold fpOf at Hc
        rw [if_neg hg] at Hc
        have HT := hid (take_free (p := (d, freeG fs d.toNat)) hC.range63 hd hg rfl)
        obtain ⟨G, hG⟩ : ∃ G, G = freeG fs d.toNat := ⟨_, rfl⟩
        obtain ⟨ys, hys⟩ : ∃ ys, ys = takeL fs d := ⟨_, rfl⟩
        rw [← hG] at Hc HT
        simp only at HT
        rw [← hys] at HT
        rw [← hys]
        have HCC := hid Hc
        have hd0 : (d == 0) = false := by simp; omega
        clear hC hd Hc hG hys hg
        go_enter Try.func25, Try.ntmps25
        go_wp2_with fail
        refine HCC.out.mono ?_
        rintro e w1 ⟨rfl, hB1⟩
        have q1 : w1.heap[w.heap.size]? = some (.cells #[.int .i64 V, .slice a fs.length cap] 29 (0, 0)) := (hB1.block _ (by simp <;> omega)).trans ((Below.heap_alloc _ _ _ (by simp)).trans (heap_alloc_new _ _))
        have r1 : w1.heap[w.heap.size + 1]? = some (.cells #[.int .i64 0, .slice none 0 0] 29 (0, 0)) := (hB1.block _ (by simp <;> omega)).trans (new2 _ _ _)
        have hB01 := hB0.trans (hB1.mono (by simp <;> omega))
        obtain ⟨w2, hw2⟩ : ∃ w2, w2 = w1.alloc (.cells #[.int .i64 d, .int .i64 G] 63) := ⟨_, rfl⟩
        have R1 := hid (show w2.heap[w.heap.size + 1]? = some (.cells #[.int .i64 0, .slice none 0 0] 29 (0, 0)) by rw [hw2]; exact (Below.heap_alloc w1 (.cells #[.int .i64 d, .int .i64 G] 63) _ (lt_get r1)).trans r1)
        have Q1 := hid (show w2.heap[w.heap.size]? = some (.cells #[.int .i64 V, .slice a fs.length cap] 29 (0, 0)) by rw [hw2]; exact (Below.heap_alloc w1 (.cells #[.int .i64 d, .int .i64 G] 63) _ (lt_get q1)).trans q1)
        have P1 := hid (show w2.heap[w1.heap.size]? = some (.cells #[.int .i64 d, .int .i64 G] 63 (0, 0)) by rw [hw2]; exact heap_alloc_new _ _)
        have HB2 := hid (show Below w.heap.size w w2 by rw [hw2]; exact hB01.alloc hB01.size _)
        obtain ⟨k0, k1, _, _⟩ := two_of Q1.out
        obtain ⟨p0, p1, _, _⟩ := two_of P1.out
        have HW2 := hid hw2
        clear r1 q1 hw2
        go_wp2_with fail
        rw [← HW2.out]
        have HxW := hid (hx.later HB2.out HB2.out.size)
        have HpW := hid (pair_slI P1.out)
        go_region_with (go_at_call 62; refine (wo_any V a cap fs _ 2 [d, G] w2.drew HxW.out HpW.out hl (by simp)).mono ?_; rintro e w3 ⟨v, rfl, hr⟩; rw [← HT.out] at hr; obtain ⟨_, av, cv, rfl, _⟩ := ownsRow_slI hr.1; have hrb : Below w2.heap.size w2 w3 := ⟨hr.2.os, hr.2.tape, hr.2.output, hr.2.size, hr.2.block⟩; have r3 := (hrb.block _ (lt_get R1.out)).trans R1.out; obtain ⟨c0, c1, f0, f1⟩ := two_of r3; have k03 := (hrb.cell (p := ⟨w.heap.size, 0, none⟩) (lt_get Q1.out)).trans k0; have k13 := (hrb.cell (p := ⟨w.heap.size, 1, none⟩) (lt_get Q1.out)).trans k1; have R3 := hid r3; clear r3 hrb)
        all_goals
          go_wp2_with fail
          (try simp only [Exit.inBlock, Exit.then])
          have R4 := two_of (two_set R3.out (.int .i64 V) (.slice av ys.length cv))
          refine done_cx (p := 4) (u := 5) (by kernel_rfl) rfl rfl R4.1 R4.2.1 rfl ⟨_, rfl, ?_⟩
          exact (Res.later hr ⟨HB2.out.os, HB2.out.tape, HB2.out.output, HB2.out.size, HB2.out.block⟩).set2 R3.out (by decide) (by omega) _ _
    · refine cp_mono (show colPairR V fs d = (0, [], 2) by unfold colPairR; rw [isCB_true hC, if_pos rfl, if_neg hd]) ?_
      have HCC := hid (fpo_no V a cap fs d _ Hx.out hl hC wd hd)
      clear hC
      go_enter Try.func25, Try.ntmps25
      go_wp2_with fail
      refine HCC.out.mono ?_
      rintro e w1 ⟨rfl, hB1⟩
      have r1 : w1.heap[w.heap.size + 1]? = some (.cells #[.int .i64 0, .slice none 0 0] 29 (0, 0)) := (hB1.block _ (by simp <;> omega)).trans (new2 _ _ _)
      have hB01 := hB0.trans (hB1.mono (by simp <;> omega))
      have R1 := hid ((Below.heap_alloc w1 (.cells #[.int .i64 0, .int .i64 0] 63) _ (lt_get r1)).trans r1)
      obtain ⟨c0, c1, f0, f1⟩ := two_of R1.out
      clear r1
      go_wp2_with fail
      (try simp only [Exit.inBlock, Exit.then])
      have R3 := two_of (two_set R1.out (.int .i64 0) (.slice none 0 0))
      refine done_cx (p := 4) (u := 5) (by kernel_rfl) rfl rfl R3.1 R3.2.1 rfl ⟨_, rfl, ?_⟩
      exact (res_nil _ _ (hB01.alloc hB01.size _)).set2 R1.out (by decide) (by omega) _ _
  · refine cp_mono (show colPairR V fs d = (0, [], 1) by unfold colPairR; rw [isCB_false hC, if_neg (by simp)]) ?_
    have HCC := hid (fpo_bad V a cap fs d _ Hx.out hl hC)
    go_enter Try.func25, Try.ntmps25
    go_wp2_with fail
    refine HCC.out.mono ?_
    rintro e w1 ⟨rfl, hB1⟩
    have r1 : w1.heap[w.heap.size + 1]? = some (.cells #[.int .i64 0, .slice none 0 0] 29 (0, 0)) := (hB1.block _ (by simp <;> omega)).trans (new2 _ _ _)
    have hB01 := hB0.trans (hB1.mono (by simp <;> omega))
    have R1 := hid ((Below.heap_alloc w1 (.cells #[.int .i64 0, .int .i64 0] 63) _ (lt_get r1)).trans r1)
    obtain ⟨c0, c1, f0, f1⟩ := two_of R1.out
    clear r1
    go_wp2_with fail
    (try simp only [Exit.inBlock, Exit.then])
    have R3 := two_of (two_set R1.out (.int .i64 0) (.slice none 0 0))
    refine done_cx (p := 4) (u := 5) (by kernel_rfl) rfl rfl R3.1 R3.2.1 rfl ⟨_, rfl, ?_⟩
    exact (res_nil _ _ (hB01.alloc hB01.size _)).set2 R1.out (by decide) (by omega) _ _

end Go.Proofs.Ytojnpacklcajpaa
