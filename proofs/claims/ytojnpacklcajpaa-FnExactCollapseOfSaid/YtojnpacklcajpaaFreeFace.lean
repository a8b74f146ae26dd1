import Derived.Test.YtojnpacklcajpaaFreeQ
import Derived.Test.YtojnpacklcajpaaFreeS
import Derived.Test.YtojnpacklcajpaaWo
import Derived.Test.YtojnpacklcajpaaColM
import Derived.Deep.RegionWith
/-! IsFreeFace and CollapsePair, the program's and the model's. -/
namespace Go.Proofs.Ytojnpacklcajpaa
open Go.RowKit

/-- What IsFreeFace hands back. -/
noncomputable def isFreeR (V : Int) (fs : List Int) (f : Int) : Bool × Int := if isCB V fs then (if f ∈ fs then (decide (freeG fs f.toNat ≠ 0), 0) else (false, 2)) else (false, 1)
/-- What CollapsePair hands back. -/
noncomputable def colPairR (V : Int) (fs : List Int) (f : Int) : Int × List Int × Int := if isCB V fs then (if f ∈ fs then (if freeG fs f.toNat = 0 then (0, [], 5) else (V, takeL fs f, 0)) else (0, [], 2)) else (0, [], 1)
theorem colPairR_len (V : Int) (fs : List Int) (f : Int) (h : fs.length ≤ 1048576) : (colPairR V fs f).2.1.length ≤ 1048576 := by
  unfold colPairR takeL
  split
  · split
    · split
      · simp
      · exact Nat.le_trans (List.length_filter_le _ _) h
    · simp
  · simp

theorem freeFace_mono {P : Program} {f : FuncId} {args : Array Value} {w : World} {r : Bool × Int} {b : Bool} {c : Int} (hr : r = (b, c))
    (h : Calls P f args w fun e w' => e = .returned (.tuple #[.bool b, .int .i64 c]) ∧ Below w.heap.size w w') : Calls P f args w fun e w' => e = .returned (.tuple #[.bool r.1, .int .i64 r.2]) ∧ Below w.heap.size w w' := by
  subst hr; exact h

set_option maxRecDepth 100000 in
set_option maxHeartbeats 2000000 in
theorem specIsFreeFace (V : Int) (a0 : Option Addr) (cap : Nat) (fs : List Int) (d : Int) (w : World) (hx : SlI w w.heap.size a0 fs) (hl : fs.length ≤ 1048576) (_wd : (Lit.int .i64 d).wf = true) :
    Calls Try.prog 44 #[.agg #[.int .i64 V, .slice a0 fs.length cap], .int .i64 d] w fun e w' => e = .returned (.tuple #[.bool (isFreeR V fs d).1, .int .i64 (isFreeR V fs d).2]) ∧ Below w.heap.size w w' := by
  have hB0 : Below w.heap.size w (w.alloc (.cells #[.int .i64 V, .slice a0 fs.length cap] 29)) := (Below.refl _ w).alloc (Nat.le_refl _) _
  have Hx := hid (hx.later hB0 hB0.size)
  by_cases hC : IsC V fs
  · by_cases hd : d ∈ fs
    · refine freeFace_mono (show isFreeR V fs d = (decide (freeG fs d.toNat ≠ 0), 0) by unfold isFreeR; rw [isCB_true hC, if_pos rfl, if_pos hd]) ?_
      have HC := hid hC
      have Hd := hid hd
      have Hf := hid hC.range63
      have hdr := hC.range63 d hd
      obtain ⟨f, rfl⟩ : ∃ f : Nat, d = f := ⟨d.toNat, by omega⟩
      have hf64 : f < 64 := by omega
      rw [Int.toNat_natCast]
      have hgr := freeG_rng (f := f) Hf.out
      clear hC hd
      go_enter Try.func44, Try.ntmps44
      go_wp2_with fail
      refine (face_yes V a0 cap fs _ _ Hx.out hl HC.out Hd.out).mono ?_
      rintro e w1 ⟨rfl, hB1⟩
      have k0 : w1.cell? ⟨w.heap.size, 0, none⟩ = some (.int .i64 V) := (hB1.cell (p := ⟨w.heap.size, 0, none⟩) (by simp <;> omega)).trans (by simp [go_sem])
      have k1 : w1.cell? ⟨w.heap.size, 1, none⟩ = some (.slice a0 fs.length cap) := (hB1.cell (p := ⟨w.heap.size, 1, none⟩) (by simp <;> omega)).trans (by simp [go_sem])
      have hB01 := hB0.trans (hB1.mono (by simp <;> omega))
      have hx1 := hid (hx.later hB01 hB01.size)
      go_wp2_with fail
      refine (free_any V a0 cap fs f _ hx1.out hl Hf.out hf64).mono ?_
      rintro e w2 ⟨rfl, hB2⟩
      have HB := hid (hB01.trans (hB2.mono hB01.size))
      have He : Hid (decide (0 < freeG fs f) = decide (freeG fs f ≠ 0)) := hid (by rw [decide_eq_decide]; omega)
      go_wp2_with fail
      go_ret2
      exact ⟨by rw [← He.out]; rfl, HB.out⟩
    · refine freeFace_mono (show isFreeR V fs d = (false, 2) by unfold isFreeR; rw [isCB_true hC, if_pos rfl, if_neg hd]) ?_
      go_enter Try.func44, Try.ntmps44
      go_wp2_with fail
      refine (face_no V a0 cap fs _ _ Hx.out hl hC hd).mono ?_
      rintro e w1 ⟨rfl, hB1⟩
      go_wp2_with fail
      go_ret2
      exact ⟨rfl, hB0.trans (hB1.mono (by simp <;> omega))⟩
  · refine freeFace_mono (show isFreeR V fs d = (false, 1) by unfold isFreeR; rw [isCB_false hC, if_neg (by simp)]) ?_
    go_enter Try.func44, Try.ntmps44
    go_wp2_with fail
    refine (face_bad V a0 cap fs _ _ Hx.out hl hC).mono ?_
    rintro e w1 ⟨rfl, hB1⟩
    go_wp2_with fail
    go_ret2
    exact ⟨rfl, hB0.trans (hB1.mono (by simp <;> omega))⟩

/-- freePairOf in one. -/
noncomputable def fpR (V : Int) (fs : List Int) (f : Int) : (Int × Int) × Int := if isCB V fs then (if f ∈ fs then (fpOf fs f, 0) else ((0, 0), 2)) else ((0, 0), 1)
theorem fpo_any (V : Int) (a0 : Option Addr) (cap : Nat) (fs : List Int) (f : Int) (w : World) (hx : SlI w w.heap.size a0 fs) (hl : fs.length ≤ 1048576) (wd : (Lit.int .i64 f).wf = true) :
    Calls Try.prog 61 #[.agg #[.int .i64 V, .slice a0 fs.length cap], .int .i64 f] w fun e w' => e = .returned (.tuple #[.agg #[.int .i64 (fpR V fs f).1.1, .int .i64 (fpR V fs f).1.2], .int .i64 (fpR V fs f).2]) ∧ Below w.heap.size w w' := by
  unfold fpR
  by_cases hC : IsC V fs
  · rw [isCB_true hC, if_pos rfl]
    by_cases hd : f ∈ fs
    · rw [if_pos hd]; exact fpo_yes V a0 cap fs f w hx hl hC hd
    · rw [if_neg hd]; exact fpo_no V a0 cap fs f w hx hl hC wd hd
  · rw [isCB_false hC, if_neg (by simp)]; exact fpo_bad V a0 cap fs f w hx hl hC

theorem fpR_free (V : Int) (fs : List Int) (f : Int) : isFreeR V fs f = ((!((fpR V fs f).1.1 == 0) || !((fpR V fs f).1.2 == 0)), (fpR V fs f).2) := by
  unfold isFreeR fpR
  by_cases hC : IsC V fs
  · rw [isCB_true hC, if_pos rfl, if_pos rfl]
    have hr := hC.range63
    by_cases hd : f ∈ fs
    · rw [if_pos hd, if_pos hd]
      have := hr f hd
      unfold fpOf
      by_cases h0 : freeG fs f.toNat = 0
      · rw [if_pos h0]; simp [h0]
      · rw [if_neg h0]; simp [h0]
    · rw [if_neg hd, if_neg hd]; simp
  · rw [isCB_false hC, if_neg (by simp), if_neg (by simp)]; simp

set_option maxRecDepth 100000 in
set_option maxHeartbeats 2000000 in
theorem implIsFreeFace (V : Int) (a0 : Option Addr) (cap : Nat) (fs : List Int) (d : Int) (w : World) (hx : SlI w w.heap.size a0 fs) (hl : fs.length ≤ 1048576) (wd : (Lit.int .i64 d).wf = true) :
    Calls Try.prog 45 #[.agg #[.int .i64 V, .slice a0 fs.length cap], .int .i64 d] w fun e w' => e = .returned (.tuple #[.bool (isFreeR V fs d).1, .int .i64 (isFreeR V fs d).2]) ∧ Below w.heap.size w w' := by
  have hB0 : Below w.heap.size w (w.alloc (.cells #[.int .i64 V, .slice a0 fs.length cap] 29)) := (Below.refl _ w).alloc (Nat.le_refl _) _
  have Hx := hid (hx.later hB0 hB0.size)
  refine freeFace_mono (fpR_free V fs d) ?_
  obtain ⟨R, hR⟩ : ∃ R, R = fpR V fs d := ⟨_, rfl⟩
  have Hc := fpo_any V a0 cap fs d _ Hx.out hl wd
  rw [← hR] at Hc ⊢
  obtain ⟨⟨x, y⟩, c⟩ := R
  simp only at Hc ⊢
  have HC := hid Hc
  clear Hc hR
  have Heq := eq_pairF
  go_enter Try.func45, Try.ntmps45
  go_wp2_with fail
  refine HC.out.mono ?_
  rintro e w1 ⟨rfl, hB1⟩
  have HB := hid (hB0.trans (hB1.mono hB0.size))
  go_wp2_with fail
  go_ret2
  exact ⟨rfl, HB.out.alloc HB.out.size _⟩

theorem cp_mono {P : Program} {f : FuncId} {args : Array Value} {w : World} {r : Int × List Int × Int} {U : Int} {xs : List Int} {c : Int} (hr : r = (U, xs, c))
    (h : Calls P f args w fun e w' => ∃ v, e = .returned (.tuple #[.agg #[.int .i64 U, v], .int .i64 c]) ∧ Res w w' v xs) : Calls P f args w fun e w' => ∃ v, e = .returned (.tuple #[.agg #[.int .i64 r.1, v], .int .i64 r.2.2]) ∧ Res w w' v r.2.1 := by
  subst hr; exact h

set_option maxRecDepth 100000 in
set_option maxHeartbeats 2000000 in
theorem specCollapsePair (V : Int) (a : Option Addr) (cap : Nat) (fs : List Int) (d : Int) (_wd : (Lit.int .i64 d).wf = true) (w : World) (hx : SlI w w.heap.size a fs) (hl : fs.length ≤ 1048576) :
    Calls Try.prog 24 #[.agg #[.int .i64 V, .slice a fs.length cap], .int .i64 d] w fun e w' => ∃ v, e = .returned (.tuple #[.agg #[.int .i64 (colPairR V fs d).1, v], .int .i64 (colPairR V fs d).2.2]) ∧ Res w w' v (colPairR V fs d).2.1 := by
  have hB0 : Below w.heap.size w ((w.alloc (.cells #[.int .i64 V, .slice a fs.length cap] 29)).alloc (.cells #[.int .i64 0, .slice none 0 0] 29)) := ((Below.refl _ w).alloc (Nat.le_refl _) _).alloc (by simp) _
  have Hx := hid (hx.later hB0 (by simp <;> omega))
  by_cases hC : IsC V fs
  · have Hf := hid hC.range63
    have HC := hid hC
    by_cases hd : d ∈ fs
    · have hdr := hC.range63 d hd
      obtain ⟨s, rfl⟩ : ∃ s : Nat, d = s := ⟨d.toNat, by omega⟩
      have hs : s < 64 := by omega
      have Hd := hid hd
      by_cases hg : freeG fs s = 0
      · refine cp_mono (show colPairR V fs (s : Int) = (0, [], 5) by unfold colPairR; rw [isCB_true hC, if_pos rfl, if_pos hd, Int.toNat_natCast, if_pos hg]) ?_
        clear hC hd
        go_enter Try.func24, Try.ntmps24
        go_wp2_with fail
        refine (face_yes V a cap fs _ _ Hx.out hl HC.out Hd.out).mono ?_
        rintro e w1 ⟨rfl, hB1⟩
        have k0 : w1.cell? ⟨w.heap.size, 0, none⟩ = some (.int .i64 V) := (hB1.cell (p := ⟨w.heap.size, 0, none⟩) (by simp <;> omega)).trans (by simp [go_sem])
        have k1 : w1.cell? ⟨w.heap.size, 1, none⟩ = some (.slice a fs.length cap) := (hB1.cell (p := ⟨w.heap.size, 1, none⟩) (by simp <;> omega)).trans (by simp [go_sem])
        have r1 : w1.heap[w.heap.size + 1]? = some (.cells #[.int .i64 0, .slice none 0 0] 29 (0, 0)) := (hB1.block _ (by simp <;> omega)).trans (new2 _ _ _)
        have hB01 := hB0.trans (hB1.mono (by simp <;> omega))
        have hx1 := hid (hx.later hB01 hB01.size)
        have R1 := hid r1
        clear r1
        go_wp2_with fail
        refine (free_any V a cap fs s _ hx1.out hl Hf.out hs).mono ?_
        rintro e w2 ⟨rfl, hB2⟩
        rw [hg]
        have r2 := (hB2.block _ (lt_get R1.out)).trans R1.out
        obtain ⟨c0, c1, f0, f1⟩ := two_of r2
        have R2 := hid r2
        clear r2
        go_wp2_with fail
        (try simp only [Exit.inBlock, Exit.then])
        have R3 := two_of (two_set R2.out (.int .i64 0) (.slice none 0 0))
        refine done_cx (p := 4) (u := 5) (by kernel_rfl) rfl rfl R3.1 R3.2.1 rfl ⟨_, rfl, ?_⟩
        exact (res_nil _ _ (hB01.trans (hB2.mono hB01.size))).set2 R2.out (by decide) (by omega) _ _
      · refine cp_mono (show colPairR V fs (s : Int) = (V, takeL fs s, 0) by unfold colPairR; rw [isCB_true hC, if_pos rfl, if_pos hd, Int.toNat_natCast, if_neg hg]) ?_
        have hg0 : (freeG fs s == 0) = false := by simpa using hg
        clear hC hd
        go_enter Try.func24, Try.ntmps24
        go_wp2_with fail
        refine (face_yes V a cap fs _ _ Hx.out hl HC.out Hd.out).mono ?_
        rintro e w1 ⟨rfl, hB1⟩
        have k0 : w1.cell? ⟨w.heap.size, 0, none⟩ = some (.int .i64 V) := (hB1.cell (p := ⟨w.heap.size, 0, none⟩) (by simp <;> omega)).trans (by simp [go_sem])
        have k1 : w1.cell? ⟨w.heap.size, 1, none⟩ = some (.slice a fs.length cap) := (hB1.cell (p := ⟨w.heap.size, 1, none⟩) (by simp <;> omega)).trans (by simp [go_sem])
        have r1 : w1.heap[w.heap.size + 1]? = some (.cells #[.int .i64 0, .slice none 0 0] 29 (0, 0)) := (hB1.block _ (by simp <;> omega)).trans (new2 _ _ _)
        have q1 : w1.heap[w.heap.size]? = some (.cells #[.int .i64 V, .slice a fs.length cap] 29 (0, 0)) := (hB1.block _ (by simp <;> omega)).trans ((Below.heap_alloc _ _ _ (by simp)).trans (heap_alloc_new _ _))
        have hB01 := hB0.trans (hB1.mono (by simp <;> omega))
        have hx1 := hid (hx.later hB01 hB01.size)
        have R1 := hid r1
        have Q1 := hid q1
        clear r1 q1
        go_wp2_with fail
        refine (free_any V a cap fs s _ hx1.out hl Hf.out hs).mono ?_
        rintro e w2 ⟨rfl, hB2⟩
        have r2 := (hB2.block _ (lt_get R1.out)).trans R1.out
        obtain ⟨c0, c1, f0, f1⟩ := two_of r2
        obtain ⟨j0, j1, _, _⟩ := two_of ((hB2.block _ (lt_get Q1.out)).trans Q1.out)
        have hB02 := hB01.trans (hB2.mono hB01.size)
        have hx2 := hid (hx.later hB02 hB02.size)
        have R2 := hid r2
        clear r2 k0 k1
        go_wp2_with fail
        refine (take_any V a cap fs s _ hx2.out hl Hf.out hs).mono ?_
        rintro e w3 ⟨v, rfl, hr⟩
        obtain ⟨_, av, cv, rfl, _⟩ := ownsRow_slI hr.1
        have r3 := (hr.2.block _ (lt_get R2.out)).trans R2.out
        obtain ⟨d0, d1, e0, e1⟩ := two_of r3
        have R3 := hid r3
        clear r3
        go_wp2_with fail
        (try simp only [Exit.inBlock, Exit.then])
        have R4 := two_of (two_set R3.out (.int .i64 V) (.slice av (takeL fs s).length cv))
        refine done_cx (p := 4) (u := 5) (by kernel_rfl) rfl rfl R4.1 R4.2.1 rfl ⟨_, rfl, ?_⟩
        exact (hr.later hB02).set2 R3.out (by decide) (by omega) _ _
    · refine cp_mono (show colPairR V fs d = (0, [], 2) by unfold colPairR; rw [isCB_true hC, if_pos rfl, if_neg hd]) ?_
      clear hC
      go_enter Try.func24, Try.ntmps24
      go_wp2_with fail
      refine (face_no V a cap fs _ _ Hx.out hl HC.out hd).mono ?_
      rintro e w1 ⟨rfl, hB1⟩
      have r1 : w1.heap[w.heap.size + 1]? = some (.cells #[.int .i64 0, .slice none 0 0] 29 (0, 0)) := (hB1.block _ (by simp <;> omega)).trans (new2 _ _ _)
      have hB01 := hB0.trans (hB1.mono (by simp <;> omega))
      obtain ⟨c0, c1, f0, f1⟩ := two_of r1
      have R1 := hid r1
      clear r1
      go_wp2_with fail
      (try simp only [Exit.inBlock, Exit.then])
      have R3 := two_of (two_set R1.out (.int .i64 0) (.slice none 0 0))
      refine done_cx (p := 4) (u := 5) (by kernel_rfl) rfl rfl R3.1 R3.2.1 rfl ⟨_, rfl, ?_⟩
      exact (res_nil _ _ hB01).set2 R1.out (by decide) (by omega) _ _
  · refine cp_mono (show colPairR V fs d = (0, [], 1) by unfold colPairR; rw [isCB_false hC, if_neg (by simp)]) ?_
    go_enter Try.func24, Try.ntmps24
    go_wp2_with fail
    refine (face_bad V a cap fs _ _ Hx.out hl hC).mono ?_
    rintro e w1 ⟨rfl, hB1⟩
    have r1 : w1.heap[w.heap.size + 1]? = some (.cells #[.int .i64 0, .slice none 0 0] 29 (0, 0)) := (hB1.block _ (by simp <;> omega)).trans (new2 _ _ _)
    have hB01 := hB0.trans (hB1.mono (by simp <;> omega))
    obtain ⟨c0, c1, f0, f1⟩ := two_of r1
    have R1 := hid r1
    clear r1
    go_wp2_with fail
    (try simp only [Exit.inBlock, Exit.then])
    have R3 := two_of (two_set R1.out (.int .i64 0) (.slice none 0 0))
    refine done_cx (p := 4) (u := 5) (by kernel_rfl) rfl rfl R3.1 R3.2.1 rfl ⟨_, rfl, ?_⟩
    exact (res_nil _ _ hB01).set2 R1.out (by decide) (by omega) _ _

end Go.Proofs.Ytojnpacklcajpaa
