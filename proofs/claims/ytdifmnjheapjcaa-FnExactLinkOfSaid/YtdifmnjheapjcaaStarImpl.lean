import Derived.Test.YtdifmnjheapjcaaStarOf
/-! StarOf, the program's. -/
namespace Go.Proofs.Ytdifmnjheapjcaa
open Go.RowKit

/-- The cells of a block of two, behind an alloc. -/
theorem two_alloc {W : World} {b : Nat} {x y : Value} {t : Nat} (h : W.heap[b]? = some (.cells #[x, y] t (0, 0))) : (∀ o, (W.alloc o).cell? ⟨b, 0, none⟩ = some x) ∧ (∀ o, (W.alloc o).cell? ⟨b, 1, none⟩ = some y) ∧ (∀ o, (W.alloc o).frozen? ⟨b, 0, none⟩ = false) ∧ (∀ o, (W.alloc o).frozen? ⟨b, 1, none⟩ = false) := by
  have h' : ∀ o, (W.alloc o).heap[b]? = some (.cells #[x, y] t (0, 0)) := fun o => (Below.heap_alloc _ o _ (lt_get h)).trans h
  exact ⟨fun o => (two_of (h' o)).1, fun o => (two_of (h' o)).2.1, fun o => (two_of (h' o)).2.2.1, fun o => (two_of (h' o)).2.2.2⟩

theorem starWanted (fs : List Int) (s : Nat) (hs : s < 64) (bm bd b n : Nat) (x : Int) (w : World) (hx0 : 1 ≤ x) (hx1 : x ≤ 63) (hm : w.cell? ⟨bm, 0, none⟩ = some (.map (some b))) (hd : w.cell? ⟨bd, 0, none⟩ = some (.int .i64 (s : Int))) (hM : MapW w b n fs) :
    Calls Try.prog 66 #[.int .i64 x, .pointer (some ⟨bm, 0, none⟩), .pointer (some ⟨bd, 0, none⟩)] w fun e w' => e = .returned (.bool (decide (((x.toNat ||| s : Nat) : Int) ∈ fs))) ∧ Below w.heap.size w w' := by
  obtain ⟨f, rfl⟩ : ∃ f : Nat, x = f := ⟨x.toNat, by omega⟩
  have hf : f < 64 := by omega
  rw [Int.toNat_natCast]
  have hor : bits BinOp.or IntKind.i64 (f : Int) (s : Int) = ((f ||| s : Nat) : Int) := (bits_nat .i64 6 (by decide) (fun n h0 h1 => by rw [IntKind.wrap_i64]; omega) f s (by omega) (by omega)).2
  have ho64 : f ||| s < 2 ^ 6 := Nat.or_lt_two_pow (by omega) (by omega)
  have hlook := lookup_known hM (p := ((f ||| s : Nat) : Int)) (WalkArith.wf_i64 (by omega))
  clear hM
  go_enter Try.func66, Try.ntmps66
  go_wp2_with fail
  go_ret
  exact ⟨rfl, Below.refl _ _⟩

set_option maxHeartbeats 1000000 in
theorem implStarOf (V : Int) (a : Option Addr) (cap : Nat) (fs : List Int) (d : Int) (wd : (Lit.int .i64 d).wf = true) (w : World) (hx : SlI w w.heap.size a fs) (hl : fs.length ≤ 1048576) :
    Calls Try.prog 37 #[.agg #[.int .i64 V, .slice a fs.length cap], .int .i64 d] w fun e w' => ∃ v, e = .returned (.tuple #[.agg #[.int .i64 (starOfR V fs d).1, v], .int .i64 (starOfR V fs d).2.2]) ∧ Res w w' v (starOfR V fs d).2.1 := by
  have hB0 : Below w.heap.size w (((w.alloc (.cells #[.int .i64 V, .slice a fs.length cap] 27)).alloc (.cells #[.int .i64 d] 2)).alloc (.cells #[.int .i64 0, .slice none 0 0] 27)) := (((Below.refl _ w).alloc (Nat.le_refl _) _).alloc (by simp) _).alloc (by simp <;> omega) _
  have Hx := hid (hx.later hB0 (by simp <;> omega))
  by_cases hC : IsC V fs
  · have Hf := hid hC.range63
    have HC := hid hC
    by_cases hd : d ∈ fs
    · refine cx_mono (show starOfR V fs d = (V, starL fs d, 0) by unfold starOfR; rw [isCB_true hC, if_pos rfl, if_pos hd]) ?_
      have hdr := hC.range63 d hd
      obtain ⟨s, rfl⟩ : ∃ s : Nat, d = s := ⟨d.toNat, by omega⟩
      have hs : s < 64 := by omega
      have Hd := hid hd
      clear hC hd wd
      go_enter Try.func37, Try.ntmps37
      go_wp2_with fail
      refine (fh_yes V a cap fs _ _ Hx.out hl HC.out Hd.out).mono ?_
      rintro e w1 ⟨b, rfl, ⟨n, hM⟩, hbw, hB1⟩
      have k0 : w1.cell? ⟨w.heap.size, 0, none⟩ = some (.int .i64 V) := (hB1.cell (p := ⟨w.heap.size, 0, none⟩) (by simp <;> omega)).trans (by simp [go_sem])
      have k1 : w1.cell? ⟨w.heap.size, 1, none⟩ = some (.slice a fs.length cap) := (hB1.cell (p := ⟨w.heap.size, 1, none⟩) (by simp <;> omega)).trans (by simp [go_sem])
      have k2 : w1.cell? ⟨w.heap.size + 1, 0, none⟩ = some (.int .i64 (s : Int)) := (hB1.cell (p := ⟨w.heap.size + 1, 0, none⟩) (by simp <;> omega)).trans (by simp [go_sem])
      have r1 : w1.heap[w.heap.size + 1 + 1]? = some (.cells #[.int .i64 0, .slice none 0 0] 27 (0, 0)) := (hB1.block _ (by simp <;> omega)).trans (new3 _ _ _ _)
      have hB01 := hB0.trans (hB1.mono (by simp <;> omega))
      have hx1 := hid (hx.later hB01 hB01.size)
      have R1 := hid r1
      have HM := hid hM
      have hlt := lt_get r1
      clear r1 hM hbw
      obtain ⟨W, hW⟩ : ∃ W, W = w1.alloc (.cells #[.map (some b)] 46) := ⟨_, rfl⟩
      have HW := hid hW
      have hWB : Hid (Below w1.heap.size w1 W) := hid (by rw [hW]; exact (Below.refl _ w1).alloc (Nat.le_refl _) _)
      have hWm : Hid (W.cell? ⟨w1.heap.size, 0, none⟩ = some (.map (some b)) ∧ w1.heap.size < W.heap.size) := hid (by rw [hW]; constructor <;> simp [go_sem])
      have j0 : ∀ (o : Obj), (w1.alloc o).cell? ⟨w.heap.size, 0, none⟩ = some (.int .i64 V) := cell_alloc_drew1 k0
      have j1 : ∀ (o : Obj), (w1.alloc o).cell? ⟨w.heap.size, 1, none⟩ = some (.slice a fs.length cap) := cell_alloc_drew1 k1
      clear hW k0 k1
      go_wp2_with fail
      rw [← HW.out]
      refine (cw_any V a cap fs _ 66 _ (starL fs s) ?_).mono ?_
      · intro W' hW'
        have hW1 := hWB.out.trans (hW'.mono hWB.out.size)
        refine fw_any2 V a cap fs W' 66 _ _ (fun x => decide (((x.toNat ||| s : Nat) : Int) ∈ fs)) (hx1.out.later hW1 hW1.size) hl (enters_of Try.func66 (by kernel_rfl) rfl) ?_
        intro W2 x hW2 hxm
        have := Hf.out x hxm
        have hs2 := hW1.size
        have hs3 := hW'.size
        have hm2 := hWm.out.2
        exact starWanted fs s hs _ _ b n x W2 this.1 this.2
          ((hW2.cell (p := ⟨w1.heap.size, 0, none⟩) (by show w1.heap.size < W'.heap.size; omega)).trans ((hW'.cell (p := ⟨w1.heap.size, 0, none⟩) hm2).trans hWm.out.1))
          ((hW2.cell (p := ⟨w.heap.size + 1, 0, none⟩) (by show w.heap.size + 1 < W'.heap.size; omega)).trans ((hW1.cell (p := ⟨w.heap.size + 1, 0, none⟩) (by show w.heap.size + 1 < w1.heap.size; omega)).trans k2))
          ((HM.out.later hW1).later hW2)
      rintro e w2 ⟨v, rfl, hr⟩
      obtain ⟨_, av, cv, rfl, _⟩ := ownsRow_slI hr.1
      have R1W := (hWB.out.block _ (lt_get R1.out)).trans R1.out
      have r2 := (hr.2.block _ (lt_get R1W)).trans R1W
      obtain ⟨c0, c1, f0, f1⟩ := two_of r2
      have R2 := hid r2
      clear r2 R1W
      go_wp2_with fail
      (try simp only [Exit.inBlock, Exit.then])
      have R3 := two_of (two_set R2.out (.int .i64 V) (.slice av (starL fs s).length cv))
      refine done_cx (p := 4) (u := 5) (by kernel_rfl) rfl rfl R3.1 R3.2.1 rfl ⟨_, rfl, ?_⟩
      exact ((hr.later hWB.out).later hB01).set2 R2.out (by decide) (by omega) _ _
    · refine cx_mono (show starOfR V fs d = (0, [], 2) by unfold starOfR; rw [isCB_true hC, if_pos rfl, if_neg hd]) ?_
      have Hd := hid hd
      clear hC hd
      go_enter Try.func37, Try.ntmps37
      go_wp2_with fail
      refine (fh_no V a cap fs _ _ Hx.out hl HC.out wd Hd.out).mono ?_
      rintro e w1 ⟨rfl, hB1⟩
      have r1 : w1.heap[w.heap.size + 1 + 1]? = some (.cells #[.int .i64 0, .slice none 0 0] 27 (0, 0)) := (hB1.block _ (by simp <;> omega)).trans (new3 _ _ _ _)
      have hB01 := hB0.trans (hB1.mono (by simp <;> omega))
      obtain ⟨c0, c1, f0, f1⟩ := two_alloc r1
      have R1 := hid r1
      clear r1
      go_wp2_with fail
      (try simp only [Exit.inBlock, Exit.then])
      have R2 := (Below.heap_alloc _ (.cells #[.map none] 46) _ (lt_get R1.out)).trans R1.out
      have R3 := two_of (two_set R2 (.int .i64 0) (.slice none 0 0))
      refine done_cx (p := 4) (u := 5) (by kernel_rfl) rfl rfl R3.1 R3.2.1 rfl ⟨_, rfl, ?_⟩
      exact (res_nil _ _ (hB01.alloc hB01.size _)).set2 R2 (by decide) (by omega) _ _
  · refine cx_mono (show starOfR V fs d = (0, [], 1) by unfold starOfR; rw [isCB_false hC, if_neg (by simp)]) ?_
    go_enter Try.func37, Try.ntmps37
    go_wp2_with fail
    refine (fh_bad V a cap fs _ _ Hx.out hl hC).mono ?_
    rintro e w1 ⟨rfl, hB1⟩
    have r1 : w1.heap[w.heap.size + 1 + 1]? = some (.cells #[.int .i64 0, .slice none 0 0] 27 (0, 0)) := (hB1.block _ (by simp <;> omega)).trans (new3 _ _ _ _)
    have hB01 := hB0.trans (hB1.mono (by simp <;> omega))
    obtain ⟨c0, c1, f0, f1⟩ := two_alloc r1
    have R1 := hid r1
    clear r1
    go_wp2_with fail
    (try simp only [Exit.inBlock, Exit.then])
    have R2 := (Below.heap_alloc _ (.cells #[.map none] 46) _ (lt_get R1.out)).trans R1.out
    have R3 := two_of (two_set R2 (.int .i64 0) (.slice none 0 0))
    refine done_cx (p := 4) (u := 5) (by kernel_rfl) rfl rfl R3.1 R3.2.1 rfl ⟨_, rfl, ?_⟩
    exact (res_nil _ _ (hB01.alloc hB01.size _)).set2 R2 (by decide) (by omega) _ _

end Go.Proofs.Ytdifmnjheapjcaa
