import Derived.Test.YtdifmnjheapjcaaOn
import Derived.Test.YtdifmnjheapjcaaMathE
/-! PartOn, the model's and the program's. -/
namespace Go.Proofs.Ytdifmnjheapjcaa
open Go.RowKit

/-- What PartOn hands back. -/
noncomputable def partOnR (V : Int) (fs : List Int) (s : Int) : Int × List Int × Int := if isCB V fs then (if 0 ≤ s ∧ s ≤ allV V then (V, onSet fs s, 0) else (0, [], 2)) else (0, [], 1)

theorem partOnR_len (V : Int) (fs : List Int) (s : Int) (h : fs.length ≤ 1048576) : (partOnR V fs s).2.1.length ≤ 1048576 := by
  unfold partOnR
  split
  · split
    · exact Nat.le_trans (List.length_filter_le _ _) h
    · simp
  · simp

set_option maxHeartbeats 1000000 in
theorem specPartOn (V : Int) (a : Option Addr) (cap : Nat) (fs : List Int) (d : Int) (w : World) (hx : SlI w w.heap.size a fs) (hl : fs.length ≤ 1048576) :
    Calls Try.prog 38 #[.agg #[.int .i64 V, .slice a fs.length cap], .int .i64 d] w fun e w' => ∃ v, e = .returned (.tuple #[.agg #[.int .i64 (partOnR V fs d).1, v], .int .i64 (partOnR V fs d).2.2]) ∧ Res w w' v (partOnR V fs d).2.1 := by
  have hB0 : Below w.heap.size w ((w.alloc (.cells #[.int .i64 V, .slice a fs.length cap] 27)).alloc (.cells #[.int .i64 0, .slice none 0 0] 27)) := ((Below.refl _ w).alloc (Nat.le_refl _) _).alloc (by simp) _
  have Hx := hid (hx.later hB0 (by simp <;> omega))
  by_cases hC : IsC V fs
  · have hV1 := hC.lo
    have hV6 := hC.hi
    have ha := allV_le hV6
    have Hf := hid hC.range63
    have HC := hid hC
    by_cases hd : 0 ≤ d ∧ d ≤ allV V
    · refine cx_mono (show partOnR V fs d = (V, onSet fs d, 0) by unfold partOnR; rw [isCB_true hC, if_pos rfl, if_pos hd]) ?_
      obtain ⟨hd0, hd1⟩ := hd
      obtain ⟨s, rfl⟩ : ∃ s : Nat, d = s := ⟨d.toNat, by omega⟩
      have hs : s < 64 := by omega
      clear hC
      go_enter Try.func38, Try.ntmps38
      go_wp2_with fail
      refine (is_yes V a cap fs _ Hx.out hl HC.out).mono ?_
      rintro e w1 ⟨rfl, hB1⟩
      have k0 : w1.cell? ⟨w.heap.size, 0, none⟩ = some (.int .i64 V) := (hB1.cell (p := ⟨w.heap.size, 0, none⟩) (by simp <;> omega)).trans (by simp [go_sem])
      have k1 : w1.cell? ⟨w.heap.size, 1, none⟩ = some (.slice a fs.length cap) := (hB1.cell (p := ⟨w.heap.size, 1, none⟩) (by simp <;> omega)).trans (by simp [go_sem])
      have r1 : w1.heap[w.heap.size + 1]? = some (.cells #[.int .i64 0, .slice none 0 0] 27 (0, 0)) := (hB1.block _ (by simp <;> omega)).trans (new2 _ _ _)
      have hB01 := hB0.trans (hB1.mono (by simp <;> omega))
      have hx1 := hid (hx.later hB01 hB01.size)
      have R1 := hid r1
      clear r1
      go_wp2_with (first
        | (go_at_call 47; refine (in_yes _ _ _ _ hd0 hd1).mono ?_; rintro e w' ⟨rfl, rfl⟩)
        | (go_at_call 48; refine (all_any V _ (by omega) hV6).mono ?_; rintro e w' ⟨rfl, rfl⟩))
      refine (on_any V a cap fs s _ hx1.out hl Hf.out hs).mono ?_
      rintro e w2 ⟨v, rfl, hr⟩
      obtain ⟨_, av, cv, rfl, _⟩ := ownsRow_slI hr.1
      have r2 := (hr.2.block _ (lt_get R1.out)).trans R1.out
      obtain ⟨c0, c1, f0, f1⟩ := two_of r2
      have R2 := hid r2
      clear r2
      go_wp2_with fail
      (try simp only [Exit.inBlock, Exit.then])
      have R3 := two_of (two_set R2.out (.int .i64 V) (.slice av (onSet fs s).length cv))
      refine done_cx (p := 4) (u := 5) (by kernel_rfl) rfl rfl R3.1 R3.2.1 rfl ⟨_, rfl, ?_⟩
      exact (hr.later hB01).set2 R2.out (by decide) (by omega) _ _
    · refine cx_mono (show partOnR V fs d = (0, [], 2) by unfold partOnR; rw [isCB_true hC, if_pos rfl, if_neg hd]) ?_
      clear hC
      go_enter Try.func38, Try.ntmps38
      go_wp2_with fail
      refine (is_yes V a cap fs _ Hx.out hl HC.out).mono ?_
      rintro e w1 ⟨rfl, hB1⟩
      have k0 : w1.cell? ⟨w.heap.size, 0, none⟩ = some (.int .i64 V) := (hB1.cell (p := ⟨w.heap.size, 0, none⟩) (by simp <;> omega)).trans (by simp [go_sem])
      have r1 : w1.heap[w.heap.size + 1]? = some (.cells #[.int .i64 0, .slice none 0 0] 27 (0, 0)) := (hB1.block _ (by simp <;> omega)).trans (new2 _ _ _)
      have hB01 := hB0.trans (hB1.mono (by simp <;> omega))
      obtain ⟨c0, c1, f0, f1⟩ := two_of r1
      have R1 := hid r1
      clear r1
      go_wp2_with (first
        | (go_at_call 47; refine (in_no _ _ _ _ hd).mono ?_; rintro e w' ⟨rfl, rfl⟩)
        | (go_at_call 48; refine (all_any V _ (by omega) hV6).mono ?_; rintro e w' ⟨rfl, rfl⟩))
      (try simp only [Exit.inBlock, Exit.then])
      have R3 := two_of (two_set R1.out (.int .i64 0) (.slice none 0 0))
      refine done_cx (p := 4) (u := 5) (by kernel_rfl) rfl rfl R3.1 R3.2.1 rfl ⟨_, rfl, ?_⟩
      exact (res_nil _ _ hB01).set2 R1.out (by decide) (by omega) _ _
  · refine cx_mono (show partOnR V fs d = (0, [], 1) by unfold partOnR; rw [isCB_false hC, if_neg (by simp)]) ?_
    go_enter Try.func38, Try.ntmps38
    go_wp2_with fail
    refine (is_no V a cap fs _ Hx.out hl hC).mono ?_
    rintro e w1 ⟨rfl, hB1⟩
    have r1 : w1.heap[w.heap.size + 1]? = some (.cells #[.int .i64 0, .slice none 0 0] 27 (0, 0)) := (hB1.block _ (by simp <;> omega)).trans (new2 _ _ _)
    have hB01 := hB0.trans (hB1.mono (by simp <;> omega))
    obtain ⟨c0, c1, f0, f1⟩ := two_of r1
    have R1 := hid r1
    clear r1
    go_wp2_with fail
    (try simp only [Exit.inBlock, Exit.then])
    have R3 := two_of (two_set R1.out (.int .i64 0) (.slice none 0 0))
    refine done_cx (p := 4) (u := 5) (by kernel_rfl) rfl rfl R3.1 R3.2.1 rfl ⟨_, rfl, ?_⟩
    exact (res_nil _ _ hB01).set2 R1.out (by decide) (by omega) _ _

theorem onWanted (s : Nat) (hs : s < 64) (bd : Nat) (x : Int) (w : World) (hx0 : 1 ≤ x) (hx1 : x ≤ 63) (hd : w.cell? ⟨bd, 0, none⟩ = some (.int .i64 (s : Int))) :
    Calls Try.prog 68 #[.int .i64 x, .pointer (some ⟨bd, 0, none⟩)] w fun e w' => e = .returned (.bool (decide (x.toNat &&& s = x.toNat))) ∧ Below w.heap.size w w' := by
  obtain ⟨f, rfl⟩ : ∃ f : Nat, x = f := ⟨x.toNat, by omega⟩
  have hf : f < 64 := by omega
  rw [Int.toNat_natCast]
  have He := hid (andNot_fin f hf s hs)
  go_enter Try.func68, Try.ntmps68
  go_wp2_with fail
  go_ret
  exact ⟨ret_bool He.out, Below.refl _ _⟩

set_option maxHeartbeats 1000000 in
theorem implPartOn (V : Int) (a : Option Addr) (cap : Nat) (fs : List Int) (d : Int) (w : World) (hx : SlI w w.heap.size a fs) (hl : fs.length ≤ 1048576) :
    Calls Try.prog 39 #[.agg #[.int .i64 V, .slice a fs.length cap], .int .i64 d] w fun e w' => ∃ v, e = .returned (.tuple #[.agg #[.int .i64 (partOnR V fs d).1, v], .int .i64 (partOnR V fs d).2.2]) ∧ Res w w' v (partOnR V fs d).2.1 := by
  have hB0 : Below w.heap.size w (((w.alloc (.cells #[.int .i64 V, .slice a fs.length cap] 27)).alloc (.cells #[.int .i64 d] 2)).alloc (.cells #[.int .i64 0, .slice none 0 0] 27)) := (((Below.refl _ w).alloc (Nat.le_refl _) _).alloc (by simp) _).alloc (by simp <;> omega) _
  have Hx := hid (hx.later hB0 (by simp <;> omega))
  by_cases hC : IsC V fs
  · have hV1 := hC.lo
    have hV6 := hC.hi
    have ha := allV_le hV6
    have Hf := hid hC.range63
    have HC := hid hC
    by_cases hd : 0 ≤ d ∧ d ≤ allV V
    · refine cx_mono (show partOnR V fs d = (V, onSet fs d, 0) by unfold partOnR; rw [isCB_true hC, if_pos rfl, if_pos hd]) ?_
      obtain ⟨hd0, hd1⟩ := hd
      obtain ⟨s, rfl⟩ : ∃ s : Nat, d = s := ⟨d.toNat, by omega⟩
      have hs : s < 64 := by omega
      have g1 : decide ((s : Int) < 0) = false := decide_eq_false (by omega)
      have g2 : decide (allV V < (s : Int)) = false := decide_eq_false (by omega)
      clear hC
      go_enter Try.func39, Try.ntmps39
      go_wp2_with fail
      refine (isc_yes V a cap fs _ Hx.out hl HC.out).mono ?_
      rintro e w1 ⟨rfl, hB1⟩
      have k0 : w1.cell? ⟨w.heap.size, 0, none⟩ = some (.int .i64 V) := (hB1.cell (p := ⟨w.heap.size, 0, none⟩) (by simp <;> omega)).trans (by simp [go_sem])
      have k1 : w1.cell? ⟨w.heap.size, 1, none⟩ = some (.slice a fs.length cap) := (hB1.cell (p := ⟨w.heap.size, 1, none⟩) (by simp <;> omega)).trans (by simp [go_sem])
      have k2 : w1.cell? ⟨w.heap.size + 1, 0, none⟩ = some (.int .i64 (s : Int)) := (hB1.cell (p := ⟨w.heap.size + 1, 0, none⟩) (by simp <;> omega)).trans (by simp [go_sem])
      have r1 : w1.heap[w.heap.size + 1 + 1]? = some (.cells #[.int .i64 0, .slice none 0 0] 27 (0, 0)) := (hB1.block _ (by simp <;> omega)).trans (new3 _ _ _ _)
      have hB01 := hB0.trans (hB1.mono (by simp <;> omega))
      have hx1 := hid (hx.later hB01 hB01.size)
      have R1 := hid r1
      clear r1
      go_wp2_with fail
      go_quiet ((go_at_call 45; exact quiet_of_eq (av_any V _ (by omega) hV6)))
      go_wp2_with fail
      have hdr : Below w1.heap.size w1 (w1.drewN nq) := ⟨rfl, rfl, rfl, Nat.le_refl _, fun _ _ => rfl⟩
      refine (cw_any V a cap fs _ 68 _ (onSet fs s) ?_).mono ?_
      · intro W' hW'
        have hW1 := hdr.trans (hW'.mono hdr.size)
        refine fw_any V a cap fs W' 68 _ (fun x => decide (x.toNat &&& s = x.toNat)) (hx1.out.later hW1 hW1.size) hl (enters_of Try.func68 (by kernel_rfl) rfl) ?_
        intro W2 x hW2 hxm
        have := Hf.out x hxm
        have hlt : w.heap.size + 1 < w1.heap.size := by have := lt_get R1.out; omega
        exact onWanted s hs _ x W2 this.1 this.2 ((hW2.cell (p := ⟨w.heap.size + 1, 0, none⟩) (Nat.lt_of_lt_of_le hlt hW1.size)).trans ((hW1.cell (p := ⟨w.heap.size + 1, 0, none⟩) hlt).trans k2))
      rintro e w2 ⟨v, rfl, hr⟩
      obtain ⟨_, av, cv, rfl, _⟩ := ownsRow_slI hr.1
      have r2 := (hr.2.block _ (lt_get (W := w1.drewN nq) R1.out)).trans R1.out
      obtain ⟨c0, c1, f0, f1⟩ := two_of r2
      have R2 := hid r2
      clear r2
      go_wp2_with fail
      (try simp only [Exit.inBlock, Exit.then])
      have R3 := two_of (two_set R2.out (.int .i64 V) (.slice av (onSet fs s).length cv))
      refine done_cx (p := 4) (u := 5) (by kernel_rfl) rfl rfl R3.1 R3.2.1 rfl ⟨_, rfl, ?_⟩
      exact ((hr.later hdr).later hB01).set2 R2.out (by decide) (by omega) _ _
    · refine cx_mono (show partOnR V fs d = (0, [], 2) by unfold partOnR; rw [isCB_true hC, if_pos rfl, if_neg hd]) ?_
      clear hC
      go_enter Try.func39, Try.ntmps39
      go_wp2_with fail
      refine (isc_yes V a cap fs _ Hx.out hl HC.out).mono ?_
      rintro e w1 ⟨rfl, hB1⟩
      have k0 : w1.cell? ⟨w.heap.size, 0, none⟩ = some (.int .i64 V) := (hB1.cell (p := ⟨w.heap.size, 0, none⟩) (by simp <;> omega)).trans (by simp [go_sem])
      have k2 : w1.cell? ⟨w.heap.size + 1, 0, none⟩ = some (.int .i64 d) := (hB1.cell (p := ⟨w.heap.size + 1, 0, none⟩) (by simp <;> omega)).trans (by simp [go_sem])
      have r1 : w1.heap[w.heap.size + 1 + 1]? = some (.cells #[.int .i64 0, .slice none 0 0] 27 (0, 0)) := (hB1.block _ (by simp <;> omega)).trans (new3 _ _ _ _)
      have hB01 := hB0.trans (hB1.mono (by simp <;> omega))
      obtain ⟨c0, c1, f0, f1⟩ := two_of r1
      have R1 := hid r1
      clear r1
      by_cases hd0 : d < 0
      · have g1 : decide (d < 0) = true := decide_eq_true hd0
        clear hd0 hd
        go_wp2_with fail
        go_quiet (fail)
        go_wp2_with fail
        have hdr : Below w1.heap.size w1 (w1.drewN nq) := ⟨rfl, rfl, rfl, Nat.le_refl _, fun _ _ => rfl⟩
        (try simp only [Exit.inBlock, Exit.then])
        have R3 := two_of (two_set (W := w1.drewN nq) R1.out (.int .i64 0) (.slice none 0 0))
        refine done_cx (p := 4) (u := 5) (by kernel_rfl) rfl rfl R3.1 R3.2.1 rfl ⟨_, rfl, ?_⟩
        exact (res_nil _ _ (hB01.trans (hdr.mono hB01.size))).set2 (W := w1.drewN nq) R1.out (by decide) (by omega) _ _
      · have g1 : decide (d < 0) = false := decide_eq_false hd0
        have g2 : decide (allV V < d) = true := decide_eq_true (by omega)
        clear hd0 hd
        go_wp2_with fail
        go_quiet ((go_at_call 45; exact quiet_of_eq (av_any V _ (by omega) hV6)))
        go_wp2_with fail
        have hdr : Below w1.heap.size w1 (w1.drewN nq) := ⟨rfl, rfl, rfl, Nat.le_refl _, fun _ _ => rfl⟩
        (try simp only [Exit.inBlock, Exit.then])
        have R3 := two_of (two_set (W := w1.drewN nq) R1.out (.int .i64 0) (.slice none 0 0))
        refine done_cx (p := 4) (u := 5) (by kernel_rfl) rfl rfl R3.1 R3.2.1 rfl ⟨_, rfl, ?_⟩
        exact (res_nil _ _ (hB01.trans (hdr.mono hB01.size))).set2 (W := w1.drewN nq) R1.out (by decide) (by omega) _ _
  · refine cx_mono (show partOnR V fs d = (0, [], 1) by unfold partOnR; rw [isCB_false hC, if_neg (by simp)]) ?_
    go_enter Try.func39, Try.ntmps39
    go_wp2_with fail
    refine (isc_no V a cap fs _ Hx.out hl hC).mono ?_
    rintro e w1 ⟨rfl, hB1⟩
    have r1 : w1.heap[w.heap.size + 1 + 1]? = some (.cells #[.int .i64 0, .slice none 0 0] 27 (0, 0)) := (hB1.block _ (by simp <;> omega)).trans (new3 _ _ _ _)
    have hB01 := hB0.trans (hB1.mono (by simp <;> omega))
    obtain ⟨c0, c1, f0, f1⟩ := two_of r1
    have R1 := hid r1
    clear r1
    go_wp2_with fail
    (try simp only [Exit.inBlock, Exit.then])
    have R3 := two_of (two_set R1.out (.int .i64 0) (.slice none 0 0))
    refine done_cx (p := 4) (u := 5) (by kernel_rfl) rfl rfl R3.1 R3.2.1 rfl ⟨_, rfl, ?_⟩
    exact (res_nil _ _ hB01).set2 R1.out (by decide) (by omega) _ _

end Go.Proofs.Ytdifmnjheapjcaa
