import Derived.Test.YtojnpacklcajpaaTakeFace
/-! DeleteVertex, the model's and the program's; the program's withoutVertex. -/
namespace Go.Proofs.Ytojnpacklcajpaa
open Go.RowKit

/-- The faces without a vertex. -/
def delL (fs : List Int) (v : Nat) : List Int := takeL fs (2 ^ v : Nat)

/-- What DeleteVertex hands back. -/
noncomputable def delVR (V : Int) (fs : List Int) (v : Int) : Int × List Int × Int := if isCB V fs then (if 0 ≤ v ∧ v < V then (V, delL fs v.toNat, 0) else (0, [], 2)) else (0, [], 1)

theorem delVR_len (V : Int) (fs : List Int) (v : Int) (h : fs.length ≤ 1048576) : (delVR V fs v).2.1.length ≤ 1048576 := by
  unfold delVR delL takeL
  split
  · split
    · exact Nat.le_trans (List.length_filter_le _ _) h
    · simp
  · simp

theorem has_bit : ∀ x : Fin 64, ∀ v : Fin 6, (bits BinOp.and IntKind.i64 ((x.val : Int) / 2 ^ v.val) 1 == 0) = decide (¬ x.val &&& 2 ^ v.val = 2 ^ v.val) := by decide +kernel
theorem pow_lt6 {v : Nat} (h : v < 6) : 2 ^ v < 64 := by
  have : v = 0 ∨ v = 1 ∨ v = 2 ∨ v = 3 ∨ v = 4 ∨ v = 5 := by omega
  rcases this with rfl | rfl | rfl | rfl | rfl | rfl <;> decide

set_option maxHeartbeats 1000000 in
theorem specDeleteVertex (V : Int) (a : Option Addr) (cap : Nat) (fs : List Int) (d : Int) (_wd : (Lit.int .i64 d).wf = true) (w : World) (hx : SlI w w.heap.size a fs) (hl : fs.length ≤ 1048576) :
    Calls Try.prog 38 #[.agg #[.int .i64 V, .slice a fs.length cap], .int .i64 d] w fun e w' => ∃ v, e = .returned (.tuple #[.agg #[.int .i64 (delVR V fs d).1, v], .int .i64 (delVR V fs d).2.2]) ∧ Res w w' v (delVR V fs d).2.1 := by
  have hB0 : Below w.heap.size w ((w.alloc (.cells #[.int .i64 V, .slice a fs.length cap] 29)).alloc (.cells #[.int .i64 0, .slice none 0 0] 29)) := ((Below.refl _ w).alloc (Nat.le_refl _) _).alloc (by simp) _
  have Hx := hid (hx.later hB0 (by simp <;> omega))
  by_cases hC : IsC V fs
  · have Hf := hid hC.range63
    have HC := hid hC
    have hV : IntKind.i64.wrap (V - 1) = V - 1 := by rw [IntKind.wrap_i64 (V - 1)] <;> (have := hC.lo; have := hC.hi; omega)
    by_cases hd : 0 ≤ d ∧ d < V
    · refine cx_mono (show delVR V fs d = (V, delL fs d.toNat, 0) by unfold delVR; rw [isCB_true hC, if_pos rfl, if_pos hd]) ?_
      obtain ⟨s, rfl⟩ : ∃ s : Nat, d = s := ⟨d.toNat, by omega⟩
      have hs : s < 6 := by have := hC.hi; omega
      have hs1 : (s : Int) ≤ V - 1 := by omega
      clear hC hd
      go_enter Try.func38, Try.ntmps38
      go_wp2_with fail
      refine (is_yes V a cap fs _ Hx.out hl HC.out).mono ?_
      rintro e w1 ⟨rfl, hB1⟩
      have k0 : w1.cell? ⟨w.heap.size, 0, none⟩ = some (.int .i64 V) := (hB1.cell (p := ⟨w.heap.size, 0, none⟩) (by simp <;> omega)).trans (by simp [go_sem])
      have k1 : w1.cell? ⟨w.heap.size, 1, none⟩ = some (.slice a fs.length cap) := (hB1.cell (p := ⟨w.heap.size, 1, none⟩) (by simp <;> omega)).trans (by simp [go_sem])
      have r1 : w1.heap[w.heap.size + 1]? = some (.cells #[.int .i64 0, .slice none 0 0] 29 (0, 0)) := (hB1.block _ (by simp <;> omega)).trans (new2 _ _ _)
      have hB01 := hB0.trans (hB1.mono (by simp <;> omega))
      have hx1 := hid (hx.later hB01 hB01.size)
      have R1 := hid r1
      clear r1
      go_wp2_with (go_at_call 69; refine (in_yes _ _ _ _ (by omega) (by omega)).mono ?_; rintro e w' ⟨rfl, rfl⟩)
      have hp := pow_wrap (v := s) (by omega)
      have hp := pow_wrap (v := s) (by omega)
      have hs64 := pow_lt6 hs
      rw [hp]
      refine (take_any V a cap fs (2 ^ s) _ hx1.out hl Hf.out hs64).mono ?_
      rintro e w2 ⟨v, rfl, hr⟩
      obtain ⟨_, av, cv, rfl, _⟩ := ownsRow_slI hr.1
      have r2 := (hr.2.block _ (lt_get R1.out)).trans R1.out
      obtain ⟨c0, c1, f0, f1⟩ := two_of r2
      have R2 := hid r2
      clear r2
      go_wp2_with fail
      (try simp only [Exit.inBlock, Exit.then])
      have R3 := two_of (two_set R2.out (.int .i64 V) (.slice av (takeL fs (2 ^ s : Nat)).length cv))
      refine done_cx (p := 4) (u := 5) (by kernel_rfl) rfl rfl R3.1 R3.2.1 rfl ⟨_, rfl, ?_⟩
      exact (hr.later hB01).set2 R2.out (by decide) (by omega) _ _
    · refine cx_mono (show delVR V fs d = (0, [], 2) by unfold delVR; rw [isCB_true hC, if_pos rfl, if_neg hd]) ?_
      clear hC
      go_enter Try.func38, Try.ntmps38
      go_wp2_with fail
      refine (is_yes V a cap fs _ Hx.out hl HC.out).mono ?_
      rintro e w1 ⟨rfl, hB1⟩
      have k0 : w1.cell? ⟨w.heap.size, 0, none⟩ = some (.int .i64 V) := (hB1.cell (p := ⟨w.heap.size, 0, none⟩) (by simp <;> omega)).trans (by simp [go_sem])
      have r1 : w1.heap[w.heap.size + 1]? = some (.cells #[.int .i64 0, .slice none 0 0] 29 (0, 0)) := (hB1.block _ (by simp <;> omega)).trans (new2 _ _ _)
      have hB01 := hB0.trans (hB1.mono (by simp <;> omega))
      obtain ⟨c0, c1, f0, f1⟩ := two_of r1
      have R1 := hid r1
      clear r1
      go_wp2_with (go_at_call 69; refine (in_no _ _ _ _ (by omega)).mono ?_; rintro e w' ⟨rfl, rfl⟩)
      (try simp only [Exit.inBlock, Exit.then])
      have R3 := two_of (two_set R1.out (.int .i64 0) (.slice none 0 0))
      refine done_cx (p := 4) (u := 5) (by kernel_rfl) rfl rfl R3.1 R3.2.1 rfl ⟨_, rfl, ?_⟩
      exact (res_nil _ _ hB01).set2 R1.out (by decide) (by omega) _ _
  · refine cx_mono (show delVR V fs d = (0, [], 1) by unfold delVR; rw [isCB_false hC, if_neg (by simp)]) ?_
    go_enter Try.func38, Try.ntmps38
    go_wp2_with fail
    refine (is_no V a cap fs _ Hx.out hl hC).mono ?_
    rintro e w1 ⟨rfl, hB1⟩
    have r1 : w1.heap[w.heap.size + 1]? = some (.cells #[.int .i64 0, .slice none 0 0] 29 (0, 0)) := (hB1.block _ (by simp <;> omega)).trans (new2 _ _ _)
    have hB01 := hB0.trans (hB1.mono (by simp <;> omega))
    obtain ⟨c0, c1, f0, f1⟩ := two_of r1
    have R1 := hid r1
    clear r1
    go_wp2_with fail
    (try simp only [Exit.inBlock, Exit.then])
    have R3 := two_of (two_set R1.out (.int .i64 0) (.slice none 0 0))
    refine done_cx (p := 4) (u := 5) (by kernel_rfl) rfl rfl R3.1 R3.2.1 rfl ⟨_, rfl, ?_⟩
    exact (res_nil _ _ hB01).set2 R1.out (by decide) (by omega) _ _

theorem delWanted (s : Nat) (hs : s < 6) (bd : Nat) (x : Int) (w : World) (hx0 : 1 ≤ x) (hx1 : x ≤ 63) (hd : w.cell? ⟨bd, 0, none⟩ = some (.int .i64 (s : Int))) :
    Calls Try.prog 102 #[.int .i64 x, .pointer (some ⟨bd, 0, none⟩)] w fun e w' => e = .returned (.bool (decide (¬ x.toNat &&& (2 ^ s : Nat) = (2 ^ s : Nat)))) ∧ Below w.heap.size w w' := by
  obtain ⟨f, rfl⟩ : ∃ f : Nat, x = f := ⟨x.toNat, by omega⟩
  have hf : f < 64 := by omega
  rw [Int.toNat_natCast]
  have He := hid (has_bit ⟨f, hf⟩ ⟨s, hs⟩)
  have hs0 : ¬ ((s : Int) < 0) := by omega
  go_enter Try.func102, Try.ntmps102
  go_wp2_with fail
  go_ret
  exact ⟨ret_bool (He.out.trans (by simp)), Below.refl _ _⟩

set_option maxHeartbeats 1000000 in
/-- The program's withoutVertex. -/
theorem withoutV_any (V : Int) (a : Option Addr) (cap : Nat) (fs : List Int) (s : Nat) (w : World) (hx : SlI w w.heap.size a fs) (hl : fs.length ≤ 1048576) (hf : ∀ x ∈ fs, 1 ≤ x ∧ x ≤ 63) (hs : s < 6) :
    Calls Try.prog 70 #[.agg #[.int .i64 V, .slice a fs.length cap], .int .i64 (s : Int)] w fun e w' => ∃ v, e = .returned (.agg #[.int .i64 V, v]) ∧ Res w w' v (delL fs s) := by
  have hB0 : Below w.heap.size w (((w.alloc (.cells #[.int .i64 V, .slice a fs.length cap] 29)).alloc (.cells #[.int .i64 (s : Int)] 2)).alloc (.cells #[.int .i64 0, .slice none 0 0] 29)) := (((Below.refl _ w).alloc (Nat.le_refl _) _).alloc (by simp) _).alloc (by simp <;> omega) _
  have Hx := hid (hx.later hB0 (by simp <;> omega))
  obtain ⟨W, hW⟩ : ∃ W, W = ((w.alloc (.cells #[.int .i64 V, .slice a fs.length cap] 29)).alloc (.cells #[.int .i64 (s : Int)] 2)).alloc (.cells #[.int .i64 0, .slice none 0 0] 29) := ⟨_, rfl⟩
  have k0 : W.cell? ⟨w.heap.size, 0, none⟩ = some (.int .i64 V) := by rw [hW]; simp [go_sem]
  have k1 : W.cell? ⟨w.heap.size, 1, none⟩ = some (.slice a fs.length cap) := by rw [hW]; simp [go_sem]
  have k2 : W.cell? ⟨w.heap.size + 1, 0, none⟩ = some (.int .i64 (s : Int)) := by rw [hW]; simp [go_sem]
  have r1 : W.heap[w.heap.size + 1 + 1]? = some (.cells #[.int .i64 0, .slice none 0 0] 29 (0, 0)) := by rw [hW]; exact new3 _ _ _ _
  have hBW : Hid (Below w.heap.size w W) := hid (by rw [hW]; exact hB0)
  have R1 := hid r1
  have Hf := hid hf
  have hWs : Hid (W.heap.size = w.heap.size + 3) := hid (by rw [hW]; simp)
  have HW := hid hW
  have HxW : Hid (SlI W W.heap.size a fs) := hid (by rw [HW.out]; exact Hx.out)
  clear hf hB0 r1 hW
  go_enter Try.func70, Try.ntmps70
  go_wp2_with fail
  rw [← HW.out]
  refine (cw_any V a cap fs _ 102 _ (delL fs s) ?_).mono ?_
  · intro W' hW1
    refine fw_any V a cap fs W' 102 _ (fun x => decide (¬ x.toNat &&& (2 ^ s : Nat) = (2 ^ s : Nat))) (HxW.out.later hW1 hW1.size) hl (enters_of Try.func102 (by kernel_rfl) rfl) ?_
    intro W2 x hW2 hxm
    have := Hf.out x hxm
    have hlt : w.heap.size + 1 < W.heap.size := by have := hWs.out; omega
    exact delWanted s hs _ x W2 this.1 this.2 ((hW2.cell (p := ⟨w.heap.size + 1, 0, none⟩) (Nat.lt_of_lt_of_le hlt hW1.size)).trans ((hW1.cell (p := ⟨w.heap.size + 1, 0, none⟩) hlt).trans k2))
  rintro e w2 ⟨v, rfl, hr⟩
  obtain ⟨_, av, cv, rfl, _⟩ := ownsRow_slI hr.1
  have r2 := (hr.2.block _ (lt_get R1.out)).trans R1.out
  obtain ⟨c0, c1, f0, f1⟩ := two_of r2
  have R2 := hid r2
  clear r2
  go_wp2_with fail
  (try simp only [Exit.inBlock, Exit.then])
  have R3 := two_of (two_set R2.out (.int .i64 V) (.slice av (delL fs s).length cv))
  refine done_cx1 (p := 4) (by kernel_rfl) rfl rfl R3.1 R3.2.1 ⟨_, rfl, ?_⟩
  exact (hr.later hBW.out).set2 R2.out (by decide) (by omega) _ _

set_option maxHeartbeats 1000000 in
theorem implDeleteVertex (V : Int) (a : Option Addr) (cap : Nat) (fs : List Int) (d : Int) (_wd : (Lit.int .i64 d).wf = true) (w : World) (hx : SlI w w.heap.size a fs) (hl : fs.length ≤ 1048576) :
    Calls Try.prog 39 #[.agg #[.int .i64 V, .slice a fs.length cap], .int .i64 d] w fun e w' => ∃ v, e = .returned (.tuple #[.agg #[.int .i64 (delVR V fs d).1, v], .int .i64 (delVR V fs d).2.2]) ∧ Res w w' v (delVR V fs d).2.1 := by
  have hB0 : Below w.heap.size w ((w.alloc (.cells #[.int .i64 V, .slice a fs.length cap] 29)).alloc (.cells #[.int .i64 0, .slice none 0 0] 29)) := ((Below.refl _ w).alloc (Nat.le_refl _) _).alloc (by simp) _
  have Hx := hid (hx.later hB0 (by simp <;> omega))
  by_cases hC : IsC V fs
  · have Hf := hid hC.range63
    have HC := hid hC
    by_cases hd : 0 ≤ d ∧ d < V
    · refine cx_mono (show delVR V fs d = (V, delL fs d.toNat, 0) by unfold delVR; rw [isCB_true hC, if_pos rfl, if_pos hd]) ?_
      obtain ⟨s, rfl⟩ : ∃ s : Nat, d = s := ⟨d.toNat, by omega⟩
      have hs : s < 6 := by have := hC.hi; omega
      have hd0 : ¬ ((s : Int) < 0) := by omega
      have hd1 : ¬ (V ≤ (s : Int)) := by omega
      clear hC hd
      go_enter Try.func39, Try.ntmps39
      go_wp2_with fail
      refine (isc_yes V a cap fs _ Hx.out hl HC.out).mono ?_
      rintro e w1 ⟨rfl, hB1⟩
      have k0 : w1.cell? ⟨w.heap.size, 0, none⟩ = some (.int .i64 V) := (hB1.cell (p := ⟨w.heap.size, 0, none⟩) (by simp <;> omega)).trans (by simp [go_sem])
      have k1 : w1.cell? ⟨w.heap.size, 1, none⟩ = some (.slice a fs.length cap) := (hB1.cell (p := ⟨w.heap.size, 1, none⟩) (by simp <;> omega)).trans (by simp [go_sem])
      have r1 : w1.heap[w.heap.size + 1]? = some (.cells #[.int .i64 0, .slice none 0 0] 29 (0, 0)) := (hB1.block _ (by simp <;> omega)).trans (new2 _ _ _)
      have hB01 := hB0.trans (hB1.mono (by simp <;> omega))
      have hx1 := hid (hx.later hB01 hB01.size)
      have R1 := hid r1
      clear r1
      go_wp2_with fail
      refine (withoutV_any V a cap fs s _ hx1.out hl Hf.out hs).mono ?_
      rintro e w2 ⟨v, rfl, hr⟩
      obtain ⟨_, av, cv, rfl, _⟩ := ownsRow_slI hr.1
      have r2 := (hr.2.block _ (lt_get R1.out)).trans R1.out
      obtain ⟨c0, c1, f0, f1⟩ := two_of r2
      have R2 := hid r2
      clear r2
      go_wp2_with fail
      (try simp only [Exit.inBlock, Exit.then])
      have R3 := two_of (two_set R2.out (.int .i64 V) (.slice av (delL fs s).length cv))
      refine done_cx (p := 4) (u := 5) (by kernel_rfl) rfl rfl R3.1 R3.2.1 rfl ⟨_, rfl, ?_⟩
      exact (hr.later hB01).set2 R2.out (by decide) (by omega) _ _
    · refine cx_mono (show delVR V fs d = (0, [], 2) by unfold delVR; rw [isCB_true hC, if_pos rfl, if_neg hd]) ?_
      clear hC
      go_enter Try.func39, Try.ntmps39
      go_wp2_with fail
      refine (isc_yes V a cap fs _ Hx.out hl HC.out).mono ?_
      rintro e w1 ⟨rfl, hB1⟩
      have k0 : w1.cell? ⟨w.heap.size, 0, none⟩ = some (.int .i64 V) := (hB1.cell (p := ⟨w.heap.size, 0, none⟩) (by simp <;> omega)).trans (by simp [go_sem])
      have r1 : w1.heap[w.heap.size + 1]? = some (.cells #[.int .i64 0, .slice none 0 0] 29 (0, 0)) := (hB1.block _ (by simp <;> omega)).trans (new2 _ _ _)
      have hB01 := hB0.trans (hB1.mono (by simp <;> omega))
      obtain ⟨c0, c1, f0, f1⟩ := two_of r1
      have R1 := hid r1
      clear r1
      have R3 := two_of (two_set R1.out (.int .i64 0) (.slice none 0 0))
      have H3 := hid R3
      clear R3
      by_cases hd0 : d < 0
      · go_wp2_with fail
        (try simp only [Exit.inBlock, Exit.then])
        refine done_cx (p := 4) (u := 5) (by kernel_rfl) rfl rfl H3.out.1 H3.out.2.1 rfl ⟨_, rfl, ?_⟩
        exact (res_nil _ _ hB01).set2 R1.out (by decide) (by omega) _ _
      · have hd5 : V ≤ d := by omega
        go_wp2_with fail
        (try simp only [Exit.inBlock, Exit.then])
        refine done_cx (p := 4) (u := 5) (by kernel_rfl) rfl rfl H3.out.1 H3.out.2.1 rfl ⟨_, rfl, ?_⟩
        exact (res_nil _ _ hB01).set2 R1.out (by decide) (by omega) _ _
  · refine cx_mono (show delVR V fs d = (0, [], 1) by unfold delVR; rw [isCB_false hC, if_neg (by simp)]) ?_
    go_enter Try.func39, Try.ntmps39
    go_wp2_with fail
    refine (isc_no V a cap fs _ Hx.out hl hC).mono ?_
    rintro e w1 ⟨rfl, hB1⟩
    have r1 : w1.heap[w.heap.size + 1]? = some (.cells #[.int .i64 0, .slice none 0 0] 29 (0, 0)) := (hB1.block _ (by simp <;> omega)).trans (new2 _ _ _)
    have hB01 := hB0.trans (hB1.mono (by simp <;> omega))
    obtain ⟨c0, c1, f0, f1⟩ := two_of r1
    have R1 := hid r1
    clear r1
    go_wp2_with fail
    (try simp only [Exit.inBlock, Exit.then])
    have R3 := two_of (two_set R1.out (.int .i64 0) (.slice none 0 0))
    refine done_cx (p := 4) (u := 5) (by kernel_rfl) rfl rfl R3.1 R3.2.1 rfl ⟨_, rfl, ?_⟩
    exact (res_nil _ _ hB01).set2 R1.out (by decide) (by omega) _ _


end Go.Proofs.Ytojnpacklcajpaa
