import Derived.Test.YtdifmnjheapjcaaCx
/-! SkeletonOf, the model's and the program's. -/
namespace Go.Proofs.Ytdifmnjheapjcaa
open Go.RowKit

/-- The faces of at most a dimension. -/
def upTo (fs : List Int) (d : Int) : List Int := fs.filter fun x => decide ((ones x.toNat : Int) ≤ d + 1)

/-- What SkeletonOf hands back. -/
noncomputable def skeletonOfR (V : Int) (fs : List Int) (d : Int) : Int × List Int × Int := if isCB V fs then (if -1 ≤ d ∧ d ≤ 5 then (V, upTo fs d, 0) else (0, [], 2)) else (0, [], 1)

theorem skeletonOfR_len (V : Int) (fs : List Int) (d : Int) (h : fs.length ≤ 1048576) : (skeletonOfR V fs d).2.1.length ≤ 1048576 := by
  unfold skeletonOfR
  split
  · split
    · exact Nat.le_trans (List.length_filter_le _ _) h
    · simp
  · simp

set_option maxHeartbeats 2000000 in
theorem specSkeletonOf (V : Int) (a0 : Option Addr) (cap : Nat) (fs : List Int) (d : Int) (w : World) (hx : SlI w w.heap.size a0 fs) (hl : fs.length ≤ 1048576) :
    Calls Try.prog 40 #[.agg #[.int .i64 V, .slice a0 fs.length cap], .int .i64 d] w fun e w' => ∃ v, e = .returned (.tuple #[.agg #[.int .i64 (skeletonOfR V fs d).1, v], .int .i64 (skeletonOfR V fs d).2.2]) ∧ Res w w' v (skeletonOfR V fs d).2.1 := by
  have hB0 : Below w.heap.size w ((w.alloc (.cells #[.int .i64 V, .slice a0 fs.length cap] 27)).alloc (.cells #[.int .i64 0, .slice none 0 0] 27)) := ((Below.refl _ w).alloc (Nat.le_refl _) _).alloc (by simp) _
  have Hx := hid (hx.later hB0 (by simp <;> omega))
  have Hx0 := hid hx
  clear hx
  by_cases hC : IsC V fs
  · have Hf := hid hC.range63
    have HC := hid hC
    by_cases hd : -1 ≤ d ∧ d ≤ 5
    · refine cx_mono (show skeletonOfR V fs d = (V, upTo fs d, 0) by unfold skeletonOfR; rw [isCB_true hC, if_pos rfl, if_pos hd]) ?_
      obtain ⟨hd0, hd1⟩ := hd
      clear hC
      go_enter Try.func40, Try.ntmps40
      go_wp2_with fail
      refine (is_yes V a0 cap fs _ Hx.out hl HC.out).mono ?_
      rintro e w1 ⟨rfl, hB1⟩
      have q1 : w1.heap[w.heap.size]? = some (.cells #[.int .i64 V, .slice a0 fs.length cap] 27 (0, 0)) := (hB1.block _ (by simp <;> omega)).trans ((Below.heap_alloc _ _ _ (by simp)).trans (heap_alloc_new _ _))
      have k0 : w1.cell? ⟨w.heap.size, 0, none⟩ = some (.int .i64 V) := (two_of q1).1
      have k1 : w1.cell? ⟨w.heap.size, 1, none⟩ = some (.slice a0 fs.length cap) := (two_of q1).2.1
      have r1 : w1.heap[w.heap.size + 1]? = some (.cells #[.int .i64 0, .slice none 0 0] 27 (0, 0)) := (hB1.block _ (by simp <;> omega)).trans (new2 _ _ _)
      have hB01 := hB0.trans (hB1.mono (by simp <;> omega))
      have HO := hid (outW_start hB01 q1 r1)
      clear q1 r1
      go_wp2_with (go_at_call 47; refine (in_yes _ _ _ _ hd0 hd1).mono ?_; rintro e w' ⟨rfl, rfl⟩)
      clear k0 k1
      go_loopw [7] (fun i wr => ∃ (k : Nat) (a : Option Addr) (c : Nat), k ≤ fs.length ∧ i = .int .i64 k ∧ OutW w wr V (.slice a0 fs.length cap) (w1.heap.size + 1) (upTo (fs.take k) d) a c) (fun i _ => fs.length - (intOf i).toNat)
      case atStart => exact ⟨0, _, _, Nat.zero_le _, rfl, HO.out⟩
      case round =>
        obtain ⟨k, a, c, hk, rfl, hW⟩ := hrel
        have k0 : wr.cell? ⟨w.heap.size, 0, none⟩ = some (.int .i64 V) := by simp [World.cell?, hW.kbox]
        have k1 : wr.cell? ⟨w.heap.size, 1, none⟩ = some (.slice a0 fs.length cap) := by simp [World.cell?, hW.kbox]
        have o1 : wr.cell? ⟨w1.heap.size + 1, 1, none⟩ = some (.slice a (upTo (fs.take k) d).length c) := by simp [World.cell?, hW.out]
        have o2 : wr.frozen? ⟨w1.heap.size + 1, 1, none⟩ = false := by simp [World.frozen?, hW.out]
        have HW := hid hW
        by_cases hlt : k < fs.length
        · obtain ⟨b, off, hb, rfl, hc⟩ : ∃ b off, b < w.heap.size ∧ a0 = some ⟨b, off, none⟩ ∧ ∀ i, i < fs.length → w.cell? ⟨b, off + i, none⟩ = some (.int .i64 (fs[i]?.getD 0)) := by
            rcases Hx0.out with rfl | h
            · simp at hlt
            · exact h
          have Hc := hid hc
          clear hc
          obtain ⟨x, hx⟩ : ∃ x : Nat, (x : Int) = fs[k]?.getD 0 := ⟨(fs[k]?.getD 0).toNat, by have := Hf.out _ (getD_mem hlt); omega⟩
          have hx64 : x < 64 := by have := Hf.out _ (getD_mem hlt); omega
          have hck : wr.cell? ⟨b, off + k, none⟩ = some (.int .i64 (x : Int)) := by rw [hx]; exact (hW.below.cell (p := ⟨b, off + k, none⟩) hb).trans (Hc.out k hlt)
          have hi0 : (0 : Int) ≤ (k : Int) := by omega
          have hi1 : (k : Int) < (fs.length : Int) := by omega
          have hfl : (upTo (fs.take k) d).length ≤ 1048576 := Nat.le_trans (List.length_filter_le _ _) (by simp; omega)
          have Hp : Hid (∀ cc, decide ((ones x : Int) ≤ d + 1) = cc → upTo (fs.take (k + 1)) d = upTo (fs.take k) d ++ (if cc then [(x : Int)] else [])) := hid (fun cc hc => by
            unfold upTo
            rw [take_snoc hlt, List.filter_append, ← hx]
            cases cc <;> simp [hc])
          have hbs := hW.below.size
          have ho := ones_le x
          clear hx hW
          by_cases hpx : (ones x : Int) ≤ d + 1
          · have HP := hid ((Hp.out true (decide_eq_true hpx)).trans (by rw [if_pos rfl]))
            clear Hp
            go_wp2_with (go_at_call 69; refine (ones_any x _ hx64).mono ?_; rintro e w' ⟨rfl, rfl⟩)
            have a1 : ∀ (o : Obj), (wr.alloc o).cell? ⟨w1.heap.size + 1, 1, none⟩ = some (.slice a (upTo (fs.take k) d).length c) := cell_alloc_drew1 o1
            have a2 : ∀ (o : Obj), (wr.alloc o).cell? ⟨w.heap.size, 1, none⟩ = some (.slice (some ⟨b, off, none⟩) fs.length cap) := cell_alloc_drew1 k1
            have a3 : ∀ (o : Obj), (wr.alloc o).cell? ⟨b, off + k, none⟩ = some (.int .i64 (x : Int)) := cell_alloc_drew1 hck
            go_region_law (first | (refine step_append_new (by rfl) (by rfl) HW.out.drew.own (by rfl) hbs (by omega) (by rfl) (by rfl) ?_; intro g cp w2 hown2 hgrow2; obtain ⟨o12, o22⟩ := HW.out.mid (n := 1) hgrow2; have k12 := HW.out.midK (n := 1) hgrow2; have x12 := (HW.out.midX (n := 1) hgrow2 (p := ⟨b, off + k, none⟩) hb).trans hck))
            all_goals
              go_wp2_with fail
              go_roundw
              case rel => exact ⟨k + 1, some ⟨g, 0, none⟩, cp, by omega, by go_num, by rw [HP.out]; simpa using HW.out.stepN (n := 1) hown2 hgrow2⟩
              case measure => simp [intOf]; omega
          · have HP := hid (Hp.out false (decide_eq_false hpx))
            clear Hp
            go_wp2_with (go_at_call 69; refine (ones_any x _ hx64).mono ?_; rintro e w' ⟨rfl, rfl⟩)
            go_roundw
            case rel => exact ⟨k + 1, a, c, by omega, by go_num, by rw [HP.out]; simpa using HW.out⟩
            case measure => simp [intOf]; omega
        · have o0 : wr.cell? ⟨w1.heap.size + 1, 0, none⟩ = some (.int .i64 V) := by simp [World.cell?, hW.out]
          obtain ⟨r0, r1, f0, f1⟩ := two_of hW.res
          have Hr := hid hW.res
          clear hW
          go_wp2_with fail
          (try simp only [Exit.inBlock, Exit.then])
          have R3 := two_of (two_set Hr.out (.int .i64 V) (.slice a (upTo (fs.take k) d).length c))
          refine done_cx (p := 4) (u := 5) (by kernel_rfl) rfl rfl R3.1 R3.2.1 rfl ?_
          obtain rfl : k = fs.length := by omega
          have h := HW.out.done (.int .i64 V) (.slice a (upTo (fs.take fs.length) d).length c)
          rw [List.take_of_length_le (Nat.le_refl _)] at h ⊢
          exact ⟨_, rfl, h⟩
    · refine cx_mono (show skeletonOfR V fs d = (0, [], 2) by unfold skeletonOfR; rw [isCB_true hC, if_pos rfl, if_neg hd]) ?_
      clear hC
      go_enter Try.func40, Try.ntmps40
      go_wp2_with fail
      refine (is_yes V a0 cap fs _ Hx.out hl HC.out).mono ?_
      rintro e w1 ⟨rfl, hB1⟩
      have r1 : w1.heap[w.heap.size + 1]? = some (.cells #[.int .i64 0, .slice none 0 0] 27 (0, 0)) := (hB1.block _ (by simp <;> omega)).trans (new2 _ _ _)
      have hB01 := hB0.trans (hB1.mono (by simp <;> omega))
      obtain ⟨c0, c1, f0, f1⟩ := two_of r1
      have R1 := hid r1
      clear r1
      go_wp2_with (go_at_call 47; refine (in_no _ _ _ _ hd).mono ?_; rintro e w' ⟨rfl, rfl⟩)
      (try simp only [Exit.inBlock, Exit.then])
      have R3 := two_of (two_set R1.out (.int .i64 0) (.slice none 0 0))
      refine done_cx (p := 4) (u := 5) (by kernel_rfl) rfl rfl R3.1 R3.2.1 rfl ⟨_, rfl, ?_⟩
      exact (res_nil _ _ hB01).set2 R1.out (by decide) (by omega) _ _
  · refine cx_mono (show skeletonOfR V fs d = (0, [], 1) by unfold skeletonOfR; rw [isCB_false hC, if_neg (by simp)]) ?_
    go_enter Try.func40, Try.ntmps40
    go_wp2_with fail
    refine (is_no V a0 cap fs _ Hx.out hl hC).mono ?_
    rintro e w1 ⟨rfl, hB1⟩
    have r1 : w1.heap[w.heap.size + 1]? = some (.cells #[.int .i64 0, .slice none 0 0] 27 (0, 0)) := (hB1.block _ (by simp <;> omega)).trans (new2 _ _ _)
    have hB01 := hB0.trans (hB1.mono (by simp <;> omega))
    obtain ⟨c0, c1, f0, f1⟩ := two_of r1
    have R1 := hid r1
    clear r1
    go_wp2_with fail
    (try simp only [Exit.inBlock, Exit.then])
    have R3 := two_of (two_set R1.out (.int .i64 0) (.slice none 0 0))
    refine done_cx (p := 4) (u := 5) (by kernel_rfl) rfl rfl R3.1 R3.2.1 rfl ⟨_, rfl, ?_⟩
    exact (res_nil _ _ hB01).set2 R1.out (by decide) (by omega) _ _

theorem upWanted (d : Int) (bd : Nat) (x : Int) (w : World) (hx0 : 1 ≤ x) (hx1 : x ≤ 63) (hd : w.cell? ⟨bd, 0, none⟩ = some (.int .i64 d)) :
    Calls Try.prog 70 #[.int .i64 x, .pointer (some ⟨bd, 0, none⟩)] w fun e w' => e = .returned (.bool (decide ((ones x.toNat : Int) ≤ d + 1))) ∧ Below w.heap.size w w' := by
  obtain ⟨f, rfl⟩ : ∃ f : Nat, x = f := ⟨x.toNat, by omega⟩
  have hf : f < 64 := by omega
  rw [Int.toNat_natCast]
  have ho := ones_le f
  have He : Hid (decide ((ones f : Int) - 1 ≤ d) = decide ((ones f : Int) ≤ d + 1)) := hid (by rw [Bool.eq_iff_iff]; simp; omega)
  go_enter Try.func70, Try.ntmps70
  go_wp2_with fail
  go_quiet ((go_at_call 56; exact quiet_of_eq (dim_any f _ hf)))
  go_wp2_with fail
  go_ret
  exact ⟨ret_bool He.out, ⟨rfl, rfl, rfl, Nat.le_refl _, fun _ _ => rfl⟩⟩

set_option maxHeartbeats 1000000 in
theorem implSkeletonOf (V : Int) (a : Option Addr) (cap : Nat) (fs : List Int) (d : Int) (w : World) (hx : SlI w w.heap.size a fs) (hl : fs.length ≤ 1048576) :
    Calls Try.prog 41 #[.agg #[.int .i64 V, .slice a fs.length cap], .int .i64 d] w fun e w' => ∃ v, e = .returned (.tuple #[.agg #[.int .i64 (skeletonOfR V fs d).1, v], .int .i64 (skeletonOfR V fs d).2.2]) ∧ Res w w' v (skeletonOfR V fs d).2.1 := by
  have hB0 : Below w.heap.size w (((w.alloc (.cells #[.int .i64 V, .slice a fs.length cap] 27)).alloc (.cells #[.int .i64 d] 2)).alloc (.cells #[.int .i64 0, .slice none 0 0] 27)) := (((Below.refl _ w).alloc (Nat.le_refl _) _).alloc (by simp) _).alloc (by simp <;> omega) _
  have Hx := hid (hx.later hB0 (by simp <;> omega))
  by_cases hC : IsC V fs
  · have Hf := hid hC.range63
    have HC := hid hC
    by_cases hd : -1 ≤ d ∧ d ≤ 5
    · refine cx_mono (show skeletonOfR V fs d = (V, upTo fs d, 0) by unfold skeletonOfR; rw [isCB_true hC, if_pos rfl, if_pos hd]) ?_
      obtain ⟨hd0, hd1⟩ := hd
      have g1 : decide (d < -1) = false := decide_eq_false (by omega)
      have g2 : decide (5 < d) = false := decide_eq_false (by omega)
      clear hC
      go_enter Try.func41, Try.ntmps41
      go_wp2_with fail
      refine (isc_yes V a cap fs _ Hx.out hl HC.out).mono ?_
      rintro e w1 ⟨rfl, hB1⟩
      have k0 : w1.cell? ⟨w.heap.size, 0, none⟩ = some (.int .i64 V) := (hB1.cell (p := ⟨w.heap.size, 0, none⟩) (by simp <;> omega)).trans (by simp [go_sem])
      have k1 : w1.cell? ⟨w.heap.size, 1, none⟩ = some (.slice a fs.length cap) := (hB1.cell (p := ⟨w.heap.size, 1, none⟩) (by simp <;> omega)).trans (by simp [go_sem])
      have k2 : w1.cell? ⟨w.heap.size + 1, 0, none⟩ = some (.int .i64 d) := (hB1.cell (p := ⟨w.heap.size + 1, 0, none⟩) (by simp <;> omega)).trans (by simp [go_sem])
      have r1 : w1.heap[w.heap.size + 1 + 1]? = some (.cells #[.int .i64 0, .slice none 0 0] 27 (0, 0)) := (hB1.block _ (by simp <;> omega)).trans (new3 _ _ _ _)
      have hB01 := hB0.trans (hB1.mono (by simp <;> omega))
      have hx1 := hid (hx.later hB01 hB01.size)
      have R1 := hid r1
      clear r1
      go_wp2_with fail
      refine (cw_any V a cap fs _ 70 _ (upTo fs d) ?_).mono ?_
      · intro W' hW1
        refine fw_any V a cap fs W' 70 _ (fun x => decide ((ones x.toNat : Int) ≤ d + 1)) (hx1.out.later hW1 hW1.size) hl (enters_of Try.func70 (by kernel_rfl) rfl) ?_
        intro W2 x hW2 hxm
        have := Hf.out x hxm
        have hlt : w.heap.size + 1 < w1.heap.size := by have := lt_get R1.out; omega
        exact upWanted d _ x W2 this.1 this.2 ((hW2.cell (p := ⟨w.heap.size + 1, 0, none⟩) (Nat.lt_of_lt_of_le hlt hW1.size)).trans ((hW1.cell (p := ⟨w.heap.size + 1, 0, none⟩) hlt).trans k2))
      rintro e w2 ⟨v, rfl, hr⟩
      obtain ⟨_, av, cv, rfl, _⟩ := ownsRow_slI hr.1
      have r2 := (hr.2.block _ (lt_get R1.out)).trans R1.out
      obtain ⟨c0, c1, f0, f1⟩ := two_of r2
      have R2 := hid r2
      clear r2
      go_wp2_with fail
      (try simp only [Exit.inBlock, Exit.then])
      have R3 := two_of (two_set R2.out (.int .i64 V) (.slice av (upTo fs d).length cv))
      refine done_cx (p := 4) (u := 5) (by kernel_rfl) rfl rfl R3.1 R3.2.1 rfl ⟨_, rfl, ?_⟩
      exact (hr.later hB01).set2 R2.out (by decide) (by omega) _ _
    · refine cx_mono (show skeletonOfR V fs d = (0, [], 2) by unfold skeletonOfR; rw [isCB_true hC, if_pos rfl, if_neg hd]) ?_
      clear hC
      go_enter Try.func41, Try.ntmps41
      go_wp2_with fail
      refine (isc_yes V a cap fs _ Hx.out hl HC.out).mono ?_
      rintro e w1 ⟨rfl, hB1⟩
      have k2 : w1.cell? ⟨w.heap.size + 1, 0, none⟩ = some (.int .i64 d) := (hB1.cell (p := ⟨w.heap.size + 1, 0, none⟩) (by simp <;> omega)).trans (by simp [go_sem])
      have r1 : w1.heap[w.heap.size + 1 + 1]? = some (.cells #[.int .i64 0, .slice none 0 0] 27 (0, 0)) := (hB1.block _ (by simp <;> omega)).trans (new3 _ _ _ _)
      have hB01 := hB0.trans (hB1.mono (by simp <;> omega))
      obtain ⟨c0, c1, f0, f1⟩ := two_of r1
      have R1 := hid r1
      clear r1
      have R3 := two_of (two_set R1.out (.int .i64 0) (.slice none 0 0))
      have H3 := hid R3
      clear R3
      by_cases hd0 : d < -1
      · go_wp2_with fail
        (try simp only [Exit.inBlock, Exit.then])
        refine done_cx (p := 4) (u := 5) (by kernel_rfl) rfl rfl H3.out.1 H3.out.2.1 rfl ⟨_, rfl, ?_⟩
        exact (res_nil _ _ hB01).set2 R1.out (by decide) (by omega) _ _
      · have hd5 : 5 < d := by omega
        go_wp2_with fail
        (try simp only [Exit.inBlock, Exit.then])
        refine done_cx (p := 4) (u := 5) (by kernel_rfl) rfl rfl H3.out.1 H3.out.2.1 rfl ⟨_, rfl, ?_⟩
        exact (res_nil _ _ hB01).set2 R1.out (by decide) (by omega) _ _
  · refine cx_mono (show skeletonOfR V fs d = (0, [], 1) by unfold skeletonOfR; rw [isCB_false hC, if_neg (by simp)]) ?_
    go_enter Try.func41, Try.ntmps41
    go_wp2_with fail
    refine (isc_no V a cap fs _ Hx.out hl hC).mono ?_
    rintro e w1 ⟨rfl, hB1⟩
    have r1 : w1.heap[w.heap.size + 1 + 1]? = some (.cells #[.int .i64 0, .slice none 0 0] 27 (0, 0)) := (hB1.block _ (by simp <;> omega)).trans (new3 _ _ _ _)
    have hB01 := hB0.trans (hB1.mono (by simp <;> omega))
    obtain ⟨c0, c1, f0, f1⟩ := two_of r1
    have R1 := hid r1
    clear r1
    go_wp2_with fail
    (try simp only [Exit.inBlock, Exit.then])
    have R3 := two_of (two_set R1.out (.int .i64 0) (.slice none 0 0))
    refine done_cx (p := 4) (u := 5) (by kernel_rfl) rfl rfl R3.1 R3.2.1 rfl ⟨_, rfl, ?_⟩
    exact (res_nil _ _ hB01).set2 R1.out (by decide) (by omega) _ _

end Go.Proofs.Ytdifmnjheapjcaa
