import Derived.Test.YtdifmnjheapjcaaHaving
/-! StarOf, the model's and the program's. -/
namespace Go.Proofs.Ytdifmnjheapjcaa
open Go.RowKit

/-- The faces that are faces together with a given one. -/
def starL (fs : List Int) (f : Int) : List Int := fs.filter fun x => decide (((x.toNat ||| f.toNat : Nat) : Int) ∈ fs)

/-- What StarOf hands back. -/
noncomputable def starOfR (V : Int) (fs : List Int) (f : Int) : Int × List Int × Int := if isCB V fs then (if f ∈ fs then (V, starL fs f, 0) else (0, [], 2)) else (0, [], 1)

theorem starOfR_len (V : Int) (fs : List Int) (f : Int) (h : fs.length ≤ 1048576) : (starOfR V fs f).2.1.length ≤ 1048576 := by
  unfold starOfR
  split
  · split
    · exact Nat.le_trans (List.length_filter_le _ _) h
    · simp
  · simp

set_option maxHeartbeats 2000000 in
theorem specStarOf (V : Int) (a0 : Option Addr) (cap : Nat) (fs : List Int) (d : Int) (_wd : (Lit.int .i64 d).wf = true) (w : World) (hx : SlI w w.heap.size a0 fs) (hl : fs.length ≤ 1048576) :
    Calls Try.prog 36 #[.agg #[.int .i64 V, .slice a0 fs.length cap], .int .i64 d] w fun e w' => ∃ v, e = .returned (.tuple #[.agg #[.int .i64 (starOfR V fs d).1, v], .int .i64 (starOfR V fs d).2.2]) ∧ Res w w' v (starOfR V fs d).2.1 := by
  have hB0 : Below w.heap.size w ((w.alloc (.cells #[.int .i64 V, .slice a0 fs.length cap] 27)).alloc (.cells #[.int .i64 0, .slice none 0 0] 27)) := ((Below.refl _ w).alloc (Nat.le_refl _) _).alloc (by simp) _
  have Hx := hid (hx.later hB0 (by simp <;> omega))
  have Hx0 := hid hx
  clear hx
  by_cases hC : IsC V fs
  · have Hf := hid hC.range63
    have HC := hid hC
    by_cases hd : d ∈ fs
    · refine cx_mono (show starOfR V fs d = (V, starL fs d, 0) by unfold starOfR; rw [isCB_true hC, if_pos rfl, if_pos hd]) ?_
      have hdr := hC.range63 d hd
      obtain ⟨s, rfl⟩ : ∃ s : Nat, d = s := ⟨d.toNat, by omega⟩
      have hs : s < 64 := by omega
      have Hd := hid hd
      clear hC hd
      go_enter Try.func36, Try.ntmps36
      go_wp2_with fail
      refine (face_yes V a0 cap fs _ _ Hx.out hl HC.out Hd.out).mono ?_
      rintro e w1 ⟨rfl, hB1⟩
      have q1 : w1.heap[w.heap.size]? = some (.cells #[.int .i64 V, .slice a0 fs.length cap] 27 (0, 0)) := (hB1.block _ (by simp <;> omega)).trans ((Below.heap_alloc _ _ _ (by simp)).trans (heap_alloc_new _ _))
      have k0 : w1.cell? ⟨w.heap.size, 0, none⟩ = some (.int .i64 V) := (two_of q1).1
      have r1 : w1.heap[w.heap.size + 1]? = some (.cells #[.int .i64 0, .slice none 0 0] 27 (0, 0)) := (hB1.block _ (by simp <;> omega)).trans (new2 _ _ _)
      have hB01 := hB0.trans (hB1.mono (by simp <;> omega))
      have HO := hid (outW_start hB01 q1 r1)
      clear q1 r1
      go_wp2_with fail
      clear k0
      go_loopw [8] (fun i wr => ∃ (k : Nat) (a : Option Addr) (c : Nat), k ≤ fs.length ∧ i = .int .i64 k ∧ OutW w wr V (.slice a0 fs.length cap) (w1.heap.size + 1) ((fs.take k).filter fun x => decide (((x.toNat ||| s : Nat) : Int) ∈ fs)) a c) (fun i _ => fs.length - (intOf i).toNat)
      case atStart => exact ⟨0, _, _, Nat.zero_le _, rfl, HO.out⟩
      case round =>
        obtain ⟨k, a, c, hk, rfl, hW⟩ := hrel
        obtain ⟨ys, hys⟩ : ∃ ys, ys = (fs.take k).filter fun x => decide (((x.toNat ||| s : Nat) : Int) ∈ fs) := ⟨_, rfl⟩
        have hfl : ys.length ≤ 1048576 := by rw [hys]; exact Nat.le_trans (List.length_filter_le _ _) (by simp; omega)
        rw [← hys] at hW
        have Hys := hid hys
        clear hys
        have k0 : wr.cell? ⟨w.heap.size, 0, none⟩ = some (.int .i64 V) := by simp [World.cell?, hW.kbox]
        have k1 : wr.cell? ⟨w.heap.size, 1, none⟩ = some (.slice a0 fs.length cap) := by simp [World.cell?, hW.kbox]
        have HW := hid hW
        by_cases hlt : k < fs.length
        · obtain ⟨b, off, hb, rfl, hc⟩ : ∃ b off, b < w.heap.size ∧ a0 = some ⟨b, off, none⟩ ∧ ∀ i, i < fs.length → w.cell? ⟨b, off + i, none⟩ = some (.int .i64 (fs[i]?.getD 0)) := by
            rcases Hx0.out with rfl | h
            · simp at hlt
            · exact h
          have Hc := hid hc
          clear hc
          obtain ⟨x, hx⟩ : ∃ x : Nat, (x : Int) = fs[k]?.getD 0 := ⟨(fs[k]?.getD 0).toNat, by have := Hf.out _ (getD_mem hlt); omega⟩
          have hx64 : x < 64 := by have := Hf.out _ (getD_mem hlt); omega
          have hck : wr.cell? ⟨b, off + k, none⟩ = some (.int .i64 (x : Int)) := by rw [hx]; exact (hW.below.cell (p := ⟨b, off + k, none⟩) hb).trans (Hc.out k hlt)
          have hi0 : (0 : Int) ≤ (k : Int) := by omega
          have hi1 : (k : Int) < (fs.length : Int) := by omega
          have Hp : Hid (∀ cc, decide (((x ||| s : Nat) : Int) ∈ fs) = cc → ((fs.take (k + 1)).filter fun x => decide (((x.toNat ||| s : Nat) : Int) ∈ fs)) = ys ++ (if cc then [(x : Int)] else [])) := hid (fun cc hc => by
            rw [take_snoc hlt, List.filter_append, ← hx, Hys.out]
            cases cc <;> simp [hc])
          have hor : bits BinOp.or IntKind.i64 (x : Int) (s : Int) = ((x ||| s : Nat) : Int) := (bits_nat .i64 6 (by decide) (fun n h0 h1 => by rw [IntKind.wrap_i64]; omega) x s (by omega) (by omega)).2
          have hbs := hW.below.size
          have Hxr := hid (Hx0.out.later hW.below hW.below.size)
          clear hx hW
          by_cases hpx : ((x ||| s : Nat) : Int) ∈ fs
          · have HP := hid ((Hp.out true (decide_eq_true hpx)).trans (by rw [if_pos rfl]))
            have Hpx := hid hpx
            clear Hp hpx
            go_wp2_with fail
            go_region_held3 (fun w' => w'.cell? ⟨w.heap.size, 0, none⟩ = some (.int .i64 V) ∧ w'.cell? ⟨w.heap.size, 1, none⟩ = some (.slice (some ⟨b, off, none⟩) fs.length cap) ∧ w'.cell? ⟨b, off + k, none⟩ = some (.int .i64 (x : Int))) (go_keep)
              ((go_at_call 65; refine (has_yes V _ _ cap fs wr.drew Hxr.out hl Hpx.out).mono ?_; rintro e w2 ⟨rfl, hB2⟩; have k02 := (hB2.cell (p := ⟨w.heap.size, 0, none⟩) (Nat.lt_of_lt_of_le (lt_get HW.out.kbox) (Nat.le_refl _))).trans k0; have k12 := (hB2.cell (p := ⟨w.heap.size, 1, none⟩) (Nat.lt_of_lt_of_le (lt_get HW.out.kbox) (Nat.le_refl _))).trans k1; have c12 := (hB2.cell (p := ⟨b, off + k, none⟩) (Nat.lt_of_lt_of_le hb hbs)).trans hck))
            have HW2 := hid (HW.out.later (show Below wr.heap.size wr w2 from ⟨hB2.os, hB2.tape, hB2.output, hB2.size, hB2.block⟩))
            have o1 : w2.cell? ⟨w1.heap.size + 1, 1, none⟩ = some (.slice a ys.length c) := (two_of HW2.out.out).2.1
            have o2 : w2.frozen? ⟨w1.heap.size + 1, 1, none⟩ = false := (two_of HW2.out.out).2.2.2
            have hbs2 := HW2.out.below.size
            have a1 : ∀ (o : Obj), (w2.alloc o).cell? ⟨w1.heap.size + 1, 1, none⟩ = some (.slice a ys.length c) := cell_alloc_drew1 o1
            have a2 : ∀ (o : Obj), (w2.alloc o).cell? ⟨w.heap.size, 1, none⟩ = some (.slice (some ⟨b, off, none⟩) fs.length cap) := cell_alloc_drew1 k12
            have a3 : ∀ (o : Obj), (w2.alloc o).cell? ⟨b, off + k, none⟩ = some (.int .i64 (x : Int)) := cell_alloc_drew1 c12
            clear k0 k1 hck hB2 k02
            go_wp2_with fail
            go_region_law (first | (refine step_append_new (by rfl) (by rfl) HW2.out.drew.own (by rfl) hbs2 (by omega) (by rfl) (by rfl) ?_; intro g cp w3 hown3 hgrow3; obtain ⟨o13, o23⟩ := HW2.out.mid (n := 1) hgrow3; have k13 := HW2.out.midK (n := 1) hgrow3; have x13 := (HW2.out.midX (n := 1) hgrow3 (p := ⟨b, off + k, none⟩) hb).trans c12))
            all_goals
              go_wp2_with fail
              go_roundw
              case rel => exact ⟨k + 1, some ⟨g, 0, none⟩, cp, by omega, by go_num, by rw [HP.out]; simpa using HW2.out.stepN (n := 1) hown3 hgrow3⟩
              case measure => simp [intOf]; omega
          · have HP := hid (Hp.out false (decide_eq_false hpx))
            have Hpx := hid hpx
            clear Hp hpx
            go_wp2_with fail
            go_region_held3 (fun w' => w'.cell? ⟨w.heap.size, 0, none⟩ = some (.int .i64 V) ∧ w'.cell? ⟨w.heap.size, 1, none⟩ = some (.slice (some ⟨b, off, none⟩) fs.length cap) ∧ w'.cell? ⟨b, off + k, none⟩ = some (.int .i64 (x : Int))) (go_keep)
              ((go_at_call 65; refine (has_no V _ _ cap fs wr.drew Hxr.out hl Hpx.out).mono ?_; rintro e w2 ⟨rfl, hB2⟩; have k02 := (hB2.cell (p := ⟨w.heap.size, 0, none⟩) (Nat.lt_of_lt_of_le (lt_get HW.out.kbox) (Nat.le_refl _))).trans k0; have k12 := (hB2.cell (p := ⟨w.heap.size, 1, none⟩) (Nat.lt_of_lt_of_le (lt_get HW.out.kbox) (Nat.le_refl _))).trans k1; have c12 := (hB2.cell (p := ⟨b, off + k, none⟩) (Nat.lt_of_lt_of_le hb hbs)).trans hck))
            have HW2 := hid (HW.out.later (show Below wr.heap.size wr w2 from ⟨hB2.os, hB2.tape, hB2.output, hB2.size, hB2.block⟩))
            clear k0 k1 hck hB2 k02
            go_wp2_with fail
            go_roundw
            case rel => exact ⟨k + 1, a, c, by omega, by go_num, by rw [HP.out]; simpa using HW2.out⟩
            case measure => simp [intOf]; omega
        · have o0 : wr.cell? ⟨w1.heap.size + 1, 0, none⟩ = some (.int .i64 V) := (two_of hW.out).1
          have o1 : wr.cell? ⟨w1.heap.size + 1, 1, none⟩ = some (.slice a ys.length c) := (two_of hW.out).2.1
          obtain ⟨r0, r1, f0, f1⟩ := two_of hW.res
          have Hr := hid hW.res
          clear hW
          go_wp2_with fail
          (try simp only [Exit.inBlock, Exit.then])
          have R3 := two_of (two_set Hr.out (.int .i64 V) (.slice a ys.length c))
          refine done_cx (p := 4) (u := 5) (by kernel_rfl) rfl rfl R3.1 R3.2.1 rfl ?_
          obtain rfl : k = fs.length := by omega
          have h := HW.out.done (.int .i64 V) (.slice a ys.length c)
          have hy : ys = starL fs s := by rw [Hys.out, List.take_of_length_le (Nat.le_refl _)]; simp [starL]
          rw [← hy]
          exact ⟨_, rfl, h⟩
    · refine cx_mono (show starOfR V fs d = (0, [], 2) by unfold starOfR; rw [isCB_true hC, if_pos rfl, if_neg hd]) ?_
      clear hC
      go_enter Try.func36, Try.ntmps36
      go_wp2_with fail
      refine (face_no V a0 cap fs _ _ Hx.out hl HC.out hd).mono ?_
      rintro e w1 ⟨rfl, hB1⟩
      have r1 : w1.heap[w.heap.size + 1]? = some (.cells #[.int .i64 0, .slice none 0 0] 27 (0, 0)) := (hB1.block _ (by simp <;> omega)).trans (new2 _ _ _)
      have hB01 := hB0.trans (hB1.mono (by simp <;> omega))
      obtain ⟨c0, c1, f0, f1⟩ := two_of r1
      have R1 := hid r1
      clear r1
      go_wp2_with fail
      (try simp only [Exit.inBlock, Exit.then])
      have R3 := two_of (two_set R1.out (.int .i64 0) (.slice none 0 0))
      refine done_cx (p := 4) (u := 5) (by kernel_rfl) rfl rfl R3.1 R3.2.1 rfl ⟨_, rfl, ?_⟩
      exact (res_nil _ _ hB01).set2 R1.out (by decide) (by omega) _ _
  · refine cx_mono (show starOfR V fs d = (0, [], 1) by unfold starOfR; rw [isCB_false hC, if_neg (by simp)]) ?_
    go_enter Try.func36, Try.ntmps36
    go_wp2_with fail
    refine (face_bad V a0 cap fs _ _ Hx.out hl hC).mono ?_
    rintro e w1 ⟨rfl, hB1⟩
    have r1 : w1.heap[w.heap.size + 1]? = some (.cells #[.int .i64 0, .slice none 0 0] 27 (0, 0)) := (hB1.block _ (by simp <;> omega)).trans (new2 _ _ _)
    have hB01 := hB0.trans (hB1.mono (by simp <;> omega))
    obtain ⟨c0, c1, f0, f1⟩ := two_of r1
    have R1 := hid r1
    clear r1
    go_wp2_with fail
    (try simp only [Exit.inBlock, Exit.then])
    have R3 := two_of (two_set R1.out (.int .i64 0) (.slice none 0 0))
    refine done_cx (p := 4) (u := 5) (by kernel_rfl) rfl rfl R3.1 R3.2.1 rfl ⟨_, rfl, ?_⟩
    exact (res_nil _ _ hB01).set2 R1.out (by decide) (by omega) _ _

end Go.Proofs.Ytdifmnjheapjcaa
