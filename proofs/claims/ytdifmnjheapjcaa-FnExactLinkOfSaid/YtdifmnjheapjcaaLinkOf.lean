import Derived.Test.YtdifmnjheapjcaaStarImpl
/-! LinkOf, the model's and the program's. -/
namespace Go.Proofs.Ytdifmnjheapjcaa
open Go.RowKit

/-- The faces apart from a given one that are faces together with it. -/
def linkL (fs : List Int) (f : Int) : List Int := fs.filter fun x => decide (x.toNat &&& f.toNat = 0) && decide (((x.toNat ||| f.toNat : Nat) : Int) ∈ fs)

/-- What LinkOf hands back. -/
noncomputable def linkOfR (V : Int) (fs : List Int) (f : Int) : Int × List Int × Int := if isCB V fs then (if f ∈ fs then (V, linkL fs f, 0) else (0, [], 2)) else (0, [], 1)

theorem linkOfR_len (V : Int) (fs : List Int) (f : Int) (h : fs.length ≤ 1048576) : (linkOfR V fs f).2.1.length ≤ 1048576 := by
  unfold linkOfR
  split
  · split
    · exact Nat.le_trans (List.length_filter_le _ _) h
    · simp
  · simp

set_option maxHeartbeats 2000000 in
theorem link_any (V : Int) (a0 : Option Addr) (cap : Nat) (fs : List Int) (s : Nat) (w : World) (hx : SlI w w.heap.size a0 fs) (hl : fs.length ≤ 1048576) (hf : ∀ x ∈ fs, 1 ≤ x ∧ x ≤ 63) (hs : s < 64) :
    Calls Try.prog 61 #[.agg #[.int .i64 V, .slice a0 fs.length cap], .int .i64 (s : Int)] w fun e w' => ∃ v, e = .returned (.agg #[.int .i64 V, v]) ∧ Res w w' v (linkL fs s) := by
  have Hx0 := hid hx
  have Hf := hid hf
  clear hx hf
  go_enter Try.func61, Try.ntmps61
  go_wp2
  go_loopw [6] (fun i wr => ∃ (k : Nat) (a : Option Addr) (c : Nat), k ≤ fs.length ∧ i = .int .i64 k ∧ OutW w wr V (.slice a0 fs.length cap) (w.heap.size + 1 + 1 + 1) ((fs.take k).filter fun x => decide (x.toNat &&& s = 0) && decide (((x.toNat ||| s : Nat) : Int) ∈ fs)) a c) (fun i _ => fs.length - (intOf i).toNat)
  case atStart =>
    refine ⟨0, some ⟨w.heap.size + 1 + 1, 0, none⟩, 0, Nat.zero_le _, rfl, ?_⟩
    have e0 := heap_alloc_new w (.cells #[.int .i64 V, .slice a0 fs.length cap] 27)
    have e1 := heap_alloc_new (w.alloc (.cells #[.int .i64 V, .slice a0 fs.length cap] 27)) (.cells #[.int .i64 0, .slice none 0 0] 27)
    rw [World.size_alloc] at e1
    have h := outW_start (((Below.refl _ w).alloc (Nat.le_refl _) _).alloc (by simp) _) ((Below.heap_alloc _ _ _ (by simp)).trans e0) e1
    simp only [World.size_alloc] at h
    exact h
  case round =>
    obtain ⟨k, a, c, hk, rfl, hW⟩ := hrel
    obtain ⟨ys, hys⟩ : ∃ ys, ys = (fs.take k).filter fun x => decide (x.toNat &&& s = 0) && decide (((x.toNat ||| s : Nat) : Int) ∈ fs) := ⟨_, rfl⟩
    have hfl : ys.length ≤ 1048576 := by rw [hys]; exact Nat.le_trans (List.length_filter_le _ _) (by simp; omega)
    rw [← hys] at hW
    have Hys := hid hys
    clear hys
    have k0 : wr.cell? ⟨w.heap.size, 0, none⟩ = some (.int .i64 V) := by simp [World.cell?, hW.kbox]
    have k1 : wr.cell? ⟨w.heap.size, 1, none⟩ = some (.slice a0 fs.length cap) := by simp [World.cell?, hW.kbox]
    have HW := hid hW
    by_cases hlt : k < fs.length
    · obtain ⟨b, off, hb, rfl, hc⟩ : ∃ b off, b < w.heap.size ∧ a0 = some ⟨b, off, none⟩ ∧ ∀ i, i < fs.length → w.cell? ⟨b, off + i, none⟩ = some (.int .i64 (fs[i]?.getD 0)) := by
        rcases Hx0.out with rfl | h
        · simp at hlt
        · exact h
      have Hc := hid hc
      clear hc
      obtain ⟨x, hx⟩ : ∃ x : Nat, (x : Int) = fs[k]?.getD 0 := ⟨(fs[k]?.getD 0).toNat, by have := Hf.out _ (getD_mem hlt); omega⟩
      have hx64 : x < 64 := by have := Hf.out _ (getD_mem hlt); omega
      have hck : wr.cell? ⟨b, off + k, none⟩ = some (.int .i64 (x : Int)) := by rw [hx]; exact (hW.below.cell (p := ⟨b, off + k, none⟩) hb).trans (Hc.out k hlt)
      have hi0 : (0 : Int) ≤ (k : Int) := by omega
      have hi1 : (k : Int) < (fs.length : Int) := by omega
      have Hp : Hid (∀ cc, (decide (x &&& s = 0) && decide (((x ||| s : Nat) : Int) ∈ fs)) = cc → ((fs.take (k + 1)).filter fun x => decide (x.toNat &&& s = 0) && decide (((x.toNat ||| s : Nat) : Int) ∈ fs)) = ys ++ (if cc then [(x : Int)] else [])) := hid (fun cc hc => by
        rw [take_snoc hlt, List.filter_append, ← hx, Hys.out]
        cases cc <;> simpa using hc)
      have hand : bits BinOp.and IntKind.i64 (x : Int) (s : Int) = ((x &&& s : Nat) : Int) := (bits_nat .i64 6 (by decide) (fun n h0 h1 => by rw [IntKind.wrap_i64]; omega) x s (by omega) (by omega)).1
      have hor : bits BinOp.or IntKind.i64 (x : Int) (s : Int) = ((x ||| s : Nat) : Int) := (bits_nat .i64 6 (by decide) (fun n h0 h1 => by rw [IntKind.wrap_i64]; omega) x s (by omega) (by omega)).2
      have hbs := hW.below.size
      have Hxr := hid (Hx0.out.later hW.below hW.below.size)
      clear hx hW
      by_cases hpa : x &&& s = 0
      · have hd : (((x &&& s : Nat) : Int) == 0) = true := by simp [hpa]
        by_cases hpx : ((x ||| s : Nat) : Int) ∈ fs
        · have HP := hid ((Hp.out true (by simp [hpa, hpx])).trans (by rw [if_pos rfl]))
          have Hpx := hid hpx
          clear Hp hpx hpa
          go_wp2_with fail
          go_region_held3 (fun w' => w'.cell? ⟨w.heap.size, 0, none⟩ = some (.int .i64 V) ∧ w'.cell? ⟨w.heap.size, 1, none⟩ = some (.slice (some ⟨b, off, none⟩) fs.length cap) ∧ w'.cell? ⟨b, off + k, none⟩ = some (.int .i64 (x : Int))) (go_keep)
            ((go_at_call 65; refine (has_yes V _ _ cap fs wr.drew Hxr.out hl Hpx.out).mono ?_; rintro e w2 ⟨rfl, hB2⟩; have k02 := (hB2.cell (p := ⟨w.heap.size, 0, none⟩) (Nat.lt_of_lt_of_le (lt_get HW.out.kbox) (Nat.le_refl _))).trans k0; have k12 := (hB2.cell (p := ⟨w.heap.size, 1, none⟩) (Nat.lt_of_lt_of_le (lt_get HW.out.kbox) (Nat.le_refl _))).trans k1; have c12 := (hB2.cell (p := ⟨b, off + k, none⟩) (Nat.lt_of_lt_of_le hb hbs)).trans hck))
          have HW2 := hid (HW.out.later (show Below wr.heap.size wr w2 from ⟨hB2.os, hB2.tape, hB2.output, hB2.size, hB2.block⟩))
          have o1 : w2.cell? ⟨w.heap.size + 1 + 1 + 1, 1, none⟩ = some (.slice a ys.length c) := (two_of HW2.out.out).2.1
          have o2 : w2.frozen? ⟨w.heap.size + 1 + 1 + 1, 1, none⟩ = false := (two_of HW2.out.out).2.2.2
          have hbs2 := HW2.out.below.size
          have a1 : ∀ (o : Obj), (w2.alloc o).cell? ⟨w.heap.size + 1 + 1 + 1, 1, none⟩ = some (.slice a ys.length c) := cell_alloc_drew1 o1
          have a2 : ∀ (o : Obj), (w2.alloc o).cell? ⟨w.heap.size, 1, none⟩ = some (.slice (some ⟨b, off, none⟩) fs.length cap) := cell_alloc_drew1 k12
          have a3 : ∀ (o : Obj), (w2.alloc o).cell? ⟨b, off + k, none⟩ = some (.int .i64 (x : Int)) := cell_alloc_drew1 c12
          clear k0 k1 hck hB2 k02
          go_wp2_with fail
          go_region_law (first | (refine step_append_new (by rfl) (by rfl) HW2.out.drew.own (by rfl) hbs2 (by omega) (by rfl) (by rfl) ?_; intro g cp w3 hown3 hgrow3; obtain ⟨o13, o23⟩ := HW2.out.mid (n := 1) hgrow3; have k13 := HW2.out.midK (n := 1) hgrow3; have x13 := (HW2.out.midX (n := 1) hgrow3 (p := ⟨b, off + k, none⟩) hb).trans c12))
          all_goals
            go_wp2_with fail
            go_roundw
            case rel => exact ⟨k + 1, some ⟨g, 0, none⟩, cp, by omega, by go_num, by rw [HP.out]; simpa using HW2.out.stepN (n := 1) hown3 hgrow3⟩
            case measure => simp [intOf]; omega
        · have HP := hid (Hp.out false (by simp [hpx]))
          have Hpx := hid hpx
          clear Hp hpx hpa
          go_wp2_with fail
          go_region_held3 (fun w' => w'.cell? ⟨w.heap.size, 0, none⟩ = some (.int .i64 V) ∧ w'.cell? ⟨w.heap.size, 1, none⟩ = some (.slice (some ⟨b, off, none⟩) fs.length cap) ∧ w'.cell? ⟨b, off + k, none⟩ = some (.int .i64 (x : Int))) (go_keep)
            ((go_at_call 65; refine (has_no V _ _ cap fs wr.drew Hxr.out hl Hpx.out).mono ?_; rintro e w2 ⟨rfl, hB2⟩; have k02 := (hB2.cell (p := ⟨w.heap.size, 0, none⟩) (Nat.lt_of_lt_of_le (lt_get HW.out.kbox) (Nat.le_refl _))).trans k0; have k12 := (hB2.cell (p := ⟨w.heap.size, 1, none⟩) (Nat.lt_of_lt_of_le (lt_get HW.out.kbox) (Nat.le_refl _))).trans k1; have c12 := (hB2.cell (p := ⟨b, off + k, none⟩) (Nat.lt_of_lt_of_le hb hbs)).trans hck))
          have HW2 := hid (HW.out.later (show Below wr.heap.size wr w2 from ⟨hB2.os, hB2.tape, hB2.output, hB2.size, hB2.block⟩))
          clear k0 k1 hck hB2 k02
          go_wp2_with fail
          go_roundw
          case rel => exact ⟨k + 1, a, c, by omega, by go_num, by rw [HP.out]; simpa using HW2.out⟩
          case measure => simp [intOf]; omega
      · have hd : (((x &&& s : Nat) : Int) == 0) = false := by simp; omega
        have HP := hid (Hp.out false (by simp [hpa]))
        clear Hp hpa
        go_wp2_with fail
        go_quiet (fail)
        go_wp2_with fail
        go_roundw
        case rel => exact ⟨k + 1, a, c, by omega, by go_num, by rw [HP.out]; simpa using HW.out.drewN nq⟩
        case measure => simp [intOf]; omega
    · have o0 : wr.cell? ⟨w.heap.size + 1 + 1 + 1, 0, none⟩ = some (.int .i64 V) := (two_of hW.out).1
      have o1 : wr.cell? ⟨w.heap.size + 1 + 1 + 1, 1, none⟩ = some (.slice a ys.length c) := (two_of hW.out).2.1
      obtain ⟨r0, r1, f0, f1⟩ := two_of hW.res
      have Hr := hid hW.res
      clear hW
      go_wp2_with fail
      (try simp only [Exit.inBlock, Exit.then])
      have R3 := two_of (two_set Hr.out (.int .i64 V) (.slice a ys.length c))
      refine done_cx1 (p := 4) (by kernel_rfl) rfl rfl R3.1 R3.2.1 ?_
      obtain rfl : k = fs.length := by omega
      have h := HW.out.done (.int .i64 V) (.slice a ys.length c)
      have hy : ys = linkL fs s := by rw [Hys.out, List.take_of_length_le (Nat.le_refl _)]; simp [linkL]
      rw [← hy]
      exact ⟨_, rfl, h⟩

end Go.Proofs.Ytdifmnjheapjcaa
