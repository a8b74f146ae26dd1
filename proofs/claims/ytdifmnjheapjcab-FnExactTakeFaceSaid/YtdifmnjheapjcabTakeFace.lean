import Derived.Test.YtdifmnjheapjcabHaving
/-! TakeFace, the model's and the program's. -/
namespace Go.Proofs.Ytdifmnjheapjcab
open Go.RowKit

/-- The faces that do not have a given one. -/
def takeL (fs : List Int) (s : Int) : List Int := fs.filter fun x => decide (¬ x.toNat &&& s.toNat = s.toNat)

/-- What TakeFace hands back. -/
noncomputable def takeFaceR (V : Int) (fs : List Int) (f : Int) : Int × List Int × Int := if isCB V fs then (if f ∈ fs then (V, takeL fs f, 0) else (0, [], 2)) else (0, [], 1)

theorem takeFaceR_len (V : Int) (fs : List Int) (f : Int) (h : fs.length ≤ 1048576) : (takeFaceR V fs f).2.1.length ≤ 1048576 := by
  unfold takeFaceR
  split
  · split
    · exact Nat.le_trans (List.length_filter_le _ _) h
    · simp
  · simp

set_option maxHeartbeats 2000000 in
theorem take_any (V : Int) (a0 : Option Addr) (cap : Nat) (fs : List Int) (s : Nat) (w : World) (hx : SlI w w.heap.size a0 fs) (hl : fs.length ≤ 1048576) (hf : ∀ x ∈ fs, 1 ≤ x ∧ x ≤ 63) (hs : s < 64) :
    Calls Try.prog 36 #[.agg #[.int .i64 V, .slice a0 fs.length cap], .int .i64 (s : Int)] w fun e w' => ∃ v, e = .returned (.agg #[.int .i64 V, v]) ∧ Res w w' v (takeL fs s) := by
  have Hx := hid hx
  have Hf := hid hf
  clear hx hf
  go_enter Try.func36, Try.ntmps36
  go_wp2
  go_loopw [6] (fun i wr => ∃ (k : Nat) (a : Option Addr) (c : Nat), k ≤ fs.length ∧ i = .int .i64 k ∧ OutW w wr V (.slice a0 fs.length cap) (w.heap.size + 1 + 1 + 1) (takeL (fs.take k) s) a c) (fun i _ => fs.length - (intOf i).toNat)
  case atStart =>
    refine ⟨0, some ⟨w.heap.size + 1 + 1, 0, none⟩, 0, Nat.zero_le _, rfl, ?_⟩
    have e0 := heap_alloc_new w (.cells #[.int .i64 V, .slice a0 fs.length cap] 28)
    have e1 := heap_alloc_new (w.alloc (.cells #[.int .i64 V, .slice a0 fs.length cap] 28)) (.cells #[.int .i64 0, .slice none 0 0] 28)
    rw [World.size_alloc] at e1
    have h := outW_start (((Below.refl _ w).alloc (Nat.le_refl _) _).alloc (by simp) _) ((Below.heap_alloc _ _ _ (by simp)).trans e0) e1
    simp only [World.size_alloc] at h
    exact h
  case round =>
    obtain ⟨k, a, c, hk, rfl, hW⟩ := hrel
    have k0 : wr.cell? ⟨w.heap.size, 0, none⟩ = some (.int .i64 V) := by simp [World.cell?, hW.kbox]
    have k1 : wr.cell? ⟨w.heap.size, 1, none⟩ = some (.slice a0 fs.length cap) := by simp [World.cell?, hW.kbox]
    have o1 : wr.cell? ⟨w.heap.size + 1 + 1 + 1, 1, none⟩ = some (.slice a (takeL (fs.take k) s).length c) := by simp [World.cell?, hW.out]
    have o2 : wr.frozen? ⟨w.heap.size + 1 + 1 + 1, 1, none⟩ = false := by simp [World.frozen?, hW.out]
    have HW := hid hW
    by_cases hlt : k < fs.length
    · obtain ⟨b, off, hb, rfl, hc⟩ : ∃ b off, b < w.heap.size ∧ a0 = some ⟨b, off, none⟩ ∧ ∀ i, i < fs.length → w.cell? ⟨b, off + i, none⟩ = some (.int .i64 (fs[i]?.getD 0)) := by
        rcases Hx.out with rfl | h
        · simp at hlt
        · exact h
      have Hc := hid hc
      clear hc
      obtain ⟨x, hx⟩ : ∃ x : Nat, (x : Int) = fs[k]?.getD 0 := ⟨(fs[k]?.getD 0).toNat, by have := Hf.out _ (getD_mem hlt); omega⟩
      have hx64 : x < 64 := by have := Hf.out _ (getD_mem hlt); omega
      have hck : wr.cell? ⟨b, off + k, none⟩ = some (.int .i64 (x : Int)) := by rw [hx]; exact (hW.below.cell (p := ⟨b, off + k, none⟩) hb).trans (Hc.out k hlt)
      have hi0 : (0 : Int) ≤ (k : Int) := by omega
      have hi1 : (k : Int) < (fs.length : Int) := by omega
      have hfl : (takeL (fs.take k) s).length ≤ 1048576 := Nat.le_trans (List.length_filter_le _ _) (by simp; omega)
      have Hp : Hid (∀ cc, decide (¬ x &&& s = s) = cc → takeL (fs.take (k + 1)) s = takeL (fs.take k) s ++ (if cc then [(x : Int)] else [])) := hid (fun cc hc => by
        unfold takeL
        rw [take_snoc hlt, List.filter_append, ← hx]
        cases cc <;> simpa using hc)
      have hbits : bits BinOp.and IntKind.i64 (x : Int) (s : Int) = ((x &&& s : Nat) : Int) := (bits_nat .i64 6 (by decide) (fun n h0 h1 => by rw [IntKind.wrap_i64]; omega) x s (by omega) (by omega)).1
      have hbs := hW.below.size
      clear hx hW
      by_cases hpx : ¬ x &&& s = s
      · have hd : (((x &&& s : Nat) : Int) == (s : Int)) = false := by simp; omega
        have hd2 : (((x &&& s : Nat) : Int) != (s : Int)) = true := by simp; omega
        have HP := hid ((Hp.out true (decide_eq_true hpx)).trans (by rw [if_pos rfl]))
        clear hpx Hp
        go_wp2_with fail
        have a1 : ∀ (o : Obj), (wr.alloc o).cell? ⟨w.heap.size + 1 + 1 + 1, 1, none⟩ = some (.slice a (takeL (fs.take k) s).length c) := cell_alloc_drew1 o1
        have a2 : ∀ (o : Obj), (wr.alloc o).cell? ⟨w.heap.size, 1, none⟩ = some (.slice (some ⟨b, off, none⟩) fs.length cap) := cell_alloc_drew1 k1
        have a3 : ∀ (o : Obj), (wr.alloc o).cell? ⟨b, off + k, none⟩ = some (.int .i64 (x : Int)) := cell_alloc_drew1 hck
        go_region_law (first | (refine step_append_new (by rfl) (by rfl) HW.out.drew.own (by rfl) hbs (by omega) (by rfl) (by rfl) ?_; intro g cp w2 hown2 hgrow2; obtain ⟨o12, o22⟩ := HW.out.mid (n := 1) hgrow2; have k12 := HW.out.midK (n := 1) hgrow2; have x12 := (HW.out.midX (n := 1) hgrow2 (p := ⟨b, off + k, none⟩) hb).trans hck))
        all_goals
          go_wp2_with fail
          go_roundw
          case rel => exact ⟨k + 1, some ⟨g, 0, none⟩, cp, by omega, by go_num, by rw [HP.out]; simpa using HW.out.stepN (n := 1) hown2 hgrow2⟩
          case measure => simp [intOf]; omega
      · have hd : (((x &&& s : Nat) : Int) == (s : Int)) = true := by simp; omega
        have hd2 : (((x &&& s : Nat) : Int) != (s : Int)) = false := by simp; omega
        have HP := hid (Hp.out false (decide_eq_false hpx))
        clear hpx Hp
        go_wp2_with fail
        go_roundw
        case rel => exact ⟨k + 1, a, c, by omega, by go_num, by rw [HP.out]; simpa using HW.out⟩
        case measure => simp [intOf]; omega
    · have o0 : wr.cell? ⟨w.heap.size + 1 + 1 + 1, 0, none⟩ = some (.int .i64 V) := by simp [World.cell?, hW.out]
      have r0 : wr.cell? ⟨w.heap.size + 1, 0, none⟩ = some (.int .i64 0) := by simp [World.cell?, hW.res]
      have r1 : wr.cell? ⟨w.heap.size + 1, 1, none⟩ = some (.slice none 0 0) := by simp [World.cell?, hW.res]
      have f0 : wr.frozen? ⟨w.heap.size + 1, 0, none⟩ = false := by simp [World.frozen?, hW.res]
      have f1 : wr.frozen? ⟨w.heap.size + 1, 1, none⟩ = false := by simp [World.frozen?, hW.res]
      go_wp2_with fail
      have hres : Try.f36.results = #[.cell 4 28] := by kernel_rfl
      refine bodyPost_ret (v := .agg #[.int .i64 V, .slice a (takeL (fs.take k) s).length c]) ?_ rfl ⟨_, rfl, ?_⟩
      · simp only [results, hres]
        go_simp
      obtain rfl : k = fs.length := by omega
      rw [List.take_of_length_le (Nat.le_refl _)] at HW
      have h := HW.out.done (.int .i64 V) (.slice a (takeL (fs.take fs.length) s).length c)
      rw [List.take_of_length_le (Nat.le_refl _)] at h ⊢
      exact h

set_option maxHeartbeats 1000000 in
theorem specTakeFace (V : Int) (a : Option Addr) (cap : Nat) (fs : List Int) (d : Int) (_wd : (Lit.int .i64 d).wf = true) (w : World) (hx : SlI w w.heap.size a fs) (hl : fs.length ≤ 1048576) :
    Calls Try.prog 22 #[.agg #[.int .i64 V, .slice a fs.length cap], .int .i64 d] w fun e w' => ∃ v, e = .returned (.tuple #[.agg #[.int .i64 (takeFaceR V fs d).1, v], .int .i64 (takeFaceR V fs d).2.2]) ∧ Res w w' v (takeFaceR V fs d).2.1 := by
  have hB0 : Below w.heap.size w ((w.alloc (.cells #[.int .i64 V, .slice a fs.length cap] 28)).alloc (.cells #[.int .i64 0, .slice none 0 0] 28)) := ((Below.refl _ w).alloc (Nat.le_refl _) _).alloc (by simp) _
  have Hx := hid (hx.later hB0 (by simp <;> omega))
  by_cases hC : IsC V fs
  · have Hf := hid hC.range63
    have HC := hid hC
    by_cases hd : d ∈ fs
    · refine cx_mono (show takeFaceR V fs d = (V, takeL fs d, 0) by unfold takeFaceR; rw [isCB_true hC, if_pos rfl, if_pos hd]) ?_
      have hdr := hC.range63 d hd
      obtain ⟨s, rfl⟩ : ∃ s : Nat, d = s := ⟨d.toNat, by omega⟩
      have hs : s < 64 := by omega
      have Hd := hid hd
      clear hC hd
      go_enter Try.func22, Try.ntmps22
      go_wp2_with fail
      refine (face_yes V a cap fs _ _ Hx.out hl HC.out Hd.out).mono ?_
      rintro e w1 ⟨rfl, hB1⟩
      have k0 : w1.cell? ⟨w.heap.size, 0, none⟩ = some (.int .i64 V) := (hB1.cell (p := ⟨w.heap.size, 0, none⟩) (by simp <;> omega)).trans (by simp [go_sem])
      have k1 : w1.cell? ⟨w.heap.size, 1, none⟩ = some (.slice a fs.length cap) := (hB1.cell (p := ⟨w.heap.size, 1, none⟩) (by simp <;> omega)).trans (by simp [go_sem])
      have r1 : w1.heap[w.heap.size + 1]? = some (.cells #[.int .i64 0, .slice none 0 0] 28 (0, 0)) := (hB1.block _ (by simp <;> omega)).trans (new2 _ _ _)
      have hB01 := hB0.trans (hB1.mono (by simp <;> omega))
      have hx1 := hid (hx.later hB01 hB01.size)
      have R1 := hid r1
      clear r1
      go_wp2_with fail
      refine (take_any V a cap fs s _ hx1.out hl Hf.out hs).mono ?_
      rintro e w2 ⟨v, rfl, hr⟩
      obtain ⟨_, av, cv, rfl, _⟩ := ownsRow_slI hr.1
      have r2 := (hr.2.block _ (lt_get R1.out)).trans R1.out
      obtain ⟨c0, c1, f0, f1⟩ := two_of r2
      have R2 := hid r2
      clear r2
      go_wp2_with fail
      (try simp only [Exit.inBlock, Exit.then])
      have R3 := two_of (two_set R2.out (.int .i64 V) (.slice av (takeL fs s).length cv))
      refine done_cx (p := 4) (u := 5) (by kernel_rfl) rfl rfl R3.1 R3.2.1 rfl ⟨_, rfl, ?_⟩
      exact (hr.later hB01).set2 R2.out (by decide) (by omega) _ _
    · refine cx_mono (show takeFaceR V fs d = (0, [], 2) by unfold takeFaceR; rw [isCB_true hC, if_pos rfl, if_neg hd]) ?_
      clear hC
      go_enter Try.func22, Try.ntmps22
      go_wp2_with fail
      refine (face_no V a cap fs _ _ Hx.out hl HC.out hd).mono ?_
      rintro e w1 ⟨rfl, hB1⟩
      have r1 : w1.heap[w.heap.size + 1]? = some (.cells #[.int .i64 0, .slice none 0 0] 28 (0, 0)) := (hB1.block _ (by simp <;> omega)).trans (new2 _ _ _)
      have hB01 := hB0.trans (hB1.mono (by simp <;> omega))
      obtain ⟨c0, c1, f0, f1⟩ := two_of r1
      have R1 := hid r1
      clear r1
      go_wp2_with fail
      (try simp only [Exit.inBlock, Exit.then])
      have R3 := two_of (two_set R1.out (.int .i64 0) (.slice none 0 0))
      refine done_cx (p := 4) (u := 5) (by kernel_rfl) rfl rfl R3.1 R3.2.1 rfl ⟨_, rfl, ?_⟩
      exact (res_nil _ _ hB01).set2 R1.out (by decide) (by omega) _ _
  · refine cx_mono (show takeFaceR V fs d = (0, [], 1) by unfold takeFaceR; rw [isCB_false hC, if_neg (by simp)]) ?_
    go_enter Try.func22, Try.ntmps22
    go_wp2_with fail
    refine (face_bad V a cap fs _ _ Hx.out hl hC).mono ?_
    rintro e w1 ⟨rfl, hB1⟩
    have r1 : w1.heap[w.heap.size + 1]? = some (.cells #[.int .i64 0, .slice none 0 0] 28 (0, 0)) := (hB1.block _ (by simp <;> omega)).trans (new2 _ _ _)
    have hB01 := hB0.trans (hB1.mono (by simp <;> omega))
    obtain ⟨c0, c1, f0, f1⟩ := two_of r1
    have R1 := hid r1
    clear r1
    go_wp2_with fail
    (try simp only [Exit.inBlock, Exit.then])
    have R3 := two_of (two_set R1.out (.int .i64 0) (.slice none 0 0))
    refine done_cx (p := 4) (u := 5) (by kernel_rfl) rfl rfl R3.1 R3.2.1 rfl ⟨_, rfl, ?_⟩
    exact (res_nil _ _ hB01).set2 R1.out (by decide) (by omega) _ _

theorem takeWanted (s : Nat) (hs : s < 64) (bd : Nat) (x : Int) (w : World) (hx0 : 1 ≤ x) (hx1 : x ≤ 63) (hd : w.cell? ⟨bd, 0, none⟩ = some (.int .i64 (s : Int))) :
    Calls Try.prog 39 #[.int .i64 x, .pointer (some ⟨bd, 0, none⟩)] w fun e w' => e = .returned (.bool (decide (¬ x.toNat &&& s = s))) ∧ Below w.heap.size w w' := by
  obtain ⟨f, rfl⟩ : ∃ f : Nat, x = f := ⟨x.toNat, by omega⟩
  have hf : f < 64 := by omega
  rw [Int.toNat_natCast]
  have hand : bits BinOp.and IntKind.i64 (f : Int) (s : Int) = ((f &&& s : Nat) : Int) := (bits_nat .i64 6 (by decide) (fun n h0 h1 => by rw [IntKind.wrap_i64]; omega) f s (by omega) (by omega)).1
  have He : Hid ((((f &&& s : Nat) : Int) != (s : Int)) = decide (¬ f &&& s = s)) := hid (by rw [Bool.eq_iff_iff]; simp; omega)
  go_enter Try.func39, Try.ntmps39
  go_wp2_with fail
  go_ret
  exact ⟨ret_bool He.out, Below.refl _ _⟩

set_option maxHeartbeats 1000000 in
theorem implTakeFace (V : Int) (a : Option Addr) (cap : Nat) (fs : List Int) (d : Int) (wd : (Lit.int .i64 d).wf = true) (w : World) (hx : SlI w w.heap.size a fs) (hl : fs.length ≤ 1048576) :
    Calls Try.prog 23 #[.agg #[.int .i64 V, .slice a fs.length cap], .int .i64 d] w fun e w' => ∃ v, e = .returned (.tuple #[.agg #[.int .i64 (takeFaceR V fs d).1, v], .int .i64 (takeFaceR V fs d).2.2]) ∧ Res w w' v (takeFaceR V fs d).2.1 := by
  have hB0 : Below w.heap.size w (((w.alloc (.cells #[.int .i64 V, .slice a fs.length cap] 28)).alloc (.cells #[.int .i64 d] 2)).alloc (.cells #[.int .i64 0, .slice none 0 0] 28)) := (((Below.refl _ w).alloc (Nat.le_refl _) _).alloc (by simp) _).alloc (by simp <;> omega) _
  have Hx := hid (hx.later hB0 (by simp <;> omega))
  by_cases hC : IsC V fs
  · have Hf := hid hC.range63
    have HC := hid hC
    by_cases hd : d ∈ fs
    · refine cx_mono (show takeFaceR V fs d = (V, takeL fs d, 0) by unfold takeFaceR; rw [isCB_true hC, if_pos rfl, if_pos hd]) ?_
      have hdr := hC.range63 d hd
      obtain ⟨s, rfl⟩ : ∃ s : Nat, d = s := ⟨d.toNat, by omega⟩
      have hs : s < 64 := by omega
      have Hd := hid hd
      clear hC hd wd
      go_enter Try.func23, Try.ntmps23
      go_wp2_with fail
      refine (fh_yes V a cap fs _ _ Hx.out hl HC.out Hd.out).mono ?_
      rintro e w1 ⟨b, rfl, _, _, hB1⟩
      have k0 : w1.cell? ⟨w.heap.size, 0, none⟩ = some (.int .i64 V) := (hB1.cell (p := ⟨w.heap.size, 0, none⟩) (by simp <;> omega)).trans (by simp [go_sem])
      have k1 : w1.cell? ⟨w.heap.size, 1, none⟩ = some (.slice a fs.length cap) := (hB1.cell (p := ⟨w.heap.size, 1, none⟩) (by simp <;> omega)).trans (by simp [go_sem])
      have k2 : w1.cell? ⟨w.heap.size + 1, 0, none⟩ = some (.int .i64 (s : Int)) := (hB1.cell (p := ⟨w.heap.size + 1, 0, none⟩) (by simp <;> omega)).trans (by simp [go_sem])
      have r1 : w1.heap[w.heap.size + 1 + 1]? = some (.cells #[.int .i64 0, .slice none 0 0] 28 (0, 0)) := (hB1.block _ (by simp <;> omega)).trans (new3 _ _ _ _)
      have hB01 := hB0.trans (hB1.mono (by simp <;> omega))
      have hx1 := hid (hx.later hB01 hB01.size)
      have R1 := hid r1
      clear r1
      go_wp2_with fail
      refine (cw_any V a cap fs _ 39 _ (takeL fs s) ?_).mono ?_
      · intro W' hW1
        refine fw_any V a cap fs W' 39 _ (fun x => decide (¬ x.toNat &&& s = s)) (hx1.out.later hW1 hW1.size) hl (enters_of Try.func39 (by kernel_rfl) rfl) ?_
        intro W2 x hW2 hxm
        have := Hf.out x hxm
        have hlt : w.heap.size + 1 < w1.heap.size := by have := lt_get R1.out; omega
        exact takeWanted s hs _ x W2 this.1 this.2 ((hW2.cell (p := ⟨w.heap.size + 1, 0, none⟩) (Nat.lt_of_lt_of_le hlt hW1.size)).trans ((hW1.cell (p := ⟨w.heap.size + 1, 0, none⟩) hlt).trans k2))
      rintro e w2 ⟨v, rfl, hr⟩
      obtain ⟨_, av, cv, rfl, _⟩ := ownsRow_slI hr.1
      have r2 := (hr.2.block _ (lt_get R1.out)).trans R1.out
      obtain ⟨c0, c1, f0, f1⟩ := two_of r2
      have R2 := hid r2
      clear r2
      go_wp2_with fail
      (try simp only [Exit.inBlock, Exit.then])
      have R3 := two_of (two_set R2.out (.int .i64 V) (.slice av (takeL fs s).length cv))
      refine done_cx (p := 4) (u := 5) (by kernel_rfl) rfl rfl R3.1 R3.2.1 rfl ⟨_, rfl, ?_⟩
      exact (hr.later hB01).set2 R2.out (by decide) (by omega) _ _
    · refine cx_mono (show takeFaceR V fs d = (0, [], 2) by unfold takeFaceR; rw [isCB_true hC, if_pos rfl, if_neg hd]) ?_
      have Hd := hid hd
      clear hC hd
      go_enter Try.func23, Try.ntmps23
      go_wp2_with fail
      refine (fh_no V a cap fs _ _ Hx.out hl HC.out wd Hd.out).mono ?_
      rintro e w1 ⟨rfl, hB1⟩
      have r1 : w1.heap[w.heap.size + 1 + 1]? = some (.cells #[.int .i64 0, .slice none 0 0] 28 (0, 0)) := (hB1.block _ (by simp <;> omega)).trans (new3 _ _ _ _)
      have hB01 := hB0.trans (hB1.mono (by simp <;> omega))
      obtain ⟨c0, c1, f0, f1⟩ := two_of r1
      have R1 := hid r1
      clear r1
      go_wp2_with fail
      (try simp only [Exit.inBlock, Exit.then])
      have R3 := two_of (two_set R1.out (.int .i64 0) (.slice none 0 0))
      refine done_cx (p := 4) (u := 5) (by kernel_rfl) rfl rfl R3.1 R3.2.1 rfl ⟨_, rfl, ?_⟩
      exact (res_nil _ _ hB01).set2 R1.out (by decide) (by omega) _ _
  · refine cx_mono (show takeFaceR V fs d = (0, [], 1) by unfold takeFaceR; rw [isCB_false hC, if_neg (by simp)]) ?_
    go_enter Try.func23, Try.ntmps23
    go_wp2_with fail
    refine (fh_bad V a cap fs _ _ Hx.out hl hC).mono ?_
    rintro e w1 ⟨rfl, hB1⟩
    have r1 : w1.heap[w.heap.size + 1 + 1]? = some (.cells #[.int .i64 0, .slice none 0 0] 28 (0, 0)) := (hB1.block _ (by simp <;> omega)).trans (new3 _ _ _ _)
    have hB01 := hB0.trans (hB1.mono (by simp <;> omega))
    obtain ⟨c0, c1, f0, f1⟩ := two_of r1
    have R1 := hid r1
    clear r1
    go_wp2_with fail
    (try simp only [Exit.inBlock, Exit.then])
    have R3 := two_of (two_set R1.out (.int .i64 0) (.slice none 0 0))
    refine done_cx (p := 4) (u := 5) (by kernel_rfl) rfl rfl R3.1 R3.2.1 rfl ⟨_, rfl, ?_⟩
    exact (res_nil _ _ hB01).set2 R1.out (by decide) (by omega) _ _

end Go.Proofs.Ytdifmnjheapjcab
