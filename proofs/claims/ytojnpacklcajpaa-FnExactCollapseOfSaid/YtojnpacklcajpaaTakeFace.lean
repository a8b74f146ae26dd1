import Derived.Test.YtojnpacklcajpaaHaving
/-! TakeFace, the model's and the program's. -/
namespace Go.Proofs.Ytojnpacklcajpaa
open Go.RowKit

/-- The faces that do not have a given one. -/
def takeL (fs : List Int) (s : Int) : List Int := fs.filter fun x => decide (¬ x.toNat &&& s.toNat = s.toNat)

/-- What TakeFace hands back. -/
noncomputable def takeFaceR (V : Int) (fs : List Int) (f : Int) : Int × List Int × Int := if isCB V fs then (if f ∈ fs then (V, takeL fs f, 0) else (0, [], 2)) else (0, [], 1)

theorem takeFaceR_len (V : Int) (fs : List Int) (f : Int) (h : fs.length ≤ 1048576) : (takeFaceR V fs f).2.1.length ≤ 1048576 := by
  unfold takeFaceR
  split
  · split
    · exact Nat.le_trans (List.length_filter_le _ _) h
    · simp
  · simp

set_option maxHeartbeats 2000000 in
theorem take_any (V : Int) (a0 : Option Addr) (cap : Nat) (fs : List Int) (s : Nat) (w : World) (hx : SlI w w.heap.size a0 fs) (hl : fs.length ≤ 1048576) (hf : ∀ x ∈ fs, 1 ≤ x ∧ x ≤ 63) (hs : s < 64) :
    Calls Try.prog 60 #[.agg #[.int .i64 V, .slice a0 fs.length cap], .int .i64 (s : Int)] w fun e w' => ∃ v, e = .returned (.agg #[.int .i64 V, v]) ∧ Res w w' v (takeL fs s) := by
  have Hx := hid hx
  have Hf := hid hf
  clear hx hf
  go_enter Try.func60, Try.ntmps60
  go_wp2
  go_loopw [6] (fun i wr => ∃ (k : Nat) (a : Option Addr) (c : Nat), k ≤ fs.length ∧ i = .int .i64 k ∧ OutW w wr V (.slice a0 fs.length cap) (w.heap.size + 1 + 1 + 1) (takeL (fs.take k) s) a c) (fun i _ => fs.length - (intOf i).toNat)
  case atStart =>
    refine ⟨0, some ⟨w.heap.size + 1 + 1, 0, none⟩, 0, Nat.zero_le _, rfl, ?_⟩
    have e0 := heap_alloc_new w (.cells #[.int .i64 V, .slice a0 fs.length cap] 29)
    have e1 := heap_alloc_new (w.alloc (.cells #[.int .i64 V, .slice a0 fs.length cap] 29)) (.cells #[.int .i64 0, .slice none 0 0] 29)
    rw [World.size_alloc] at e1
    have h := outW_start (((Below.refl _ w).alloc (Nat.le_refl _) _).alloc (by simp) _) ((Below.heap_alloc _ _ _ (by simp)).trans e0) e1
    simp only [World.size_alloc] at h
    exact h
  case round =>
    obtain ⟨k, a, c, hk, rfl, hW⟩ := hrel
    have k0 : wr.cell? ⟨w.heap.size, 0, none⟩ = some (.int .i64 V) := by simp [World.cell?, hW.kbox]
    have k1 : wr.cell? ⟨w.heap.size, 1, none⟩ = some (.slice a0 fs.length cap) := by simp [World.cell?, hW.kbox]
    have o1 : wr.cell? ⟨w.heap.size + 1 + 1 + 1, 1, none⟩ = some (.slice a (takeL (fs.take k) s).length c) := by simp [World.cell?, hW.out]
    have o2 : wr.frozen? ⟨w.heap.size + 1 + 1 + 1, 1, none⟩ = false := by simp [World.frozen?, hW.out]
    have HW := hid hW
    by_cases hlt : k < fs.length
    · obtain ⟨b, off, hb, rfl, hc⟩ : ∃ b off, b < w.heap.size ∧ a0 = some ⟨b, off, none⟩ ∧ ∀ i, i < fs.length → w.cell? ⟨b, off + i, none⟩ = some (.int .i64 (fs[i]?.getD 0)) := by
        rcases Hx.out with rfl | h
        · simp at hlt
        · exact h
      have Hc := hid hc
      clear hc
      obtain ⟨x, hx⟩ : ∃ x : Nat, (x : Int) = fs[k]?.getD 0 := ⟨(fs[k]?.getD 0).toNat, by have := Hf.out _ (getD_mem hlt); omega⟩
      have hx64 : x < 64 := by have := Hf.out _ (getD_mem hlt); omega
      have hck : wr.cell? ⟨b, off + k, none⟩ = some (.int .i64 (x : Int)) := by rw [hx]; exact (hW.below.cell (p := ⟨b, off + k, none⟩) hb).trans (Hc.out k hlt)
      have hi0 : (0 : Int) ≤ (k : Int) := by omega
      have hi1 : (k : Int) < (fs.length : Int) := by omega
      have hfl : (takeL (fs.take k) s).length ≤ 1048576 := Nat.le_trans (List.length_filter_le _ _) (by simp; omega)
      have Hp : Hid (∀ cc, decide (¬ x &&& s = s) = cc → takeL (fs.take (k + 1)) s = takeL (fs.take k) s ++ (if cc then [(x : Int)] else [])) := hid (fun cc hc => by
        unfold takeL
        rw [take_snoc hlt, List.filter_append, ← hx]
        cases cc <;> simpa using hc)
      have hbits : bits BinOp.and IntKind.i64 (x : Int) (s : Int) = ((x &&& s : Nat) : Int) := (bits_nat .i64 6 (by decide) (fun n h0 h1 => by rw [IntKind.wrap_i64]; omega) x s (by omega) (by omega)).1
      have hbs := hW.below.size
      clear hx hW
      by_cases hpx : ¬ x &&& s = s
      · have hd : (((x &&& s : Nat) : Int) == (s : Int)) = false := by simp; omega
        have hd2 : (((x &&& s : Nat) : Int) != (s : Int)) = true := by simp; omega
        have HP := hid ((Hp.out true (decide_eq_true hpx)).trans (by rw [if_pos rfl]))
        clear hpx Hp
        go_wp2_with fail
        have a1 : ∀ (o : Obj), (wr.alloc o).cell? ⟨w.heap.size + 1 + 1 + 1, 1, none⟩ = some (.slice a (takeL (fs.take k) s).length c) := cell_alloc_drew1 o1
        have a2 : ∀ (o : Obj), (wr.alloc o).cell? ⟨w.heap.size, 1, none⟩ = some (.slice (some ⟨b, off, none⟩) fs.length cap) := cell_alloc_drew1 k1
        have a3 : ∀ (o : Obj), (wr.alloc o).cell? ⟨b, off + k, none⟩ = some (.int .i64 (x : Int)) := cell_alloc_drew1 hck
        go_region_law (first | (refine step_append_new (by rfl) (by rfl) HW.out.drew.own (by rfl) hbs (by omega) (by rfl) (by rfl) ?_; intro g cp w2 hown2 hgrow2; obtain ⟨o12, o22⟩ := HW.out.mid (n := 1) hgrow2; have k12 := HW.out.midK (n := 1) hgrow2; have x12 := (HW.out.midX (n := 1) hgrow2 (p := ⟨b, off + k, none⟩) hb).trans hck))
        all_goals
          go_wp2_with fail
          go_roundw
          case rel => exact ⟨k + 1, some ⟨g, 0, none⟩, cp, by omega, by go_num, by rw [HP.out]; simpa using HW.out.stepN (n := 1) hown2 hgrow2⟩
          case measure => simp [intOf]; omega
      · have hd : (((x &&& s : Nat) : Int) == (s : Int)) = true := by simp; omega
        have hd2 : (((x &&& s : Nat) : Int) != (s : Int)) = false := by simp; omega
        have HP := hid (Hp.out false (decide_eq_false hpx))
        clear hpx Hp
        go_wp2_with fail
        go_roundw
        case rel => exact ⟨k + 1, a, c, by omega, by go_num, by rw [HP.out]; simpa using HW.out⟩
        case measure => simp [intOf]; omega
    · have o0 : wr.cell? ⟨w.heap.size + 1 + 1 + 1, 0, none⟩ = some (.int .i64 V) := by simp [World.cell?, hW.out]
      have r0 : wr.cell? ⟨w.heap.size + 1, 0, none⟩ = some (.int .i64 0) := by simp [World.cell?, hW.res]
      have r1 : wr.cell? ⟨w.heap.size + 1, 1, none⟩ = some (.slice none 0 0) := by simp [World.cell?, hW.res]
      have f0 : wr.frozen? ⟨w.heap.size + 1, 0, none⟩ = false := by simp [World.frozen?, hW.res]
      have f1 : wr.frozen? ⟨w.heap.size + 1, 1, none⟩ = false := by simp [World.frozen?, hW.res]
      go_wp2_with fail
      have hres : Try.f60.results = #[.cell 4 29] := by kernel_rfl
      refine bodyPost_ret (v := .agg #[.int .i64 V, .slice a (takeL (fs.take k) s).length c]) ?_ rfl ⟨_, rfl, ?_⟩
      · simp only [results, hres]
        go_simp
      obtain rfl : k = fs.length := by omega
      rw [List.take_of_length_le (Nat.le_refl _)] at HW
      have h := HW.out.done (.int .i64 V) (.slice a (takeL (fs.take fs.length) s).length c)
      rw [List.take_of_length_le (Nat.le_refl _)] at h ⊢
      exact h

end Go.Proofs.Ytojnpacklcajpaa
