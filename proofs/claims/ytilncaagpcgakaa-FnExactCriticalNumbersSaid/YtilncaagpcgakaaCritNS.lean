import Derived.Test.YtilncaagpcgakaaCritNI
import Derived.Test.YtilncaagpcgakaaCritS
import Derived.Deep.CutRange
/-! The numbers of critical faces, the model's. -/
namespace Go.Proofs.Ytilncaagpcgakaa
open Go.RowKit

/-- 'make([]int64, n)', as an equation. -/
theorem make_run (w : World) (n : Nat) (hn : n ≤ 1099511627776) : ∃ w', (Instr.makeSlice 22 (.int .i64 (n : Int)) (.int .i64 (n : Int))).run Try.prog w = .ok (.slice (some ⟨w.heap.size, 0, none⟩) n n) w' ∧
    w'.ownsRow w.heap.size 2 1 (.slice (some ⟨w.heap.size, 0, none⟩) n n) n ((List.replicate n (0 : Int)).map (Value.int .i64)) ∧ w.grownBy w' none ∧ Below w.heap.size w w' := by
  obtain ⟨i0, hi, hz0, hz1, hz2⟩ := info_parts info_i64
  obtain ⟨w', hrun, hown, hg⟩ := run_make_full (P := Try.prog) w w.heap.size 22 2 i0 (.int .i64 0) 1 Try.underlying22 hi hz0 hz1 .i64 .i64 n (by rw [hz2]; omega) (by unfold maxLen; omega) (Nat.le_refl _)
  have e : (madeCells (Value.int .i64 0).cells (n * 1)).toList = (List.replicate n (0 : Int)).map (Value.int .i64) := by
    rw [Nat.mul_one]
    exact (toList_madeCells_one _ _).trans (by simp)
  rw [e] at hown
  exact ⟨w', hrun, hown, hg, (Below.refl _ w).grown hg (Nat.le_refl _) (fun k hk => by cases hk)⟩

theorem dim2_any (x : Nat) (w : World) (hx : x < 64) : Calls Try.prog 94 #[.int .i64 (x : Int)] w fun e w' => e = .returned (.int .i64 ((ones x : Int) - 1)) ∧ w = w' := by
  have ho := ones_le x
  go_enter Try.func94, Try.ntmps94
  go_wp2_with (go_at_call 96; refine (ones_any x _ hx).mono ?_; rintro e w' ⟨rfl, rfl⟩)
  go_ret
  exact ⟨ret_int rfl, rfl⟩

theorem dim2E (f e : Nat) (w : World) (hf : f < 64) (he : ones f = e + 1) :
    Calls Try.prog 94 #[.int .i64 (f : Int)] w fun r w' => r = .returned (.int .i64 (e : Int)) ∧ w = w' :=
  (dim2_any f w hf).mono fun _ _ ⟨h, hw⟩ => ⟨by rw [h, he]; congr 2; omega, hw⟩

set_option maxRecDepth 100000 in
set_option maxHeartbeats 4000000 in
theorem numS_any (V : Int) (a0 : Option Addr) (cap : Nat) (fs : List Int) (a1 : Option Addr) (n cap1 : Nat) (ps : List Int) (w : World) (hx : SlI w w.heap.size a0 fs) (hx1 : SlI w w.heap.size a1 ps) (hl : fs.length ≤ 1048576) (hp : ps.length = 2 * n) (hn : n ≤ 1048576) (hf : ∀ x ∈ fs, 1 ≤ x ∧ x ≤ 63) :
    Calls Try.prog 57 #[.agg #[.int .i64 V, .slice a0 fs.length cap], .slice a1 n cap1] w fun e w' => ∃ v, e = .returned v ∧ Res w w' v (countL (critL fs ps) (top fs + 1).toNat) := by
  obtain ⟨W, hW⟩ : ∃ W, W = w.alloc (.cells #[.int .i64 V, .slice a0 fs.length cap] 30) := ⟨_, rfl⟩
  have hB0 : Below w.heap.size w W := by rw [hW]; exact (Below.refl _ w).alloc (Nat.le_refl _) _
  have hsW : W.heap.size = w.heap.size + 1 := by rw [hW]; simp
  have q0 : W.heap[w.heap.size]? = some (.cells #[.int .i64 V, .slice a0 fs.length cap] 30 (0, 0)) := by rw [hW]; exact heap_alloc_new _ _
  obtain ⟨k0, k1, _, _⟩ := two_of q0
  obtain ⟨T, hT⟩ : ∃ T : Nat, (T : Int) = top fs + 1 := ⟨(top fs + 1).toNat, by have := top_lo fs; omega⟩
  have hT6 : T ≤ 6 := by have := top_hi fs; omega
  have hTn : (top fs + 1).toNat = T := by omega
  rw [hTn]
  have HT := hid (show top fs = (T : Int) - 1 by omega)
  clear hT hTn
  obtain ⟨L, hL⟩ : ∃ L, L = critL fs ps := ⟨_, rfl⟩
  have Hm : Hid (∀ x ∈ L, x ∈ fs) := hid (fun x hx => critL_mem (by rw [← hL]; exact hx))
  have HLl : Hid (L.length ≤ 1048576) := hid (by rw [hL]; exact Nat.le_trans (List.length_filter_le _ _) hl)
  rw [← hL]
  have HL := hid hL
  clear hL
  have Q0 := hid q0
  have HsW := hid hsW
  have HW := hid hW
  have HB0 := hid hB0
  have Hx0 := hid hx
  have Hy := hid hx1
  have Hf := hid hf
  have Hp := hid hp
  clear hW q0 hsW hx hx1 hf hp hB0
  go_enter Try.func57, Try.ntmps57
  go_wp2_with fail
  rw [← HW.out]
  go_loopw [5, 6] (fun m i wr => ∃ k : Nat, k ≤ fs.length ∧ i = .int .i64 k ∧ m = .int .i64 (top (fs.take k)) ∧ wr = W) (fun _ i _ => fs.length - (intOf i).toNat)
  case atStart => exact ⟨0, Nat.zero_le _, rfl, by simp [top], rfl⟩
  case round =>
    obtain ⟨k, hk, rfl, rfl, rfl⟩ := hrel
    by_cases hlt : k < fs.length
    · obtain ⟨b, off, hb, rfl, hc⟩ : ∃ b off, b < w.heap.size ∧ a0 = some ⟨b, off, none⟩ ∧ ∀ i, i < fs.length → w.cell? ⟨b, off + i, none⟩ = some (.int .i64 (fs[i]?.getD 0)) := by
        rcases Hx0.out with rfl | h
        · simp at hlt
        · exact h
      obtain ⟨x, hx⟩ : ∃ x : Nat, (x : Int) = fs[k]?.getD 0 := ⟨(fs[k]?.getD 0).toNat, by have := Hf.out _ (getD_mem hlt); omega⟩
      have hx64 : x < 64 := by have := Hf.out _ (getD_mem hlt); omega
      have hck : wr.cell? ⟨b, off + k, none⟩ = some (.int .i64 (x : Int)) := (HB0.out.cell (p := ⟨b, off + k, none⟩) hb).trans (by rw [hx]; exact hc k hlt)
      have hi0 : (0 : Int) ≤ (k : Int) := by omega
      have hi1 : (k : Int) < (fs.length : Int) := by omega
      have Ht : Hid (top (fs.take (k + 1)) = more (top (fs.take k)) ((ones x : Int) - 1)) := hid (by rw [take_snoc hlt, ← hx, top_snoc]; simp)
      have ht0 := top_lo (fs.take k)
      have ht1 := top_hi (fs.take k)
      obtain ⟨t, htt⟩ : ∃ t, t = top (fs.take k) := ⟨_, rfl⟩
      rw [← htt] at Ht ht0 ht1 ⊢
      have ho := ones_le x
      clear hx hc htt
      by_cases hm : t < (ones x : Int) - 1
      · have hmm : more t ((ones x : Int) - 1) = (ones x : Int) - 1 := by unfold more; rw [if_pos hm]
        rw [hmm] at Ht
        clear hmm
        go_wp2_with (go_at_call 94; refine (dim2_any x _ hx64).mono ?_; rintro e w' ⟨rfl, rfl⟩)
        go_roundw
        case rel => exact ⟨k + 1, by omega, by go_num, by rw [Ht.out], trivial⟩
        case measure => simp [intOf]; omega
      · have hmm : more t ((ones x : Int) - 1) = t := by unfold more; rw [if_neg hm]
        rw [hmm] at Ht
        have hm' : (ones x : Int) - 1 ≤ t := by omega
        clear hmm
        go_wp2_with (go_at_call 94; refine (dim2_any x _ hx64).mono ?_; rintro e w' ⟨rfl, rfl⟩)
        go_roundw
        case rel => exact ⟨k + 1, by omega, by go_num, by rw [Ht.out], trivial⟩
        case measure => simp [intOf]; omega
    · obtain rfl : k = fs.length := by omega
      rw [List.take_of_length_le (Nat.le_refl _)]
      rw [HT.out]
      have hw1 : IntKind.i64.wrap ((T : Int) - 1 + 1) = (T : Int) := by rw [IntKind.wrap_i64]; omega
      have hw3 : IntKind.i64.wrap (T : Int) = (T : Int) := by rw [IntKind.wrap_i64]; omega
      have hw2 : wrap64 ((T : Int) - 1 + 1) = (T : Int) := by rw [show (T : Int) - 1 + 1 = T by omega]; exact IntWalk.wrap64_in _ ⟨by omega, by omega⟩
      obtain ⟨wm, hmk, hown, hgm, hBm⟩ := make_run wr.drew T (by omega)
      have m0 := (hBm.cell (p := ⟨w.heap.size, 0, none⟩) (by show w.heap.size < wr.heap.size; rw [HsW.out]; omega)).trans k0
      have m1 := (hBm.cell (p := ⟨w.heap.size, 1, none⟩) (by show w.heap.size < wr.heap.size; rw [HsW.out]; omega)).trans k1
      have HBw : Hid (Below w.heap.size w wr.drew) := hid (HB0.out.trans ⟨rfl, rfl, rfl, Nat.le_refl _, fun _ _ => rfl⟩)
      have HBwm : Hid (Below w.heap.size w wm) := hid (HBw.out.trans (hBm.mono HBw.out.size))
      have HC0 := hid (critS_any V a0 cap fs a1 n cap1 ps wr.drew (Hx0.out.later HBw.out HBw.out.size) (Hy.out.later HBw.out HBw.out.size) hl Hp.out hn)
      have HCm := hid (critS_any V a0 cap fs a1 n cap1 ps wm (Hx0.out.later HBwm.out HBwm.out.size) (Hy.out.later HBwm.out HBwm.out.size) hl Hp.out hn)
      rw [← HL.out] at HC0 HCm
      have Hown := hid hown
      have HBm := hid hBm
      have hsr : wr.heap.size = w.heap.size + 1 := HsW.out
      have Hsr := hid hsr
      have Hltr : Hid (w.heap.size < wr.drew.heap.size) := hid (by show w.heap.size < wr.heap.size; omega)
      have Hltm : Hid (w.heap.size < wm.heap.size) := hid (Nat.lt_of_lt_of_le Hltr.out hBm.size)
      have HNm : Hid (∀ w2, Below wm.heap.size wm w2 → w2.cell? ⟨w.heap.size, 0, none⟩ = some (.int .i64 V) ∧ w2.cell? ⟨w.heap.size, 1, none⟩ = some (.slice a0 fs.length cap)) := hid (fun w2 h => ⟨(h.cell (p := ⟨w.heap.size, 0, none⟩) Hltm.out).trans m0, (h.cell (p := ⟨w.heap.size, 1, none⟩) Hltm.out).trans m1⟩)
      have HNr : Hid (∀ w2, Below wr.drew.heap.size wr.drew w2 → w2.cell? ⟨w.heap.size, 0, none⟩ = some (.int .i64 V) ∧ w2.cell? ⟨w.heap.size, 1, none⟩ = some (.slice a0 fs.length cap)) := hid (fun w2 h => ⟨(h.cell (p := ⟨w.heap.size, 0, none⟩) Hltr.out).trans k0, (h.cell (p := ⟨w.heap.size, 1, none⟩) Hltr.out).trans k1⟩)
      clear hown hgm hBm hsr
      go_wp2_with fail
      go_cut [7, 8] from 25 to 46 (fun p q wx => ∃ bo : Nat, p = .slice (some ⟨bo, 0, none⟩) T T ∧ w.heap.size ≤ bo ∧ wx.ownsRow w.heap.size 2 1 (.slice (some ⟨bo, 0, none⟩) T T) T ((List.replicate T (0 : Int)).map (Value.int .i64)) ∧ wx.ownsRow w.heap.size 2 1 q L.length (L.map (Value.int .i64)) ∧ q.ownBlock ≠ some bo ∧ Below w.heap.size w wx)
      case first =>
        go_region_held3 (fun w' => w'.cell? ⟨w.heap.size, 0, none⟩ = some (.int .i64 V) ∧ w'.cell? ⟨w.heap.size, 1, none⟩ = some (.slice a0 fs.length cap)) (go_keep) (first
          | (go_at_call 53; (with_reducible_and_instances refine HCm.out.mono ?_); rintro e w2 ⟨v, rfl, hr⟩; have hb2 : Below wm.heap.size wm w2 := hr.2; obtain ⟨n0, n1⟩ := HNm.out w2 hb2; have HR := hid hr; clear hr hb2)
          | (go_at_call 53; (with_reducible_and_instances refine HC0.out.mono ?_); rintro e w2 ⟨v, rfl, hr⟩; have hb2 : Below wr.drew.heap.size wr.drew w2 := hr.2; obtain ⟨n0, n1⟩ := HNr.out w2 hb2; obtain ⟨w3, hmk3, hown3, hg3, hB3⟩ := make_run w2 T (by omega); obtain ⟨o0, o1⟩ := HNr.out w3 (hb2.trans (hB3.mono hb2.size)); have HR := hid hr; have Hown3 := hid hown3; have HB3 := hid hB3; clear hr hb2 hown3 hg3 hB3)
          | (simp only [hmk3]))
        · go_wp2_with fail
          go_meet
          case rel =>
            have hlm := (Hown.out.lt wr.heap.size rfl).2
            have hb2 : Below wm.heap.size wm w2 := HR.out.2
            refine ⟨wr.heap.size, rfl, by have := Hsr.out; omega, ownsRow_base (ownsRow_below Hown.out hb2 (fun g hg => (Hown.out.lt g hg).2)) (by show w.heap.size ≤ wr.heap.size; have := Hsr.out; omega), ownsRow_base HR.out.1 HBwm.out.size, fun e => ?_, HBwm.out.trans (hb2.mono HBwm.out.size)⟩
            have := (HR.out.1.lt _ e).1
            omega
        · go_wp2_with fail
          go_meet
          case rel =>
            have hb2 : Below wr.drew.heap.size wr.drew w2 := HR.out.2
            have hs2 := hb2.size
            have hsd : wr.drew.heap.size = wr.heap.size := rfl
            have hsr := Hsr.out
            refine ⟨w2.heap.size, rfl, by omega, ownsRow_base Hown3.out (by omega), ownsRow_base (ownsRow_below HR.out.1 HB3.out (fun g hg => (HR.out.1.lt g hg).2)) (by omega), fun e => ?_, (HBw.out.trans (hb2.mono (by omega))).trans (HB3.out.mono (by omega))⟩
            have := (HR.out.1.lt _ e).2
            omega
      case rest =>
        obtain ⟨bo, rfl, hbo, hnum, hcr, hne, hB⟩ := hcut
        have Hcr := hid hcr
        have Hnum : Hid (wc.ownsRow w.heap.size 2 1 (.slice (some ⟨bo, 0, none⟩) T T) T ((countL [] T).map (Value.int .i64))) := hid (by rw [countL_nil]; exact hnum)
        have HB := hid hB
        clear hcr hnum hB k0 k1 m0 m1 hw1 hw2 hw3 hmk Hown HBm HC0 HCm HNm HNr Hltr Hltm HBw HBwm
        rcases Hcr.out.2 with ⟨rfl, hn0⟩ | ⟨g, cp, _, rfl, _⟩
        · have hLn : L = [] := List.length_eq_zero_iff.1 hn0
          subst hLn
          go_wp2
          refine wp_loop_rounds 1 ?_; rw [rounds_succ]
          go_wp2
          go_ret
          exact ⟨_, rfl, by simpa [countL_len] using Hnum.out, HB.out⟩
        · go_wp2
          go_loopw [9] (fun i wx => ∃ k : Nat, k ≤ L.length ∧ i = .int .i64 k ∧ wx.ownsRow w.heap.size 2 1 (.slice (some ⟨bo, 0, none⟩) T T) T ((countL (L.take k) T).map (Value.int .i64)) ∧ wx.ownsRow w.heap.size 2 1 (.slice (some ⟨g, 0, none⟩) L.length cp) L.length (L.map (Value.int .i64)) ∧ Below w.heap.size w wx) (fun i _ => L.length - (intOf i).toNat)
          case atStart => exact ⟨0, Nat.zero_le _, rfl, by simpa using Hnum.out, Hcr.out, HB.out⟩
          case round =>
            clear Hnum Hcr HB
            obtain ⟨k, hk, rfl, hown, hcr, hB⟩ := hrel
            have hLl := HLl.out
            have hgb : ¬ g = bo := fun e => hne (by simp [Value.ownBlock, e])
            by_cases hlt : k < L.length
            · have hxm := Hm.out _ (getD_mem hlt)
              obtain ⟨x, hx⟩ : ∃ x : Nat, (x : Int) = L[k]?.getD 0 := ⟨(L[k]?.getD 0).toNat, by have := Hf.out _ hxm; omega⟩
              rw [← hx] at hxm
              have hxr := Hf.out _ hxm
              have hx64 : x < 64 := by omega
              have hck : wr.cell? ⟨g, k, none⟩ = some (.int .i64 (x : Int)) := by
                rw [hcr.cellAt k (by omega), hx, List.getElem?_map, List.getElem?_eq_getElem hlt]; rfl
              have hi0 : (0 : Int) ≤ (k : Int) := by omega
              have hi1 : (k : Int) < (L.length : Int) := by omega
              have hop := ones_pos ⟨x, hx64⟩ (by show x ≠ 0; omega)
              have htg := top_ge fs hxm
              rw [HT.out, Int.toNat_natCast] at htg
              obtain ⟨e, he⟩ : ∃ e, ones x = e + 1 := ⟨ones x - 1, by have : 0 < ones x := hop; omega⟩
              have heT : e < T := by omega
              have he0 : (0 : Int) ≤ (e : Int) := by omega
              have he1 : (e : Int) < (T : Int) := by omega
              have hcn := countL_at (L.take k) T e heT
              obtain ⟨c, hn⟩ : ∃ c : Nat, c = (ofDim (L.take k) (e : Int)).length := ⟨_, rfl⟩
              have hn6 : c ≤ 1048576 := by rw [hn]; exact Nat.le_trans (List.length_filter_le _ _) (by simp; omega)
              have hce : wr.cell? ⟨bo, e, none⟩ = some (.int .i64 (c : Int)) := by
                rw [hown.cellAt e (by omega), hn, ← hcn]
                simp [countL, heT]
              have hfe := hown.frozenAt e
              have hst := hown.stored e (.int .i64 ((c : Int) + 1))
              have hstep : ((countL (L.take k) T).map (Value.int .i64)).set e (.int .i64 ((c : Int) + 1)) = (countL (L.take (k + 1)) T).map (Value.int .i64) := by
                rw [take_snoc hlt, ← hx, countL_face _ _ _ _ he, hn, List.map_set]
              rw [hstep] at hst
              have Hst := hid hst
              have HB := hid hB
              have Hcr := hid hcr
              have He := hid he
              have Hbb := hid hbo
              have Hgb := hid hgb
              clear hstep hst hown hB hx hcn hn htg hop hxm hxr he hcr hne hbo hgb
              go_wp2_with (go_at_call 94; refine (dim2E x e _ hx64 He.out).mono ?_; rintro e w' ⟨rfl, rfl⟩)
              go_roundw
              case rel =>
                exact ⟨k + 1, by omega, by go_num, Hst.out.1, Hcr.out.kept Hst.out.2 (Or.inr (fun e => Hgb.out (by simpa [Value.ownBlock] using e))), HB.out.grown Hst.out.2 HB.out.size (fun r e => by cases e; exact Hbb.out)⟩
              case measure => simp [intOf]; omega
            · obtain rfl : k = L.length := by omega
              rw [List.take_of_length_le (Nat.le_refl _)] at hown
              have Hown := hid hown
              have HB := hid hB
              clear hown hcr hB hne
              go_wp2
              go_ret
              exact ⟨_, rfl, by simpa [countL_len] using Hown.out, HB.out⟩

set_option maxRecDepth 100000 in
set_option maxHeartbeats 1000000 in
theorem specCriticalNumbers (V : Int) (a0 : Option Addr) (cap : Nat) (fs : List Int) (a1 : Option Addr) (n cap1 : Nat) (ps : List Int) (w : World) (hx : SlI w w.heap.size a0 fs) (hx1 : SlI w w.heap.size a1 ps) (hl : fs.length ≤ 1048576) (hp : ps.length = 2 * n) (hn : n ≤ 1048576) (_hw : ∀ x ∈ ps, (Lit.int .i64 x).wf = true) :
    Calls Try.prog 27 #[.agg #[.int .i64 V, .slice a0 fs.length cap], .slice a1 n cap1] w fun e w' => ∃ v, e = .returned (.tuple #[v, .int .i64 (criticalNumbersR V fs n ps).2]) ∧ Res w w' v (criticalNumbersR V fs n ps).1 := by
  have hB0 : Below w.heap.size w (w.alloc (.cells #[.int .i64 V, .slice a0 fs.length cap] 30)) := (Below.refl _ w).alloc (Nat.le_refl _) _
  have HI := hid (pcode_spec V a0 cap fs a1 n cap1 ps _ (hx.later hB0 hB0.size) (hx1.later hB0 hB0.size) hl hp hn)
  have Hx0 := hid hx
  have Hy := hid hx1
  clear hx hx1
  rcases pcode_cases V fs n ps with ⟨hC, _, h0, _, _⟩ | ⟨_, _, h0, _, _⟩ | ⟨_, h0, _⟩
  · refine res_mono (show criticalNumbersR V fs n ps = (countL (critL fs ps) (top fs + 1).toNat, 0) by unfold criticalNumbersR; rw [h0, if_pos rfl]) ?_
    rw [h0] at HI
    have Hf := hid hC.range63
    clear h0 hC
    go_enter Try.func27, Try.ntmps27
    go_wp2_with fail
    refine HI.out.mono ?_
    rintro e w1 ⟨rfl, hB1⟩
    have HB1 := hid (hB0.trans (hB1.mono (by simp)))
    have k0 : w1.cell? ⟨w.heap.size, 0, none⟩ = some (.int .i64 V) := (hB1.cell (p := ⟨w.heap.size, 0, none⟩) (by simp)).trans (by simp [go_sem])
    have k1 : w1.cell? ⟨w.heap.size, 1, none⟩ = some (.slice a0 fs.length cap) := (hB1.cell (p := ⟨w.heap.size, 1, none⟩) (by simp)).trans (by simp [go_sem])
    have HJ := hid (numS_any V a0 cap fs a1 n cap1 ps w1 (Hx0.out.later HB1.out HB1.out.size) (Hy.out.later HB1.out HB1.out.size) hl hp hn Hf.out)
    clear hB0 hB1 hp HI
    go_wp2_with fail
    refine HJ.out.mono ?_
    rintro e w2 ⟨v, rfl, hr⟩
    go_wp2_with fail
    go_ret2
    exact ⟨v, rfl, hr.later HB1.out⟩
  · refine res_mono (show criticalNumbersR V fs n ps = ([], 2) by unfold criticalNumbersR; rw [h0, if_neg (by decide)]) ?_
    rw [h0] at HI
    clear h0
    go_enter Try.func27, Try.ntmps27
    go_wp2_with fail
    refine HI.out.mono ?_
    rintro e w1 ⟨rfl, hB1⟩
    go_wp2_with fail
    go_ret2
    exact ⟨_, rfl, res_nil _ _ (hB0.trans (hB1.mono (by simp)))⟩
  · refine res_mono (show criticalNumbersR V fs n ps = ([], 1) by unfold criticalNumbersR; rw [h0, if_neg (by decide)]) ?_
    rw [h0] at HI
    clear h0
    go_enter Try.func27, Try.ntmps27
    go_wp2_with fail
    refine HI.out.mono ?_
    rintro e w1 ⟨rfl, hB1⟩
    go_wp2_with fail
    go_ret2
    exact ⟨_, rfl, res_nil _ _ (hB0.trans (hB1.mono (by simp)))⟩

end Go.Proofs.Ytilncaagpcgakaa
