import Derived.Test.YtmkknfdjoajpcaaPsI
import Derived.Test.YtmkknfdjoajpcaaPureS
import Derived.Test.YtmkknfdjoajpcaaOf2
/-! IsPseudomanifold: the model's. -/
namespace Go.Proofs.Ytmkknfdjoajpcaa
open Go.RowKit Go.Shelf

set_option maxRecDepth 100000 in
set_option maxHeartbeats 4000000 in
theorem specIsPseudomanifold (V : Int) (a : Option Addr) (cap : Nat) (fs : List Int) (w : World) (hx : SlI w w.heap.size a fs) (hl : fs.length ≤ 1048576) :
    Calls Try.prog 31 #[.agg #[.int .i64 V, .slice a fs.length cap]] w fun e w' => e = .returned (.tuple #[.bool (isPsR V fs).1, .int .i64 (isPsR V fs).2]) ∧ Below w.heap.size w w' := by
  obtain ⟨W, hW⟩ : ∃ W, W = w.alloc (.cells #[.int .i64 V, .slice a fs.length cap] 26) := ⟨_, rfl⟩
  have hB0 : Below w.heap.size w W := by rw [hW]; exact (Below.refl _ w).alloc (Nat.le_refl _) _
  have hkb : W.heap[w.heap.size]? = some (.cells #[.int .i64 V, .slice a fs.length cap] 26 (0, 0)) := by rw [hW]; exact heap_alloc_new _ _
  have HK := hid (And.intro hB0 hkb)
  have Hx := hid hx
  have HW := hid hW
  obtain ⟨k0, k1, _, _⟩ := two_of hkb
  clear hx hW hB0 hkb
  by_cases hC : IsC V fs
  · refine bool_mono' (show isPsR V fs = (psB fs, 0) by unfold isPsR; rw [isCB_true hC, if_pos rfl]) ?_
    have HPu := hid (fun (W : World) (h : Below w.heap.size w W) => pureS_any V a cap fs W (Hx.out.later h h.size) hl hC)
    have Hf := hid hC.range63
    have HY := hid (is_yes V a cap fs W (Hx.out.later HK.out.1 HK.out.1.size) hl hC)
    have HDim := hid (fun (W : World) (h : Below w.heap.size w W) => dimS_any V a cap fs W (Hx.out.later h h.size) hl Hf.out)
    have ht0 := top_lo fs
    have ht1 := top_hi fs
    have HOf := hid (fun (W : World) (h : Below w.heap.size w W) => of_any2 V a cap fs (top fs - 1) W (Hx.out.later h h.size) hl Hf.out (by omega) (by omega))
    obtain ⟨F, hF⟩ : ∃ F, F = ofDim fs (top fs - 1) := ⟨_, rfl⟩
    have HFr : Hid (∀ x ∈ F, 1 ≤ x ∧ x ≤ 63) := hid (fun x hx => Hf.out x (by rw [hF] at hx; unfold ofDim at hx; exact (List.mem_filter.1 hx).1))
    have HFl : Hid (F.length ≤ 1048576) := hid (by rw [hF]; unfold ofDim; exact Nat.le_trans (List.length_filter_le _ _) hl)
    obtain ⟨D, hD⟩ : ∃ D, D = top fs := ⟨_, rfl⟩
    obtain ⟨b, hb⟩ : ∃ b, b = pureB (facetsL fs) := ⟨_, rfl⟩
    have HR : Hid (psB fs = if D < 0 then false else if b = false then false else if D = 0 then decide (fs.length = 2) else F.all fun x => decide ((aboveL fs x.toNat).length = 2)) := hid (by unfold psB; rw [hF, hb, hD])
    rw [← hF, ← hD] at HOf
    rw [← hD] at HDim ht0 ht1
    rw [← hb] at HPu
    obtain ⟨R, hRR⟩ : ∃ R, R = psB fs := ⟨_, rfl⟩
    rw [← hRR] at HR
    rw [← hRR]
    clear hC hF hD hb hRR
    go_enter Try.func31, Try.ntmps31
    go_wp2_with fail
    rw [← HW.out]
    refine HY.out.mono ?_
    rintro e w1 ⟨rfl, hB1⟩
    have HK1 := hid (And.intro (HK.out.1.trans (hB1.mono HK.out.1.size)) ((hB1.block _ (lt_get HK.out.2)).trans HK.out.2))
    clear hB1 k0 k1
    obtain ⟨k0, k1, _, _⟩ := two_of HK1.out.2
    go_wp2_with fail
    refine (HDim.out w1 HK1.out.1).mono ?_
    rintro e w2 ⟨rfl, hB2⟩
    have HK2 := hid (And.intro (HK1.out.1.trans (hB2.mono HK1.out.1.size)) ((hB2.block _ (lt_get HK1.out.2)).trans HK1.out.2))
    clear hB2 k0 k1
    obtain ⟨k0, k1, _, _⟩ := two_of HK2.out.2
    by_cases hD0 : D < 0
    · have hd : decide (D < 0) = true := decide_eq_true hD0
      have HE := hid (HR.out.trans (if_pos hD0))
      clear hD0
      go_wp2_with fail
      go_ret2
      exact ⟨by rw [HE.out]; rfl, HK2.out.1⟩
    · have hd : decide (D < 0) = false := decide_eq_false hD0
      rw [if_neg hD0] at HR
      cases b
      · have HE := hid (HR.out.trans (if_pos rfl))
        go_wp2_with fail
        refine (HPu.out w2 HK2.out.1).mono ?_
        rintro e w3 ⟨rfl, hB3⟩
        have HB3 := hid (HK2.out.1.trans (hB3.mono HK2.out.1.size))
        clear hB3
        go_wp2_with fail
        go_ret2
        exact ⟨by rw [HE.out]; rfl, HB3.out⟩
      · rw [if_neg (by decide)] at HR
        go_wp2_with fail
        refine (HPu.out w2 HK2.out.1).mono ?_
        rintro e w3 ⟨rfl, hB3⟩
        have HK3 := hid (And.intro (HK2.out.1.trans (hB3.mono HK2.out.1.size)) ((hB3.block _ (lt_get HK2.out.2)).trans HK2.out.2))
        clear hB3 k0 k1
        obtain ⟨k0, k1, _, _⟩ := two_of HK3.out.2
        by_cases hz : D = 0
        · have hdz : (D == 0) = true := by simp [hz]
          rw [if_pos hz] at HR
          by_cases h2 : fs.length = 2
          · have hd2 : ((fs.length : Int) == 2) = true := by simp [h2]
            have HE := hid (HR.out.trans (decide_eq_true h2))
            clear h2 hz
            go_wp2_with fail
            go_ret2
            exact ⟨by rw [HE.out]; rfl, HK3.out.1⟩
          · have hd2 : ((fs.length : Int) == 2) = false := by simp; omega
            have HE := hid (HR.out.trans (decide_eq_false h2))
            clear h2 hz
            go_wp2_with fail
            go_ret2
            exact ⟨by rw [HE.out]; rfl, HK3.out.1⟩
        · have hdz : (D == 0) = false := by simpa using hz
          rw [if_neg hz] at HR
          have hwr : IntKind.i64.wrap (D - 1) = D - 1 := by rw [IntKind.wrap_i64]; omega
          clear hz
          go_wp2_with fail
          refine (HOf.out w3 HK3.out.1).mono ?_
          rintro e w4 ⟨v4, rfl, hr4⟩
          obtain ⟨_, fv, fc, rfl, hs4⟩ := ownsRow_slI hr4.1
          have HK4 := hid (And.intro (HK3.out.1.trans (hr4.2.mono HK3.out.1.size)) ((hr4.2.block _ (lt_get HK3.out.2)).trans HK3.out.2))
          have Hs4 := hid hs4
          clear hr4 hs4 k0 k1 hwr
          go_wp2_with fail
          go_loopw [6] (fun i wr => ∃ k : Nat, k ≤ F.length ∧ i = .int .i64 k ∧ Hid ((F.take k).all (fun x => decide ((aboveL fs x.toNat).length = 2)) = true) ∧ Hid (Below w4.heap.size w4 wr)) (fun i _ => F.length - (RowKit.intOf i).toNat)
          case atStart => exact ⟨0, Nat.zero_le _, rfl, hid (by simp), hid (Below.refl _ _)⟩
          case round =>
            obtain ⟨k, hk, rfl, Hk, HB⟩ := hrel
            have HKr := hid (And.intro (HK4.out.1.trans (HB.out.mono HK4.out.1.size)) ((HB.out.block _ (lt_get HK4.out.2)).trans HK4.out.2))
            obtain ⟨k0, k1, _, _⟩ := two_of HKr.out.2
            have hFl := HFl.out
            by_cases hlt : k < F.length
            · obtain ⟨b, off, hb, rfl, hc⟩ : ∃ b off, b < wr.heap.size ∧ fv = some ⟨b, off, none⟩ ∧ ∀ i, i < F.length → wr.cell? ⟨b, off + i, none⟩ = some (.int .i64 (F[i]?.getD 0)) := by
                rcases Hs4.out.later HB.out HB.out.size with h | h
                · rw [h] at hlt; simp at hlt
                · exact h
              obtain ⟨x, hx⟩ : ∃ x : Nat, (x : Int) = F[k]?.getD 0 := ⟨(F[k]?.getD 0).toNat, by have := HFr.out _ (getD_mem hlt); omega⟩
              have hx64 : x < 64 := by have := HFr.out _ (getD_mem hlt); omega
              have hck : wr.cell? ⟨b, off + k, none⟩ = some (.int .i64 (x : Int)) := by rw [hx]; exact hc k hlt
              have hi0 : (0 : Int) ≤ (k : Int) := by omega
              have hi1 : (k : Int) < (F.length : Int) := by omega
              have HAb := hid (fun (W : World) (h : Below w.heap.size w W) => above_any V a cap fs x W (Hx.out.later h h.size) hl Hf.out hx64)
              have Hs : Hid (∀ c, decide ((aboveL fs x).length = 2) = c → (F.take (k + 1)).all (fun x => decide ((aboveL fs x.toNat).length = 2)) = c) := hid (fun c hcc => by
                rw [take_snoc hlt, List.all_append, Hk.out, ← hx]; simpa using hcc)
              have Hall : Hid (decide ((aboveL fs x).length = 2) = false → F.all (fun x => decide ((aboveL fs x.toNat).length = 2)) = false) := hid (fun hcc => List.all_eq_false.2 ⟨_, getD_mem hlt, by rw [← hx]; simpa using hcc⟩)
              have hal : (aboveL fs x).length ≤ 1048576 := Nat.le_trans (List.length_filter_le _ _) hl
              obtain ⟨A, hA⟩ : ∃ A, A = aboveL fs x := ⟨_, rfl⟩
              rw [← hA] at HAb Hs Hall hal
              have KW := hid (show Below w.heap.size w wr.drew from ⟨HKr.out.1.os, HKr.out.1.tape, HKr.out.1.output, HKr.out.1.size, HKr.out.1.block⟩)
              clear hx hc hA
              by_cases h1 : A.length = 2
              · have hd : ((A.length : Int) != 2) = false := by simp [h1]
                have HP := hid (Hs.out true (decide_eq_true h1))
                clear h1 Hs Hall
                go_wp2_with fail
                go_region_with (go_at_call 62; refine (HAb.out _ (by with_reducible_and_instances exact KW.out)).mono ?_; rintro e w7 ⟨v7, rfl, hr7⟩; obtain ⟨_, av, cv, rfl, _⟩ := ownsRow_slI hr7.1; have hb7 := hid hr7.2; clear hr7)
                all_goals
                  go_wp2_with fail
                  go_roundw
                  case rel =>
                    have hw7 : Below w4.heap.size w4 wr.drew := ⟨HB.out.os, HB.out.tape, HB.out.output, HB.out.size, HB.out.block⟩
                    exact ⟨k + 1, by omega, by go_num, HP, hid (hw7.trans (hb7.out.mono hw7.size))⟩
                  case measure => simp [RowKit.intOf]; omega
              · have hd : ((A.length : Int) != 2) = true := by simp; omega
                have HE := hid (HR.out.trans (Hall.out (decide_eq_false h1)))
                clear h1 Hs Hall
                go_wp2_with fail
                go_region_with (go_at_call 62; refine (HAb.out _ (by with_reducible_and_instances exact KW.out)).mono ?_; rintro e w7 ⟨v7, rfl, hr7⟩; obtain ⟨_, av, cv, rfl, _⟩ := ownsRow_slI hr7.1; have hb7 := hid (KW.out.trans (hr7.2.mono KW.out.size)); clear hr7)
                all_goals
                  go_wp2_with fail
                  go_ret2
                  exact ⟨by rw [HE.out]; rfl, hb7.out⟩
            · have HE : Hid (R = true) := hid (by have h := Hk.out; rw [show k = F.length by omega, List.take_length] at h; exact HR.out.trans h)
              go_wp2_with fail
              go_ret2
              exact ⟨by rw [HE.out]; rfl, HKr.out.1⟩
  · refine bool_mono' (show isPsR V fs = (false, 1) by unfold isPsR; rw [isCB_false hC, if_neg (by simp)]) ?_
    have HY := hid (is_no V a cap fs W (Hx.out.later HK.out.1 HK.out.1.size) hl hC)
    clear hC
    go_enter Try.func31, Try.ntmps31
    go_wp2_with fail
    rw [← HW.out]
    refine HY.out.mono ?_
    rintro e w1 ⟨rfl, hB1⟩
    have HB1 := hid (HK.out.1.trans (hB1.mono HK.out.1.size))
    go_wp2_with fail
    go_ret2
    exact ⟨rfl, HB1.out⟩

end Go.Proofs.Ytmkknfdjoajpcaa
