import Derived.Test.YtmkknfdjoajpcaaMissF
import Derived.Test.YtmkknfdjoajpcaaSpecC
import Derived.Lib.QuietBelow
/-! Missing faces: the model's; MissingFaces. -/
namespace Go.Proofs.Ytmkknfdjoajpcaa
open Go.RowKit Go.Shelf Go.Sort

theorem missB_below {fs : List Int} {f : Nat} (hf : f < 64) : missB fs f = ((belowR f 63).all (fun y => decide (y ∈ fs)) && !decide ((f : Int) ∈ fs)) := by
  unfold missB
  rw [sides_all hf (fun y => decide (y ∈ fs))]

set_option maxRecDepth 100000 in
set_option maxHeartbeats 4000000 in
theorem missS_any (V : Int) (a : Option Addr) (cap : Nat) (fs : List Int) (w : World) (hx : SlI w w.heap.size a fs) (hl : fs.length ≤ 1048576) (h1 : 1 ≤ V) (h2 : V ≤ 6) :
    Calls Try.prog 54 #[.agg #[.int .i64 V, .slice a fs.length cap]] w fun e w' => ∃ v, e = .returned v ∧ Res w w' v (missL V fs) := by
  obtain ⟨A, hA, hA1, hA2⟩ := allV_nat h1 h2
  have hB0 : Below w.heap.size w (w.alloc (.cells #[.int .i64 V, .slice a fs.length cap] 26)) := (Below.refl _ w).alloc (Nat.le_refl _) _
  have hown0 := World.ownsRow_made (base := w.heap.size) (e := 2) (size := 1) (w.alloc (.cells #[.int .i64 V, .slice a fs.length cap] 26)) #[] 0 (by simp) (by simp [maxLen]) rfl
  rw [World.size_alloc] at hown0
  have Hown0 := hid hown0
  have Hk := hid ((Below.heap_alloc _ (.cells #[] 2) _ (by simp)).trans (heap_alloc_new w (.cells #[.int .i64 V, .slice a fs.length cap] 26)))
  have HB0 := hid (hB0.alloc (by simp) (.cells #[] 2))
  have HA := hid hA
  have Hx := hid hx
  have Hall : Hid (∀ W, Calls Try.prog 66 #[.int .i64 V] W fun e w' => e = .returned (.int .i64 (A : Int)) ∧ W = w') := hid (fun W => by rw [hA]; exact all_any V W (by omega) h2)
  clear hx hA hB0 hown0
  go_enter Try.func54, Try.ntmps54
  go_wp2_with fail
  go_loopw [3, 4] (fun v i wr => ∃ k : Nat, k ≤ A ∧ i = .int .i64 ((k : Int) + 1) ∧ Hid (wr.ownsRow w.heap.size 2 1 v (pickTo (fun x => missB fs x.toNat) k).length ((pickTo (fun x => missB fs x.toNat) k).map (Value.int .i64))) ∧ Hid (Below w.heap.size w wr ∧ wr.heap[w.heap.size]? = some (.cells #[.int .i64 V, .slice a fs.length cap] 26 (0, 0)))) (fun _ i _ => A + 1 - (RowKit.intOf i).toNat)
  case atStart => exact ⟨0, Nat.zero_le _, rfl, hid (by simpa [pickTo] using Hown0.out), hid ⟨HB0.out, Hk.out⟩⟩
  case round =>
    obtain ⟨k, hk, rfl, HO, HB⟩ := hrel
    obtain ⟨k0, k1, _, _⟩ := two_of HB.out.2
    have hbs := HB.out.1.size
    have hlen := pickTo_len (fun x => missB fs x.toNat) k
    by_cases hlt : k < A
    · have hd : decide ((k : Int) + 1 ≤ (A : Int)) = true := decide_eq_true (by omega)
      have Hs : Hid (∀ b : Bool, missB fs (k + 1) = b → pickTo (fun x => missB fs x.toNat) (k + 1) = pickTo (fun x => missB fs x.toNat) k ++ (if b then [(k : Int) + 1] else [])) := hid (fun b hb => by rw [← hb]; rfl)
      have HxW := hid (Hx.out.later HB.out.1 hbs)
      by_cases hm : ((k : Int) + 1) ∈ fs
      · have HP := hid (Hs.out false (by rw [missB_below (by omega), show decide (((k + 1 : Nat) : Int) ∈ fs) = true from decide_eq_true hm]; simp))
        have Hm := hid hm
        clear hm Hs
        go_wp2_with fail
        refine (Hall.out _).mono ?_
        rintro e w1 ⟨rfl, rfl⟩
        go_wp2_with fail
        refine (has_yes V _ a cap fs wr HxW.out hl Hm.out).mono ?_
        rintro e w2 ⟨rfl, hB2⟩
        have HO2 := hid (ownsRow_below HO.out hB2 (fun g hg => (HO.out.lt g hg).2))
        have HB2 := hid (show Below w.heap.size w w2 ∧ w2.heap[w.heap.size]? = some (.cells #[.int .i64 V, .slice a fs.length cap] 26 (0, 0)) from ⟨HB.out.1.trans (hB2.mono hbs), (hB2.block _ (lt_get HB.out.2)).trans HB.out.2⟩)
        clear hB2
        go_wp2_with fail
        go_roundw
        case rel => exact ⟨k + 1, by omega, by go_num, hid (by rw [HP.out]; simpa using HO2.out), HB2⟩
        case measure => simp [RowKit.intOf]; omega
      · have hmB : missB fs (k + 1) = (belowR (k + 1) 63).all (fun y => decide (y ∈ fs)) := by
          rw [missB_below (by omega), show decide (((k + 1 : Nat) : Int) ∈ fs) = false from decide_eq_false hm]; simp
        have Hm := hid hm
        have HmB := hid hmB
        clear hm hmB
        have HL : Hid (∃ L, L = belowR (k + 1) 63 ∧ L.length ≤ 63) := hid ⟨_, rfl, belowR_len _ 63⟩
        obtain ⟨L, hL, hLl⟩ := HL.out
        have HBw := hid (fun W => below_any (k + 1) W (by omega))
        rw [← hL] at HBw HmB
        clear hL HL
        go_wp2_with fail
        refine (Hall.out _).mono ?_
        rintro e w1 ⟨rfl, rfl⟩
        go_wp2_with fail
        refine (has_no V _ a cap fs wr HxW.out hl Hm.out).mono ?_
        rintro e w2 ⟨rfl, hB2⟩
        have HO2 := hid (ownsRow_below HO.out hB2 (fun g hg => (HO.out.lt g hg).2))
        have HB2 := hid (show Below w.heap.size w w2 ∧ w2.heap[w.heap.size]? = some (.cells #[.int .i64 V, .slice a fs.length cap] 26 (0, 0)) from ⟨HB.out.1.trans (hB2.mono hbs), (hB2.block _ (lt_get HB.out.2)).trans HB.out.2⟩)
        clear hB2 HO HB k0 k1
        obtain ⟨k0, k1, _, _⟩ := two_of HB2.out.2
        go_wp2_with fail
        refine (HBw.out w2).mono ?_
        rintro e w3 ⟨v3, rfl, hown3, hB3⟩
        obtain ⟨_, av, cv, rfl, hs3⟩ := ownsRow_slI hown3
        have HO3 := hid (ownsRow_below HO2.out hB3 (fun g hg => (HO2.out.lt g hg).2))
        have HB3 := hid (show Below w.heap.size w w3 ∧ w3.heap[w.heap.size]? = some (.cells #[.int .i64 V, .slice a fs.length cap] 26 (0, 0)) from ⟨HB2.out.1.trans (hB3.mono HB2.out.1.size), (hB3.block _ (lt_get HB2.out.2)).trans HB2.out.2⟩)
        have Hs3 := hid hs3
        clear hown3 hB3 hs3 k0 k1 HO2 HB2
        go_wp2_with fail
        go_loopw [5, 7] (fun g i wi => ∃ (j : Nat), j ≤ L.length ∧ i = .int .i64 j ∧ g = .bool ((L.take j).all (fun y => decide (y ∈ fs))) ∧ Hid (wi.ownsRow w.heap.size 2 1 u3 (pickTo (fun x => missB fs x.toNat) k).length ((pickTo (fun x => missB fs x.toNat) k).map (Value.int .i64))) ∧ Hid (Below w3.heap.size w3 wi)) (fun _ i _ => L.length - (RowKit.intOf i).toNat)
        case atStart => exact ⟨0, Nat.zero_le _, rfl, rfl, HO3, hid (Below.refl _ _)⟩
        case round =>
          obtain ⟨j, hj, rfl, rfl, HOi, HBi⟩ := hrel
          have HBi2 := hid (show Below w.heap.size w wr ∧ wr.heap[w.heap.size]? = some (.cells #[.int .i64 V, .slice a fs.length cap] 26 (0, 0)) from ⟨HB3.out.1.trans (HBi.out.mono HB3.out.1.size), (HBi.out.block _ (lt_get HB3.out.2)).trans HB3.out.2⟩)
          have hbi := HBi2.out.1.size
          obtain ⟨g, hg⟩ : ∃ g, g = (L.take j).all (fun y => decide (y ∈ fs)) := ⟨_, rfl⟩
          rw [← hg]
          have Hg := hid hg
          clear hg
          by_cases hjl : j < L.length
          · obtain ⟨b, off, hb, rfl, hc⟩ : ∃ b off, b < wr.heap.size ∧ av = some ⟨b, off, none⟩ ∧ ∀ i, i < L.length → wr.cell? ⟨b, off + i, none⟩ = some (.int .i64 (L[i]?.getD 0)) := by
              rcases Hs3.out.later HBi.out HBi.out.size with h | h
              · rw [h] at hjl; simp at hjl
              · exact h
            obtain ⟨y, hy⟩ : ∃ y, y = L[j]?.getD 0 := ⟨_, rfl⟩
            have hck : wr.cell? ⟨b, off + j, none⟩ = some (.int .i64 y) := by rw [hy]; exact hc j hjl
            have hi0 : (0 : Int) ≤ (j : Int) := by omega
            have hi1 : (j : Int) < (L.length : Int) := by omega
            have Hsn : Hid (∀ c, (g && decide (y ∈ fs)) = c → (L.take (j + 1)).all (fun y => decide (y ∈ fs)) = c) := hid (fun c hcc => by
              rw [take_snoc hjl, List.all_append, ← Hg.out, ← hy, ← hcc]
              simp)
            clear hy hc
            cases g
            · have He := hid (Hsn.out false rfl)
              go_wp2_with fail
              go_quiet (fail)
              go_wp2_with fail
              go_roundw
              case rel => exact ⟨j + 1, by omega, by go_num, by rw [He.out], hid ⟨HOi.out.1, HOi.out.2⟩, hid ⟨HBi.out.os, HBi.out.tape, HBi.out.output, HBi.out.size, HBi.out.block⟩⟩
              case measure => simp [RowKit.intOf]; omega
            · obtain ⟨k0, k1, _, _⟩ := two_of HBi2.out.2
              have r0 := cell_regrown k0
              have r1 := cell_regrown k1
              have rc := cell_regrown hck
              have CH := hid (fun d os => Calls.regrown_of (has_any V y a cap fs (grow (redrawn wr d) os) (Hx.out.later (HBi2.out.1.trans ((below_regrown wr d os).mono hbi)) (HBi2.out.1.trans ((below_regrown wr d os).mono hbi)).size) hl))
              have He := hid (Hsn.out _ (Bool.true_and _))
              obtain ⟨c, hcc⟩ : ∃ c, c = decide (y ∈ fs) := ⟨_, rfl⟩
              rw [← hcc] at He CH
              clear k0 k1 hcc Hsn
              go_wp2_with fail
              refine wp_region_quiet_below (by kernel_rfl) (by kernel_rfl) ?_
              iterate 7 (with_reducible refine wpQuiet_step (fun K hK => ?_); have HK := hid hK; clear hK; go_simp; with_reducible refine HK.out _ ?_; clear HK K)
              (with_reducible refine wpQuiet_step (fun K hK => ?_); have HK := hid hK; clear hK; go_simp; apply Exists.intro; with_reducible refine ⟨fun _ => ?_, HK.out _ ?_⟩; exact CH.out _ _; clear HK K)
              iterate 2 (with_reducible refine wpQuiet_step (fun K hK => ?_); have HK := hid hK; clear hK; go_simp; with_reducible refine HK.out _ ?_; clear HK K)
              with_reducible refine wpQuiet_nil ?_
              intro _ hw'
              obtain ⟨⟨dq, osq⟩, hw''⟩ := hw'
              subst hw''
              go_wp2_with fail
              go_roundw
              case rel =>
                have hbq := below_regrown wr dq osq
                exact ⟨j + 1, by omega, by go_num, by rw [He.out], hid (ownsRow_below HOi.out hbq (fun g hg => (HOi.out.lt g hg).2)), hid (HBi.out.trans (hbq.mono HBi.out.size))⟩
              case measure => simp [RowKit.intOf]; omega
          · have He : Hid (missB fs (k + 1) = g) := hid (by rw [HmB.out, Hg.out, show j = L.length by omega, List.take_length])
            cases g
            · have HP := hid (Hs.out false He.out)
              go_wp2_with fail
              go_roundw
              case rel => exact ⟨k + 1, by omega, by go_num, hid (by rw [HP.out]; simpa using HOi.out), HBi2⟩
              case measure => simp [RowKit.intOf]; omega
            · have HP := hid ((Hs.out true He.out).trans (by rw [if_pos rfl]))
              go_wp2_with (at_builtin; refine append_int rfl rfl HOi.out hbi (by omega) rfl rfl ?_; intro v' w5 hown5 hgrow5 hB5)
              go_roundw
              case rel =>
                refine ⟨k + 1, by omega, by go_num, hid (by rw [HP.out]; exact hown5), hid ⟨HBi2.out.1.trans hB5, ?_⟩⟩
                exact (hgrow5.block _ (lt_get HBi2.out.2) (row_ne HOi.out HBi2.out.2 (by decide))).trans HBi2.out.2
              case measure => simp [RowKit.intOf]; omega
    · have hd : decide ((k : Int) + 1 ≤ (A : Int)) = false := decide_eq_false (by omega)
      have HE : Hid (pickTo (fun x => missB fs x.toNat) k = missL V fs) := hid (by unfold missL; rw [← HA.out, Int.toNat_natCast, show A = k by omega])
      go_wp2_with fail
      refine (Hall.out _).mono ?_
      rintro e w1 ⟨rfl, rfl⟩
      go_wp2_with fail
      go_ret
      exact ⟨_, rfl, by rw [← HE.out]; exact ⟨HO.out, HB.out.1⟩⟩

set_option maxRecDepth 100000 in
set_option maxHeartbeats 1000000 in
theorem specMissingFaces (V : Int) (a : Option Addr) (cap : Nat) (fs : List Int) (w : World) (hx : SlI w w.heap.size a fs) (hl : fs.length ≤ 1048576) :
    Calls Try.prog 22 #[.agg #[.int .i64 V, .slice a fs.length cap]] w fun e w' => ∃ v, e = .returned (.tuple #[v, .int .i64 (missFacesR V fs).2]) ∧ Res w w' v (missFacesR V fs).1 := by
  have hB0 : Below w.heap.size w (w.alloc (.cells #[.int .i64 V, .slice a fs.length cap] 26)) := (Below.refl _ w).alloc (Nat.le_refl _) _
  have Hx := hid (hx.later hB0 hB0.size)
  have Hxw := hid hx
  have HB0 := hid hB0
  clear hx hB0
  by_cases hC : IsC V fs
  · refine pair_mono' (show missFacesR V fs = (missL V fs, 0) by unfold missFacesR; rw [isCB_true hC, if_pos rfl]) ?_
    have HC := hid hC
    have Hp := hid (fun W (h : Below w.heap.size w W) => missS_any V a cap fs W (Hxw.out.later h h.size) hl hC.lo hC.hi)
    clear hC
    go_enter Try.func22, Try.ntmps22
    go_wp2_with fail
    refine (is_yes V a cap fs _ Hx.out hl HC.out).mono ?_
    rintro e w1 ⟨rfl, hB1⟩
    have k0 : w1.cell? ⟨w.heap.size, 0, none⟩ = some (.int .i64 V) := (hB1.cell (p := ⟨w.heap.size, 0, none⟩) (by simp <;> omega)).trans (by simp [go_sem])
    have k1 : w1.cell? ⟨w.heap.size, 1, none⟩ = some (.slice a fs.length cap) := (hB1.cell (p := ⟨w.heap.size, 1, none⟩) (by simp <;> omega)).trans (by simp [go_sem])
    have HB1 := hid (HB0.out.trans (hB1.mono (by simp <;> omega)))
    clear hB1
    go_wp2_with fail
    refine (Hp.out w1 HB1.out).mono ?_
    rintro e w2 ⟨v, rfl, hr⟩
    have Hr := hid (hr.later HB1.out)
    clear hr
    go_wp2_with fail
    go_ret2
    exact ⟨_, rfl, Hr.out⟩
  · refine pair_mono' (show missFacesR V fs = ([], 1) by unfold missFacesR; rw [isCB_false hC, if_neg (by simp)]) ?_
    go_enter Try.func22, Try.ntmps22
    go_wp2_with fail
    refine (is_no V a cap fs _ Hx.out hl hC).mono ?_
    rintro e w1 ⟨rfl, hB1⟩
    have HB1 := hid (HB0.out.trans (hB1.mono (by simp <;> omega)))
    go_wp2_with fail
    go_ret2
    exact ⟨_, rfl, res_nil _ _ HB1.out⟩

set_option maxRecDepth 100000 in
set_option maxHeartbeats 1000000 in
theorem implMissingFaces (V : Int) (a : Option Addr) (cap : Nat) (fs : List Int) (w : World) (hx : SlI w w.heap.size a fs) (hl : fs.length ≤ 1048576) :
    Calls Try.prog 23 #[.agg #[.int .i64 V, .slice a fs.length cap]] w fun e w' => ∃ v, e = .returned (.tuple #[v, .int .i64 (missFacesR V fs).2]) ∧ Res w w' v (missFacesR V fs).1 := by
  have hB0 : Below w.heap.size w (w.alloc (.cells #[.int .i64 V, .slice a fs.length cap] 26)) := (Below.refl _ w).alloc (Nat.le_refl _) _
  have Hx := hid (hx.later hB0 hB0.size)
  have Hxw := hid hx
  have HB0 := hid hB0
  clear hx hB0
  by_cases hC : IsC V fs
  · refine pair_mono' (show missFacesR V fs = (missL V fs, 0) by unfold missFacesR; rw [isCB_true hC, if_pos rfl]) ?_
    have HC := hid hC
    have Hp := hid (fun W (h : Below w.heap.size w W) => missFaces_any V a cap fs W (Hxw.out.later h h.size) hl hC.lo hC.hi)
    clear hC
    go_enter Try.func23, Try.ntmps23
    go_wp2_with fail
    refine (isc_yes V a cap fs _ Hx.out hl HC.out).mono ?_
    rintro e w1 ⟨rfl, hB1⟩
    have k0 : w1.cell? ⟨w.heap.size, 0, none⟩ = some (.int .i64 V) := (hB1.cell (p := ⟨w.heap.size, 0, none⟩) (by simp <;> omega)).trans (by simp [go_sem])
    have k1 : w1.cell? ⟨w.heap.size, 1, none⟩ = some (.slice a fs.length cap) := (hB1.cell (p := ⟨w.heap.size, 1, none⟩) (by simp <;> omega)).trans (by simp [go_sem])
    have HB1 := hid (HB0.out.trans (hB1.mono (by simp <;> omega)))
    clear hB1
    go_wp2_with fail
    refine (Hp.out w1 HB1.out).mono ?_
    rintro e w2 ⟨v, rfl, hr⟩
    have Hr := hid (hr.later HB1.out)
    clear hr
    go_wp2_with fail
    go_ret2
    exact ⟨_, rfl, Hr.out⟩
  · refine pair_mono' (show missFacesR V fs = ([], 1) by unfold missFacesR; rw [isCB_false hC, if_neg (by simp)]) ?_
    go_enter Try.func23, Try.ntmps23
    go_wp2_with fail
    refine (isc_no V a cap fs _ Hx.out hl hC).mono ?_
    rintro e w1 ⟨rfl, hB1⟩
    have HB1 := hid (HB0.out.trans (hB1.mono (by simp <;> omega)))
    go_wp2_with fail
    go_ret2
    exact ⟨_, rfl, res_nil _ _ HB1.out⟩

end Go.Proofs.Ytmkknfdjoajpcaa
