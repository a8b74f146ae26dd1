import Derived.Test.YtbhdipljhelddaaRows
import Derived.ProofKit
import Derived.OpenShut
import Derived.ShutString
import Derived.ChangeOld
import Derived.Below
import Derived.Lib.SmallJoins
import Derived.Test.YtbhdipljhelddaaMSC1
import Derived.Test.YtbhdipljhelddaaMSC5
import Derived.Test.YtbhdipljhelddaaMSC6
/-! ShortestCircle: the model's door. -/
namespace Go.Proofs.Ytbhdipljhelddaa
open Go.RowKit

set_option maxRecDepth 100000 in
set_option maxHeartbeats 4000000 in
theorem specShortestCircle (V : Int) (a0 : Option Addr) (cap : Nat) (fs : List Int) (w : World) (hx : SlI w w.heap.size a0 fs) (hl : fs.length ≤ 1048576) :
    Calls Try.prog 12 #[.agg #[.int .i64 V, .slice a0 fs.length cap]] w fun e w' => ∃ v, e = .returned (.tuple #[v, .int .i64 (circR V fs).2]) ∧ Res w w' v (circR V fs).1 := by
  have hB0 : Below w.heap.size w (w.alloc (.cells #[.int .i64 V, .slice a0 fs.length cap] 28)) := (Below.refl _ w).alloc (Nat.le_refl _) _
  have Hx := hid (hx.later hB0 hB0.size)
  have Hx0 := hid hx
  clear hx
  by_cases hC : IsC V fs
  · have Hf := hid hC.range63
    have HC := hid hC
    have hV1 := hC.lo
    have hV6 := hC.hi
    obtain ⟨E, hE⟩ : ∃ E, E = ofDim fs 1 := ⟨_, rfl⟩
    have HE := hid hE
    have hEl : E.length ≤ 15 := by rw [hE]; exact edges_le hC
    have HR : Hid (circR V fs = ansC (firstTo (circB fs) E (V.toNat + 1))) := hid (by unfold circR; rw [isCB_true hC, if_pos rfl, hE])
    have HLow : Hid (∀ k, k ≤ 3 → firstTo (circB fs) E k = none) := hid (by
      rw [hE]
      exact firstTo_low (fun x hx => (hC.range63 x (ofDim_mem.1 hx).1).1) (ofDim_asc hC.asc 1))
    clear hE hC
    go_enter Try.func12, Try.ntmps12
    go_wp2_with fail
    refine (is_yes V a0 cap fs _ Hx.out hl HC.out).mono ?_
    rintro e w1 ⟨rfl, hB1⟩
    have k0 : w1.cell? ⟨w.heap.size, 0, none⟩ = some (.int .i64 V) := (hB1.cell (p := ⟨w.heap.size, 0, none⟩) (by simp)).trans (by simp [go_sem])
    have k1 : w1.cell? ⟨w.heap.size, 1, none⟩ = some (.slice a0 fs.length cap) := (hB1.cell (p := ⟨w.heap.size, 1, none⟩) (by simp)).trans (by simp [go_sem])
    have HB1 := hid (hB0.trans (hB1.mono (by simp)))
    have Hs1 : Hid (w.heap.size < w1.heap.size) := hid (by have := hB1.size; simp at this; omega)
    have HO := hid (of_any V a0 cap fs 1 w1 (Hx0.out.later HB1.out HB1.out.size) hl Hf.out (by omega) (by omega))
    rw [← HE.out] at HO
    clear hB1
    go_wp2_with fail
    refine HO.out.mono ?_
    rintro e w2 ⟨v, rfl, hr⟩
    have hb2 : Below w1.heap.size w1 w2 := hr.2
    have K0 : Hid (w2.cell? ⟨w.heap.size, 0, none⟩ = some (.int .i64 V) ∧ w2.cell? ⟨w.heap.size, 1, none⟩ = some (.slice a0 fs.length cap)) := hid ⟨(hb2.cell (p := ⟨w.heap.size, 0, none⟩) Hs1.out).trans k0, (hb2.cell (p := ⟨w.heap.size, 1, none⟩) Hs1.out).trans k1⟩
    have HB2 := hid (HB1.out.trans (hb2.mono HB1.out.size))
    have Hs2 : Hid (w.heap.size < w2.heap.size) := hid (Nat.lt_of_lt_of_le Hs1.out hb2.size)
    obtain ⟨_, ae, ce, rfl, _⟩ := ownsRow_slI hr.1
    have HSe := hid (owned_slI hr.1)
    clear hr hb2 HO k0 k1 HB1 Hs1
    go_wp2_with fail
    go_loopw [5] (fun sv wx => ∃ n : Nat, Hid (3 ≤ n ∧ n ≤ max 3 (V.toNat + 1) ∧ firstTo (circB fs) E n = none) ∧ sv = .int .i64 (n : Int) ∧ Hid (Below w2.heap.size w2 wx)) (fun sv _ => V.toNat + 4 - (intOf sv).toNat)
    case atStart => exact ⟨3, hid ⟨Nat.le_refl _, Nat.le_max_left .., HLow.out 3 (Nat.le_refl _)⟩, rfl, hid (Below.refl _ _)⟩
    case round =>
      obtain ⟨n, HN, rfl, HB⟩ := hrel
      obtain ⟨hn3, hnV, hnone⟩ := HN.out
      have Hnone := hid hnone
      have hn0 : (0 : Int) ≤ (n : Int) := by omega
      have HKw : Hid (wr.cell? ⟨w.heap.size, 0, none⟩ = some (.int .i64 V) ∧ wr.cell? ⟨w.heap.size, 1, none⟩ = some (.slice a0 fs.length cap)) := hid ⟨(HB.out.cell (p := ⟨w.heap.size, 0, none⟩) Hs2.out).trans K0.out.1, (HB.out.cell (p := ⟨w.heap.size, 1, none⟩) Hs2.out).trans K0.out.2⟩
      have HBw := hid (HB2.out.trans (HB.out.mono HB2.out.size))
      clear hnone HN
      obtain ⟨m0, m1⟩ := HKw.out
      by_cases hlt : n ≤ V.toNat
      · have hni : (n : Int) ≤ V := by omega
        have HS := hid (sets_any E (by omega) ae ce n 0 wr (by omega) (Nat.zero_le _) (HSe.out.later HB.out HB.out.size))
        rw [List.drop_zero] at HS
        obtain ⟨S, hS⟩ : ∃ S, S = setsL E n := ⟨_, rfl⟩
        rw [← hS] at HS
        have HSs := hid hS
        clear hS
        go_wp2_with fail
        refine HS.out.mono ?_
        rintro e w3 ⟨r, rs, rfl, hrr, hbl, hb3⟩
        obtain ⟨aR, cR, rfl⟩ := hrr.form
        have HRR := hid hrr
        have HB3 := hid (HBw.out.trans (hb3.mono HBw.out.size))
        have Hs3 : Hid (w.heap.size < w3.heap.size) := hid (Nat.lt_of_lt_of_le (Nat.lt_of_lt_of_le Hs2.out HB.out.size) hb3.size)
        have K3 : Hid (w3.cell? ⟨w.heap.size, 0, none⟩ = some (.int .i64 V) ∧ w3.cell? ⟨w.heap.size, 1, none⟩ = some (.slice a0 fs.length cap)) := hid ⟨(hb3.cell (p := ⟨w.heap.size, 0, none⟩) (Nat.lt_of_lt_of_le Hs2.out HB.out.size)).trans m0, (hb3.cell (p := ⟨w.heap.size, 1, none⟩) (Nat.lt_of_lt_of_le Hs2.out HB.out.size)).trans m1⟩
        have HBl3 : Hid (Below w2.heap.size w2 w3) := hid (HB.out.trans (hb3.mono HB.out.size))
        have HSl : Hid (S.length ≤ 32768) := hid (by
          have h1 := setsL_count E n
          have h2 : 2 ^ E.length ≤ 2 ^ 15 := Nat.pow_le_pow_right (by omega) hEl
          have h3 : (2 : Nat) ^ 15 = 32768 := by decide
          rw [← HSs.out] at h1
          omega)
        have HwB := hid HBw.out.size
        clear hrr hbl hb3 m0 m1 HS HKw
        go_wp2_with fail
        go_loopw [7] (fun iv wx => ∃ j : Nat, Hid (j ≤ S.length ∧ (S.take j).find? (circB fs) = none) ∧ iv = .int .i64 (j : Int) ∧ Hid (Below w3.heap.size w3 wx)) (fun iv _ => S.length - (intOf iv).toNat)
        case atStart => exact ⟨0, hid ⟨Nat.zero_le _, rfl⟩, rfl, hid (Below.refl _ _)⟩
        case round =>
          obtain ⟨j, HJ, rfl, HBj⟩ := hrel
          obtain ⟨hj, hjn⟩ := HJ.out
          have Hjn := hid hjn
          have hj0 : (0 : Int) ≤ (j : Int) := by omega
          clear hjn HJ
          by_cases hlj : j < S.length
          · have hji : (j : Int) < (S.length : Int) := by omega
            have hj32 : (j : Int) ≤ 32768 := by have := HSl.out; omega
            obtain ⟨ch, hch⟩ : ∃ ch, ch = S[j]?.getD [] := ⟨_, rfl⟩
            obtain ⟨rv, hrv⟩ : ∃ rv, rv = rs[j]?.getD undef := ⟨_, rfl⟩
            have hrow := HRR.out.at_ j hlj
            rw [← hch, ← hrv] at hrow
            have hrsl : j < rs.length := by rw [HRR.out.len]; exact hlj
            obtain ⟨ag, cg, rfl, hog⟩ := hrow
            obtain ⟨bR, hbR, hcR⟩ : ∃ bR, aR = some ⟨bR, 0, none⟩ ∧ w3.cell? ⟨bR, j, none⟩ = some (.slice ag ch.length cg) := by
              rcases HRR.out.own.2 with ⟨h, h0⟩ | ⟨g', c', cur, h, h2⟩
              · omega
              · have hc := HRR.out.own.cells (g := g') (by rw [h]; rfl) j (.slice ag ch.length cg) (by rw [List.getElem?_eq_getElem hrsl]; rw [List.getElem?_eq_getElem hrsl] at hrv; rw [hrv]; rfl)
                injection h with h
                exact ⟨g', h, by have h7 : (⟨g', 0, none⟩ : Addr).add j = ⟨g', j, none⟩ := (by simp [Addr.add]; intro h; omega); rw [h7] at hc; exact hc⟩
            subst hbR
            have hsub : ∀ x ∈ ch, x ∈ ofDim fs 1 := fun x hx => by
              have h1 : ch ∈ S := by rw [hch, List.getElem?_eq_getElem hlj]; exact List.getElem_mem hlj
              rw [HSs.out] at h1
              rw [← HE.out]
              exact (setsL_mem _ _ _ h1).1.subset hx
            have hchl : ch.length ≤ 1048576 := by
              have h1 : ch ∈ S := by rw [hch, List.getElem?_eq_getElem hlj]; exact List.getElem_mem hlj
              rw [HSs.out] at h1
              have := (setsL_mem _ _ _ h1).1.length_le
              omega
            have h63 : ∀ x ∈ ch, 1 ≤ x ∧ x ≤ 63 := fun x hx => Hf.out x (ofDim_mem.1 (hsub x hx)).1
            have hrb := ring_bd (ch := ch) (fun x hx => ⟨(h63 x hx).1, (h63 x hx).2, by have := (ofDim_mem.1 (hsub x hx)).2; omega⟩)
            obtain ⟨D, hD⟩ : ∃ D, D = bdS ch := ⟨_, rfl⟩
            have hbRl : bR < w3.heap.size := (HRR.out.own.lt bR rfl).2
            obtain ⟨x0, hx0⟩ : ∃ x', x' = wr.drew := ⟨_, rfl⟩
            have hb0 : Below w3.heap.size w3 x0 := by rw [hx0]; exact HBj.out.trans ⟨rfl, rfl, rfl, Nat.le_refl _, fun _ _ => rfl⟩
            have HX0 : Hid ((x0.cell? ⟨w.heap.size, 0, none⟩ = some (.int .i64 V) ∧ x0.cell? ⟨w.heap.size, 1, none⟩ = some (.slice a0 fs.length cap)) ∧ x0.cell? ⟨bR, j, none⟩ = some (.slice ag ch.length cg)) := hid ⟨⟨(hb0.cell (p := ⟨w.heap.size, 0, none⟩) Hs3.out).trans K3.out.1, (hb0.cell (p := ⟨w.heap.size, 1, none⟩) Hs3.out).trans K3.out.2⟩, (hb0.cell (p := ⟨bR, j, none⟩) hbRl).trans hcR⟩
            have Hsl := hid (fun (W : World) (h : Below w3.heap.size w3 W) => owned_slI (ownsRow_below hog h (fun q hq => (hog.lt q hq).2)))
            have HBd := hid (fun (W : World) (h : Below w3.heap.size w3 W) => bdS_any ag cg ch W (Hsl.out W h) h63 hchl)
            have HBs := hid (fun (W : World) (h : Below w3.heap.size w3 W) => bdsS_bds V a0 cap fs ag cg ch W (Hx0.out.later (HB3.out.trans (h.mono HB3.out.size)) (HB3.out.trans (h.mono HB3.out.size)).size) (Hsl.out W h) hl hchl HC.out (edges_dim hsub))
            obtain ⟨q, hq⟩ : ∃ q, q = boundsB fs ch := ⟨_, rfl⟩
            have HP : Hid (circB fs ch = (decide (D = []) && !q)) := hid (by unfold circB; rw [← hrb, ← hD, hq])
            rw [← hD] at HBd
            rw [← hq] at HBs
            have Hog := hid hog
            have Hch := hid hch
            have Hb0 := hid hb0
            have HbRl := hid hbRl
            clear hD hq hrb h63 hchl hsub hcR hrv hrsl hog hch hb0 hbRl
            go_wp2_with fail
            refine region_M 15 (fun W : World => (W.cell? ⟨w.heap.size, 0, none⟩ = some (.int .i64 V) ∧ W.cell? ⟨w.heap.size, 1, none⟩ = some (.slice a0 fs.length cap)) ∧ W.cell? ⟨bR, j, none⟩ = some (.slice ag ch.length cg)) (by kernel_rfl) ?_
            rw [← hx0]
            clear hx0
            refine anyM_take (i := 0) (v := .slice (some ⟨bR, 0, none⟩) S.length cR) [2, 3, 4, 5, 6, 7, 13, 14, 15] rfl (by kernel_rfl) (fun _ _ _ h => h) (Or.inl ⟨by rfl, fun W hW => by go_simp⟩) HX0.out ?_
            refine anyM_take (i := 1) (v := .int .i64 (j : Int)) [2, 3, 4, 5, 6, 7, 13, 14, 15] rfl (by kernel_rfl) (fun _ _ _ h => h) (Or.inl ⟨by rfl, fun W hW => by go_simp⟩) HX0.out ?_
            refine anyM_take (i := 2) (v := .pointer (some ⟨bR, j, none⟩)) [3, 4, 5, 6, 7, 13, 14, 15] rfl (by kernel_rfl) (fun _ _ _ h => h) (Or.inl ⟨by rfl, fun W hW => by go_simp⟩) HX0.out ?_
            refine anyM_take (i := 3) (v := .slice ag ch.length cg) [4, 5, 6, 7, 13, 14, 15] rfl (by kernel_rfl) (fun _ _ _ h => h) (Or.inl ⟨by rfl, fun W hW => by (obtain ⟨⟨z0, z1⟩, z2⟩ := hW; go_simp)⟩) HX0.out ?_
            refine anyM_ready (rs := [4]) (by kernel_rfl) (by simp) ?_
            refine AllM.cons rfl (fun K hK => ?_) AllM.nil
            go_simp
            go_at_call 45
            refine (HBd.out x0 Hb0.out).mono ?_
            rintro e x4 ⟨v4, rfl, hr4⟩
            have hb4 : Below x0.heap.size x0 x4 := hr4.2
            obtain ⟨_, a4, c4, rfl, _⟩ := ownsRow_slI hr4.1
            have HX4 : Hid ((x4.cell? ⟨w.heap.size, 0, none⟩ = some (.int .i64 V) ∧ x4.cell? ⟨w.heap.size, 1, none⟩ = some (.slice a0 fs.length cap)) ∧ x4.cell? ⟨bR, j, none⟩ = some (.slice ag ch.length cg)) := hid ⟨⟨(hb4.cell (p := ⟨w.heap.size, 0, none⟩) (Nat.lt_of_lt_of_le Hs3.out Hb0.out.size)).trans HX0.out.1.1, (hb4.cell (p := ⟨w.heap.size, 1, none⟩) (Nat.lt_of_lt_of_le Hs3.out Hb0.out.size)).trans HX0.out.1.2⟩, (hb4.cell (p := ⟨bR, j, none⟩) (Nat.lt_of_lt_of_le HbRl.out Hb0.out.size)).trans HX0.out.2⟩
            have Hb4 := hid (Hb0.out.trans (hb4.mono Hb0.out.size))
            clear hr4 hb4
            refine hK.out _ _ (fun _ => HX4.out) ?_
            clear hK K
            refine anyM_take (i := 5) (v := .int .i64 (D.length : Int)) [6, 7, 13, 14, 15] rfl (by kernel_rfl) (fun _ _ _ h => h) (Or.inl ⟨by rfl, fun W hW => by go_simp⟩) HX4.out ?_
            by_cases hd : D = []
            · have hd0 : ((D.length : Int) == 0) = true := by simp [hd]
              refine anyM_take (i := 6) (v := .bool true) [7, 13, 14, 15] rfl (by kernel_rfl) (fun _ _ _ h => h) (Or.inl ⟨by rfl, fun W hW => by go_simp⟩) HX4.out ?_
              refine anyM_take (i := 7) (v := .bool true) [13, 14, 15] rfl (by kernel_rfl) (fun _ _ _ h => h) (Or.inl ⟨by rfl, fun W hW => by go_simp⟩) HX4.out ?_
              refine anyM_take (i := 8) (v := .agg #[.int .i64 V, .slice a0 fs.length cap]) [13, 14, 15] rfl (by kernel_rfl) (fun _ _ _ h => h) (Or.inl ⟨by kernel_rfl, fun W hW => by (obtain ⟨⟨z0, z1⟩, z2⟩ := hW; go_simp)⟩) HX4.out ?_
              refine anyM_take (i := 9) (v := .slice (some ⟨bR, 0, none⟩) S.length cR) [11, 12, 13, 14, 15] rfl (by kernel_rfl) (fun _ _ _ h => h) (Or.inl ⟨by kernel_rfl, fun W hW => by go_simp⟩) HX4.out ?_
              refine anyM_take (i := 10) (v := .int .i64 (j : Int)) [11, 12, 13, 14, 15] rfl (by kernel_rfl) (fun _ _ _ h => h) (Or.inl ⟨by kernel_rfl, fun W hW => by go_simp⟩) HX4.out ?_
              refine anyM_take (i := 11) (v := .pointer (some ⟨bR, j, none⟩)) [12, 13, 14, 15] rfl (by kernel_rfl) (fun _ _ _ h => h) (Or.inl ⟨by kernel_rfl, fun W hW => by go_simp⟩) HX4.out ?_
              refine anyM_take (i := 12) (v := .slice ag ch.length cg) [13, 14, 15] rfl (by kernel_rfl) (fun _ _ _ h => h) (Or.inl ⟨by kernel_rfl, fun W hW => by (obtain ⟨⟨z0, z1⟩, z2⟩ := hW; go_simp)⟩) HX4.out ?_
              refine anyM_ready (rs := [13]) (by kernel_rfl) (by simp) ?_
              refine AllM.cons rfl (fun K hK => ?_) AllM.nil
              go_simp
              go_at_call 46
              refine (HBs.out x4 Hb4.out).mono ?_
              rintro e x5 ⟨rfl, hb5⟩
              have HX5 : Hid ((x5.cell? ⟨w.heap.size, 0, none⟩ = some (.int .i64 V) ∧ x5.cell? ⟨w.heap.size, 1, none⟩ = some (.slice a0 fs.length cap)) ∧ x5.cell? ⟨bR, j, none⟩ = some (.slice ag ch.length cg)) := hid ⟨⟨(hb5.cell (p := ⟨w.heap.size, 0, none⟩) (Nat.lt_of_lt_of_le Hs3.out Hb4.out.size)).trans HX4.out.1.1, (hb5.cell (p := ⟨w.heap.size, 1, none⟩) (Nat.lt_of_lt_of_le Hs3.out Hb4.out.size)).trans HX4.out.1.2⟩, (hb5.cell (p := ⟨bR, j, none⟩) (Nat.lt_of_lt_of_le HbRl.out Hb4.out.size)).trans HX4.out.2⟩
              have Hb5 := hid (Hb4.out.trans (hb5.mono Hb4.out.size))
              clear hb5
              refine hK.out _ _ (fun _ => HX5.out) ?_
              clear hK K
              refine anyM_take (i := 14) (v := .bool (!q)) [15] rfl (by kernel_rfl) (fun _ _ _ h => h) (Or.inl ⟨by kernel_rfl, fun W hW => by go_simp⟩) HX5.out ?_
              refine anyM_ready (rs := [15]) (by kernel_rfl) (by simp) ?_
              refine AllM.cons rfl (fun K hK => ?_) AllM.nil
              go_simp
              refine hK.out _ _ (fun h => absurd rfl h) ?_
              clear hK K
              refine anyM_done (by kernel_rfl) ?_ _
              cases q
              · have HEn : Hid (firstTo (circB fs) E (V.toNat + 1) = some ch) := hid (firstTo_hit Hnone.out (by rw [← HSs.out, Hch.out]; exact find_take_yes Hjn.out hlj (by rw [← Hch.out, HP.out, hd]; rfl)) (by omega))
                have ho := ownsRow_base (ownsRow_below Hog.out Hb5.out (fun q hq => (Hog.out.lt q hq).2)) HwB.out
                have Ho := hid ho
                have HBz := hid (HB3.out.trans (Hb5.out.mono HB3.out.size))
                obtain ⟨_, m2⟩ := HX5.out
                clear ho hd
                go_wp2_with fail
                go_ret2
                rw [HR.out, HEn.out]
                exact ⟨_, rfl, Ho.out, HBz.out⟩
              · have HNj : Hid ((S.take (j + 1)).find? (circB fs) = none) := hid (find_take_no Hjn.out hlj (by rw [← Hch.out, HP.out, hd]; rfl))
                clear hd
                go_wp2_with fail
                go_roundw
                case rel => exact ⟨j + 1, hid ⟨hlj, HNj.out⟩, by go_num, Hb5⟩
                case measure => simp [intOf]; omega
            · have hd0 : ((D.length : Int) == 0) = false := by
                have := List.length_pos_iff.2 hd
                exact beq_eq_false_iff_ne.2 (by omega)
              have HNj : Hid ((S.take (j + 1)).find? (circB fs) = none) := hid (find_take_no Hjn.out hlj (by rw [← Hch.out, HP.out, decide_eq_false hd]; rfl))
              clear hd
              refine anyM_take (i := 6) (v := .bool false) [7, 13, 14, 15] rfl (by kernel_rfl) (fun _ _ _ h => h) (Or.inl ⟨by rfl, fun W hW => by go_simp⟩) HX4.out ?_
              refine anyM_take (i := 7) (v := .bool false) [13, 14, 15] rfl (by kernel_rfl) (fun _ _ _ h => h) (Or.inl ⟨by rfl, fun W hW => by go_simp⟩) HX4.out ?_
              refine anyM_take (i := 8) (v := undef) [13, 14, 15] rfl (by kernel_rfl) (fun _ _ _ h => h) (Or.inr ⟨by kernel_rfl, rfl⟩) HX4.out ?_
              refine anyM_take (i := 9) (v := undef) [11, 12, 13, 14, 15] rfl (by kernel_rfl) (fun _ _ _ h => h) (Or.inr ⟨by kernel_rfl, rfl⟩) HX4.out ?_
              refine anyM_take (i := 10) (v := undef) [11, 12, 13, 14, 15] rfl (by kernel_rfl) (fun _ _ _ h => h) (Or.inr ⟨by kernel_rfl, rfl⟩) HX4.out ?_
              refine anyM_take (i := 11) (v := undef) [12, 13, 14, 15] rfl (by kernel_rfl) (fun _ _ _ h => h) (Or.inr ⟨by kernel_rfl, rfl⟩) HX4.out ?_
              refine anyM_take (i := 12) (v := undef) [13, 14, 15] rfl (by kernel_rfl) (fun _ _ _ h => h) (Or.inr ⟨by kernel_rfl, rfl⟩) HX4.out ?_
              refine anyM_take (i := 13) (v := undef) [14, 15] rfl (by kernel_rfl) (fun _ _ _ h => h) (Or.inr ⟨by kernel_rfl, rfl⟩) HX4.out ?_
              refine anyM_take (i := 14) (v := undef) [15] rfl (by kernel_rfl) (fun _ _ _ h => h) (Or.inr ⟨by kernel_rfl, rfl⟩) HX4.out ?_
              refine anyM_ready (rs := [15]) (by kernel_rfl) (by simp) ?_
              refine AllM.cons rfl (fun K hK => ?_) AllM.nil
              go_simp
              refine hK.out _ _ (fun h => absurd rfl h) ?_
              clear hK K
              refine anyM_done (by kernel_rfl) ?_ _
              go_wp2_with fail
              go_roundw
              case rel => exact ⟨j + 1, hid ⟨hlj, HNj.out⟩, by go_num, Hb4⟩
              case measure => simp [intOf]; omega
          · have hje : j = S.length := by omega
            subst hje
            have hji : ¬ (S.length : Int) < (S.length : Int) := by omega
            have hn1 : IntKind.i64.wrap ((n : Int) + 1) = (n : Int) + 1 := IntWalk.i64_in _ (by omega)
            have HNx : Hid (firstTo (circB fs) E (n + 1) = none) := hid (firstTo_next Hnone.out (by have := Hjn.out; rw [List.take_length, HSs.out] at this; exact this))
            have HBe : Hid (Below w2.heap.size w2 wr) := hid (HBl3.out.trans (HBj.out.mono HBl3.out.size))
            go_wp2_with fail
            go_roundw
            case rel => exact ⟨n + 1, hid ⟨by omega, by omega, HNx.out⟩, by go_num⟩
            case measure => simp [intOf]; omega
      · have hni : ¬ (n : Int) ≤ V := by omega
        have HEn : Hid (firstTo (circB fs) E (V.toNat + 1) = none) := hid (by
          by_cases h : V.toNat + 1 ≤ 3
          · exact HLow.out _ h
          · have : n = V.toNat + 1 := by omega
            rw [← this]; exact Hnone.out)
        go_wp2_with fail
        go_ret2
        rw [HR.out, HEn.out]
        exact ⟨_, rfl, res_nil _ _ HBw.out⟩
  · refine res_monoF (show circR V fs = ([], 1) by unfold circR; rw [isCB_false hC, if_neg (by simp)]) ?_
    go_enter Try.func12, Try.ntmps12
    go_wp2_with fail
    refine (is_no V a0 cap fs _ Hx.out hl hC).mono ?_
    rintro e w1 ⟨rfl, hB1⟩
    go_wp2_with fail
    go_ret2
    exact ⟨_, rfl, res_nil _ _ (hB0.trans (hB1.mono (by simp)))⟩

end Go.Proofs.Ytbhdipljhelddaa

/-! What a complex that comes in is told as, for the rows of all laws. -/
namespace Go.Proofs.Ytbhdipljhelddaa
open Go.ChangeShapes Go.WideShapes Go.ChangeAt Go.RowKit Go.Joins

theorem own : ownKnob Try.prog.godebug = none := by kernel_rfl
theorem laidOut : laidOutB Try.prog = true := by kernel_rfl

variable {H : Type} {enc : TypeId × Value → H}

/-- A slice of int64 that came in. -/
theorem slI_of_trod {W : World} {n : Nat} {v : Value} {y : DataW H × List MemPlace} (hf : DataW.trod enc Try.prog W 0 (fun _ => true) true n 22 [v] = some y) :
    ∃ a len cap xs, v = .slice a len cap ∧ xs.length = len ∧ len ≤ 9223372036854775807 ∧ SlI W W.heap.size a xs ∧ ∀ x ∈ xs, (Lit.int .i64 x).wf = true := by
  rcases open_ints Try.underlying22 Try.underlying2 (by kernel_rfl) hf with ⟨hcs, _⟩ | ⟨x, l, c, zs, hcs, _, hl, hm, hz, _, hcell, hwf⟩
  · simp at hcs
    subst hcs
    exact ⟨none, 0, 0, [], rfl, rfl, by omega, .inl rfl, by simp⟩
  · simp at hcs
    subst hcs
    simp at hz
    have hlen : (zs.take l).length = l := by simp; omega
    unfold maxLen at hm
    refine ⟨some x, l, c, zs.take l, rfl, hlen, by omega, ?_, fun y hy => hwf y (List.mem_of_mem_take hy)⟩
    by_cases h0 : l = 0
    · subst h0; exact .inl (by simp)
    · right
      obtain ⟨b, off, spot⟩ := x
      have hc0 := hcell 0 (by omega)
      have hspot : spot = none := by simpa [Addr.add] using World.cell?_spot hc0
      subst hspot
      refine ⟨b, off, ?_, rfl, fun i hi => ?_⟩
      · have := World.block_lt_of_cell? W _ hc0
        simpa [Addr.add] using this
      · rw [hlen] at hi
        have := hcell i (by omega)
        have hadd : (⟨b, off, none⟩ : Addr).add i = ⟨b, off + i, none⟩ := by unfold Addr.add; split <;> simp_all
        rw [hadd] at this
        rw [List.getElem?_take, if_pos hi]
        simpa using this

end Go.Proofs.Ytbhdipljhelddaa

/-! What a law keeps of the world, for rows of any type that are read as integers (a list of n pairs: 2 * n integers). -/
namespace Go.Proofs.Ytbhdipljhelddaa
open Go.RowKit

/-- A row that lies in blocks from lo to hi: n elements of a type and size, read as integers. -/
structure Bk where
  lo : Nat
  hi : Nat
  ty : TypeId
  sz : Nat
  n : Nat
  v : Value
  xs : List Int

structure OwnB (w : World) (p : Bk) : Prop where
  own : w.ownsRow p.lo p.ty p.sz p.v p.n (p.xs.map (Value.int .i64))
  lt : ∀ g, p.v.ownBlock = some g → g < p.hi
  le : p.hi ≤ w.heap.size

/-- What is owned reads as integers. -/
theorem flat_slI {w : World} {base e sz : Nat} {a : Option Addr} {n m cap : Nat} {xs : List Int} (h : w.ownsRow base e sz (.slice a m cap) n (xs.map (Value.int .i64))) : SlI w w.heap.size a xs := by
  have hl := h.1
  rcases h.2 with ⟨hv, hn⟩ | ⟨g, cap', cur, hv, _, hg, _⟩
  · subst hn
    exact .inl (List.eq_nil_of_length_eq_zero (by simpa using hl))
  · cases hv
    refine .inr ⟨g, 0, (Array.getElem?_eq_some_iff.1 hg).1, rfl, fun i hi => ?_⟩
    have := h.cells (g := g) rfl i (.int .i64 (xs[i]?.getD 0)) (by simp [hi])
    have hadd : (⟨g, 0, none⟩ : Addr).add i = ⟨g, i, none⟩ := by unfold Addr.add; split <;> simp_all
    rw [hadd] at this
    simpa using this

structure Book (w0 : World) (w : World) (A : List (Option Addr × List Int)) (bs : List (Nat × Obj)) (L : List Bk) : Prop where
  from0 : Below w0.heap.size w0 w
  args : ∀ q ∈ A, SlI w w0.heap.size q.1 q.2
  blocks : ∀ b ∈ bs, w.heap[b.1]? = some b.2
  rows : ∀ p ∈ L, OwnB w p

section
variable {w0 w w' : World} {A : List (Option Addr × List Int)} {bs : List (Nat × Obj)} {L : List Bk}

theorem Book.ge (h : Book w0 w A bs L) : w0.heap.size ≤ w.heap.size := h.from0.size

theorem Book.below (h : Book w0 w A bs L) (hb : Below w.heap.size w w') : Book w0 w' A bs L where
  from0 := h.from0.trans (hb.mono h.ge)
  args := fun q hq => (h.args q hq).below (hb.mono h.ge)
  blocks := fun b hbm => (hb.block b.1 (Array.getElem?_eq_some_iff.1 (h.blocks b hbm)).1).trans (h.blocks b hbm)
  rows := fun p hp => ⟨ownsRow_below (h.rows p hp).own hb (fun g hg => Nat.lt_of_lt_of_le ((h.rows p hp).lt g hg) (h.rows p hp).le), (h.rows p hp).lt, Nat.le_trans (h.rows p hp).le hb.size⟩

theorem Book.drew (h : Book w0 w A bs L) : Book w0 w.drew A bs L := h.below (Below.refl _ _).drew
theorem Book.drewN (h : Book w0 w A bs L) (n : Nat) : Book w0 (w.drewN n) A bs L := h.below ⟨rfl, rfl, rfl, Nat.le_refl _, fun _ _ => rfl⟩

theorem Book.arg (h : Book w0 w A bs L) {q : Option Addr × List Int} (hq : q ∈ A) : SlI w w.heap.size q.1 q.2 := (h.args q hq).mono h.ge

theorem Book.alloc (h : Book w0 w A bs L) (o : Obj) : Book w0 (w.alloc o) A ((w.heap.size, o) :: bs) L where
  from0 := h.from0.alloc h.ge o
  args := fun q hq => (h.args q hq).below ((Below.refl _ w).alloc h.ge _)
  blocks := fun b hb => by
    rcases List.mem_cons.1 hb with rfl | hb
    · exact heap_alloc_new w o
    · exact (Below.heap_alloc w o _ (Array.getElem?_eq_some_iff.1 (h.blocks b hb)).1).trans (h.blocks b hb)
  rows := fun p hp => ⟨(h.rows p hp).own.alloc o, (h.rows p hp).lt, by have := (h.rows p hp).le; simp; omega⟩

/-- A new row, out of a call. -/
theorem Book.row (h : Book w0 w A bs L) {ty : TypeId} {sz n : Nat} {v : Value} {xs : List Int}
    (hown : w'.ownsRow w.heap.size ty sz v n (xs.map (Value.int .i64))) (hb : Below w.heap.size w w') : Book w0 w' A bs (⟨w.heap.size, w'.heap.size, ty, sz, n, v, xs⟩ :: L) :=
  { h.below hb with
    rows := fun p hp => by
      rcases List.mem_cons.1 hp with rfl | hp
      · exact ⟨hown, fun g hg => (hown.lt g hg).2, Nat.le_refl _⟩
      · exact (h.below hb).rows p hp }

/-- A row is marked: the others stay. -/
theorem Book.mark {L' : List Bk} (h : Book w0 w A bs L) {p : Bk} {ys : List Int} (hp : p ∈ L)
    (hown : w'.ownsRow p.lo p.ty p.sz p.v p.n (ys.map (Value.int .i64))) (hg : w.grownBy w' p.v.ownBlock)
    (hB : w0.heap.size ≤ p.lo) (hbs : ∀ b ∈ bs, b.1 < p.lo ∨ p.hi ≤ b.1) (hL : ∀ q ∈ L', q = { p with xs := ys } ∨ (q ∈ L ∧ (q.hi ≤ p.lo ∨ p.hi ≤ q.lo))) : Book w0 w' A bs L' where
  from0 := h.from0.grown hg h.ge (fun k e => Nat.le_trans hB ((h.rows p hp).own.lt k e).1)
  args := fun q hq => (h.args q hq).below ((Below.refl _ w).grown hg h.ge (fun k e => Nat.le_trans hB ((h.rows p hp).own.lt k e).1))
  blocks := fun b hb => (hg.block b.1 (Array.getElem?_eq_some_iff.1 (h.blocks b hb)).1 (fun e => by
    have h1 := ((h.rows p hp).own.lt _ e.symm).1
    have h2 := (h.rows p hp).lt _ e.symm
    rcases hbs b hb with h3 | h3 <;> omega)).trans (h.blocks b hb)
  rows := fun q hq => by
    rcases hL q hq with rfl | ⟨hqm, hap⟩
    · exact ⟨hown, (h.rows p hp).lt, Nat.le_trans (h.rows p hp).le hg.size⟩
    · refine ⟨(h.rows q hqm).own.kept hg ?_, (h.rows q hqm).lt, Nat.le_trans (h.rows q hqm).le hg.size⟩
      cases hv : q.v.ownBlock with
      | none => exact .inl rfl
      | some g =>
        refine .inr (fun e => ?_)
        have h1 := ((h.rows p hp).own.lt _ e.symm).1
        have h2 := (h.rows p hp).lt _ e.symm
        have h3 := ((h.rows q hqm).own.lt _ hv).1
        have h4 := (h.rows q hqm).lt _ hv
        rcases hap with h5 | h5 <;> omega

/-- Some of it. -/
theorem Book.only {bs' : List (Nat × Obj)} {L' : List Bk} (h : Book w0 w A bs L) (hb : ∀ b ∈ bs', b ∈ bs) (hL : ∀ p ∈ L', p ∈ L) : Book w0 w A bs' L' :=
  ⟨h.from0, h.args, fun b hbm => h.blocks b (hb b hbm), fun p hp => h.rows p (hL p hp)⟩

/-- A block of another type is written. -/
theorem Book.set2 {b t : Nat} {x y u v : Value} (h : Book w0 w A ((b, .cells #[x, y] t (0, 0)) :: bs) L) (hw : w0.heap.size ≤ b) (hb : ∀ q ∈ bs, q.1 ≠ b) (hty : ∀ p ∈ L, p.ty ≠ t) :
    Book w0 ((w.setCell ⟨b, 0, none⟩ u).setCell ⟨b, 1, none⟩ v) A ((b, .cells #[u, v] t (0, 0)) :: bs) L where
  from0 := (h.from0.setCell (p := ⟨b, 0, none⟩) hw _).setCell (p := ⟨b, 1, none⟩) hw _
  args := fun q hq => (h.args q hq).below (((Below.refl _ w).setCell (p := ⟨b, 0, none⟩) hw _).setCell (p := ⟨b, 1, none⟩) hw _)
  blocks := fun q hq => by
    rcases List.mem_cons.1 hq with rfl | hq
    · have hbk := h.blocks _ (List.mem_cons_self ..)
      simp only at hbk
      simp only [World.setCell, Array.getElem?_modify, hbk]
      simp
    · exact (Below.heap_setCell _ _ _ _ (hb q hq)).trans ((Below.heap_setCell _ _ _ _ (hb q hq)).trans (h.blocks q (List.mem_cons_of_mem _ hq)))
  rows := fun p hp => by
    have hbk := h.blocks _ (List.mem_cons_self ..)
    have hn : p.v.ownBlock ≠ some b := by
      intro e
      have ho := (h.rows p hp).own
      rcases ho.2 with ⟨hv, _⟩ | ⟨g, cap, cur, hv, _, hg, _⟩
      · rw [hv] at e; simp [Value.ownBlock] at e
      · rw [hv] at e
        simp [Value.ownBlock] at e
        subst e
        rw [hg] at hbk
        simp at hbk
        exact hty p hp hbk.2
    exact ⟨ownsRow_set (ownsRow_set (h.rows p hp).own hn _) hn _, (h.rows p hp).lt, by have := (h.rows p hp).le; simpa [World.setCell] using this⟩

theorem Book.slI (h : Book w0 w A bs L) {lo hi : Nat} {ty : TypeId} {sz n : Nat} {a : Option Addr} {m cap : Nat} {xs : List Int} (hp : (⟨lo, hi, ty, sz, n, .slice a m cap, xs⟩ : Bk) ∈ L) : SlI w w.heap.size a xs :=
  flat_slI (h.rows _ hp).own

theorem Book.own (h : Book w0 w A bs L) {lo hi : Nat} {ty : TypeId} {sz n : Nat} {v : Value} {xs : List Int} (hp : (⟨lo, hi, ty, sz, n, v, xs⟩ : Bk) ∈ L) : w.ownsRow lo ty sz v n (xs.map (Value.int .i64)) := (h.rows _ hp).own

theorem Book.two (h : Book w0 w A bs L) {b t : Nat} {u v : Value} (hb : (b, Obj.cells #[u, v] t (0, 0)) ∈ bs) : w.cell? ⟨b, 0, none⟩ = some u ∧ w.cell? ⟨b, 1, none⟩ = some v := by
  have := h.blocks _ hb
  constructor <;> simp [World.cell?, this]

end

end Go.Proofs.Ytbhdipljhelddaa
