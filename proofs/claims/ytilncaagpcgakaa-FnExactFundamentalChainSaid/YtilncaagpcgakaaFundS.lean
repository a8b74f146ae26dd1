import Derived.Test.YtilncaagpcgakaaFundM
import Derived.Test.YtilncaagpcgakaaFundI
import Derived.Test.YtilncaagpcgakaaFacesOf
/-! Sums of ascending lists, and the boundary of a chain: the model's. -/
namespace Go.Proofs.Ytilncaagpcgakaa
open Go.RowKit

theorem drop_at {xs : List Int} {i : Nat} (h : i < xs.length) : xs.drop i = xs[i]?.getD 0 :: xs.drop (i + 1) := by
  rw [List.drop_eq_getElem_cons h, List.getElem?_eq_getElem h]; rfl

set_option maxRecDepth 100000 in
set_option maxHeartbeats 8000000 in
theorem sum_any (a : Option Addr) (ca : Nat) (A : List Int) (b0 : Option Addr) (cb : Nat) (B : List Int) (w : World) (ha : SlI w w.heap.size a A) (hb : SlI w w.heap.size b0 B) (hla : A.length ≤ 1048576) (hlb : B.length ≤ 1048576) :
    Calls Try.prog 99 #[.slice a A.length ca, .slice b0 B.length cb] w fun e w' => ∃ v, e = .returned v ∧ Res w w' v (sumL A B) := by
  have hown0 := World.ownsRow_made (base := w.heap.size) (e := 2) (size := 1) w #[] 0 (by simp) (by simp [maxLen]) rfl
  have Hown0 := hid hown0
  have HA := hid ha
  have HB' := hid hb
  have Hlen := hid (sumL_len _ A B (Nat.le_refl _))
  clear hown0 ha hb
  go_enter Try.func99, Try.ntmps99
  go_wp2
  go_loopw [5, 6, 7] (fun v p q wr => ∃ (i k : Nat) (O : List Int), i ≤ A.length ∧ k ≤ B.length ∧ p = .int .i64 i ∧ q = .int .i64 k ∧ wr.ownsRow w.heap.size 2 1 v O.length (O.map (Value.int .i64)) ∧ Hid (O ++ sumL (A.drop i) (B.drop k) = sumL A B) ∧ Below w.heap.size w wr) (fun _ p q _ => A.length + B.length - (intOf p).toNat - (intOf q).toNat)
  case atStart => exact ⟨0, 0, [], Nat.zero_le _, Nat.zero_le _, rfl, rfl, Hown0.out, hid (by simp), (Below.refl _ w).alloc (Nat.le_refl _) _⟩
  case round =>
    obtain ⟨i, k, O, hi, hk, rfl, rfl, hown, Hs, hB⟩ := hrel
    have HO := hid hown
    have HB := hid hB
    have HS := hid hB.size
    have hOl : O.length ≤ 2097152 := by have := congrArg List.length Hs.out; rw [List.length_append] at this; have := Hlen.out; omega
    clear hown hB Hown0
    by_cases hia : i < A.length
    · obtain ⟨ba, oa, hba, rfl, hca⟩ : ∃ b off, b < w.heap.size ∧ a = some ⟨b, off, none⟩ ∧ ∀ i, i < A.length → w.cell? ⟨b, off + i, none⟩ = some (.int .i64 (A[i]?.getD 0)) := by
        rcases HA.out with h | h
        · rw [h] at hia; simp at hia
        · exact h
      have hcx : wr.cell? ⟨ba, oa + i, none⟩ = some (.int .i64 (A[i]?.getD 0)) := (HB.out.cell (p := ⟨ba, oa + i, none⟩) hba).trans (hca i hia)
      have hda := drop_at hia
      obtain ⟨x, hx⟩ : ∃ x, x = A[i]?.getD 0 := ⟨_, rfl⟩
      rw [← hx] at hcx hda
      have hi0 : (0 : Int) ≤ (i : Int) := by omega
      have hi1 : (i : Int) < (A.length : Int) := by omega
      have hi2 : ((i : Int) == (A.length : Int)) = false := beq_eq_false_iff_ne.2 (by omega)
      by_cases hkb : k < B.length
      · obtain ⟨bb, ob, hbb, rfl, hcb⟩ : ∃ b off, b < w.heap.size ∧ b0 = some ⟨b, off, none⟩ ∧ ∀ i, i < B.length → w.cell? ⟨b, off + i, none⟩ = some (.int .i64 (B[i]?.getD 0)) := by
          rcases HB'.out with h | h
          · rw [h] at hkb; simp at hkb
          · exact h
        have hcy : wr.cell? ⟨bb, ob + k, none⟩ = some (.int .i64 (B[k]?.getD 0)) := (HB.out.cell (p := ⟨bb, ob + k, none⟩) hbb).trans (hcb k hkb)
        have hdb := drop_at hkb
        obtain ⟨y, hy⟩ : ∃ y, y = B[k]?.getD 0 := ⟨_, rfl⟩
        rw [← hy] at hcy hdb
        have hk0 : (0 : Int) ≤ (k : Int) := by omega
        have hk1 : (k : Int) < (B.length : Int) := by omega
        have hk2 : ((k : Int) == (B.length : Int)) = false := beq_eq_false_iff_ne.2 (by omega)
        have Hda := hid hda
        have Hdb := hid hdb
        clear hx hy hca hcb hda hdb
        by_cases hxy : x < y
        · have He := hid (sumL_lt (A.drop (i + 1)) (B.drop (k + 1)) hxy)
          have hd : decide (x < y) = true := decide_eq_true hxy
          go_wp2_with fail
          refine wp_region_quiet_lit (by kernel_rfl) (by kernel_rfl) ?_
          iterate 22 (with_reducible refine wpQuiet_step (fun K hK => ?_); have HK := hid hK; clear hK; go_simp; (first | with_reducible refine HK.out _ ?_ | (rw [if_neg (by decide)]; with_reducible refine HK.out _ ?_)); clear HK K)
          with_reducible refine wpQuiet_nil ?_
          intro _ hw'
          obtain ⟨nq, hw''⟩ := hw'
          subst hw''
          go_wp2_with (at_builtin; refine append_int rfl rfl HO.out HS.out (by omega) rfl rfl ?_; intro v' w2 hown2 hgrow2 hB2)
          go_roundw
          case rel => exact ⟨i + 1, k, O ++ [x], by omega, by omega, by go_num, by go_num, hown2, hid (by rw [List.append_assoc, ← Hs.out, Hda.out, Hdb.out, He.out]; rfl), HB.out.trans (Below.mono (w := wr) ⟨hB2.os, hB2.tape, hB2.output, hB2.size, hB2.block⟩ (Nat.le_refl _))⟩
          case measure => simp [intOf]; omega
        · have hd : decide (x < y) = false := decide_eq_false hxy
          by_cases hyx : y < x
          · have He := hid (sumL_gt (A.drop (i + 1)) (B.drop (k + 1)) hyx)
            have hd2 : decide (y < x) = true := decide_eq_true hyx
            go_wp2_with fail
            refine wp_region_quiet_lit (by kernel_rfl) (by kernel_rfl) ?_
            iterate 22 (with_reducible refine wpQuiet_step (fun K hK => ?_); have HK := hid hK; clear hK; go_simp; (first | with_reducible refine HK.out _ ?_ | (rw [if_neg (by decide)]; with_reducible refine HK.out _ ?_)); clear HK K)
            with_reducible refine wpQuiet_nil ?_
            intro _ hw'
            obtain ⟨nq, hw''⟩ := hw'
            subst hw''
            go_wp2_with fail
            refine wp_region_quiet_lit (by kernel_rfl) (by kernel_rfl) ?_
            iterate 16 (with_reducible refine wpQuiet_step (fun K hK => ?_); have HK := hid hK; clear hK; go_simp; (first | with_reducible refine HK.out _ ?_ | (rw [if_neg (by decide)]; with_reducible refine HK.out _ ?_)); clear HK K)
            with_reducible refine wpQuiet_nil ?_
            intro _ hw'
            obtain ⟨nq, hw''⟩ := hw'
            subst hw''
            go_wp2_with (at_builtin; refine append_int rfl rfl HO.out HS.out (by omega) rfl rfl ?_; intro v' w2 hown2 hgrow2 hB2)
            go_roundw
            case rel => exact ⟨i, k + 1, O ++ [y], by omega, by omega, by go_num, by go_num, hown2, hid (by rw [List.append_assoc, ← Hs.out, Hda.out, Hdb.out, He.out]; rfl), HB.out.trans (Below.mono (w := wr) ⟨hB2.os, hB2.tape, hB2.output, hB2.size, hB2.block⟩ (Nat.le_refl _))⟩
            case measure => simp [intOf]; omega
          · have hd2 : decide (y < x) = false := decide_eq_false hyx
            obtain rfl : x = y := by omega
            have He := hid (sumL_eq x (A.drop (i + 1)) (B.drop (k + 1)))
            go_wp2_with fail
            refine wp_region_quiet_lit (by kernel_rfl) (by kernel_rfl) ?_
            iterate 22 (with_reducible refine wpQuiet_step (fun K hK => ?_); have HK := hid hK; clear hK; go_simp; (first | with_reducible refine HK.out _ ?_ | (rw [if_neg (by decide)]; with_reducible refine HK.out _ ?_)); clear HK K)
            with_reducible refine wpQuiet_nil ?_
            intro _ hw'
            obtain ⟨nq, hw''⟩ := hw'
            subst hw''
            go_wp2_with fail
            refine wp_region_quiet_lit (by kernel_rfl) (by kernel_rfl) ?_
            iterate 16 (with_reducible refine wpQuiet_step (fun K hK => ?_); have HK := hid hK; clear hK; go_simp; (first | with_reducible refine HK.out _ ?_ | (rw [if_neg (by decide)]; with_reducible refine HK.out _ ?_)); clear HK K)
            with_reducible refine wpQuiet_nil ?_
            intro _ hw'
            obtain ⟨nq, hw''⟩ := hw'
            subst hw''
            go_wp2_with fail
            go_roundw
            case rel => exact ⟨i + 1, k + 1, O, by omega, by omega, by go_num, by go_num, HO.out, hid (by rw [← Hs.out, Hda.out, Hdb.out, He.out]), HB.out.trans ⟨rfl, rfl, rfl, Nat.le_refl _, fun _ _ => rfl⟩⟩
            case measure => simp [intOf]; omega
      · obtain rfl : k = B.length := by omega
        have hk2 : ((B.length : Int) == (B.length : Int)) = true := by simp
        have He := hid (sumL_nil' (A.drop (i + 1)))
        have Hda := hid hda
        clear hx hca hda
        go_wp2_with fail
        refine wp_region_quiet_lit (by kernel_rfl) (by kernel_rfl) ?_
        iterate 22 (with_reducible refine wpQuiet_step (fun K hK => ?_); have HK := hid hK; clear hK; go_simp; (first | with_reducible refine HK.out _ ?_ | (rw [if_neg (by decide)]; with_reducible refine HK.out _ ?_)); clear HK K)
        with_reducible refine wpQuiet_nil ?_
        intro _ hw'
        obtain ⟨nq, hw''⟩ := hw'
        subst hw''
        go_wp2_with (at_builtin; refine append_int rfl rfl HO.out HS.out (by omega) rfl rfl ?_; intro v' w2 hown2 hgrow2 hB2)
        go_roundw
        case rel => exact ⟨i + 1, B.length, O ++ [x], by omega, by omega, by go_num, by go_num, hown2, hid (by rw [List.append_assoc, ← Hs.out, Hda.out, List.drop_length, sumL_nil', sumL_nil']; rfl), HB.out.trans (Below.mono (w := wr) ⟨hB2.os, hB2.tape, hB2.output, hB2.size, hB2.block⟩ (Nat.le_refl _))⟩
        case measure => simp [intOf]; omega
    · obtain rfl : i = A.length := by omega
      have hi2 : ((A.length : Int) == (A.length : Int)) = true := by simp
      by_cases hkb : k < B.length
      · obtain ⟨bb, ob, hbb, rfl, hcb⟩ : ∃ b off, b < w.heap.size ∧ b0 = some ⟨b, off, none⟩ ∧ ∀ i, i < B.length → w.cell? ⟨b, off + i, none⟩ = some (.int .i64 (B[i]?.getD 0)) := by
          rcases HB'.out with h | h
          · rw [h] at hkb; simp at hkb
          · exact h
        have hcy : wr.cell? ⟨bb, ob + k, none⟩ = some (.int .i64 (B[k]?.getD 0)) := (HB.out.cell (p := ⟨bb, ob + k, none⟩) hbb).trans (hcb k hkb)
        have hdb := drop_at hkb
        obtain ⟨y, hy⟩ : ∃ y, y = B[k]?.getD 0 := ⟨_, rfl⟩
        rw [← hy] at hcy hdb
        have hk0 : (0 : Int) ≤ (k : Int) := by omega
        have hk1 : (k : Int) < (B.length : Int) := by omega
        have hk2 : ((k : Int) == (B.length : Int)) = false := beq_eq_false_iff_ne.2 (by omega)
        have Hdb := hid hdb
        clear hy hcb hdb
        go_wp2_with fail
        refine wp_region_quiet_lit (by kernel_rfl) (by kernel_rfl) ?_
        iterate 22 (with_reducible refine wpQuiet_step (fun K hK => ?_); have HK := hid hK; clear hK; go_simp; (first | with_reducible refine HK.out _ ?_ | (rw [if_neg (by decide)]; with_reducible refine HK.out _ ?_)); clear HK K)
        with_reducible refine wpQuiet_nil ?_
        intro _ hw'
        obtain ⟨nq, hw''⟩ := hw'
        subst hw''
        go_wp2_with fail
        refine wp_region_quiet_lit (by kernel_rfl) (by kernel_rfl) ?_
        iterate 16 (with_reducible refine wpQuiet_step (fun K hK => ?_); have HK := hid hK; clear hK; go_simp; (first | with_reducible refine HK.out _ ?_ | (rw [if_neg (by decide)]; with_reducible refine HK.out _ ?_)); clear HK K)
        with_reducible refine wpQuiet_nil ?_
        intro _ hw'
        obtain ⟨nq, hw''⟩ := hw'
        subst hw''
        go_wp2_with (at_builtin; refine append_int rfl rfl HO.out HS.out (by omega) rfl rfl ?_; intro v' w2 hown2 hgrow2 hB2)
        go_roundw
        case rel => exact ⟨A.length, k + 1, O ++ [y], by omega, by omega, by go_num, by go_num, hown2, hid (by rw [List.append_assoc, ← Hs.out, Hdb.out, List.drop_length, sumL_nil, sumL_nil]; rfl), HB.out.trans (Below.mono (w := wr) ⟨hB2.os, hB2.tape, hB2.output, hB2.size, hB2.block⟩ (Nat.le_refl _))⟩
        case measure => simp [intOf]; omega
      · obtain rfl : k = B.length := by omega
        have He : Hid (O = sumL A B) := hid (by have := Hs.out; rw [List.drop_length, List.drop_length, sumL_nil] at this; simpa using this)
        go_wp2
        go_ret
        exact ⟨_, rfl, by rw [← He.out]; exact HO.out, HB.out⟩

end Go.Proofs.Ytilncaagpcgakaa
