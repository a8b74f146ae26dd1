import Derived.Test.YtgnahadlcihneaaDoorRows
import Derived.ProofKit
import Derived.OpenShut
import Derived.ShutString
import Derived.ChangeOld
import Derived.Below
import Derived.Lib.SmallJoins
import Derived.Test.YtgnahadlcihneaaDoorTie
import Derived.Test.YtgnahadlcihneaaDoorCards
import Derived.OpenVars
import Derived.LaidMore
import Derived.MakeChecks
import Derived.Stop.LaidErr
import Derived.SevenTiedAt
import Derived.Test.YtgnahadlcihneaaDoorCB1
import Derived.Test.YtgnahadlcihneaaDoorCB2
/-! Sums of ascending lists, and the boundary of a chain: the model's. -/
namespace Go.Proofs.YtgnahadlcihneaaDoor
open Go.RowKit

theorem drop_at {xs : List Int} {i : Nat} (h : i < xs.length) : xs.drop i = xs[i]?.getD 0 :: xs.drop (i + 1) := by
  rw [List.drop_eq_getElem_cons h, List.getElem?_eq_getElem h]; rfl

set_option maxRecDepth 100000 in
set_option maxHeartbeats 8000000 in
theorem sum_any (a : Option Addr) (ca : Nat) (A : List Int) (b0 : Option Addr) (cb : Nat) (B : List Int) (w : World) (ha : SlI w w.heap.size a A) (hb : SlI w w.heap.size b0 B) (hla : A.length ≤ 1048576) (hlb : B.length ≤ 1048576) :
    Calls Tryd.prog 97 #[.slice a A.length ca, .slice b0 B.length cb] w fun e w' => ∃ v, e = .returned v ∧ Res w w' v (sumL A B) := by
  have hown0 := World.ownsRow_made (base := w.heap.size) (e := 2) (size := 1) w #[] 0 (by simp) (by simp [maxLen]) rfl
  have Hown0 := hid hown0
  have HA := hid ha
  have HB' := hid hb
  have Hlen := hid (sumL_len _ A B (Nat.le_refl _))
  clear hown0 ha hb
  go_enter Tryd.func97, Tryd.ntmps97
  go_wp2
  go_loopw [5, 6, 7] (fun v p q wr => ∃ (i k : Nat) (O : List Int), i ≤ A.length ∧ k ≤ B.length ∧ p = .int .i64 i ∧ q = .int .i64 k ∧ wr.ownsRow w.heap.size 2 1 v O.length (O.map (Value.int .i64)) ∧ Hid (O ++ sumL (A.drop i) (B.drop k) = sumL A B) ∧ Below w.heap.size w wr) (fun _ p q _ => A.length + B.length - (intOf p).toNat - (intOf q).toNat)
  case atStart => exact ⟨0, 0, [], Nat.zero_le _, Nat.zero_le _, rfl, rfl, Hown0.out, hid (by simp), (Below.refl _ w).alloc (Nat.le_refl _) _⟩
  case round =>
    obtain ⟨i, k, O, hi, hk, rfl, rfl, hown, Hs, hB⟩ := hrel
    have HO := hid hown
    have HB := hid hB
    have HS := hid hB.size
    have hOl : O.length ≤ 2097152 := by have := congrArg List.length Hs.out; rw [List.length_append] at this; have := Hlen.out; omega
    clear hown hB Hown0
    by_cases hia : i < A.length
    · obtain ⟨ba, oa, hba, rfl, hca⟩ : ∃ b off, b < w.heap.size ∧ a = some ⟨b, off, none⟩ ∧ ∀ i, i < A.length → w.cell? ⟨b, off + i, none⟩ = some (.int .i64 (A[i]?.getD 0)) := by
        rcases HA.out with h | h
        · rw [h] at hia; simp at hia
        · exact h
      have hcx : wr.cell? ⟨ba, oa + i, none⟩ = some (.int .i64 (A[i]?.getD 0)) := (HB.out.cell (p := ⟨ba, oa + i, none⟩) hba).trans (hca i hia)
      have hda := drop_at hia
      obtain ⟨x, hx⟩ : ∃ x, x = A[i]?.getD 0 := ⟨_, rfl⟩
      rw [← hx] at hcx hda
      have hi0 : (0 : Int) ≤ (i : Int) := by omega
      have hi1 : (i : Int) < (A.length : Int) := by omega
      have hi2 : ((i : Int) == (A.length : Int)) = false := beq_eq_false_iff_ne.2 (by omega)
      by_cases hkb : k < B.length
      · obtain ⟨bb, ob, hbb, rfl, hcb⟩ : ∃ b off, b < w.heap.size ∧ b0 = some ⟨b, off, none⟩ ∧ ∀ i, i < B.length → w.cell? ⟨b, off + i, none⟩ = some (.int .i64 (B[i]?.getD 0)) := by
          rcases HB'.out with h | h
          · rw [h] at hkb; simp at hkb
          · exact h
        have hcy : wr.cell? ⟨bb, ob + k, none⟩ = some (.int .i64 (B[k]?.getD 0)) := (HB.out.cell (p := ⟨bb, ob + k, none⟩) hbb).trans (hcb k hkb)
        have hdb := drop_at hkb
        obtain ⟨y, hy⟩ : ∃ y, y = B[k]?.getD 0 := ⟨_, rfl⟩
        rw [← hy] at hcy hdb
        have hk0 : (0 : Int) ≤ (k : Int) := by omega
        have hk1 : (k : Int) < (B.length : Int) := by omega
        have hk2 : ((k : Int) == (B.length : Int)) = false := beq_eq_false_iff_ne.2 (by omega)
        have Hda := hid hda
        have Hdb := hid hdb
        clear hx hy hca hcb hda hdb
        by_cases hxy : x < y
        · have He := hid (sumL_lt (A.drop (i + 1)) (B.drop (k + 1)) hxy)
          have hd : decide (x < y) = true := decide_eq_true hxy
          go_wp2_with fail
          refine wp_region_quiet_lit (by kernel_rfl) (by kernel_rfl) ?_
          iterate 22 (with_reducible refine wpQuiet_step (fun K hK => ?_); have HK := hid hK; clear hK; go_simp; (first | with_reducible refine HK.out _ ?_ | (rw [if_neg (by decide)]; with_reducible refine HK.out _ ?_)); clear HK K)
          with_reducible refine wpQuiet_nil ?_
          intro _ hw'
          obtain ⟨nq, hw''⟩ := hw'
          subst hw''
          go_wp2_with (at_builtin; refine append_int rfl rfl HO.out HS.out (by omega) rfl rfl ?_; intro v' w2 hown2 hgrow2 hB2)
          go_roundw
          case rel => exact ⟨i + 1, k, O ++ [x], by omega, by omega, by go_num, by go_num, hown2, hid (by rw [List.append_assoc, ← Hs.out, Hda.out, Hdb.out, He.out]; rfl), HB.out.trans (Below.mono (w := wr) ⟨hB2.os, hB2.tape, hB2.output, hB2.size, hB2.block⟩ (Nat.le_refl _))⟩
          case measure => simp [intOf]; omega
        · have hd : decide (x < y) = false := decide_eq_false hxy
          by_cases hyx : y < x
          · have He := hid (sumL_gt (A.drop (i + 1)) (B.drop (k + 1)) hyx)
            have hd2 : decide (y < x) = true := decide_eq_true hyx
            go_wp2_with fail
            refine wp_region_quiet_lit (by kernel_rfl) (by kernel_rfl) ?_
            iterate 22 (with_reducible refine wpQuiet_step (fun K hK => ?_); have HK := hid hK; clear hK; go_simp; (first | with_reducible refine HK.out _ ?_ | (rw [if_neg (by decide)]; with_reducible refine HK.out _ ?_)); clear HK K)
            with_reducible refine wpQuiet_nil ?_
            intro _ hw'
            obtain ⟨nq, hw''⟩ := hw'
            subst hw''
            go_wp2_with fail
            refine wp_region_quiet_lit (by kernel_rfl) (by kernel_rfl) ?_
            iterate 16 (with_reducible refine wpQuiet_step (fun K hK => ?_); have HK := hid hK; clear hK; go_simp; (first | with_reducible refine HK.out _ ?_ | (rw [if_neg (by decide)]; with_reducible refine HK.out _ ?_)); clear HK K)
            with_reducible refine wpQuiet_nil ?_
            intro _ hw'
            obtain ⟨nq, hw''⟩ := hw'
            subst hw''
            go_wp2_with (at_builtin; refine append_int rfl rfl HO.out HS.out (by omega) rfl rfl ?_; intro v' w2 hown2 hgrow2 hB2)
            go_roundw
            case rel => exact ⟨i, k + 1, O ++ [y], by omega, by omega, by go_num, by go_num, hown2, hid (by rw [List.append_assoc, ← Hs.out, Hda.out, Hdb.out, He.out]; rfl), HB.out.trans (Below.mono (w := wr) ⟨hB2.os, hB2.tape, hB2.output, hB2.size, hB2.block⟩ (Nat.le_refl _))⟩
            case measure => simp [intOf]; omega
          · have hd2 : decide (y < x) = false := decide_eq_false hyx
            obtain rfl : x = y := by omega
            have He := hid (sumL_eq x (A.drop (i + 1)) (B.drop (k + 1)))
            go_wp2_with fail
            refine wp_region_quiet_lit (by kernel_rfl) (by kernel_rfl) ?_
            iterate 22 (with_reducible refine wpQuiet_step (fun K hK => ?_); have HK := hid hK; clear hK; go_simp; (first | with_reducible refine HK.out _ ?_ | (rw [if_neg (by decide)]; with_reducible refine HK.out _ ?_)); clear HK K)
            with_reducible refine wpQuiet_nil ?_
            intro _ hw'
            obtain ⟨nq, hw''⟩ := hw'
            subst hw''
            go_wp2_with fail
            refine wp_region_quiet_lit (by kernel_rfl) (by kernel_rfl) ?_
            iterate 16 (with_reducible refine wpQuiet_step (fun K hK => ?_); have HK := hid hK; clear hK; go_simp; (first | with_reducible refine HK.out _ ?_ | (rw [if_neg (by decide)]; with_reducible refine HK.out _ ?_)); clear HK K)
            with_reducible refine wpQuiet_nil ?_
            intro _ hw'
            obtain ⟨nq, hw''⟩ := hw'
            subst hw''
            go_wp2_with fail
            go_roundw
            case rel => exact ⟨i + 1, k + 1, O, by omega, by omega, by go_num, by go_num, HO.out, hid (by rw [← Hs.out, Hda.out, Hdb.out, He.out]), HB.out.trans ⟨rfl, rfl, rfl, Nat.le_refl _, fun _ _ => rfl⟩⟩
            case measure => simp [intOf]; omega
      · obtain rfl : k = B.length := by omega
        have hk2 : ((B.length : Int) == (B.length : Int)) = true := by simp
        have He := hid (sumL_nil' (A.drop (i + 1)))
        have Hda := hid hda
        clear hx hca hda
        go_wp2_with fail
        refine wp_region_quiet_lit (by kernel_rfl) (by kernel_rfl) ?_
        iterate 22 (with_reducible refine wpQuiet_step (fun K hK => ?_); have HK := hid hK; clear hK; go_simp; (first | with_reducible refine HK.out _ ?_ | (rw [if_neg (by decide)]; with_reducible refine HK.out _ ?_)); clear HK K)
        with_reducible refine wpQuiet_nil ?_
        intro _ hw'
        obtain ⟨nq, hw''⟩ := hw'
        subst hw''
        go_wp2_with (at_builtin; refine append_int rfl rfl HO.out HS.out (by omega) rfl rfl ?_; intro v' w2 hown2 hgrow2 hB2)
        go_roundw
        case rel => exact ⟨i + 1, B.length, O ++ [x], by omega, by omega, by go_num, by go_num, hown2, hid (by rw [List.append_assoc, ← Hs.out, Hda.out, List.drop_length, sumL_nil', sumL_nil']; rfl), HB.out.trans (Below.mono (w := wr) ⟨hB2.os, hB2.tape, hB2.output, hB2.size, hB2.block⟩ (Nat.le_refl _))⟩
        case measure => simp [intOf]; omega
    · obtain rfl : i = A.length := by omega
      have hi2 : ((A.length : Int) == (A.length : Int)) = true := by simp
      by_cases hkb : k < B.length
      · obtain ⟨bb, ob, hbb, rfl, hcb⟩ : ∃ b off, b < w.heap.size ∧ b0 = some ⟨b, off, none⟩ ∧ ∀ i, i < B.length → w.cell? ⟨b, off + i, none⟩ = some (.int .i64 (B[i]?.getD 0)) := by
          rcases HB'.out with h | h
          · rw [h] at hkb; simp at hkb
          · exact h
        have hcy : wr.cell? ⟨bb, ob + k, none⟩ = some (.int .i64 (B[k]?.getD 0)) := (HB.out.cell (p := ⟨bb, ob + k, none⟩) hbb).trans (hcb k hkb)
        have hdb := drop_at hkb
        obtain ⟨y, hy⟩ : ∃ y, y = B[k]?.getD 0 := ⟨_, rfl⟩
        rw [← hy] at hcy hdb
        have hk0 : (0 : Int) ≤ (k : Int) := by omega
        have hk1 : (k : Int) < (B.length : Int) := by omega
        have hk2 : ((k : Int) == (B.length : Int)) = false := beq_eq_false_iff_ne.2 (by omega)
        have Hdb := hid hdb
        clear hy hcb hdb
        go_wp2_with fail
        refine wp_region_quiet_lit (by kernel_rfl) (by kernel_rfl) ?_
        iterate 22 (with_reducible refine wpQuiet_step (fun K hK => ?_); have HK := hid hK; clear hK; go_simp; (first | with_reducible refine HK.out _ ?_ | (rw [if_neg (by decide)]; with_reducible refine HK.out _ ?_)); clear HK K)
        with_reducible refine wpQuiet_nil ?_
        intro _ hw'
        obtain ⟨nq, hw''⟩ := hw'
        subst hw''
        go_wp2_with fail
        refine wp_region_quiet_lit (by kernel_rfl) (by kernel_rfl) ?_
        iterate 16 (with_reducible refine wpQuiet_step (fun K hK => ?_); have HK := hid hK; clear hK; go_simp; (first | with_reducible refine HK.out _ ?_ | (rw [if_neg (by decide)]; with_reducible refine HK.out _ ?_)); clear HK K)
        with_reducible refine wpQuiet_nil ?_
        intro _ hw'
        obtain ⟨nq, hw''⟩ := hw'
        subst hw''
        go_wp2_with (at_builtin; refine append_int rfl rfl HO.out HS.out (by omega) rfl rfl ?_; intro v' w2 hown2 hgrow2 hB2)
        go_roundw
        case rel => exact ⟨A.length, k + 1, O ++ [y], by omega, by omega, by go_num, by go_num, hown2, hid (by rw [List.append_assoc, ← Hs.out, Hdb.out, List.drop_length, sumL_nil, sumL_nil]; rfl), HB.out.trans (Below.mono (w := wr) ⟨hB2.os, hB2.tape, hB2.output, hB2.size, hB2.block⟩ (Nat.le_refl _))⟩
        case measure => simp [intOf]; omega
      · obtain rfl : k = B.length := by omega
        have He : Hid (O = sumL A B) := hid (by have := Hs.out; rw [List.drop_length, List.drop_length, sumL_nil] at this; simpa using this)
        go_wp2
        go_ret
        exact ⟨_, rfl, by rw [← He.out]; exact HO.out, HB.out⟩

end Go.Proofs.YtgnahadlcihneaaDoor

/-! FundamentalChain, the model's. -/
namespace Go.Proofs.YtgnahadlcihneaaDoor
open Go.RowKit

theorem par_mem {p : Int} {L : List Int} (h : par p L = true) : p ∈ L := by
  unfold par at h
  have := of_decide_eq_true h
  exact List.count_pos_iff.1 (by omega)

theorem sidesAll_range {ch : List Int} (h : ∀ x ∈ ch, 1 ≤ x ∧ x ≤ 63) {p : Int} (hp : p ∈ sidesAll ch) : 1 ≤ p ∧ p ≤ 63 := by
  unfold sidesAll at hp
  obtain ⟨x, hx, hm⟩ := List.mem_flatMap.1 hp
  have hxr := h x hx
  obtain ⟨q, hq, rfl⟩ := List.mem_map.1 hm
  have := (sides_sub ⟨x.toNat, by omega⟩ q hq).1
  have := q.isLt
  omega

theorem bdS_len {ch : List Int} (h : ∀ x ∈ ch, 1 ≤ x ∧ x ≤ 63) : (bdS ch).length ≤ 63 := by
  obtain ⟨h1, h2⟩ := bdS_spec ch h
  have := asc_len (bdS ch) 1 h2 (fun x hx => sidesAll_range h (par_mem ((h1 x).1 hx)))
  omega

set_option maxRecDepth 100000 in
set_option maxHeartbeats 2000000 in
theorem bdS_any (a1 : Option Addr) (c2 : Nat) (ch : List Int) (w : World) (hx : SlI w w.heap.size a1 ch) (hch : ∀ x ∈ ch, 1 ≤ x ∧ x ≤ 63) (hcl : ch.length ≤ 1048576) :
    Calls Tryd.prog 77 #[.slice a1 ch.length c2] w fun e w' => ∃ v, e = .returned v ∧ Res w w' v (bdS ch) := by
  have hown0 := World.ownsRow_made (base := w.heap.size) (e := 2) (size := 1) w #[] 0 (by simp) (by simp [maxLen]) rfl
  have Hown0 := hid hown0
  have HX := hid hx
  have Hch := hid hch
  clear hown0 hx hch
  go_enter Tryd.func77, Tryd.ntmps77
  go_wp2
  go_loopw [3, 4] (fun v i wr => ∃ k : Nat, k ≤ ch.length ∧ i = .int .i64 k ∧ wr.ownsRow w.heap.size 2 1 v (bdS (ch.take k)).length ((bdS (ch.take k)).map (Value.int .i64)) ∧ Below w.heap.size w wr) (fun _ i _ => ch.length - (intOf i).toNat)
  case atStart => exact ⟨0, Nat.zero_le _, rfl, by simpa [bdS] using Hown0.out, (Below.refl _ w).alloc (Nat.le_refl _) _⟩
  case round =>
    obtain ⟨k, hk, rfl, hown, hB⟩ := hrel
    clear Hown0
    by_cases hlt : k < ch.length
    · obtain ⟨b, off, hb, rfl, hc⟩ : ∃ b off, b < w.heap.size ∧ a1 = some ⟨b, off, none⟩ ∧ ∀ i, i < ch.length → w.cell? ⟨b, off + i, none⟩ = some (.int .i64 (ch[i]?.getD 0)) := by
        rcases HX.out with h | h
        · rw [h] at hlt; simp at hlt
        · exact h
      obtain ⟨x, hx⟩ : ∃ x, x = ch[k]?.getD 0 := ⟨_, rfl⟩
      have hck : wr.cell? ⟨b, off + k, none⟩ = some (.int .i64 x) := by rw [hx]; exact (hB.cell (p := ⟨b, off + k, none⟩) hb).trans (hc k hlt)
      have hxr := Hch.out _ (getD_mem hlt)
      rw [← hx] at hxr
      have Hsn : Hid (bdS (ch.take (k + 1)) = sumL (bdS (ch.take k)) (belowR x.toNat 63)) := hid (by rw [take_snoc hlt, ← hx, bdS_snoc])
      have hol := bdS_len (ch := ch.take k) (fun y hy => Hch.out y (List.mem_of_mem_take hy))
      have hyl := belowR_len x.toNat 63
      obtain ⟨ys, hys⟩ : ∃ ys, ys = belowR x.toNat 63 := ⟨_, rfl⟩
      rw [← hys] at Hsn hyl
      have Hys := hid hys
      obtain ⟨O, hO⟩ : ∃ O, O = bdS (ch.take k) := ⟨_, rfl⟩
      rw [← hO] at Hsn hol hown
      have hi0 : (0 : Int) ≤ (k : Int) := by omega
      have hi1 : (k : Int) < (ch.length : Int) := by omega
      have HB := hid hB
      have Hol : Hid (O.length ≤ 1048576) := hid (by omega)
      have Hyl : Hid (ys.length ≤ 1048576) := hid (by omega)
      have Hown := hid hown
      obtain ⟨_, av, cv, rfl, hs⟩ := ownsRow_slI hown
      have Hs := hid hs
      have HBel := hid (below_as x ys wr (by omega) (by omega) hys)
      have Hle := hid hB.size
      clear hx hc hys hO hB hown hs hol hyl
      go_wp2_with (first
        | (go_at_call 82; refine HBel.out.mono ?_; rintro e w1 ⟨ab, cb, rfl, hsb, hB1⟩; have HS1 := hid (sum_any av cv O ab cb ys w1 (Hs.out.later hB1 hB1.size) hsb Hol.out Hyl.out); have HB1 := hid hB1; clear hsb hB1)
        | (go_at_call 97; refine HS1.out.mono ?_; rintro e w2 ⟨v2, rfl, hr⟩; have HR := hid hr; clear hr))
      go_roundw
      case rel =>
        have hb1 := HB.out.trans (HB1.out.mono Hle.out)
        have hb2 : Below w1.heap.size w1 w2 := HR.out.2
        exact ⟨k + 1, by omega, by go_num, by rw [Hsn.out]; exact ownsRow_base HR.out.1 hb1.size, hb1.trans (hb2.mono hb1.size)⟩
      case measure => simp [intOf]; omega
    · obtain rfl : k = ch.length := by omega
      rw [List.take_of_length_le (Nat.le_refl _)] at hown
      go_wp2
      go_ret
      exact ⟨_, rfl, hown, hB⟩




end Go.Proofs.YtgnahadlcihneaaDoor

/-! Contracts of the laws' small helpers: sizes, copies, comparisons. -/
namespace Go.Proofs.YtgnahadlcihneaaDoor
open Go.RowKit

theorem fill_step {xs : List Int} {k : Nat} (h : k < xs.length) :
    ((xs.take k ++ List.replicate (xs.length - k) (0 : Int)).map (Value.int .i64)).set k (.int .i64 (xs[k]?.getD 0)) = (xs.take (k + 1) ++ List.replicate (xs.length - (k + 1)) (0 : Int)).map (Value.int .i64) := by
  rw [take_snoc h, ← List.map_set]
  congr 1
  have e : xs.length - k = (xs.length - (k + 1)) + 1 := by omega
  rw [e, List.replicate_succ, List.set_append_right _ _ (by simp <;> omega)]
  simp [Nat.min_eq_left (Nat.le_of_lt h)]

set_option maxHeartbeats 400000 in
theorem toInts (a : Option Addr) (cap : Nat) (xs : List Int) (w : World) (hx : SlI w w.heap.size a xs) (hl : xs.length ≤ 1048576) :
    Calls Tryd.prog 22 #[.slice a xs.length cap] w fun e w' =>
      e = .returned (.slice (some ⟨w.heap.size, 0, none⟩) xs.length xs.length) ∧ w'.ownsRow w.heap.size 2 1 (.slice (some ⟨w.heap.size, 0, none⟩) xs.length xs.length) xs.length (xs.map (Value.int .i64)) ∧ Below w.heap.size w w' := by
  go_enter Tryd.func22, Tryd.ntmps22
  go_wp2_with (at_make; refine make_int rfl rfl rfl rfl (by omega) ?_; intro w1 hown hg hB)
  rcases hx with rfl | ⟨b, off, hb, rfl, hc⟩
  · refine wp_loop_rounds 1 ?_; rw [rounds_succ]
    go_wp2
    go_ret
    exact ⟨rfl, hown, hB⟩
  · go_loopw [4] (fun i wr => ∃ k : Nat, k ≤ xs.length ∧ i = .int .i64 k ∧ wr.ownsRow w.heap.size 2 1 (.slice (some ⟨w.heap.size, 0, none⟩) xs.length xs.length) xs.length ((xs.take k ++ List.replicate (xs.length - k) (0 : Int)).map (Value.int .i64)) ∧ Below w.heap.size w wr) (fun i _ => xs.length - (intOf i).toNat)
    case atStart => exact ⟨0, Nat.zero_le _, rfl, by simpa using hown, hB⟩
    case round =>
      obtain ⟨k, hk, rfl, hown, hB⟩ := hrel
      by_cases hlt : k < xs.length
      · obtain ⟨x, hx⟩ : ∃ x, x = xs[k]?.getD 0 := ⟨_, rfl⟩
        have hck : wr.cell? ⟨b, off + k, none⟩ = some (.int .i64 x) := by rw [hx]; exact (hB.cell (p := ⟨b, off + k, none⟩) hb).trans (hc k hlt)
        have hcg : wr.cell? ⟨w.heap.size, k, none⟩ = some (.int .i64 0) := by
          rw [hown.cellAt k (by omega)]
          rw [List.getElem?_map, List.getElem?_append_right (by simp <;> omega)]
          simp [List.getElem?_replicate, Nat.min_eq_left hk]
          omega
        have hfg := hown.frozenAt k
        have Hx := hid hx
        have Hc := hid hc
        clear hx hc
        have hst := hown.stored k (.int .i64 x)
        have Hst := hid hst.1
        clear hst
        go_wp2
        go_roundw
        case rel =>
          refine ⟨k + 1, by omega, by go_num, ?_, hB.setCell (p := ⟨w.heap.size, k, none⟩) (Nat.le_refl _) _⟩
          have h := Hst.out
          rw [Hx.out, fill_step hlt, ← Hx.out] at h
          exact h
        case measure => simp [intOf]; omega
      · go_wp2
        go_ret
        obtain rfl : k = xs.length := by omega
        exact ⟨rfl, by simpa using hown, hB⟩

/-- What is left of a size. -/
def szR (left : Int) (n : Nat) : Int := if left < n then -1 else left - n
theorem szR_big {left : Int} {n : Nat} (h : left < n) : szR left n = -1 := by unfold szR; rw [if_pos h]
theorem szR_fit {left : Int} {n : Nat} (h : ¬ left < n) : szR left n = left - n := by unfold szR; rw [if_neg h]

set_option maxHeartbeats 400000 in
theorem szInts (a : Option Addr) (n cap : Nat) (left : Int) (w : World) (h1 : 0 ≤ left) (h2 : left ≤ 1048576) (hn : n ≤ 9223372036854775807) :
    Calls Tryd.prog 47 #[.slice a n cap, .int .i64 left] w fun e w' => e = .returned (.int .i64 (szR left n)) ∧ w = w' := by
  by_cases h : left < n
  · have H := hid (szR_big h)
    go_enter Tryd.func47, Tryd.ntmps47
    go_wp2
    go_ret
    exact ⟨ret_int (by rw [H.out]), rfl⟩
  · have H := hid (szR_fit h)
    go_enter Tryd.func47, Tryd.ntmps47
    go_wp2
    go_ret
    exact ⟨ret_int (by rw [H.out]), rfl⟩

set_option maxHeartbeats 400000 in
theorem szCx (V : Int) (a : Option Addr) (n cap : Nat) (left : Int) (w : World) (h1 : 0 ≤ left) (h2 : left ≤ 1048576) (hn : n ≤ 9223372036854775807) :
    Calls Tryd.prog 14 #[.agg #[.int .i64 V, .slice a n cap], .int .i64 left] w fun e w' => e = .returned (.int .i64 (szR left n)) ∧ Below w.heap.size w w' := by
  have hr : szR left n = -1 ∨ 0 ≤ szR left n := by
    by_cases h : left < n
    · exact .inl (szR_big h)
    · rw [szR_fit h]; right; omega
  have hr' : szR left n < 0 ∨ 0 ≤ szR left n := by omega
  have hm : szR left n < 0 → szR left n = -1 := by omega
  have Hm := hid hm
  clear hr hm
  obtain ⟨r, hr0⟩ : ∃ r, r = szR left n := ⟨_, rfl⟩
  rw [← hr0] at hr'
  have hr := hr'
  have H := hid hr0
  clear hr0 hr'
  go_enter Tryd.func14, Tryd.ntmps14
  go_wp2_with fail
  refine (szInts a n cap left _ h1 h2 hn).mono ?_
  rintro e w' ⟨rfl, rfl⟩
  rw [← H.out]
  rcases hr with hr | hr
  · go_wp2
    go_ret
    exact ⟨ret_int (Hm.out (by rw [← H.out]; exact hr)).symm, (Below.refl _ w).alloc (Nat.le_refl _) _⟩
  · go_wp2
    go_ret
    exact ⟨ret_int H.out, (Below.refl _ w).alloc (Nat.le_refl _) _⟩

set_option maxHeartbeats 400000 in
theorem toCx (V : Int) (a : Option Addr) (cap : Nat) (xs : List Int) (w : World) (hx : SlI w w.heap.size a xs) (hl : xs.length ≤ 1048576) :
    Calls Tryd.prog 16 #[.agg #[.int .i64 V, .slice a xs.length cap]] w fun e w' =>
      ∃ g, e = .returned (.agg #[.int .i64 V, .slice (some ⟨g, 0, none⟩) xs.length xs.length]) ∧ w'.ownsRow w.heap.size 2 1 (.slice (some ⟨g, 0, none⟩) xs.length xs.length) xs.length (xs.map (Value.int .i64)) ∧ Below w.heap.size w w' := by
  go_enter Tryd.func16, Tryd.ntmps16
  go_wp2_with fail
  refine (toInts a cap xs _ (SlI.later hx (?hb : Below w.heap.size w _) ?hs) hl).mono ?_
  case hb => repeat (first | exact Below.refl _ _ | refine Below.alloc ?_ (by simp <;> omega) _ | refine Below.setCell ?_ (by simp <;> omega) _)
  case hs => simp <;> omega
  rintro e w1 ⟨rfl, hown, hB⟩
  have hB1 : Below w.heap.size w w1 := Below.trans (by repeat (first | exact Below.refl _ _ | refine Below.alloc ?_ (by simp <;> omega) _ | refine Below.setCell ?_ (by simp <;> omega) _)) (hB.mono (by simp <;> omega))
  have e0 : w1.cell? ⟨w.heap.size + 1 + 1, 0, none⟩ = some (.int .i64 V) := (hB.cell (p := ⟨w.heap.size + 1 + 1, 0, none⟩) (by simp)).trans (by simp [go_sem])
  have e1 : w1.cell? ⟨w.heap.size + 1 + 1, 1, none⟩ = some (.slice none 0 0) := (hB.cell (p := ⟨w.heap.size + 1 + 1, 1, none⟩) (by simp)).trans (by simp [go_sem])
  have e2 : w1.cell? ⟨w.heap.size + 1, 0, none⟩ = some (.int .i64 0) := (hB.cell (p := ⟨w.heap.size + 1, 0, none⟩) (by simp)).trans (by simp [go_sem])
  have e3 : w1.cell? ⟨w.heap.size + 1, 1, none⟩ = some (.slice none 0 0) := (hB.cell (p := ⟨w.heap.size + 1, 1, none⟩) (by simp)).trans (by simp [go_sem])
  have g1 : w1.frozen? ⟨w.heap.size + 1 + 1, 1, none⟩ = false := (hB.frozen (p := ⟨w.heap.size + 1 + 1, 1, none⟩) (by simp)).trans (by simp [go_sem])
  have g2 : w1.frozen? ⟨w.heap.size + 1, 0, none⟩ = false := (hB.frozen (p := ⟨w.heap.size + 1, 0, none⟩) (by simp)).trans (by simp [go_sem])
  have g3 : w1.frozen? ⟨w.heap.size + 1, 1, none⟩ = false := (hB.frozen (p := ⟨w.heap.size + 1, 1, none⟩) (by simp)).trans (by simp [go_sem])
  have hs1 := hB.size
  simp at hs1
  have Hown := hid (hown)
  clear hown
  go_wp2_with fail
  refine bodyPost_ret (v := .agg #[.int .i64 V, .slice (some ⟨w.heap.size + 1 + 1 + 1, 0, none⟩) xs.length xs.length]) (by simp [results, Tryd.results16, go_sem, e2, e3]) rfl ⟨w.heap.size + 1 + 1 + 1, rfl, ?_, ?_⟩
  · have h := Hown.out
    simp only [World.size_alloc] at h
    refine ownsRow_set (ownsRow_set (ownsRow_set (ownsRow_base h (by omega)) ?_ _) ?_ _) ?_ _ <;> (simp [Value.ownBlock] <;> omega)
  · exact ((hB1.setCell (by simp; omega) _).setCell (by simp) _).setCell (by simp) _

set_option maxHeartbeats 400000 in
theorem eqInts_any (a1 a2 : Option Addr) (c1 c2 : Nat) (xs ys : List Int) (w : World) (hx : SlI w w.heap.size a1 xs) (hy : SlI w w.heap.size a2 ys) (hl : xs.length ≤ 1048576) (hl2 : ys.length ≤ 1048576) :
    Calls Tryd.prog 24 #[.slice a1 xs.length c1, .slice a2 ys.length c2] w fun e w' => e = .returned (.bool (decide (xs = ys))) ∧ Below w.heap.size w w' := by
  by_cases hlen : xs.length = ys.length
  · rcases hx with rfl | ⟨b, off, hb, rfl, hc⟩
    · obtain rfl : ys = [] := List.eq_nil_of_length_eq_zero hlen.symm
      go_enter Tryd.func24, Tryd.ntmps24
      go_wp2
      refine wp_loop_rounds 1 ?_; rw [rounds_succ]
      go_wp2
      go_ret
      exact ⟨ret_bool (by simp), Below.refl _ _⟩
    · rcases hy with rfl | ⟨b2, off2, hb2, rfl, hc2⟩
      · obtain rfl : xs = [] := List.eq_nil_of_length_eq_zero hlen
        go_enter Tryd.func24, Tryd.ntmps24
        go_wp2
        refine wp_loop_rounds 1 ?_; rw [rounds_succ]
        go_wp2
        go_ret
        exact ⟨ret_bool (by simp), Below.refl _ _⟩
      · have Hc := hid hc
        have Hc2 := hid hc2
        have hne : ((xs.length : Int) != (ys.length : Int)) = false := by simp [hlen]
        have Hlen := hid hlen
        have hle : xs.length ≤ ys.length := by omega
        clear hc hc2 hlen
        go_enter Tryd.func24, Tryd.ntmps24
        go_wp2
        go_loopw [5] (fun i wr => ∃ k : Nat, k ≤ xs.length ∧ i = .int .i64 k ∧ Hid (∀ j, j < k → xs[j]?.getD 0 = ys[j]?.getD 0) ∧ Below w.heap.size w wr) (fun i _ => xs.length - (intOf i).toNat)
        case atStart => exact ⟨0, Nat.zero_le _, rfl, hid (by omega), Below.refl _ _⟩
        case round =>
          obtain ⟨k, hk, rfl, Hk, hB⟩ := hrel
          by_cases hlt : k < xs.length
          · obtain ⟨x, hx⟩ : ∃ x, x = xs[k]?.getD 0 := ⟨_, rfl⟩
            obtain ⟨y, hy⟩ : ∃ y, y = ys[k]?.getD 0 := ⟨_, rfl⟩
            have hck : wr.cell? ⟨b, off + k, none⟩ = some (.int .i64 x) := by rw [hx]; exact (hB.cell (p := ⟨b, off + k, none⟩) hb).trans (Hc.out k hlt)
            have hck2 : wr.cell? ⟨b2, off2 + k, none⟩ = some (.int .i64 y) := by rw [hy]; exact (hB.cell (p := ⟨b2, off2 + k, none⟩) hb2).trans (Hc2.out k (by omega))
            have Hx := hid hx
            have Hy := hid hy
            clear hx hy
            have hi0 : (0 : Int) ≤ (k : Int) := by omega
            have hi1 : (k : Int) < (xs.length : Int) := by omega
            have hi2 : (k : Int) < (ys.length : Int) := by omega
            by_cases hxy : x = y
            · have hd : (x != y) = false := by simp [hxy]
              have Hxy := hid hxy
              clear hxy
              go_wp2_with fail
              go_quiet (fail)
              go_wp2_with fail
              go_roundw
              case rel =>
                refine ⟨k + 1, by omega, by go_num, hid (fun j hj => ?_), hB.trans ⟨rfl, rfl, rfl, Nat.le_refl _, fun _ _ => rfl⟩⟩
                by_cases hjk : j < k
                · exact Hk.out j hjk
                · obtain rfl : j = k := by omega
                  rw [← Hx.out, ← Hy.out, Hxy.out]
              case measure => simp [intOf]; omega
            · have hd : (x != y) = true := by simp [hxy]
              go_wp2_with fail
              go_quiet (fail)
              go_wp2_with fail
              go_ret
              refine ⟨ret_bool ?_, hB.trans ⟨rfl, rfl, rfl, Nat.le_refl _, fun _ _ => rfl⟩⟩
              symm
              refine decide_eq_false (fun h => hxy ?_)
              rw [Hx.out, Hy.out, h]
          · obtain rfl : k = xs.length := by omega
            go_wp2
            go_ret
            refine ⟨ret_bool ?_, hB⟩
            symm
            refine decide_eq_true (List.ext_getElem Hlen.out (fun j h1 h2 => ?_))
            have := Hk.out j h1
            rw [List.getElem?_eq_getElem h1, List.getElem?_eq_getElem h2] at this
            simpa using this
  · have hne : ((xs.length : Int) != (ys.length : Int)) = true := by simp; omega
    have Hlen := hid hlen
    clear hlen
    go_enter Tryd.func24, Tryd.ntmps24
    go_wp2
    go_ret
    refine ⟨ret_bool ?_, Below.refl _ _⟩
    symm
    exact decide_eq_false (fun h => Hlen.out (by rw [h]))

theorem eqInts_yes (a1 a2 : Option Addr) (c1 c2 : Nat) (xs ys : List Int) (w : World) (hx : SlI w w.heap.size a1 xs) (hy : SlI w w.heap.size a2 ys) (hl : xs.length ≤ 1048576) (hl2 : ys.length ≤ 1048576) (h : xs = ys) :
    Calls Tryd.prog 24 #[.slice a1 xs.length c1, .slice a2 ys.length c2] w fun e w' => e = .returned (.bool true) ∧ Below w.heap.size w w' :=
  (eqInts_any a1 a2 c1 c2 xs ys w hx hy hl hl2).mono fun _ _ ⟨he, hw⟩ => ⟨by rw [he, decide_eq_true h], hw⟩

theorem eqInts_no (a1 a2 : Option Addr) (c1 c2 : Nat) (xs ys : List Int) (w : World) (hx : SlI w w.heap.size a1 xs) (hy : SlI w w.heap.size a2 ys) (hl : xs.length ≤ 1048576) (hl2 : ys.length ≤ 1048576) (h : ¬ xs = ys) :
    Calls Tryd.prog 24 #[.slice a1 xs.length c1, .slice a2 ys.length c2] w fun e w' => e = .returned (.bool false) ∧ Below w.heap.size w w' :=
  (eqInts_any a1 a2 c1 c2 xs ys w hx hy hl hl2).mono fun _ _ ⟨he, hw⟩ => ⟨by rw [he, decide_eq_false h], hw⟩

set_option maxHeartbeats 400000 in
theorem eqCx_yes (V : Int) (a1 a2 : Option Addr) (c1 c2 : Nat) (xs ys : List Int) (w : World) (hx : SlI w w.heap.size a1 xs) (hy : SlI w w.heap.size a2 ys) (hl : xs.length ≤ 1048576) (hl2 : ys.length ≤ 1048576) (h : xs = ys) :
    Calls Tryd.prog 18 #[.agg #[.int .i64 V, .slice a1 xs.length c1], .agg #[.int .i64 V, .slice a2 ys.length c2]] w fun e w' => e = .returned (.bool true) ∧ Below w.heap.size w w' := by
  have H := hid h
  clear h
  have hne : (V != V) = false := by simp
  go_enter Tryd.func18, Tryd.ntmps18
  go_wp2_with fail
  have hB : Below w.heap.size w ((w.alloc (.cells #[.int .i64 V, .slice a1 xs.length c1] 28)).alloc (.cells #[.int .i64 V, .slice a2 ys.length c2] 28)) := ((Below.refl _ w).alloc (Nat.le_refl _) _).alloc (by simp) _
  refine (eqInts_yes a1 a2 c1 c2 xs ys _ (SlI.later hx hB (by simp <;> omega)) (SlI.later hy hB (by simp <;> omega)) hl hl2 H.out).mono ?_
  rintro e w' ⟨rfl, hb⟩
  go_wp2_with fail
  go_ret
  exact ⟨rfl, hB.trans (hb.mono (by simp <;> omega))⟩

end Go.Proofs.YtgnahadlcihneaaDoor

/-! Marks: what the laws write into results, and find again. -/
namespace Go.Proofs.YtgnahadlcihneaaDoor
open Go.RowKit

/-- k, k + 1, .. -/
def count (k : Int) : Nat → List Int
  | 0 => []
  | n + 1 => count k n ++ [k + n]

theorem count_len (k : Int) : ∀ n, (count k n).length = n
  | 0 => rfl
  | n + 1 => by simp [count, count_len k n]

theorem count_get (k : Int) : ∀ n i, i < n → (count k n)[i]?.getD 0 = k + i
  | 0, i, h => by omega
  | n + 1, i, h => by
    unfold count
    by_cases hi : i < n
    · rw [List.getElem?_append_left (by rw [count_len]; exact hi)]
      exact count_get k n i hi
    · obtain rfl : i = n := by omega
      rw [List.getElem?_append_right (by rw [count_len]; omega), count_len]
      simp

theorem mark_step {k : Int} {xs : List Int} {j : Nat} (h : j < xs.length) :
    ((count k j ++ xs.drop j).map (Value.int .i64)).set j (.int .i64 (k + j)) = (count k (j + 1) ++ xs.drop (j + 1)).map (Value.int .i64) := by
  rw [← List.map_set]
  congr 1
  rw [List.set_append_right _ _ (by rw [count_len]; exact Nat.le_refl _), count_len, Nat.sub_self]
  rw [List.drop_eq_getElem_cons h, List.set_cons_zero]
  simp [count]

set_option maxHeartbeats 400000 in
theorem markInts (base : Nat) (a : Option Addr) (cap : Nat) (xs : List Int) (k : Int) (w : World) (hown : w.ownsRow base 2 1 (.slice a xs.length cap) xs.length (xs.map (Value.int .i64))) (hl : xs.length ≤ 1048576) (h0 : 0 ≤ k) (h1 : k ≤ 1099511627776) :
    Calls Tryd.prog 28 #[.slice a xs.length cap, .int .i64 k] w fun e w' => e = .returned (.int .i64 (k + xs.length)) ∧
      w'.ownsRow base 2 1 (.slice a xs.length cap) xs.length ((count k xs.length).map (Value.int .i64)) ∧ w.grownBy w' (Value.ownBlock (.slice a xs.length cap)) := by
  rcases hown.2 with ⟨hv, hn⟩ | ⟨g, cap', cur, hv, hb, hg, rest⟩
  · obtain rfl : xs = [] := List.eq_nil_of_length_eq_zero hn
    have Hown := hid hown
    clear hown hv hn
    go_enter Tryd.func28, Tryd.ntmps28
    go_wp2
    refine wp_loop_rounds 1 ?_; rw [rounds_succ]
    go_wp2
    go_ret
    exact ⟨ret_int (by simp), Hown.out, ⟨rfl, rfl, rfl, Nat.le_refl _, fun _ _ _ => rfl⟩⟩
  · cases hv
    have Hg := hid (And.intro hb hg)
    clear hb hg rest
    go_enter Tryd.func28, Tryd.ntmps28
    go_wp2
    go_loopw [1, 5] (fun m i wr => ∃ j : Nat, j ≤ xs.length ∧ i = .int .i64 j ∧ m = .int .i64 (k + j) ∧ wr.ownsRow base 2 1 (.slice (some ⟨g, 0, none⟩) xs.length cap) xs.length ((count k j ++ xs.drop j).map (Value.int .i64)) ∧ w.grownBy wr (some g)) (fun _ i _ => xs.length - (intOf i).toNat)
    case atStart => exact ⟨0, Nat.zero_le _, rfl, by simp, by simpa [count] using hown, ⟨rfl, rfl, rfl, Nat.le_refl _, fun _ _ _ => rfl⟩⟩
    case round =>
      obtain ⟨j, hj, rfl, rfl, hown, hgr⟩ := hrel
      by_cases hlt : j < xs.length
      · have hcg : ∃ u, wr.cell? ⟨g, j, none⟩ = some (.int .i64 u) := by
          rw [hown.cellAt j (by omega)]
          refine ⟨xs[j]?.getD 0, ?_⟩
          rw [List.getElem?_map, List.getElem?_append_right (by rw [count_len]; exact Nat.le_refl _), count_len, Nat.sub_self]
          simp [hlt]
        obtain ⟨u, hcu⟩ := hcg
        have hfg := hown.frozenAt j
        have hst := hown.stored j (.int .i64 (k + j))
        rw [mark_step hlt] at hst
        have Hst := hid hst
        have Hgr := hid hgr
        clear hst hown hgr
        go_wp2
        go_roundw
        case rel =>
          exact ⟨j + 1, by omega, by go_num, by go_num, Hst.out.1, Hgr.out.trans Hst.out.2⟩
        case measure => simp [intOf]; omega
      · go_wp2
        go_ret
        obtain rfl : j = xs.length := by omega
        exact ⟨rfl, by simpa using hown, hgr⟩

set_option maxHeartbeats 400000 in
theorem heldInts (a : Option Addr) (cap : Nat) (n : Nat) (xs : List Int) (k : Int) (w : World) (hxs : xs = count k n) (hx : SlI w w.heap.size a xs) (hl : n ≤ 1048576) (h0 : 0 ≤ k) (h1 : k ≤ 1099511627776) :
    Calls Tryd.prog 29 #[.slice a n cap, .int .i64 k] w fun e w' => e = .returned (.int .i64 (k + n)) ∧ Below w.heap.size w w' := by
  have hlen : xs.length = n := by rw [hxs, count_len]
  rcases hx with rfl | ⟨b, off, hb, rfl, hc⟩
  · obtain rfl : n = 0 := by simpa using hlen.symm
    clear hxs hlen
    go_enter Tryd.func29, Tryd.ntmps29
    go_wp2
    refine wp_loop_rounds 1 ?_; rw [rounds_succ]
    go_wp2
    go_ret
    exact ⟨ret_int (by simp), Below.refl _ _⟩
  · have Hc := hid hc
    have Hxs := hid hxs
    have Hlen := hid hlen
    clear hc hxs hlen
    go_enter Tryd.func29, Tryd.ntmps29
    go_wp2
    go_loop [1, 5] (fun m i => ∃ j : Nat, j ≤ n ∧ i = .int .i64 j ∧ m = .int .i64 (k + j)) (fun _ i => n - (intOf i).toNat)
    case atStart => exact ⟨0, Nat.zero_le _, rfl, by simp⟩
    case round =>
      obtain ⟨j, hj, rfl, rfl⟩ := hrel
      by_cases hlt : j < n
      · have hck : w.cell? ⟨b, off + j, none⟩ = some (.int .i64 (k + j)) := by
          have := Hc.out j (by rw [Hlen.out]; exact hlt)
          rw [Hxs.out, count_get _ _ _ hlt] at this
          exact this
        go_wp2
        go_round
        case rel => exact ⟨j + 1, by omega, by go_num, by go_num⟩
        case measure => simp [intOf]; omega
      · go_wp2
        go_ret
        obtain rfl : j = n := by omega
        exact ⟨rfl, Below.refl _ _⟩

/-! ### What a law keeps of the world: slices of its own, in the order in which they were made, and blocks -/

/-- A slice of int64 that lies in blocks from lo to hi. -/
structure Sl where
  lo : Nat
  hi : Nat
  v : Value
  xs : List Int

structure OwnI (w : World) (p : Sl) : Prop where
  own : w.ownsRow p.lo 2 1 p.v p.xs.length (p.xs.map (Value.int .i64))
  lt : ∀ g, p.v.ownBlock = some g → g < p.hi
  le : p.hi ≤ w.heap.size

structure Facts (w0 : World) (w : World) (A : List (Option Addr × List Int)) (bs : List (Nat × Obj)) (L : List Sl) : Prop where
  from0 : Below w0.heap.size w0 w
  args : ∀ q ∈ A, SlI w w0.heap.size q.1 q.2
  blocks : ∀ b ∈ bs, w.heap[b.1]? = some b.2
  slices : ∀ p ∈ L, OwnI w p

section
variable {w0 w w' : World} {A : List (Option Addr × List Int)} {bs : List (Nat × Obj)} {L : List Sl}

theorem Facts.ge (h : Facts w0 w A bs L) : w0.heap.size ≤ w.heap.size := h.from0.size

theorem Facts.below (h : Facts w0 w A bs L) (hb : Below w.heap.size w w') : Facts w0 w' A bs L where
  from0 := h.from0.trans (hb.mono h.ge)
  args := fun q hq => (h.args q hq).below (hb.mono h.ge)
  blocks := fun b hbm => (hb.block b.1 (Array.getElem?_eq_some_iff.1 (h.blocks b hbm)).1).trans (h.blocks b hbm)
  slices := fun p hp => ⟨ownsRow_below (h.slices p hp).own hb (fun g hg => Nat.lt_of_lt_of_le ((h.slices p hp).lt g hg) (h.slices p hp).le), (h.slices p hp).lt, Nat.le_trans (h.slices p hp).le hb.size⟩

theorem Facts.drew (h : Facts w0 w A bs L) : Facts w0 w.drew A bs L := h.below (Below.refl _ _).drew

theorem Facts.arg (h : Facts w0 w A bs L) {q : Option Addr × List Int} (hq : q ∈ A) : SlI w w.heap.size q.1 q.2 := (h.args q hq).mono h.ge

/-- A new block. -/
theorem Facts.alloc (h : Facts w0 w A bs L) (o : Obj) : Facts w0 (w.alloc o) A ((w.heap.size, o) :: bs) L where
  from0 := h.from0.alloc h.ge o
  args := fun q hq => (h.args q hq).below ((Below.refl _ w).alloc h.ge _)
  blocks := fun b hb => by
    rcases List.mem_cons.1 hb with rfl | hb
    · exact heap_alloc_new w o
    · exact (Below.heap_alloc w o _ (Array.getElem?_eq_some_iff.1 (h.blocks b hb)).1).trans (h.blocks b hb)
  slices := fun p hp => ⟨(h.slices p hp).own.alloc o, (h.slices p hp).lt, by have := (h.slices p hp).le; simp; omega⟩

/-- A new slice, out of a call. -/
theorem Facts.slice (h : Facts w0 w A bs L) {v : Value} {xs : List Int}
    (hown : w'.ownsRow w.heap.size 2 1 v xs.length (xs.map (Value.int .i64))) (hb : Below w.heap.size w w') : Facts w0 w' A bs (⟨w.heap.size, w'.heap.size, v, xs⟩ :: L) :=
  { h.below hb with
    slices := fun p hp => by
      rcases List.mem_cons.1 hp with rfl | hp
      · exact ⟨hown, fun g hg => (hown.lt g hg).2, Nat.le_refl _⟩
      · exact (h.below hb).slices p hp }

/-- A slice is marked: the others stay. -/
theorem Facts.mark {L' : List Sl} (h : Facts w0 w A bs L) {p : Sl} {ys : List Int} (hp : p ∈ L)
    (hown : w'.ownsRow p.lo 2 1 p.v ys.length (ys.map (Value.int .i64))) (hg : w.grownBy w' p.v.ownBlock)
    (hB : w0.heap.size ≤ p.lo) (hbs : ∀ b ∈ bs, b.1 < p.lo ∨ p.hi ≤ b.1) (hL : ∀ q ∈ L', q = { p with xs := ys } ∨ (q ∈ L ∧ (q.hi ≤ p.lo ∨ p.hi ≤ q.lo))) : Facts w0 w' A bs L' where
  from0 := h.from0.grown hg h.ge (fun k e => Nat.le_trans hB ((h.slices p hp).own.lt k e).1)
  args := fun q hq => (h.args q hq).below ((Below.refl _ w).grown hg h.ge (fun k e => Nat.le_trans hB ((h.slices p hp).own.lt k e).1))
  blocks := fun b hb => (hg.block b.1 (Array.getElem?_eq_some_iff.1 (h.blocks b hb)).1 (fun e => by
    have h1 := ((h.slices p hp).own.lt _ e.symm).1
    have h2 := (h.slices p hp).lt _ e.symm
    rcases hbs b hb with h3 | h3 <;> omega)).trans (h.blocks b hb)
  slices := fun q hq => by
    rcases hL q hq with rfl | ⟨hqm, hap⟩
    · exact ⟨hown, (h.slices p hp).lt, Nat.le_trans (h.slices p hp).le hg.size⟩
    · refine ⟨(h.slices q hqm).own.kept hg ?_, (h.slices q hqm).lt, Nat.le_trans (h.slices q hqm).le hg.size⟩
      cases hv : q.v.ownBlock with
      | none => exact .inl rfl
      | some g =>
        refine .inr (fun e => ?_)
        have h1 := ((h.slices p hp).own.lt _ e.symm).1
        have h2 := (h.slices p hp).lt _ e.symm
        have h3 := ((h.slices q hqm).own.lt _ hv).1
        have h4 := (h.slices q hqm).lt _ hv
        rcases hap with h5 | h5 <;> omega

theorem Facts.slI (h : Facts w0 w A bs L) {lo hi : Nat} {a : Option Addr} {m cap : Nat} {xs : List Int} (hp : (⟨lo, hi, .slice a m cap, xs⟩ : Sl) ∈ L) : SlI w w.heap.size a xs :=
  owned_slI (h.slices _ hp).own

theorem Facts.own (h : Facts w0 w A bs L) {lo hi : Nat} {v : Value} {xs : List Int} (hp : (⟨lo, hi, v, xs⟩ : Sl) ∈ L) : w.ownsRow lo 2 1 v xs.length (xs.map (Value.int .i64)) := (h.slices _ hp).own

theorem Facts.two (h : Facts w0 w A bs L) {b t : Nat} {u v : Value} (hb : (b, Obj.cells #[u, v] t (0, 0)) ∈ bs) : w.cell? ⟨b, 0, none⟩ = some u ∧ w.cell? ⟨b, 1, none⟩ = some v := by
  have := h.blocks _ hb
  constructor <;> simp [World.cell?, this]
end

set_option maxHeartbeats 400000 in
theorem markCx (V : Int) (base : Nat) (a : Option Addr) (cap : Nat) (xs : List Int) (k : Int) (w : World) (hown : w.ownsRow base 2 1 (.slice a xs.length cap) xs.length (xs.map (Value.int .i64))) (hl : xs.length ≤ 1048576) (h0 : 0 ≤ k) (h1 : k ≤ 1099511627776) :
    Calls Tryd.prog 27 #[.agg #[.int .i64 V, .slice a xs.length cap], .int .i64 k] w fun e w' => e = .returned (.int .i64 (k + xs.length)) ∧
      w'.ownsRow base 2 1 (.slice a xs.length cap) xs.length ((count k xs.length).map (Value.int .i64)) ∧ w.grownBy w' (Value.ownBlock (.slice a xs.length cap)) := by
  have Hown := hid (hown.alloc (.cells #[.int .i64 V, .slice a xs.length cap] 28))
  clear hown
  go_enter Tryd.func27, Tryd.ntmps27
  go_wp2_with fail
  refine (markInts base a cap xs k _ Hown.out hl h0 h1).mono ?_
  rintro e w1 ⟨rfl, hown1, hgr⟩
  go_wp2_with fail
  go_ret
  exact ⟨rfl, hown1, (World.grownBy_alloc w _ _).trans hgr⟩


end Go.Proofs.YtgnahadlcihneaaDoor

/-! What a law keeps of the world, for rows of any type that are read as integers (a list of n pairs: 2 * n integers). -/
namespace Go.Proofs.YtgnahadlcihneaaDoor
open Go.RowKit

/-- A row that lies in blocks from lo to hi: n elements of a type and size, read as integers. -/
structure Bk where
  lo : Nat
  hi : Nat
  ty : TypeId
  sz : Nat
  n : Nat
  v : Value
  xs : List Int

structure OwnB (w : World) (p : Bk) : Prop where
  own : w.ownsRow p.lo p.ty p.sz p.v p.n (p.xs.map (Value.int .i64))
  lt : ∀ g, p.v.ownBlock = some g → g < p.hi
  le : p.hi ≤ w.heap.size

/-- What is owned reads as integers. -/
theorem flat_slI {w : World} {base e sz : Nat} {a : Option Addr} {n m cap : Nat} {xs : List Int} (h : w.ownsRow base e sz (.slice a m cap) n (xs.map (Value.int .i64))) : SlI w w.heap.size a xs := by
  have hl := h.1
  rcases h.2 with ⟨hv, hn⟩ | ⟨g, cap', cur, hv, _, hg, _⟩
  · subst hn
    exact .inl (List.eq_nil_of_length_eq_zero (by simpa using hl))
  · cases hv
    refine .inr ⟨g, 0, (Array.getElem?_eq_some_iff.1 hg).1, rfl, fun i hi => ?_⟩
    have := h.cells (g := g) rfl i (.int .i64 (xs[i]?.getD 0)) (by simp [hi])
    have hadd : (⟨g, 0, none⟩ : Addr).add i = ⟨g, i, none⟩ := by unfold Addr.add; split <;> simp_all
    rw [hadd] at this
    simpa using this

structure Book (w0 : World) (w : World) (A : List (Option Addr × List Int)) (bs : List (Nat × Obj)) (L : List Bk) : Prop where
  from0 : Below w0.heap.size w0 w
  args : ∀ q ∈ A, SlI w w0.heap.size q.1 q.2
  blocks : ∀ b ∈ bs, w.heap[b.1]? = some b.2
  rows : ∀ p ∈ L, OwnB w p

section
variable {w0 w w' : World} {A : List (Option Addr × List Int)} {bs : List (Nat × Obj)} {L : List Bk}

theorem Book.ge (h : Book w0 w A bs L) : w0.heap.size ≤ w.heap.size := h.from0.size

theorem Book.below (h : Book w0 w A bs L) (hb : Below w.heap.size w w') : Book w0 w' A bs L where
  from0 := h.from0.trans (hb.mono h.ge)
  args := fun q hq => (h.args q hq).below (hb.mono h.ge)
  blocks := fun b hbm => (hb.block b.1 (Array.getElem?_eq_some_iff.1 (h.blocks b hbm)).1).trans (h.blocks b hbm)
  rows := fun p hp => ⟨ownsRow_below (h.rows p hp).own hb (fun g hg => Nat.lt_of_lt_of_le ((h.rows p hp).lt g hg) (h.rows p hp).le), (h.rows p hp).lt, Nat.le_trans (h.rows p hp).le hb.size⟩

theorem Book.drew (h : Book w0 w A bs L) : Book w0 w.drew A bs L := h.below (Below.refl _ _).drew
theorem Book.drewN (h : Book w0 w A bs L) (n : Nat) : Book w0 (w.drewN n) A bs L := h.below ⟨rfl, rfl, rfl, Nat.le_refl _, fun _ _ => rfl⟩

theorem Book.arg (h : Book w0 w A bs L) {q : Option Addr × List Int} (hq : q ∈ A) : SlI w w.heap.size q.1 q.2 := (h.args q hq).mono h.ge

theorem Book.alloc (h : Book w0 w A bs L) (o : Obj) : Book w0 (w.alloc o) A ((w.heap.size, o) :: bs) L where
  from0 := h.from0.alloc h.ge o
  args := fun q hq => (h.args q hq).below ((Below.refl _ w).alloc h.ge _)
  blocks := fun b hb => by
    rcases List.mem_cons.1 hb with rfl | hb
    · exact heap_alloc_new w o
    · exact (Below.heap_alloc w o _ (Array.getElem?_eq_some_iff.1 (h.blocks b hb)).1).trans (h.blocks b hb)
  rows := fun p hp => ⟨(h.rows p hp).own.alloc o, (h.rows p hp).lt, by have := (h.rows p hp).le; simp; omega⟩

/-- A new row, out of a call. -/
theorem Book.row (h : Book w0 w A bs L) {ty : TypeId} {sz n : Nat} {v : Value} {xs : List Int}
    (hown : w'.ownsRow w.heap.size ty sz v n (xs.map (Value.int .i64))) (hb : Below w.heap.size w w') : Book w0 w' A bs (⟨w.heap.size, w'.heap.size, ty, sz, n, v, xs⟩ :: L) :=
  { h.below hb with
    rows := fun p hp => by
      rcases List.mem_cons.1 hp with rfl | hp
      · exact ⟨hown, fun g hg => (hown.lt g hg).2, Nat.le_refl _⟩
      · exact (h.below hb).rows p hp }

/-- A row is marked: the others stay. -/
theorem Book.mark {L' : List Bk} (h : Book w0 w A bs L) {p : Bk} {ys : List Int} (hp : p ∈ L)
    (hown : w'.ownsRow p.lo p.ty p.sz p.v p.n (ys.map (Value.int .i64))) (hg : w.grownBy w' p.v.ownBlock)
    (hB : w0.heap.size ≤ p.lo) (hbs : ∀ b ∈ bs, b.1 < p.lo ∨ p.hi ≤ b.1) (hL : ∀ q ∈ L', q = { p with xs := ys } ∨ (q ∈ L ∧ (q.hi ≤ p.lo ∨ p.hi ≤ q.lo))) : Book w0 w' A bs L' where
  from0 := h.from0.grown hg h.ge (fun k e => Nat.le_trans hB ((h.rows p hp).own.lt k e).1)
  args := fun q hq => (h.args q hq).below ((Below.refl _ w).grown hg h.ge (fun k e => Nat.le_trans hB ((h.rows p hp).own.lt k e).1))
  blocks := fun b hb => (hg.block b.1 (Array.getElem?_eq_some_iff.1 (h.blocks b hb)).1 (fun e => by
    have h1 := ((h.rows p hp).own.lt _ e.symm).1
    have h2 := (h.rows p hp).lt _ e.symm
    rcases hbs b hb with h3 | h3 <;> omega)).trans (h.blocks b hb)
  rows := fun q hq => by
    rcases hL q hq with rfl | ⟨hqm, hap⟩
    · exact ⟨hown, (h.rows p hp).lt, Nat.le_trans (h.rows p hp).le hg.size⟩
    · refine ⟨(h.rows q hqm).own.kept hg ?_, (h.rows q hqm).lt, Nat.le_trans (h.rows q hqm).le hg.size⟩
      cases hv : q.v.ownBlock with
      | none => exact .inl rfl
      | some g =>
        refine .inr (fun e => ?_)
        have h1 := ((h.rows p hp).own.lt _ e.symm).1
        have h2 := (h.rows p hp).lt _ e.symm
        have h3 := ((h.rows q hqm).own.lt _ hv).1
        have h4 := (h.rows q hqm).lt _ hv
        rcases hap with h5 | h5 <;> omega

/-- Some of it. -/
theorem Book.only {bs' : List (Nat × Obj)} {L' : List Bk} (h : Book w0 w A bs L) (hb : ∀ b ∈ bs', b ∈ bs) (hL : ∀ p ∈ L', p ∈ L) : Book w0 w A bs' L' :=
  ⟨h.from0, h.args, fun b hbm => h.blocks b (hb b hbm), fun p hp => h.rows p (hL p hp)⟩

/-- A block of another type is written. -/
theorem Book.set2 {b t : Nat} {x y u v : Value} (h : Book w0 w A ((b, .cells #[x, y] t (0, 0)) :: bs) L) (hw : w0.heap.size ≤ b) (hb : ∀ q ∈ bs, q.1 ≠ b) (hty : ∀ p ∈ L, p.ty ≠ t) :
    Book w0 ((w.setCell ⟨b, 0, none⟩ u).setCell ⟨b, 1, none⟩ v) A ((b, .cells #[u, v] t (0, 0)) :: bs) L where
  from0 := (h.from0.setCell (p := ⟨b, 0, none⟩) hw _).setCell (p := ⟨b, 1, none⟩) hw _
  args := fun q hq => (h.args q hq).below (((Below.refl _ w).setCell (p := ⟨b, 0, none⟩) hw _).setCell (p := ⟨b, 1, none⟩) hw _)
  blocks := fun q hq => by
    rcases List.mem_cons.1 hq with rfl | hq
    · have hbk := h.blocks _ (List.mem_cons_self ..)
      simp only at hbk
      simp only [World.setCell, Array.getElem?_modify, hbk]
      simp
    · exact (Below.heap_setCell _ _ _ _ (hb q hq)).trans ((Below.heap_setCell _ _ _ _ (hb q hq)).trans (h.blocks q (List.mem_cons_of_mem _ hq)))
  rows := fun p hp => by
    have hbk := h.blocks _ (List.mem_cons_self ..)
    have hn : p.v.ownBlock ≠ some b := by
      intro e
      have ho := (h.rows p hp).own
      rcases ho.2 with ⟨hv, _⟩ | ⟨g, cap, cur, hv, _, hg, _⟩
      · rw [hv] at e; simp [Value.ownBlock] at e
      · rw [hv] at e
        simp [Value.ownBlock] at e
        subst e
        rw [hg] at hbk
        simp at hbk
        exact hty p hp hbk.2
    exact ⟨ownsRow_set (ownsRow_set (h.rows p hp).own hn _) hn _, (h.rows p hp).lt, by have := (h.rows p hp).le; simpa [World.setCell] using this⟩

theorem Book.slI (h : Book w0 w A bs L) {lo hi : Nat} {ty : TypeId} {sz n : Nat} {a : Option Addr} {m cap : Nat} {xs : List Int} (hp : (⟨lo, hi, ty, sz, n, .slice a m cap, xs⟩ : Bk) ∈ L) : SlI w w.heap.size a xs :=
  flat_slI (h.rows _ hp).own

theorem Book.own (h : Book w0 w A bs L) {lo hi : Nat} {ty : TypeId} {sz n : Nat} {v : Value} {xs : List Int} (hp : (⟨lo, hi, ty, sz, n, v, xs⟩ : Bk) ∈ L) : w.ownsRow lo ty sz v n (xs.map (Value.int .i64)) := (h.rows _ hp).own

theorem Book.two (h : Book w0 w A bs L) {b t : Nat} {u v : Value} (hb : (b, Obj.cells #[u, v] t (0, 0)) ∈ bs) : w.cell? ⟨b, 0, none⟩ = some u ∧ w.cell? ⟨b, 1, none⟩ = some v := by
  have := h.blocks _ hb
  constructor <;> simp [World.cell?, this]

end

end Go.Proofs.YtgnahadlcihneaaDoor

/-! BoundaryOf, IsCycle, IsChain, on both sides. -/
namespace Go.Proofs.YtgnahadlcihneaaDoor
open Go.RowKit

/-- What BoundaryOf answers. -/
noncomputable def bdyR (V : Int) (fs ch : List Int) : List Int × Int := if chnR V fs ch = 0 then (bdL fs ch, 0) else ([], chnR V fs ch)
/-- What IsCycle answers. -/
noncomputable def cycleR (V : Int) (fs ch : List Int) : Bool × Int := if chnR V fs ch = 0 then (decide ((bdL fs ch).length = 0), 0) else (false, chnR V fs ch)
/-- What IsChain answers. -/
noncomputable def isChainR (V : Int) (fs ch : List Int) : Bool × Int := if isCB V fs then (chainB fs ch, 0) else (false, 1)

theorem chn_zero {V : Int} {fs ch : List Int} (h : chnR V fs ch = 0) : isCB V fs = true ∧ chainB fs ch = true := by
  unfold chnR at h
  split at h
  · rename_i h1
    split at h
    · rename_i h2; exact ⟨h1, h2⟩
    · simp at h
  · simp at h
theorem bdL_len {fs ch : List Int} : (bdL fs ch).length ≤ fs.length := by unfold bdL; exact List.length_filter_le _ _
theorem bdyR_len (V : Int) (fs ch : List Int) (h : fs.length ≤ 1048576) (_h2 : ch.length ≤ 1048576) : (bdyR V fs ch).1.length ≤ 1048576 := by
  unfold bdyR
  split
  · exact Nat.le_trans bdL_len h
  · simp
theorem ret_two {a b : Bool} {c : Int} (h : a = b) : Ending.returned (.tuple #[.bool a, .int .i64 c]) = .returned (.tuple #[.bool b, .int .i64 c]) := by rw [h]
theorem chns_one {V : Int} {fs : List Int} (a : Option Addr) (cap : Nat) (ch : List Int) : chnsR V fs ([(a, cap, ch)].map (·.2.2)) = chnR V fs ch := by
  unfold chnsR chnR
  simp

set_option maxRecDepth 100000 in
set_option maxHeartbeats 2000000 in
theorem specBoundaryOf (V : Int) (a0 : Option Addr) (cap : Nat) (fs : List Int) (a1 : Option Addr) (cap1 : Nat) (ch : List Int) (w : World) (hx : SlI w w.heap.size a0 fs) (hx1 : SlI w w.heap.size a1 ch) (hl : fs.length ≤ 1048576) (hg : ch.length ≤ 1048576) :
    Calls Tryd.prog 41 #[.agg #[.int .i64 V, .slice a0 fs.length cap], .slice a1 ch.length cap1] w fun e w' => ∃ v, e = .returned (.tuple #[v, .int .i64 (bdyR V fs ch).2]) ∧ Res w w' v (bdyR V fs ch).1 := by
  obtain ⟨W0, hW0⟩ : ∃ W0, W0 = w.alloc (.cells #[.int .i64 V, .slice a0 fs.length cap] 28) := ⟨_, rfl⟩
  have hB0 : Below w.heap.size w W0 := by rw [hW0]; exact (Below.refl _ w).alloc (Nat.le_refl _) _
  have Hy := hid hx1
  have HB0 := hid hB0
  have HI := hid (chain3_any V a0 cap fs a1 cap1 ch W0 (hx.later hB0 hB0.size) (hx1.later hB0 hB0.size) hl hg)
  rw [hW0] at HI
  clear hx hx1 hB0
  by_cases h0 : chnR V fs ch = 0
  · obtain ⟨hc, hch⟩ := chn_zero h0
    have hC := isCB_iff.1 hc
    have HR : Hid (bdyR V fs ch = (bdL fs ch, 0)) := hid (by unfold bdyR; rw [if_pos h0])
    have HD := hid (fun W (h : Below w.heap.size w W) => bdS_any a1 cap1 ch W (Hy.out.later h h.size) (chain_len hC hch) hg)
    rw [bdS_bdL hC (links_mem hch)] at HD
    rw [h0] at HI
    clear h0 hc hch hC
    go_enter Tryd.func41, Tryd.ntmps41
    go_wp2_with fail
    refine HI.out.mono ?_
    rintro e w1 ⟨rfl, hB1⟩
    rw [← hW0] at hB1
    have HB1 := hid (HB0.out.trans (hB1.mono HB0.out.size))
    clear hB1
    go_wp2_with fail
    refine (HD.out w1 HB1.out).mono ?_
    rintro e w2 ⟨v, rfl, hr⟩
    have Hr := hid (hr.later HB1.out)
    clear hr
    go_wp2_with fail
    go_ret2
    rw [HR.out]
    exact ⟨_, rfl, Hr.out⟩
  · obtain ⟨c, hcc⟩ : ∃ c, c = chnR V fs ch := ⟨_, rfl⟩
    have HR : Hid (bdyR V fs ch = ([], c)) := hid (by unfold bdyR; rw [if_neg h0, hcc])
    rw [← hcc] at h0 HI
    clear hcc
    have hn : (c != 0) = true := by simpa using h0
    go_enter Tryd.func41, Tryd.ntmps41
    go_wp2_with fail
    refine HI.out.mono ?_
    rintro e w1 ⟨rfl, hB1⟩
    rw [← hW0] at hB1
    have HB1 := hid (HB0.out.trans (hB1.mono HB0.out.size))
    clear hB1 h0
    go_wp2_with fail
    go_ret2
    rw [HR.out]
    exact ⟨_, rfl, res_nil _ _ HB1.out⟩

set_option maxRecDepth 100000 in
set_option maxHeartbeats 2000000 in
theorem specIsCycle (V : Int) (a0 : Option Addr) (cap : Nat) (fs : List Int) (a1 : Option Addr) (cap1 : Nat) (ch : List Int) (w : World) (hx : SlI w w.heap.size a0 fs) (hx1 : SlI w w.heap.size a1 ch) (hl : fs.length ≤ 1048576) (hg : ch.length ≤ 1048576) :
    Calls Tryd.prog 43 #[.agg #[.int .i64 V, .slice a0 fs.length cap], .slice a1 ch.length cap1] w fun e w' => e = .returned (.tuple #[.bool (cycleR V fs ch).1, .int .i64 (cycleR V fs ch).2]) ∧ Below w.heap.size w w' := by
  obtain ⟨W0, hW0⟩ : ∃ W0, W0 = w.alloc (.cells #[.int .i64 V, .slice a0 fs.length cap] 28) := ⟨_, rfl⟩
  have hB0 : Below w.heap.size w W0 := by rw [hW0]; exact (Below.refl _ w).alloc (Nat.le_refl _) _
  have Hy := hid hx1
  have HB0 := hid hB0
  have HI := hid (chain3_any V a0 cap fs a1 cap1 ch W0 (hx.later hB0 hB0.size) (hx1.later hB0 hB0.size) hl hg)
  rw [hW0] at HI
  clear hx hx1 hB0
  by_cases h0 : chnR V fs ch = 0
  · obtain ⟨hc, hch⟩ := chn_zero h0
    have hC := isCB_iff.1 hc
    have HR : Hid (cycleR V fs ch = (decide ((bdL fs ch).length = 0), 0)) := hid (by unfold cycleR; rw [if_pos h0])
    have HD := hid (fun W (h : Below w.heap.size w W) => bdS_any a1 cap1 ch W (Hy.out.later h h.size) (chain_len hC hch) hg)
    rw [bdS_bdL hC (links_mem hch)] at HD
    rw [h0] at HI
    clear h0 hc hch hC
    go_enter Tryd.func43, Tryd.ntmps43
    go_wp2_with fail
    refine HI.out.mono ?_
    rintro e w1 ⟨rfl, hB1⟩
    rw [← hW0] at hB1
    have HB1 := hid (HB0.out.trans (hB1.mono HB0.out.size))
    clear hB1
    go_wp2_with fail
    refine (HD.out w1 HB1.out).mono ?_
    rintro e w2 ⟨v, rfl, hr⟩
    obtain ⟨_, av, cv, rfl, _⟩ := ownsRow_slI hr.1
    have HB2 := hid (HB1.out.trans (hr.2.mono HB1.out.size))
    obtain ⟨n, hn⟩ : ∃ n, n = (bdL fs ch).length := ⟨_, rfl⟩
    rw [← hn] at HR ⊢
    clear hr hn
    go_wp2_with fail
    go_ret2
    rw [HR.out]
    exact ⟨ret_two (by rw [Bool.eq_iff_iff]; simp), HB2.out⟩
  · obtain ⟨c, hcc⟩ : ∃ c, c = chnR V fs ch := ⟨_, rfl⟩
    have HR : Hid (cycleR V fs ch = (false, c)) := hid (by unfold cycleR; rw [if_neg h0, hcc])
    rw [← hcc] at h0 HI
    clear hcc
    have hn : (c != 0) = true := by simpa using h0
    go_enter Tryd.func43, Tryd.ntmps43
    go_wp2_with fail
    refine HI.out.mono ?_
    rintro e w1 ⟨rfl, hB1⟩
    rw [← hW0] at hB1
    have HB1 := hid (HB0.out.trans (hB1.mono HB0.out.size))
    clear hB1 h0
    go_wp2_with fail
    go_ret2
    rw [HR.out]
    exact ⟨rfl, HB1.out⟩

/-- chainCode at one list that has just been put into a slice. -/
theorem code_one (V : Int) (a0 : Option Addr) (cap : Nat) (fs : List Int) (a1 : Option Addr) (cap1 : Nat) (ch : List Int) (w : World) (pv : Value) (hx : SlI w w.heap.size a0 fs) (hx1 : SlI w w.heap.size a1 ch) (hl : fs.length ≤ 1048576) (hg : ch.length ≤ 1048576)
    (hG : w.cell? ⟨2, 0, none⟩ = some (.iface 143 pv)) :
    Calls Tryd.prog 78 #[.agg #[.int .i64 V, .slice a0 fs.length cap], .slice (some ⟨w.heap.size + 1, 0, none⟩) 1 1] ((w.alloc (.cells #[.int .i64 V, .slice a0 fs.length cap] 28)).alloc (.cells #[.slice a1 ch.length cap1] 22)) fun e w' =>
      e = .returned (.int .i64 (chnR V fs ch)) ∧ Below w.heap.size w w' ∧ w'.heap[w.heap.size]? = some (.cells #[.int .i64 V, .slice a0 fs.length cap] 28 (0, 0)) := by
  obtain ⟨W, hW0⟩ : ∃ W, W = (w.alloc (.cells #[.int .i64 V, .slice a0 fs.length cap] 28)).alloc (.cells #[.slice a1 ch.length cap1] 22) := ⟨_, rfl⟩
  have hB : Below w.heap.size w W := by rw [hW0]; exact ((Below.refl _ w).alloc (Nat.le_refl _) _).alloc (by simp) _
  have hk : W.heap[w.heap.size]? = some (.cells #[.int .i64 V, .slice a0 fs.length cap] 28 (0, 0)) := by rw [hW0]; exact (Below.heap_alloc _ _ _ (by simp)).trans (heap_alloc_new _ _)
  have hW : W.heap[w.heap.size + 1]? = some (.cells #[.slice a1 ch.length cap1] 22 (0, 0)) := by rw [hW0]; exact new2 _ _ _
  rw [← hW0]
  have hlt := lt_get hW
  have h := code_any V a0 cap fs (w.heap.size + 1) 1 [(a1, cap1, ch)] W pv (hx.later hB hB.size) hl hlt (by
    intro i a c xs hi
    match i, hi with
    | 0, hi =>
      simp at hi
      obtain ⟨rfl, rfl, rfl⟩ := hi
      exact ⟨(box_cell hW).1, hx1.later hB hB.size, hg⟩) (by simp) ((hB.cell (p := ⟨2, 0, none⟩) (World.block_lt_of_cell? w _ hG)).trans hG)
  rw [chns_one] at h
  exact h.mono fun e w' ⟨he, hb⟩ => ⟨he, hB.trans (hb.mono hB.size), (hb.block _ (lt_get hk)).trans hk⟩

set_option maxRecDepth 100000 in
set_option maxHeartbeats 2000000 in
theorem implBoundaryOf (V : Int) (a0 : Option Addr) (cap : Nat) (fs : List Int) (a1 : Option Addr) (cap1 : Nat) (ch : List Int) (w : World) (hx : SlI w w.heap.size a0 fs) (hx1 : SlI w w.heap.size a1 ch) (hl : fs.length ≤ 1048576) (hg : ch.length ≤ 1048576)
    (pv : Value) (hG : w.cell? ⟨2, 0, none⟩ = some (.iface 143 pv)) :
    Calls Tryd.prog 42 #[.agg #[.int .i64 V, .slice a0 fs.length cap], .slice a1 ch.length cap1] w fun e w' => ∃ v, e = .returned (.tuple #[v, .int .i64 (bdyR V fs ch).2]) ∧ Res w w' v (bdyR V fs ch).1 := by
  have Hx := hid hx
  have Hy := hid hx1
  have HI := hid (code_one V a0 cap fs a1 cap1 ch w pv hx hx1 hl hg hG)
  clear hx hx1 hG
  by_cases h0 : chnR V fs ch = 0
  · obtain ⟨hc, hch⟩ := chn_zero h0
    have hC := isCB_iff.1 hc
    have HR : Hid (bdyR V fs ch = (bdL fs ch, 0)) := hid (by unfold bdyR; rw [if_pos h0])
    have HD := hid (fun W (h : Below w.heap.size w W) => bd_any V a0 cap fs a1 cap1 ch W (Hx.out.later h h.size) (Hy.out.later h h.size) hl hC.range63 (chain_len hC hch) hg)
    rw [h0] at HI
    clear h0 hc hch hC
    go_enter Tryd.func42, Tryd.ntmps42
    go_wp2_with fail
    refine HI.out.mono ?_
    rintro e w1 ⟨rfl, hB1, hk1⟩
    have HB1 := hid hB1
    obtain ⟨k0, k1, _, _⟩ := two_of hk1
    clear hB1
    go_wp2_with fail
    refine (HD.out w1 HB1.out).mono ?_
    rintro e w2 ⟨v, rfl, hr⟩
    have Hr := hid (hr.later HB1.out)
    clear hr
    go_wp2_with fail
    go_ret2
    rw [HR.out]
    exact ⟨_, rfl, Hr.out⟩
  · obtain ⟨c, hcc⟩ : ∃ c, c = chnR V fs ch := ⟨_, rfl⟩
    have HR : Hid (bdyR V fs ch = ([], c)) := hid (by unfold bdyR; rw [if_neg h0, hcc])
    rw [← hcc] at h0 HI
    clear hcc
    have hn : (c != 0) = true := by simpa using h0
    go_enter Tryd.func42, Tryd.ntmps42
    go_wp2_with fail
    refine HI.out.mono ?_
    rintro e w1 ⟨rfl, hB1, hk1⟩
    have HB1 := hid hB1
    clear hB1 h0
    go_wp2_with fail
    go_ret2
    rw [HR.out]
    exact ⟨_, rfl, res_nil _ _ HB1.out⟩

set_option maxRecDepth 100000 in
set_option maxHeartbeats 2000000 in
theorem implIsCycle (V : Int) (a0 : Option Addr) (cap : Nat) (fs : List Int) (a1 : Option Addr) (cap1 : Nat) (ch : List Int) (w : World) (hx : SlI w w.heap.size a0 fs) (hx1 : SlI w w.heap.size a1 ch) (hl : fs.length ≤ 1048576) (hg : ch.length ≤ 1048576)
    (pv : Value) (hG : w.cell? ⟨2, 0, none⟩ = some (.iface 143 pv)) :
    Calls Tryd.prog 44 #[.agg #[.int .i64 V, .slice a0 fs.length cap], .slice a1 ch.length cap1] w fun e w' => e = .returned (.tuple #[.bool (cycleR V fs ch).1, .int .i64 (cycleR V fs ch).2]) ∧ Below w.heap.size w w' := by
  have Hx := hid hx
  have Hy := hid hx1
  have HI := hid (code_one V a0 cap fs a1 cap1 ch w pv hx hx1 hl hg hG)
  clear hx hx1 hG
  by_cases h0 : chnR V fs ch = 0
  · obtain ⟨hc, hch⟩ := chn_zero h0
    have hC := isCB_iff.1 hc
    have HR : Hid (cycleR V fs ch = (decide ((bdL fs ch).length = 0), 0)) := hid (by unfold cycleR; rw [if_pos h0])
    have HD := hid (fun W (h : Below w.heap.size w W) => bd_any V a0 cap fs a1 cap1 ch W (Hx.out.later h h.size) (Hy.out.later h h.size) hl hC.range63 (chain_len hC hch) hg)
    rw [h0] at HI
    clear h0 hc hch hC
    go_enter Tryd.func44, Tryd.ntmps44
    go_wp2_with fail
    refine HI.out.mono ?_
    rintro e w1 ⟨rfl, hB1, hk1⟩
    have HB1 := hid hB1
    obtain ⟨k0, k1, _, _⟩ := two_of hk1
    clear hB1
    go_wp2_with fail
    refine (HD.out w1 HB1.out).mono ?_
    rintro e w2 ⟨v, rfl, hr⟩
    obtain ⟨_, av, cv, rfl, _⟩ := ownsRow_slI hr.1
    have HB2 := hid (HB1.out.trans (hr.2.mono HB1.out.size))
    obtain ⟨n, hn⟩ : ∃ n, n = (bdL fs ch).length := ⟨_, rfl⟩
    rw [← hn] at HR ⊢
    clear hr hn
    go_wp2_with fail
    go_ret2
    rw [HR.out]
    exact ⟨ret_two (by rw [Bool.eq_iff_iff]; simp), HB2.out⟩
  · obtain ⟨c, hcc⟩ : ∃ c, c = chnR V fs ch := ⟨_, rfl⟩
    have HR : Hid (cycleR V fs ch = (false, c)) := hid (by unfold cycleR; rw [if_neg h0, hcc])
    rw [← hcc] at h0 HI
    clear hcc
    have hn : (c != 0) = true := by simpa using h0
    go_enter Tryd.func44, Tryd.ntmps44
    go_wp2_with fail
    refine HI.out.mono ?_
    rintro e w1 ⟨rfl, hB1, hk1⟩
    have HB1 := hid hB1
    clear hB1 h0
    go_wp2_with fail
    go_ret2
    rw [HR.out]
    exact ⟨rfl, HB1.out⟩

end Go.Proofs.YtgnahadlcihneaaDoor

/-! IsChain, on both sides. -/
namespace Go.Proofs.YtgnahadlcihneaaDoor
open Go.RowKit Go.Sort

set_option maxRecDepth 100000 in
set_option maxHeartbeats 8000000 in
theorem chain6_any (V : Int) (a0 : Option Addr) (cap : Nat) (fs : List Int) (a1 : Option Addr) (cap1 : Nat) (ch : List Int) (w : World) (hx : SlI w w.heap.size a0 fs) (hx1 : SlI w w.heap.size a1 ch) (hl : fs.length ≤ 1048576) (hg : ch.length ≤ 1048576) (hC : IsC V fs) :
    Calls Tryd.prog 80 #[.agg #[.int .i64 V, .slice a0 fs.length cap], .slice a1 ch.length cap1] w fun e w' => e = .returned (.bool (chainB fs ch)) ∧ Below w.heap.size w w' := by
  obtain ⟨W0, hW0⟩ : ∃ W0, W0 = w.alloc (.cells #[.int .i64 V, .slice a0 fs.length cap] 28) := ⟨_, rfl⟩
  have hB0 : Below w.heap.size w W0 := by rw [hW0]; exact (Below.refl _ w).alloc (Nat.le_refl _) _
  have Hk : Hid (W0.heap[w.heap.size]? = some (.cells #[.int .i64 V, .slice a0 fs.length cap] 28 (0, 0))) := hid (by rw [hW0]; exact heap_alloc_new _ _)
  have Hx := hid hx
  have Hy := hid hx1
  have HB0 := hid hB0
  have HC := hid hC
  obtain ⟨c, hcc⟩ : ∃ c, c = chainB fs ch := ⟨_, rfl⟩
  rw [← hcc]
  have Hc := hid hcc
  clear hx hx1 hB0 hC hcc
  go_enter Tryd.func80, Tryd.ntmps80
  go_wp2_with fail
  rw [← hW0]
  clear hW0
  go_loopw [5] (fun iv wx => ∃ k : Nat, k ≤ ch.length ∧ iv = .int .i64 k ∧ Hid (linksTo fs ch k) ∧ Hid (Below w.heap.size w wx) ∧ Hid (wx.heap[w.heap.size]? = some (.cells #[.int .i64 V, .slice a0 fs.length cap] 28 (0, 0)))) (fun iv _ => ch.length - (RowKit.intOf iv).toNat)
  case atStart => exact ⟨0, Nat.zero_le _, rfl, hid (by intro i h; omega), HB0, Hk⟩
  case round =>
    obtain ⟨k, hk, rfl, HK, HB, Hkr⟩ := hrel
    have hBw := HB.out
    have Hq : Hid (∀ d os, Below w.heap.size w (grow (redrawn wr d) os)) := hid (fun d os => HB.out.trans ((below_regrown wr d os).mono HB.out.size))
    have Hkq : Hid (∀ d os, (grow (redrawn wr d) os).heap[w.heap.size]? = some (.cells #[.int .i64 V, .slice a0 fs.length cap] 28 (0, 0))) := hid (fun d os => ((below_regrown wr d os).block _ (lt_get Hkr.out)).trans Hkr.out)
    by_cases hlt : k < ch.length
    · obtain ⟨b, off, hb, rfl, hcl⟩ : ∃ b off, b < w.heap.size ∧ a1 = some ⟨b, off, none⟩ ∧ ∀ i, i < ch.length → w.cell? ⟨b, off + i, none⟩ = some (.int .i64 (ch[i]?.getD 0)) := by
        rcases Hy.out with h | h
        · rw [h] at hlt; simp at hlt
        · exact h
      obtain ⟨x, hxe⟩ : ∃ x, x = ch[k]?.getD 0 := ⟨_, rfl⟩
      have c0 := cell_regrown ((hBw.cell (p := ⟨b, off + k, none⟩) hb).trans (hcl k hlt))
      rw [← hxe] at c0
      obtain ⟨k0, k1, _, _⟩ := two_of Hkr.out
      have r0 := cell_regrown k0
      have r1 := cell_regrown k1
      have CH := hid (fun d os => Calls.regrown_of (has_any V x a0 cap fs (grow (redrawn wr d) os) (Hx.out.later (Hq.out d os) (Hq.out d os).size) hl))
      have hi0 : (0 : Int) ≤ (k : Int) := by omega
      have hi1 : (k : Int) < (ch.length : Int) := by omega
      clear hBw k0 k1
      by_cases hm : x ∈ fs
      · rw [decide_eq_true hm] at CH
        have hxr := HC.out.range63 _ hm
        obtain ⟨z, hze⟩ : ∃ z, z = ch[0]?.getD 0 := ⟨_, rfl⟩
        have c2 := cell_regrown ((HB.out.cell (p := ⟨b, off, none⟩) hb).trans (hcl 0 (by omega)))
        rw [← hze] at c2
        have hzr := HC.out.range63 _ (show z ∈ fs by
          by_cases hk0 : k = 0
          · subst hk0; rw [hze, ← hxe]; exact hm
          · rw [hze]; exact link_head (by omega) HK.out)
        have hl0 : 0 < ch.length := by omega
        have HZ : Hid (k = 0 → z = x) := hid (fun h => by rw [hze, hxe, h])
        have HLn : Hid (¬ ones x.toNat = ones z.toNat → c = false) := hid (fun h => Hc.out.trans (chain_no hlt (link_no_ones (by rw [← hxe, ← hze]; exact h))))
        have HLo : Hid (0 < k → x ≤ ch[k - 1]?.getD 0 → c = false) := hid (fun h0 h => Hc.out.trans (chain_no hlt (link_no_ord h0 (by rw [← hxe]; exact h))))
        have HLy : Hid (ones x.toNat = ones z.toNat → (0 < k → ch[k - 1]?.getD 0 < x) → linksTo fs ch (k + 1)) := hid (fun ho h => links_succ HK.out ((link_eq (by rw [← hxe]; exact hm) (fun h0 => by rw [← hxe]; exact h h0)).trans (by rw [← hxe, ← hze]; exact decide_eq_true ho)))
        obtain ⟨x, rfl⟩ : ∃ n : Nat, x = n := ⟨x.toNat, by omega⟩
        obtain ⟨z, rfl⟩ : ∃ n : Nat, z = n := ⟨z.toNat, by omega⟩
        have hx64 : x < 64 := by omega
        have hz64 : z < 64 := by omega
        have cO : ∀ (f : Nat), f < 64 → ∀ d os, Calls Tryd.prog 74 #[.int .i64 (f : Int)] (grow (redrawn wr d) os) fun e w'' => e = .returned (.int .i64 (ones f : Int)) ∧ ∃ p : Regrown, w'' = grow (redrawn wr p.d) p.os := fun f hf d os => Calls.regrown_of ((ones_any f _ hf).mono fun _ _ ⟨he, hw⟩ => ⟨he, by rw [← hw]; exact Below.refl _ _⟩)
        have CX := hid (cO x hx64)
        have CZ := hid (cO z hz64)
        simp only [Int.toNat_natCast] at HLn HLy
        clear hxe hze hxr hzr hm hx64 hz64 cO
        by_cases ho : ones x = ones z
        · have hd2 : (((ones x : Nat) : Int) != ((ones z : Nat) : Int)) = false := by simp [ho]
          rw [ho] at CX hd2
          by_cases hk0 : 0 < k
          · have hd0 : decide (0 < k) = true := decide_eq_true hk0
            have hsub : IntKind.i64.wrap ((k : Int) - 1) = ((k - 1 : Nat) : Int) := by rw [IntKind.wrap_i64]; omega
            have hj0 : (0 : Int) ≤ ((k - 1 : Nat) : Int) := by omega
            have hj1 : ((k - 1 : Nat) : Int) < (ch.length : Int) := by omega
            have c1 := cell_regrown ((HB.out.cell (p := ⟨b, off + (k - 1), none⟩) hb).trans (hcl (k - 1) (by omega)))
            obtain ⟨y, hye⟩ : ∃ y, y = ch[k - 1]?.getD 0 := ⟨_, rfl⟩
            rw [← hye] at c1 HLo HLy
            clear hcl hye
            by_cases hle : (x : Int) ≤ y
            · have hd1 : decide ((x : Int) ≤ y) = true := decide_eq_true hle
              have He := hid (HLo.out hk0 hle)
              clear hle ho hk0
              go_wp2_with fail
              refine wp_region_quiet_below (by kernel_rfl) (by kernel_rfl) ?_
              iterate 5 (with_reducible refine wpQuiet_step (fun K hK => ?_); have HK := hid hK; clear hK; go_simp; (first | with_reducible refine HK.out _ ?_ | (rw [if_neg (by decide)]; with_reducible refine HK.out _ ?_)); clear HK K)
              (with_reducible refine wpQuiet_step (fun K hK => ?_); have HK := hid hK; clear hK; go_simp; apply Exists.intro; with_reducible refine ⟨fun _ => ?_, HK.out _ ?_⟩; exact CH.out _ _; clear HK K)
              iterate 6 (with_reducible refine wpQuiet_step (fun K hK => ?_); have HK := hid hK; clear hK; go_simp; (first | with_reducible refine HK.out _ ?_ | (rw [if_neg (by decide)]; with_reducible refine HK.out _ ?_)); clear HK K)
              (with_reducible refine wpQuiet_step (fun K hK => ?_); have HK := hid hK; clear hK; go_simp; apply Exists.intro; with_reducible refine ⟨fun _ => ?_, HK.out _ ?_⟩; exact CX.out _ _; clear HK K)
              iterate 3 (with_reducible refine wpQuiet_step (fun K hK => ?_); have HK := hid hK; clear hK; go_simp; (first | with_reducible refine HK.out _ ?_ | (rw [if_neg (by decide)]; with_reducible refine HK.out _ ?_)); clear HK K)
              (with_reducible refine wpQuiet_step (fun K hK => ?_); have HK := hid hK; clear hK; go_simp; apply Exists.intro; with_reducible refine ⟨fun _ => ?_, HK.out _ ?_⟩; exact CZ.out _ _; clear HK K)
              iterate 18 (with_reducible refine wpQuiet_step (fun K hK => ?_); have HK := hid hK; clear hK; go_simp; (first | with_reducible refine HK.out _ ?_ | (rw [if_neg (by decide)]; with_reducible refine HK.out _ ?_)); clear HK K)
              with_reducible refine wpQuiet_nil ?_
              intro _ hw'
              obtain ⟨⟨dq, osq⟩, hw''⟩ := hw'
              subst hw''
              go_wp2_with fail
              go_ret
              exact ⟨ret_bool He.out.symm, Hq.out _ _⟩
            · have hd1 : decide ((x : Int) ≤ y) = false := decide_eq_false hle
              have HS := hid (HLy.out ho (fun _ => by omega))
              clear hle ho hk0
              go_wp2_with fail
              refine wp_region_quiet_below (by kernel_rfl) (by kernel_rfl) ?_
              iterate 5 (with_reducible refine wpQuiet_step (fun K hK => ?_); have HK := hid hK; clear hK; go_simp; (first | with_reducible refine HK.out _ ?_ | (rw [if_neg (by decide)]; with_reducible refine HK.out _ ?_)); clear HK K)
              (with_reducible refine wpQuiet_step (fun K hK => ?_); have HK := hid hK; clear hK; go_simp; apply Exists.intro; with_reducible refine ⟨fun _ => ?_, HK.out _ ?_⟩; exact CH.out _ _; clear HK K)
              iterate 6 (with_reducible refine wpQuiet_step (fun K hK => ?_); have HK := hid hK; clear hK; go_simp; (first | with_reducible refine HK.out _ ?_ | (rw [if_neg (by decide)]; with_reducible refine HK.out _ ?_)); clear HK K)
              (with_reducible refine wpQuiet_step (fun K hK => ?_); have HK := hid hK; clear hK; go_simp; apply Exists.intro; with_reducible refine ⟨fun _ => ?_, HK.out _ ?_⟩; exact CX.out _ _; clear HK K)
              iterate 3 (with_reducible refine wpQuiet_step (fun K hK => ?_); have HK := hid hK; clear hK; go_simp; (first | with_reducible refine HK.out _ ?_ | (rw [if_neg (by decide)]; with_reducible refine HK.out _ ?_)); clear HK K)
              (with_reducible refine wpQuiet_step (fun K hK => ?_); have HK := hid hK; clear hK; go_simp; apply Exists.intro; with_reducible refine ⟨fun _ => ?_, HK.out _ ?_⟩; exact CZ.out _ _; clear HK K)
              iterate 18 (with_reducible refine wpQuiet_step (fun K hK => ?_); have HK := hid hK; clear hK; go_simp; (first | with_reducible refine HK.out _ ?_ | (rw [if_neg (by decide)]; with_reducible refine HK.out _ ?_)); clear HK K)
              with_reducible refine wpQuiet_nil ?_
              intro _ hw'
              obtain ⟨⟨dq, osq⟩, hw''⟩ := hw'
              subst hw''
              go_wp2_with fail
              go_roundw
              case rel => exact ⟨k + 1, by omega, by go_num, HS, hid (Hq.out _ _), hid (Hkq.out _ _)⟩
              case measure => simp [RowKit.intOf]; omega
          · obtain rfl : k = 0 := by omega
            have hd0 : decide (0 < 0) = false := rfl
            have HS := hid (HLy.out ho (fun h => absurd h (by omega)))
            obtain rfl : z = x := by have := HZ.out rfl; omega
            clear ho hk0 hcl c0
            go_wp2_with fail
            refine wp_region_quiet_below (by kernel_rfl) (by kernel_rfl) ?_
            iterate 5 (with_reducible refine wpQuiet_step (fun K hK => ?_); have HK := hid hK; clear hK; go_simp; (first | with_reducible refine HK.out _ ?_ | (rw [if_neg (by decide)]; with_reducible refine HK.out _ ?_)); clear HK K)
            (with_reducible refine wpQuiet_step (fun K hK => ?_); have HK := hid hK; clear hK; go_simp; apply Exists.intro; with_reducible refine ⟨fun _ => ?_, HK.out _ ?_⟩; exact CH.out _ _; clear HK K)
            iterate 6 (with_reducible refine wpQuiet_step (fun K hK => ?_); have HK := hid hK; clear hK; go_simp; (first | with_reducible refine HK.out _ ?_ | (rw [if_neg (by decide)]; with_reducible refine HK.out _ ?_)); clear HK K)
            (with_reducible refine wpQuiet_step (fun K hK => ?_); have HK := hid hK; clear hK; go_simp; apply Exists.intro; with_reducible refine ⟨fun _ => ?_, HK.out _ ?_⟩; exact CX.out _ _; clear HK K)
            iterate 3 (with_reducible refine wpQuiet_step (fun K hK => ?_); have HK := hid hK; clear hK; go_simp; (first | with_reducible refine HK.out _ ?_ | (rw [if_neg (by decide)]; with_reducible refine HK.out _ ?_)); clear HK K)
            (with_reducible refine wpQuiet_step (fun K hK => ?_); have HK := hid hK; clear hK; go_simp; apply Exists.intro; with_reducible refine ⟨fun _ => ?_, HK.out _ ?_⟩; exact CZ.out _ _; clear HK K)
            iterate 18 (with_reducible refine wpQuiet_step (fun K hK => ?_); have HK := hid hK; clear hK; go_simp; (first | with_reducible refine HK.out _ ?_ | (rw [if_neg (by decide)]; with_reducible refine HK.out _ ?_)); clear HK K)
            with_reducible refine wpQuiet_nil ?_
            intro _ hw'
            obtain ⟨⟨dq, osq⟩, hw''⟩ := hw'
            subst hw''
            go_wp2_with fail
            go_roundw
            case rel => exact ⟨1, by omega, by go_num, HS, hid (Hq.out _ _), hid (Hkq.out _ _)⟩
            case measure => simp [RowKit.intOf]; omega
        · have hd2 : (((ones x : Nat) : Int) != ((ones z : Nat) : Int)) = true := by simp; omega
          have He := hid (HLn.out ho)
          by_cases hk0 : 0 < k
          · clear ho hcl hk0
            go_wp2_with fail
            refine wp_region_quiet_below (by kernel_rfl) (by kernel_rfl) ?_
            iterate 5 (with_reducible refine wpQuiet_step (fun K hK => ?_); have HK := hid hK; clear hK; go_simp; (first | with_reducible refine HK.out _ ?_ | (rw [if_neg (by decide)]; with_reducible refine HK.out _ ?_)); clear HK K)
            (with_reducible refine wpQuiet_step (fun K hK => ?_); have HK := hid hK; clear hK; go_simp; apply Exists.intro; with_reducible refine ⟨fun _ => ?_, HK.out _ ?_⟩; exact CH.out _ _; clear HK K)
            iterate 6 (with_reducible refine wpQuiet_step (fun K hK => ?_); have HK := hid hK; clear hK; go_simp; (first | with_reducible refine HK.out _ ?_ | (rw [if_neg (by decide)]; with_reducible refine HK.out _ ?_)); clear HK K)
            (with_reducible refine wpQuiet_step (fun K hK => ?_); have HK := hid hK; clear hK; go_simp; apply Exists.intro; with_reducible refine ⟨fun _ => ?_, HK.out _ ?_⟩; exact CX.out _ _; clear HK K)
            iterate 3 (with_reducible refine wpQuiet_step (fun K hK => ?_); have HK := hid hK; clear hK; go_simp; (first | with_reducible refine HK.out _ ?_ | (rw [if_neg (by decide)]; with_reducible refine HK.out _ ?_)); clear HK K)
            (with_reducible refine wpQuiet_step (fun K hK => ?_); have HK := hid hK; clear hK; go_simp; apply Exists.intro; with_reducible refine ⟨fun _ => ?_, HK.out _ ?_⟩; exact CZ.out _ _; clear HK K)
            iterate 18 (with_reducible refine wpQuiet_step (fun K hK => ?_); have HK := hid hK; clear hK; go_simp; (first | with_reducible refine HK.out _ ?_ | (rw [if_neg (by decide)]; with_reducible refine HK.out _ ?_)); clear HK K)
            with_reducible refine wpQuiet_nil ?_
            intro _ hw'
            obtain ⟨⟨dq, osq⟩, hw''⟩ := hw'
            subst hw''
            go_wp2_with fail
            go_ret
            exact ⟨ret_bool He.out.symm, Hq.out _ _⟩
          · obtain rfl : k = 0 := by omega
            exact absurd (by have := HZ.out rfl; rw [show z = x by omega]) ho
      · rw [decide_eq_false hm] at CH
        have He := hid (Hc.out.trans (chain_no hlt (link_no_mem (by rw [← hxe]; exact hm))))
        clear hm hcl hxe
        go_wp2_with fail
        refine wp_region_quiet_below (by kernel_rfl) (by kernel_rfl) ?_
        iterate 5 (with_reducible refine wpQuiet_step (fun K hK => ?_); have HK := hid hK; clear hK; go_simp; (first | with_reducible refine HK.out _ ?_ | (rw [if_neg (by decide)]; with_reducible refine HK.out _ ?_)); clear HK K)
        (with_reducible refine wpQuiet_step (fun K hK => ?_); have HK := hid hK; clear hK; go_simp; apply Exists.intro; with_reducible refine ⟨fun _ => ?_, HK.out _ ?_⟩; exact CH.out _ _; clear HK K)
        iterate 29 (with_reducible refine wpQuiet_step (fun K hK => ?_); have HK := hid hK; clear hK; go_simp; (first | with_reducible refine HK.out _ ?_ | (rw [if_neg (by decide)]; with_reducible refine HK.out _ ?_)); clear HK K)
        with_reducible refine wpQuiet_nil ?_
        intro _ hw'
        obtain ⟨⟨dq, osq⟩, hw''⟩ := hw'
        subst hw''
        go_wp2_with fail
        go_ret
        exact ⟨ret_bool He.out.symm, Hq.out _ _⟩
    · obtain rfl : k = ch.length := by omega
      have He : Hid (c = true) := hid (Hc.out.trans (chain_yes HK.out))
      go_wp2_with fail
      go_ret
      exact ⟨ret_bool He.out.symm, HB.out⟩

set_option maxRecDepth 100000 in
set_option maxHeartbeats 2000000 in
theorem specIsChain (V : Int) (a0 : Option Addr) (cap : Nat) (fs : List Int) (a1 : Option Addr) (cap1 : Nat) (ch : List Int) (w : World) (hx : SlI w w.heap.size a0 fs) (hx1 : SlI w w.heap.size a1 ch) (hl : fs.length ≤ 1048576) (hg : ch.length ≤ 1048576) :
    Calls Tryd.prog 45 #[.agg #[.int .i64 V, .slice a0 fs.length cap], .slice a1 ch.length cap1] w fun e w' => e = .returned (.tuple #[.bool (isChainR V fs ch).1, .int .i64 (isChainR V fs ch).2]) ∧ Below w.heap.size w w' := by
  obtain ⟨W0, hW0⟩ : ∃ W0, W0 = w.alloc (.cells #[.int .i64 V, .slice a0 fs.length cap] 28) := ⟨_, rfl⟩
  have hB0 : Below w.heap.size w W0 := by rw [hW0]; exact (Below.refl _ w).alloc (Nat.le_refl _) _
  have Hk : Hid (W0.heap[w.heap.size]? = some (.cells #[.int .i64 V, .slice a0 fs.length cap] 28 (0, 0))) := hid (by rw [hW0]; exact heap_alloc_new _ _)
  have Hx := hid hx
  have Hy := hid hx1
  have HB0 := hid hB0
  have HI := hid (is_all V a0 cap fs W0 (hx.later hB0 hB0.size) hl)
  rw [hW0] at HI
  clear hx hx1 hB0
  cases hc : isCB V fs
  · have HR : Hid (isChainR V fs ch = (false, 1)) := hid (by unfold isChainR; rw [hc]; rfl)
    rw [hc] at HI
    clear hc
    go_enter Tryd.func45, Tryd.ntmps45
    go_wp2_with fail
    refine HI.out.mono ?_
    rintro e w1 ⟨rfl, hB1⟩
    rw [← hW0] at hB1
    go_wp2_with fail
    go_ret2
    rw [HR.out]
    exact ⟨rfl, HB0.out.trans (hB1.mono HB0.out.size)⟩
  · have hC := isCB_iff.1 hc
    have HR : Hid (isChainR V fs ch = (chainB fs ch, 0)) := hid (by unfold isChainR; rw [hc]; rfl)
    have HD := hid (fun W (h : Below w.heap.size w W) => chain6_any V a0 cap fs a1 cap1 ch W (Hx.out.later h h.size) (Hy.out.later h h.size) hl hg hC)
    rw [hc] at HI
    clear hc hC
    go_enter Tryd.func45, Tryd.ntmps45
    go_wp2_with fail
    refine HI.out.mono ?_
    rintro e w1 ⟨rfl, hB1⟩
    rw [← hW0] at hB1
    obtain ⟨k0, k1, _, _⟩ := two_of ((hB1.block _ (lt_get Hk.out)).trans Hk.out)
    have HB1 := hid (HB0.out.trans (hB1.mono HB0.out.size))
    clear hB1
    go_wp2_with fail
    refine (HD.out w1 HB1.out).mono ?_
    rintro e w2 ⟨rfl, hB2⟩
    have HB2 := hid (HB1.out.trans (hB2.mono HB1.out.size))
    clear hB2
    go_wp2_with fail
    go_ret2
    rw [HR.out]
    exact ⟨rfl, HB2.out⟩

theorem chain_code {V : Int} {fs ch : List Int} : (chnR V fs ch = 2 → isChainR V fs ch = (false, 0)) ∧ (¬ chnR V fs ch = 2 → isChainR V fs ch = (decide (chnR V fs ch = 0), chnR V fs ch)) := by
  unfold chnR isChainR
  cases isCB V fs <;> cases chainB fs ch <;> simp

set_option maxRecDepth 100000 in
set_option maxHeartbeats 2000000 in
theorem implIsChain (V : Int) (a0 : Option Addr) (cap : Nat) (fs : List Int) (a1 : Option Addr) (cap1 : Nat) (ch : List Int) (w : World) (hx : SlI w w.heap.size a0 fs) (hx1 : SlI w w.heap.size a1 ch) (hl : fs.length ≤ 1048576) (hg : ch.length ≤ 1048576)
    (pv : Value) (hG : w.cell? ⟨2, 0, none⟩ = some (.iface 143 pv)) :
    Calls Tryd.prog 46 #[.agg #[.int .i64 V, .slice a0 fs.length cap], .slice a1 ch.length cap1] w fun e w' => e = .returned (.tuple #[.bool (isChainR V fs ch).1, .int .i64 (isChainR V fs ch).2]) ∧ Below w.heap.size w w' := by
  have HI := hid (code_one V a0 cap fs a1 cap1 ch w pv hx hx1 hl hg hG)
  clear hx hx1 hG
  obtain ⟨h2, h3⟩ := chain_code (V := V) (fs := fs) (ch := ch)
  obtain ⟨c, hcc⟩ : ∃ c, c = chnR V fs ch := ⟨_, rfl⟩
  rw [← hcc] at h2 h3 HI
  clear hcc
  by_cases h0 : c = 2
  · have HR := hid (h2 h0)
    subst h0
    clear h2 h3
    go_enter Tryd.func46, Tryd.ntmps46
    go_wp2_with fail
    refine HI.out.mono ?_
    rintro e w1 ⟨rfl, hB1, hk1⟩
    have HB1 := hid hB1
    clear hB1 hk1
    go_wp2_with fail
    go_ret2
    rw [HR.out]
    exact ⟨rfl, HB1.out⟩
  · have HR := hid (h3 h0)
    have hn : (c == 2) = false := by simpa using h0
    clear h2 h3 h0
    go_enter Tryd.func46, Tryd.ntmps46
    go_wp2_with fail
    refine HI.out.mono ?_
    rintro e w1 ⟨rfl, hB1, hk1⟩
    have HB1 := hid hB1
    clear hB1 hk1
    go_wp2_with fail
    go_ret2
    rw [HR.out]
    exact ⟨ret_two (by rw [Bool.eq_iff_iff]; simp), HB1.out⟩

end Go.Proofs.YtgnahadlcihneaaDoor

/-! What a complex that comes in is told as, for the rows of all laws. -/
namespace Go.Proofs.YtgnahadlcihneaaDoor
open Go.ChangeShapes Go.WideShapes Go.ChangeAt Go.RowKit Go.Joins

theorem own : ownKnob Tryd.prog.godebug = none := by kernel_rfl
theorem laidOut : laidOutB Tryd.prog = true := by kernel_rfl

variable {H : Type} {enc : TypeId × Value → H}

/-- A slice of int64 that came in. -/
theorem slI_of_trod {W : World} {n : Nat} {v : Value} {y : DataW H × List MemPlace} (hf : DataW.trod enc Tryd.prog W 0 (fun _ => true) true n 22 [v] = some y) :
    ∃ a len cap xs, v = .slice a len cap ∧ xs.length = len ∧ len ≤ 9223372036854775807 ∧ SlI W W.heap.size a xs ∧ ∀ x ∈ xs, (Lit.int .i64 x).wf = true := by
  rcases open_ints Tryd.underlying22 Tryd.underlying2 (by kernel_rfl) hf with ⟨hcs, _⟩ | ⟨x, l, c, zs, hcs, _, hl, hm, hz, _, hcell, hwf⟩
  · simp at hcs
    subst hcs
    exact ⟨none, 0, 0, [], rfl, rfl, by omega, .inl rfl, by simp⟩
  · simp at hcs
    subst hcs
    simp at hz
    have hlen : (zs.take l).length = l := by simp; omega
    unfold maxLen at hm
    refine ⟨some x, l, c, zs.take l, rfl, hlen, by omega, ?_, fun y hy => hwf y (List.mem_of_mem_take hy)⟩
    by_cases h0 : l = 0
    · subst h0; exact .inl (by simp)
    · right
      obtain ⟨b, off, spot⟩ := x
      have hc0 := hcell 0 (by omega)
      have hspot : spot = none := by simpa [Addr.add] using World.cell?_spot hc0
      subst hspot
      refine ⟨b, off, ?_, rfl, fun i hi => ?_⟩
      · have := World.block_lt_of_cell? W _ hc0
        simpa [Addr.add] using this
      · rw [hlen] at hi
        have := hcell i (by omega)
        have hadd : (⟨b, off, none⟩ : Addr).add i = ⟨b, off + i, none⟩ := by unfold Addr.add; split <;> simp_all
        rw [hadd] at this
        rw [List.getElem?_take, if_pos hi]
        simpa using this

end Go.Proofs.YtgnahadlcihneaaDoor

/-! What the listed variables hold, for the rows of tied cards. -/
namespace Go.Proofs.YtgnahadlcihneaaDoor
open Go.ChangeShapes Go.WideShapes Go.ChangeAt Go.RowKit Go.Joins

theorem starErr : "*" ++ "errors.errorString" = "*errors.errorString" := by decide
theorem rowErr (u : TypeId) (h : Tryd.prog.typeName? 3 u = some "*errors.errorString") : u = 143 :=
  typeName_ptr_named (nm := "errors.errorString") (by rw [starErr]; kernel_rfl) (by kernel_rfl) (by decide) u (by rw [starErr]; exact h)

theorem gChain : Tryd.prog.globalNamed "loop.example/g01348/impl.errNoChain" = some 2 := by kernel_rfl
theorem tChain : (Tryd.prog.globals[2]?).map (·.type) = some 100 := by kernel_rfl
theorem sentChain {W : World} (h : laidMet Tryd.prog [("loop.example/g01348/impl.errNoChain", Rows.laid_loop_example_g01348_impl_errNoChain)] W) : ∃ pv, W.cell? ⟨2, 0, none⟩ = some (.iface 143 pv) := by
  unfold Rows.laid_loop_example_g01348_impl_errNoChain at h
  obtain ⟨a, s, hv, _, _, _⟩ := laid_sentinel h gChain tChain Tryd.underlying100 rowErr Tryd.underlying143 Tryd.underlying160 rfl rfl Tryd.underlying9 (by kernel_rfl) (by kernel_rfl)
  exact ⟨_, by simpa using World.var?_cell gChain hv 0⟩

end Go.Proofs.YtgnahadlcihneaaDoor
