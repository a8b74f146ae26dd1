import Derived.Test.YtmkknfdjoajpcaaBdI
import Derived.Test.YtmkknfdjoajpcaaMadeS
import Derived.Test.YtmkknfdjoajpcaaPureS
import Derived.Test.YtmkknfdjoajpcaaOf2
import Derived.Test.YtmkknfdjoajpcaaAppAt
/-! BoundaryComplex: the model's. -/
namespace Go.Proofs.Ytmkknfdjoajpcaa
open Go.RowKit Go.Shelf

theorem bdT_step {fs F : List Int} {k : Nat} (hk : k < F.length) (c : Bool) (hc : decide ((aboveL fs (F[k]?.getD 0).toNat).length = 1) = c) :
    (F.take (k + 1)).filter (fun x => decide ((aboveL fs x.toNat).length = 1)) = (F.take k).filter (fun x => decide ((aboveL fs x.toNat).length = 1)) ++ (if c then [F[k]?.getD 0] else []) := by
  rw [take_snoc hk, List.filter_append]
  cases c <;> simp [hc]

theorem empty_later {w0 w' : World} {base : Nat} (hbase : base ≤ w0.heap.size) (h : Below (w0.heap.size + 1) (w0.alloc (.cells #[] 2)) w') : w'.ownsRow base 2 1 (.slice (some ⟨w0.heap.size, 0, none⟩) 0 0) 0 [] := by
  have h0 := World.ownsRow_made (base := base) (e := 2) (size := 1) w0 #[] 0 hbase (by simp [maxLen]) rfl
  exact ownsRow_below h0 h (fun g hg => by simp [Value.ownBlock] at hg; omega)

set_option maxRecDepth 100000 in
set_option maxHeartbeats 4000000 in
theorem specBoundaryComplex (V : Int) (a : Option Addr) (cap : Nat) (fs : List Int) (w : World) (hx : SlI w w.heap.size a fs) (hl : fs.length ≤ 1048576) :
    Calls Try.prog 44 #[.agg #[.int .i64 V, .slice a fs.length cap]] w fun e w' => ∃ v, e = .returned (.tuple #[.agg #[.int .i64 (bdR V fs).1, v], .int .i64 (bdR V fs).2.2]) ∧ Res w w' v (bdR V fs).2.1 := by
  obtain ⟨W, hW⟩ : ∃ W, W = (w.alloc (.cells #[.int .i64 V, .slice a fs.length cap] 26)).alloc (.cells #[.int .i64 0, .slice none 0 0] 26) := ⟨_, rfl⟩
  have hK : KrW w W V (.slice a fs.length cap) := by
    rw [hW]
    exact { below := ((Below.refl _ w).alloc (Nat.le_refl _) _).alloc (by simp) _, kbox := (Below.heap_alloc _ _ _ (by simp)).trans (heap_alloc_new w _), res := new2 w _ _ }
  have HK := hid hK
  have HW := hid hW
  have Hx := hid hx
  obtain ⟨k0, k1, _, _⟩ := two_of HK.out.kbox
  clear hx hK hW
  by_cases hC : IsC V fs
  · have HC := hid hC
    have h1 := hC.lo
    have h2 := hC.hi
    obtain ⟨b, hb⟩ : ∃ b, b = pureB (facetsL fs) := ⟨_, rfl⟩
    have HPu := hid (fun (W : World) (h : Below w.heap.size w W) => pureS_any V a cap fs W (Hx.out.later h h.size) hl hC)
    rw [← hb] at HPu
    have HR : Hid (bdR V fs = if b then (V, madeL V (bdT fs), 0) else (0, [], 5)) := hid (by unfold bdR; rw [isCB_true hC, if_pos rfl, hb])
    have Hf := hid hC.range63
    have HY := hid (is_yes V a cap fs W (Hx.out.later HK.out.below HK.out.below.size) hl hC)
    clear hC hb
    cases b
    · refine cx_mono (HR.out.trans (if_neg (by decide))) ?_
      go_enter Try.func44, Try.ntmps44
      go_wp2_with fail
      rw [← HW.out]
      refine HY.out.mono ?_
      rintro e w1 ⟨rfl, hB1⟩
      have HK1 := hid (HK.out.later hB1)
      obtain ⟨q0, q1, _, _⟩ := two_of HK1.out.kbox
      clear hB1 k0 k1
      go_wp2_with fail
      refine (HPu.out w1 HK1.out.below).mono ?_
      rintro e w2 ⟨rfl, hB2⟩
      have HK2 := hid (HK1.out.later hB2)
      obtain ⟨d0, d1, g0, g1⟩ := two_of HK2.out.res
      clear hB2 q0 q1
      go_wp2_with fail
      (try simp only [Exit.inBlock, Exit.then])
      have R3 := two_of (two_set HK2.out.res (.int .i64 0) (.slice none 0 0))
      refine done_cx (p := 2) (u := 3) (by kernel_rfl) rfl rfl R3.1 R3.2.1 rfl ⟨_, rfl, ?_⟩
      exact (res_nil _ _ HK2.out.below).set2 HK2.out.res (by decide) (by omega) _ _
    · refine cx_mono (HR.out.trans (if_pos rfl)) ?_
      obtain ⟨F, hF⟩ : ∃ F, F = ofDim fs (top fs - 1) := ⟨_, rfl⟩
      have HDim := hid (fun (W : World) (h : Below w.heap.size w W) => dimS_any V a cap fs W (Hx.out.later h h.size) hl Hf.out)
      have ht0 := top_lo fs
      have ht1 := top_hi fs
      have HOf := hid (fun (W : World) (h : Below w.heap.size w W) => of_any2 V a cap fs (top fs - 1) W (Hx.out.later h h.size) hl Hf.out (by omega) (by omega))
      rw [← hF] at HOf
      have HT : Hid (bdT fs = F.filter (fun x => decide ((aboveL fs x.toNat).length = 1))) := hid (by unfold bdT; rw [hF])
      have HFr : Hid (∀ x ∈ F, 1 ≤ x ∧ x ≤ 63) := hid (fun x hx => Hf.out x (by rw [hF] at hx; unfold ofDim at hx; exact (List.mem_filter.1 hx).1))
      have HFl : Hid (F.length ≤ 1048576) := hid (by rw [hF]; unfold ofDim; exact Nat.le_trans (List.length_filter_le _ _) hl)
      obtain ⟨D, hD⟩ : ∃ D, D = top fs := ⟨_, rfl⟩
      rw [← hD] at HDim HOf ht0 ht1
      obtain ⟨T, hT⟩ : ∃ T, T = madeL V (bdT fs) := ⟨_, rfl⟩
      have HTT := hid hT
      rw [← hT]
      clear hF hD hT
      go_enter Try.func44, Try.ntmps44
      go_wp2_with fail
      rw [← HW.out]
      refine HY.out.mono ?_
      rintro e w1 ⟨rfl, hB1⟩
      have HK1 := hid (HK.out.later hB1)
      obtain ⟨q0, q1, _, _⟩ := two_of HK1.out.kbox
      clear hB1 k0 k1
      go_wp2_with fail
      refine (HPu.out w1 HK1.out.below).mono ?_
      rintro e w2 ⟨rfl, hB2⟩
      have HK2 := hid (HK1.out.later hB2)
      obtain ⟨k0, k1, _, _⟩ := two_of HK2.out.kbox
      clear hB2 q0 q1
      go_wp2_with fail
      go_cut [4, 5] from 17 to 22 (fun p q wx => wx.ownsRow w.heap.size 2 1 p F.length (F.map (Value.int .i64)) ∧ wx.ownsRow w.heap.size 2 1 q 0 [] ∧ (∀ j, p.ownBlock = some j → q.ownBlock ≠ some j) ∧ KrW w wx V (.slice a fs.length cap))
      case first =>
        have K1 := hid HK2.out.drew
        have hwr : IntKind.i64.wrap (D - 1) = D - 1 := by rw [IntKind.wrap_i64]; omega
        go_region_held3 (fun w' => w'.cell? ⟨w.heap.size, 0, none⟩ = some (.int .i64 V) ∧ w'.cell? ⟨w.heap.size, 1, none⟩ = some (.slice a fs.length cap)) (go_keep) (first
          | (have h := KD.out; clear h; go_at_call 61; refine (HOf.out _ (by first | with_reducible_and_instances exact KD.out.below | with_reducible_and_instances exact (KD.out.alloc _).below)).mono ?_; rintro e w6 ⟨v6, rfl, hr6⟩; have hb6 := hr6.2; have KO := hid (show KrW w w6 V (.slice a fs.length cap) from by first | with_reducible_and_instances exact KD.out.later hb6 | with_reducible_and_instances exact (KD.out.alloc _).later hb6); obtain ⟨m0, m1, _, _⟩ := two_of KO.out.kbox; have Hr6 := hid hr6; clear hr6 hb6)
          | (go_at_call 60; refine (HDim.out _ (by first | with_reducible_and_instances exact K1.out.below | with_reducible_and_instances exact (HK2.out.alloc _).drew.below)).mono ?_; rintro e w5 ⟨rfl, hB5⟩; have KD := hid (show KrW w w5 V (.slice a fs.length cap) from by first | with_reducible_and_instances exact K1.out.later hB5 | with_reducible_and_instances exact (HK2.out.alloc _).drew.later hB5); obtain ⟨n0, n1, _, _⟩ := two_of KD.out.kbox; have HB5 := hid hB5; clear hB5))
        · go_wp2_with fail
          go_meet
          case rel =>
            have hb6 := Hr6.out.2
            refine ⟨(ownsRow_base Hr6.out.1 KD.out.below.size).alloc _, empty_later KO.out.below.size (Below.refl _ _), fun j hj e => ?_, KO.out.alloc _⟩
            have h1 := (Hr6.out.1.lt j hj).2
            simp [Value.ownBlock] at e
            omega
        · go_wp2_with fail
          go_meet
          case rel =>
            have hb6 := Hr6.out.2
            refine ⟨ownsRow_base Hr6.out.1 (KD.out.alloc _).below.size, empty_later KD.out.below.size (by rw [World.size_alloc] at hb6; exact hb6), fun j hj e => ?_, KO.out⟩
            have h1 := (Hr6.out.1.lt j hj).1
            simp [Value.ownBlock] at e
            rw [World.size_alloc] at h1
            omega
        · go_wp2_with fail
          go_meet
          case rel =>
            have hb6 := Hr6.out.2
            have hb5 : Below (w2.heap.size + 1) (w2.alloc (.cells #[] 2)) w5 := by
              have h := HB5.out
              refine ⟨h.os, h.tape, h.output, ?_, ?_⟩
              · have := h.size; simpa using this
              · intro k hk; exact h.block k (by simpa using hk)
            have hs5 := hb5.size
            refine ⟨ownsRow_base Hr6.out.1 KD.out.below.size, empty_later HK2.out.below.size (hb5.trans (hb6.mono (by simpa using hs5))), fun j hj e => ?_, KO.out⟩
            have h1 := (Hr6.out.1.lt j hj).1
            simp [Value.ownBlock] at e
            simp at hs5
            omega
      case rest =>
        obtain ⟨hp, hq, hne, hKr⟩ := hcut
        obtain ⟨_, fv, fc, rfl, _⟩ := ownsRow_slI hp
        have Hp := hid hp
        have Hq := hid hq
        have Hne := hid hne
        have HKr := hid hKr
        clear hp hq hne hKr k0 k1
        go_wp2_with fail
        go_loopw [5, 6] (fun q i wr => ∃ k : Nat, k ≤ F.length ∧ i = .int .i64 k ∧ Hid (wr.ownsRow w.heap.size 2 1 (.slice fv F.length fc) F.length (F.map (Value.int .i64))) ∧ Hid (wr.ownsRow w.heap.size 2 1 q ((F.take k).filter (fun x => decide ((aboveL fs x.toNat).length = 1))).length (((F.take k).filter (fun x => decide ((aboveL fs x.toNat).length = 1))).map (Value.int .i64))) ∧ Hid (∀ j, Value.ownBlock (.slice fv F.length fc) = some j → q.ownBlock ≠ some j) ∧ Hid (KrW w wr V (.slice a fs.length cap))) (fun _ i _ => F.length - (RowKit.intOf i).toNat)
        case atStart => exact ⟨0, Nat.zero_le _, rfl, Hp, hid (by simpa using Hq.out), Hne, HKr⟩
        case round =>
          obtain ⟨k, hk, rfl, HF, HO, Hnn, HKw⟩ := hrel
          obtain ⟨k0, k1, _, _⟩ := two_of HKw.out.kbox
          have hbs := HKw.out.below.size
          have hFl := HFl.out
          by_cases hlt : k < F.length
          · obtain ⟨b, off, hb, rfl, hc⟩ : ∃ b off, b < wr.heap.size ∧ fv = some ⟨b, off, none⟩ ∧ ∀ i, i < F.length → wr.cell? ⟨b, off + i, none⟩ = some (.int .i64 (F[i]?.getD 0)) := by
              rcases owned_slI HF.out with h | h
              · rw [h] at hlt; simp at hlt
              · exact h
            obtain ⟨x, hx⟩ : ∃ x : Nat, (x : Int) = F[k]?.getD 0 := ⟨(F[k]?.getD 0).toNat, by have := HFr.out _ (getD_mem hlt); omega⟩
            have hx64 : x < 64 := by have := HFr.out _ (getD_mem hlt); omega
            have hck : wr.cell? ⟨b, off + k, none⟩ = some (.int .i64 (x : Int)) := by rw [hx]; exact hc k hlt
            have hi0 : (0 : Int) ≤ (k : Int) := by omega
            have hi1 : (k : Int) < (F.length : Int) := by omega
            have HAb := hid (fun (W : World) (h : Below w.heap.size w W) => above_any V a cap fs x W (Hx.out.later h h.size) hl Hf.out hx64)
            have Hs := hid (fun c hc => bdT_step (fs := fs) hlt c hc)
            have hal : (aboveL fs x).length ≤ 1048576 := Nat.le_trans (List.length_filter_le _ _) hl
            have hfl : ((F.take k).filter (fun x => decide ((aboveL fs x.toNat).length = 1))).length ≤ 1048576 := Nat.le_trans (List.length_filter_le _ _) (by have := HFl.out; simp; omega)
            rw [← hx, Int.toNat_natCast] at Hs
            obtain ⟨A, hA⟩ : ∃ A, A = aboveL fs x := ⟨_, rfl⟩
            rw [← hA] at HAb Hs hal
            have KW := hid HKw.out.drew
            clear hx hc hA
            by_cases h1 : A.length = 1
            · have hd : ((A.length : Int) == 1) = true := by simp [h1]
              have HP := hid ((Hs.out true (decide_eq_true h1)).trans (by rw [if_pos rfl]))
              clear h1 Hs
              go_wp2_with fail
              go_region_with (go_at_call 62; refine (HAb.out _ (by with_reducible_and_instances exact KW.out.below)).mono ?_; rintro e w7 ⟨v7, rfl, hr7⟩; obtain ⟨_, av, cv, rfl, _⟩ := ownsRow_slI hr7.1; have hb7 := hr7.2; have K7 := hid (KW.out.later hb7); have F7 := hid (ownsRow_below (w := wr.drew) HF.out hb7 (fun g hg => (HF.out.lt g hg).2)); have O7 := hid (ownsRow_below (w := wr.drew) HO.out hb7 (fun g hg => (HO.out.lt g hg).2)); have hck7 := (hb7.cell (p := ⟨b, off + k, none⟩) hb).trans hck; have hs7 := K7.out.below.size; clear hr7 hb7)
              all_goals
                go_wp2_with (at_builtin; refine app_at rfl rfl O7.out hs7 (by omega) rfl rfl ?_; intro v' w8 hown8 hgrow8 hat8 hB8)
                go_roundw
                case rel =>
                  refine ⟨k + 1, by omega, by go_num, hid (F7.out.kept hgrow8 (.inr (fun e => Hnn.out b rfl e.symm))), hid (by rw [HP.out]; exact hown8), hid (fun j hj => ?_), hid (K7.out.row O7.out hgrow8)⟩
                  rcases hat8 with h | h
                  · rw [h]; exact Hnn.out j hj
                  · rw [h]
                    have := (F7.out.lt j hj).2
                    intro e
                    injection e with e
                    omega
                case measure => simp [RowKit.intOf]; omega
            · have hd : ((A.length : Int) == 1) = false := by simp; omega
              have HP := hid (Hs.out false (decide_eq_false h1))
              clear h1 Hs
              go_wp2_with fail
              go_region_with (go_at_call 62; refine (HAb.out _ (by with_reducible_and_instances exact KW.out.below)).mono ?_; rintro e w7 ⟨v7, rfl, hr7⟩; obtain ⟨_, av, cv, rfl, _⟩ := ownsRow_slI hr7.1; have hb7 := hr7.2; have K7 := hid (KW.out.later hb7); have F7 := hid (ownsRow_below (w := wr.drew) HF.out hb7 (fun g hg => (HF.out.lt g hg).2)); have O7 := hid (ownsRow_below (w := wr.drew) HO.out hb7 (fun g hg => (HO.out.lt g hg).2)); have hck7 := (hb7.cell (p := ⟨b, off + k, none⟩) hb).trans hck; have hs7 := K7.out.below.size; clear hr7 hb7)
              all_goals
                go_wp2_with fail
                go_roundw
                case rel => exact ⟨k + 1, by omega, by go_num, F7, hid (by rw [HP.out]; simpa using O7.out), Hnn, K7⟩
                case measure => simp [RowKit.intOf]; omega
          · have hkn : k = F.length := by omega
            subst hkn
            rw [List.take_length] at HO
            obtain ⟨_, sv, sc, rfl, hsS⟩ := ownsRow_slI HO.out
            rw [← HT.out] at HO hsS
            have HlT : Hid ((bdT fs).length ≤ 1048576) := hid (by rw [HT.out]; exact Nat.le_trans (List.length_filter_le _ _) HFl.out)
            have HrT : Hid (∀ x ∈ bdT fs, 1 ≤ x ∧ x ≤ 63) := hid (fun x hx => HFr.out x (by rw [HT.out] at hx; exact (List.mem_filter.1 hx).1))
            have HM := hid (madeS_any V sv sc (bdT fs) wr hsS HlT.out h1 h2 HrT.out)
            rw [← HTT.out, HT.out] at HM
            clear hsS
            go_wp2_with fail
            refine HM.out.mono ?_
            rintro e w9 ⟨v9, rfl, hr9⟩
            obtain ⟨_, rv, rc, rfl, _⟩ := ownsRow_slI hr9.1
            have K9 := hid (HKw.out.later hr9.2)
            obtain ⟨d0, d1, g0, g1⟩ := two_of K9.out.res
            have Hr9 := hid (hr9.later HKw.out.below)
            clear hr9
            go_wp2_with fail
            (try simp only [Exit.inBlock, Exit.then])
            have R4 := two_of (two_set K9.out.res (.int .i64 V) (.slice rv T.length rc))
            refine done_cx (p := 2) (u := 3) (by kernel_rfl) rfl rfl R4.1 R4.2.1 rfl ⟨_, rfl, ?_⟩
            exact Hr9.out.set2 K9.out.res (by decide) (by omega) _ _
  · have hR : bdR V fs = (0, [], 1) := by unfold bdR; rw [isCB_false hC, if_neg (by simp)]
    have HY := hid (is_no V a cap fs W (Hx.out.later HK.out.below HK.out.below.size) hl hC)
    refine cx_mono hR ?_
    clear hC hR
    go_enter Try.func44, Try.ntmps44
    go_wp2_with fail
    rw [← HW.out]
    refine HY.out.mono ?_
    rintro e w1 ⟨rfl, hB1⟩
    have HK1 := hid (HK.out.later hB1)
    obtain ⟨d0, d1, g0, g1⟩ := two_of HK1.out.res
    clear hB1 k0 k1
    go_wp2_with fail
    (try simp only [Exit.inBlock, Exit.then])
    have R3 := two_of (two_set HK1.out.res (.int .i64 0) (.slice none 0 0))
    refine done_cx (p := 2) (u := 3) (by kernel_rfl) rfl rfl R3.1 R3.2.1 rfl ⟨_, rfl, ?_⟩
    exact (res_nil _ _ HK1.out.below).set2 HK1.out.res (by decide) (by omega) _ _

end Go.Proofs.Ytmkknfdjoajpcaa
