import Derived.Test.YtmkknfdjoajpcaaGoes
import Derived.Test.YtmkknfdjoajpcaaPureS
/-! l07Shelling, the model's. -/
namespace Go.Proofs.Ytmkknfdjoajpcaa
open Go.RowKit Go.Shelf

/-- The k-th of a list is a facet that is not ahead of it. -/
def shK (F os : List Int) (k : Nat) : Bool := decide (os[k]?.getD 0 ∈ F) && (os.take k).all (fun x => decide (x ≠ os[k]?.getD 0))
def shOk (F os : List Int) (k : Nat) : Bool := (List.range k).all fun i => shK F os i && shG (os[i]?.getD 0) (os.take i)
/-- Is it a shelling? -/
def shB (F os : List Int) : Bool := decide (os.length = F.length) && shOk F os os.length
/-- The restrictions of the first k. -/
def shL (os : List Int) (k : Nat) : List Int := (List.range k).map fun i => shR (os[i]?.getD 0) (os.take i) 6
theorem shOk_succ (F os : List Int) (k : Nat) : shOk F os (k + 1) = (shOk F os k && (shK F os k && shG (os[k]?.getD 0) (os.take k))) := by unfold shOk; rw [List.range_succ, List.all_append]; simp
theorem shOk_no {F os : List Int} {n k : Nat} (hk : k < n) (h : (shK F os k && shG (os[k]?.getD 0) (os.take k)) = false) : shOk F os n = false := by
  unfold shOk
  rw [List.all_eq_false]
  exact ⟨k, by simpa using hk, by rw [h]; decide⟩
theorem shL_succ (os : List Int) (k : Nat) : shL os (k + 1) = shL os k ++ [shR (os[k]?.getD 0) (os.take k) 6] := by unfold shL; rw [List.range_succ, List.map_append]; rfl
theorem shL_len (os : List Int) (k : Nat) : (shL os k).length = k := by simp [shL]
theorem quiet_of_eq2 {P : Program} {f : FuncId} {args : Array Value} {w : World} {m n : Nat} {v : Value}
    (h : Calls P f args (w.drewN (m + n)) fun e w' => e = .returned v ∧ w.drewN (m + n) = w') : Calls P f args (w.drewN (m + n)) fun e w'' => e = .returned v ∧ ∃ k, w'' = w.drewN (m + k) :=
  h.mono fun _ _ ⟨he, hm⟩ => ⟨he, n, hm.symm⟩
theorem slI_take {w : World} {B : Nat} {a : Option Addr} {xs : List Int} (h : SlI w B a xs) (k : Nat) : SlI w B a (xs.take k) := by
  rcases h with rfl | ⟨b, off, hb, ha, hc⟩
  · left; simp
  · right
    refine ⟨b, off, hb, ha, fun i hi => ?_⟩
    simp at hi
    rw [hc i (by omega), List.getElem?_take_of_lt (by omega)]

set_option maxRecDepth 1000000 in
set_option maxHeartbeats 4000000 in
theorem shS_any (V : Int) (a : Option Addr) (cap : Nat) (fs : List Int) (a1 : Option Addr) (cap1 : Nat) (os : List Int) (w : World) (hx : SlI w w.heap.size a fs) (hx1 : SlI w w.heap.size a1 os) (hC : IsC V fs) (hl1 : os.length ≤ 1048576) (hcap : os.length ≤ cap1) :
    Calls Try.prog 76 #[.agg #[.int .i64 V, .slice a fs.length cap], .slice a1 os.length cap1] w fun e w' => ∃ v xs, e = .returned (.tuple #[.bool (shB (facetsL fs) os), v]) ∧ Res w w' v xs ∧ (shB (facetsL fs) os = true → xs = shL os os.length) := by
  obtain ⟨W, hW⟩ : ∃ W, W = w.alloc (.cells #[.int .i64 V, .slice a fs.length cap] 26) := ⟨_, rfl⟩
  have hB0 : Below w.heap.size w W := by rw [hW]; exact (Below.refl _ w).alloc (Nat.le_refl _) _
  have hl : fs.length ≤ 1048576 := by have := hC.len63; omega
  have HF := hid (facets_any V a cap fs W (hx.later hB0 hB0.size) hl hC.range63)
  have hFl : (facetsL fs).length ≤ 63 := by have := List.length_filter_le (fun x => decide ((aboveL fs x.toNat).length = 0)) fs; have := hC.len63; unfold facetsL; omega
  obtain ⟨F, hF⟩ : ∃ F, F = facetsL fs := ⟨_, rfl⟩
  rw [← hF] at HF hFl
  rw [← hF]
  obtain ⟨E, hE⟩ : ∃ E, E = shB F os := ⟨_, rfl⟩
  have HE := hid hE
  rw [← hE]
  have HW := hid hW
  have HB0 := hid hB0
  have Hy := hid hx1
  clear hx hx1 hC hB0 hW hF hE
  go_enter Try.func76, Try.ntmps76
  go_wp2_with fail
  rw [← HW.out]
  refine HF.out.mono ?_
  rintro e w1 ⟨v1, rfl, hr1⟩
  have hb1 := hr1.2
  obtain ⟨_, av, cv, rfl, hs1⟩ := ownsRow_slI hr1.1
  have HB1 := hid (HB0.out.trans (hb1.mono HB0.out.size))
  have Hs1 := hid hs1
  clear hr1 hb1 hs1
  obtain ⟨W1, hW1⟩ : ∃ W1, W1 = w1.alloc (.cells #[] 2) := ⟨_, rfl⟩
  have hown0 := World.ownsRow_made (base := w1.heap.size) (e := 2) (size := 1) w1 #[] 0 (Nat.le_refl _) (by simp [maxLen]) rfl
  rw [← hW1] at hown0
  have Hown0 := hid hown0
  have HB21 := hid (show Below w1.heap.size w1 W1 by rw [hW1]; exact (Below.refl _ w1).alloc (Nat.le_refl _) _)
  have HB2 := hid (show Below w.heap.size w W1 by rw [hW1]; exact HB1.out.alloc HB1.out.size _)
  have HS2 := hid (show SlI W1 W1.heap.size av F by rw [hW1]; exact Hs1.out.later ((Below.refl _ w1).alloc (Nat.le_refl _) _) (by simp))
  clear hown0
  by_cases hlen : os.length = F.length
  · have hd : ((os.length : Int) != (F.length : Int)) = false := by simp; omega
    have HE2 := hid (show E = shOk F os os.length by rw [HE.out, shB, decide_eq_true hlen, Bool.true_and])
    have Hlen := hid hlen
    clear hlen
    have Hs11 := hid (Hy.out.later HB1.out HB1.out.size)
    go_wp2_with (rw [← hW1])
    clear hW1 HW
    go_loopw [7, 8] (fun v i wr => ∃ k : Nat, k ≤ os.length ∧ i = .int .i64 k ∧ Hid (wr.ownsRow w1.heap.size 2 1 v (shL os k).length ((shL os k).map (Value.int .i64))) ∧ Hid (shOk F os k = true) ∧ Hid (Below w1.heap.size w1 wr)) (fun _ i _ => os.length - (intOf i).toNat)
    case atStart => exact ⟨0, Nat.zero_le _, rfl, hid (by simpa [shL] using Hown0.out), hid rfl, HB21⟩
    case round =>
      obtain ⟨k, hk, rfl, Hown, Hk, HB⟩ := hrel
      obtain ⟨wo, hwo⟩ : ∃ x, x = wr := ⟨_, rfl⟩
      subst hwo
      by_cases hlt : k < os.length
      · obtain ⟨b1, off1, hb1, rfl, hc1⟩ : ∃ b off, b < w1.heap.size ∧ a1 = some ⟨b, off, none⟩ ∧ ∀ i, i < os.length → w1.cell? ⟨b, off + i, none⟩ = some (.int .i64 (os[i]?.getD 0)) := by
          rcases Hs11.out with h | h
          · rw [h] at hlt; simp at hlt
          · exact h
        obtain ⟨x, hx⟩ : ∃ x, x = os[k]?.getD 0 := ⟨_, rfl⟩
        have Hc1 := hid (fun (W : World) (h : Below w1.heap.size w1 W) (i : Nat) (hi : i < os.length) => (h.cell (p := ⟨b1, off1 + i, none⟩) hb1).trans (hc1 i hi))
        have Hx := hid hx
        have Hcx := hid (fun (W : World) (h : Below w1.heap.size w1 W) => (Hc1.out W h k hlt).trans (by rw [← hx]))
        have hi0 : (0 : Int) ≤ (k : Int) := by omega
        have hi1 : (k : Int) < (os.length : Int) := by omega
        clear hc1 hx
        go_wp2_with fail
        go_loopw [9, 10] (fun g j wx => ∃ m : Nat, m ≤ F.length ∧ j = .int .i64 m ∧ g = .bool (decide (x ∈ F.take m)) ∧ Hid (Below wo.heap.size wo wx)) (fun _ j _ => F.length - (intOf j).toNat)
        case atStart => exact ⟨0, Nat.zero_le _, rfl, by simp, hid (Below.refl _ _)⟩
        case round =>
          obtain ⟨m, hm, rfl, rfl, HBx⟩ := hrel
          have HBw := hid (HB.out.trans (HBx.out.mono HB.out.size))
          obtain ⟨g, hg⟩ : ∃ g, g = decide (x ∈ F.take m) := ⟨_, rfl⟩
          rw [← hg]
          by_cases hlm : m < F.length
          · obtain ⟨bf, of, hbf, rfl, hcf⟩ : ∃ b off, b < w1.heap.size ∧ av = some ⟨b, off, none⟩ ∧ ∀ i, i < F.length → w1.cell? ⟨b, off + i, none⟩ = some (.int .i64 (F[i]?.getD 0)) := by
              rcases Hs1.out with h | h
              · rw [h] at hlm; simp at hlm
              · exact h
            have cf := (HBw.out.cell (p := ⟨bf, of + m, none⟩) hbf).trans (hcf m hlm)
            have cx := Hcx.out _ HBw.out
            obtain ⟨y, hy⟩ : ∃ y, y = F[m]?.getD 0 := ⟨_, rfl⟩
            rw [← hy] at cf
            have Hs : Hid (decide (x ∈ F.take (m + 1)) = (g || (y == x))) := hid (by
              rw [take_snoc hlm, ← hy, hg, Bool.eq_iff_iff]
              simp only [decide_eq_true_eq, Bool.or_eq_true, List.mem_append, List.mem_singleton, beq_iff_eq]
              exact ⟨fun h => h.imp id Eq.symm, fun h => h.imp id Eq.symm⟩)
            have hj0 : (0 : Int) ≤ (m : Int) := by omega
            have hj1 : (m : Int) < (F.length : Int) := by omega
            obtain ⟨z, hz⟩ : ∃ z, (y == x) = z := ⟨_, rfl⟩
            rw [hz] at Hs
            clear hcf hy hg
            cases g
            · cases z
              · go_wp2_with fail
                go_quiet (fail)
                go_wp2_with fail
                go_roundw
                case rel => exact ⟨m + 1, by omega, by go_num, by rw [Hs.out]; rfl, hid ⟨HBx.out.os, HBx.out.tape, HBx.out.output, HBx.out.size, HBx.out.block⟩⟩
                case measure => simp [intOf]; omega
              · go_wp2_with fail
                go_quiet (fail)
                go_wp2_with fail
                go_roundw
                case rel => exact ⟨m + 1, by omega, by go_num, by rw [Hs.out]; rfl, hid ⟨HBx.out.os, HBx.out.tape, HBx.out.output, HBx.out.size, HBx.out.block⟩⟩
                case measure => simp [intOf]; omega
            · go_wp2_with fail
              go_quiet (fail)
              go_wp2_with fail
              go_roundw
              case rel => exact ⟨m + 1, by omega, by go_num, by rw [Hs.out]; rfl, hid ⟨HBx.out.os, HBx.out.tape, HBx.out.output, HBx.out.size, HBx.out.block⟩⟩
              case measure => simp [intOf]; omega
          · have Hg : Hid (g = decide (x ∈ F)) := hid (by rw [hg, List.take_of_length_le (by omega)])
            clear hg
            go_wp2_with fail
            go_loopw [9, 11] (fun q j wx => ∃ m : Nat, m ≤ k ∧ j = .int .i64 m ∧ q = .bool (g && (os.take m).all (fun z => decide (z ≠ x))) ∧ Hid (Below wo.heap.size wo wx)) (fun _ j _ => k - (intOf j).toNat)
            case atStart => exact ⟨0, Nat.zero_le _, rfl, by simp, HBx⟩
            case round =>
              clear HBx HBw
              obtain ⟨m, hm, rfl, rfl, HBx⟩ := hrel
              have HBw := hid (HB.out.trans (HBx.out.mono HB.out.size))
              obtain ⟨q, hq⟩ : ∃ q, q = (g && (os.take m).all (fun z => decide (z ≠ x))) := ⟨_, rfl⟩
              rw [← hq]
              by_cases hlm : m < k
              · have cm := Hc1.out _ HBw.out m (by omega)
                have cx := Hcx.out _ HBw.out
                obtain ⟨y, hy⟩ : ∃ y, y = os[m]?.getD 0 := ⟨_, rfl⟩
                rw [← hy] at cm
                have Hs : Hid ((g && (os.take (m + 1)).all (fun z => decide (z ≠ x))) = (q && (y != x))) := hid (by
                  rw [take_snoc (by omega), ← hy, hq, List.all_append, ← Bool.and_assoc]
                  congr 1
                  show (decide (y ≠ x) && true) = (y != x)
                  rw [Bool.and_true, Bool.eq_iff_iff]
                  simp)
                have hj0 : (0 : Int) ≤ (m : Int) := by omega
                have hj1 : (m : Int) < (k : Int) := by omega
                have hj2 : (m : Int) < (os.length : Int) := by omega
                obtain ⟨z, hz⟩ : ∃ z, (y != x) = z := ⟨_, rfl⟩
                rw [hz] at Hs
                clear hy hq
                cases q
                · go_wp2_with fail
                  go_quiet (fail)
                  go_wp2_with fail
                  go_roundw
                  case rel => exact ⟨m + 1, by omega, by go_num, by rw [Hs.out]; rfl, hid ⟨HBx.out.os, HBx.out.tape, HBx.out.output, HBx.out.size, HBx.out.block⟩⟩
                  case measure => simp [intOf]; omega
                · cases z
                  · go_wp2_with fail
                    go_quiet (fail)
                    go_wp2_with fail
                    go_roundw
                    case rel => exact ⟨m + 1, by omega, by go_num, by rw [Hs.out]; rfl, hid ⟨HBx.out.os, HBx.out.tape, HBx.out.output, HBx.out.size, HBx.out.block⟩⟩
                    case measure => simp [intOf]; omega
                  · go_wp2_with fail
                    go_quiet (fail)
                    go_wp2_with fail
                    go_roundw
                    case rel => exact ⟨m + 1, by omega, by go_num, by rw [Hs.out]; rfl, hid ⟨HBx.out.os, HBx.out.tape, HBx.out.output, HBx.out.size, HBx.out.block⟩⟩
                    case measure => simp [intOf]; omega
              · have Hq : Hid (q = shK F os k) := hid (by rw [hq, Hg.out, show m = k by omega, shK, ← Hx.out])
                have HGo := hid (fun (W : World) (h : Below wr.heap.size wr W) => by
                  have h1 := HBw.out.trans (h.mono HBw.out.size)
                  have hlk : (os.take k).length = k := by simp; omega
                  have h2 := goes_any (some ⟨b1, off1, none⟩) cap1 (os.take k) x W (slI_take (Hs11.out.later h1 h1.size) k) (by rw [hlk]; omega)
                  rw [hlk] at h2
                  exact h2)
                have cx := Hcx.out _ HBw.out
                obtain ⟨G, hG⟩ : ∃ G, G = shG x (os.take k) := ⟨_, rfl⟩
                obtain ⟨T, hT⟩ : ∃ T, T = shR x (os.take k) 6 := ⟨_, rfl⟩
                rw [← hG, ← hT] at HGo
                have Hs : Hid (shOk F os (k + 1) = (q && G)) := hid (by rw [shOk_succ, Hk.out, ← Hx.out, ← Hq.out, ← hG]; rfl)
                have Hno : Hid ((q && G) = false → E = false) := hid (fun h => by rw [HE2.out]; exact shOk_no hlt (by rw [← Hx.out, ← Hq.out, ← hG]; exact h))
                have HL : Hid (shL os (k + 1) = shL os k ++ [T]) := hid (by rw [shL_succ, ← Hx.out, ← hT])
                have HOw := hid (ownsRow_below Hown.out HBx.out (fun g hg => (Hown.out.lt g hg).2))
                have hcp : (k : Int) ≤ (cap1 : Int) := by omega
                have hsl := shL_len os k
                clear hq hG hT
                cases q
                · have He := hid (Hno.out rfl)
                  go_wp2_with fail
                  go_quiet (first
                    | (go_at_call 110; exact quiet_of_eq (HGo.out _ (below_drewN _ _)))
                    | (go_at_call 110; exact quiet_of_eq2 (HGo.out _ (below_drewN _ _))))
                  go_wp2_with fail
                  go_ret2
                  rw [He.out]
                  exact ⟨_, _, rfl, ⟨ownsRow_below (ownsRow_base HOw.out HB1.out.size) (below_drewN _ _) (fun g hg => (HOw.out.lt g hg).2), HB1.out.trans ((HBw.out.trans ((below_drewN _ _).mono HBw.out.size)).mono HB1.out.size)⟩, by simp⟩
                · cases G
                  · have He := hid (Hno.out rfl)
                    go_wp2_with fail
                    go_quiet (first
                      | (go_at_call 110; exact quiet_of_eq (HGo.out _ (below_drewN _ _)))
                      | (go_at_call 110; exact quiet_of_eq2 (HGo.out _ (below_drewN _ _))))
                    go_wp2_with fail
                    go_ret2
                    rw [He.out]
                    exact ⟨_, _, rfl, ⟨ownsRow_below (ownsRow_base HOw.out HB1.out.size) (below_drewN _ _) (fun g hg => (HOw.out.lt g hg).2), HB1.out.trans ((HBw.out.trans ((below_drewN _ _).mono HBw.out.size)).mono HB1.out.size)⟩, by simp⟩
                  · have hbase := HBw.out.size
                    go_wp2_with fail
                    go_quiet (first
                      | (go_at_call 110; exact quiet_of_eq (HGo.out _ (below_drewN _ _)))
                      | (go_at_call 110; exact quiet_of_eq2 (HGo.out _ (below_drewN _ _))))
                    go_wp2_with (at_builtin; refine append_int rfl rfl HOw.out hbase (by omega) rfl rfl ?_; intro v' w2 hown2 hgrow2 hB2)
                    go_roundw
                    case rel => exact ⟨k + 1, by omega, by go_num, hid (by rw [HL.out]; exact hown2), hid (by rw [Hs.out]; rfl), hid (HBw.out.trans (Below.mono (w := wr) ⟨hB2.os, hB2.tape, hB2.output, hB2.size, hB2.block⟩ (Nat.le_refl _)))⟩
                    case measure => simp [intOf]; omega
      · have Hkk : Hid (k = os.length) := hid (by omega)
        have He : Hid (E = true) := hid (by rw [HE2.out, ← Hkk.out, Hk.out])
        go_wp2_with fail
        go_ret2
        rw [He.out]
        exact ⟨_, _, rfl, ⟨ownsRow_base Hown.out HB1.out.size, HB1.out.trans (HB.out.mono HB1.out.size)⟩, fun _ => by rw [Hkk.out]⟩
  · have hd : ((os.length : Int) != (F.length : Int)) = true := by simp; omega
    have HE2 := hid (show E = false by rw [HE.out, shB, decide_eq_false hlen, Bool.false_and])
    clear hlen
    go_wp2_with (rw [← hW1])
    go_ret2
    rw [HE2.out]
    exact ⟨_, [], rfl, ⟨ownsRow_base Hown0.out HB1.out.size, HB2.out⟩, by simp⟩

end Go.Proofs.Ytmkknfdjoajpcaa
