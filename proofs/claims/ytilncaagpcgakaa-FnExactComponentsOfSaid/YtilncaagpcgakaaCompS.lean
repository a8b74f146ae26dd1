import Derived.Test.YtilncaagpcgakaaCompJ
import Derived.Test.YtilncaagpcgakaaSpecC
import Derived.Deep.QuietTactic
/-! ComponentsOf, the model's. -/
namespace Go.Proofs.Ytilncaagpcgakaa
open Go.RowKit

/-- 1 for true. -/
def boolN (v : Value) : Nat := match v with | .bool true => 1 | _ => 0

/-- The first k faces are not halfway in c. -/
def FcTo (fs : List Int) (k c : Nat) : Prop := ∀ j, j < k → (fs[j]?.getD 0).toNat &&& c ≠ 0 → (fs[j]?.getD 0).toNat &&& c = (fs[j]?.getD 0).toNat
theorem fcTo_all {fs : List Int} {c : Nat} (h : FcTo fs fs.length c) : ClF fs c := by
  intro x hx h1
  obtain ⟨j, hj, rfl⟩ := List.getElem_of_mem hx
  have := h j hj
  rw [List.getElem?_eq_getElem hj] at this
  exact this h1
theorem fcTo_succ {fs : List Int} {k c x : Nat} (h : FcTo fs k c) (hx : (x : Int) = fs[k]?.getD 0) (hs : x &&& c ≠ 0 → x &&& c = x) : FcTo fs (k + 1) c := by
  intro j hj
  by_cases hjk : j < k
  · exact h j hjk
  · obtain rfl : j = k := by omega
    rw [← hx, Int.toNat_natCast]; exact hs

theorem wrap64_nat {n : Nat} (h : n < 64) : wrap64 (n : Int) = n := IntWalk.wrap64_in _ ⟨by omega, by omega⟩
theorem wrapk_nat {n : Nat} (h : n < 64) : IntKind.i64.wrap (n : Int) = n := by rw [IntKind.wrap_i64]; omega

set_option maxRecDepth 100000 in
set_option maxHeartbeats 8000000 in
theorem comps_any (vn : Nat) (a0 : Option Addr) (cap : Nat) (fs : List Int) (w : World) (hx : SlI w w.heap.size a0 fs) (hl : fs.length ≤ 1048576) (hC : IsC (vn : Int) fs) :
    Calls Try.prog 70 #[.agg #[.int .i64 vn, .slice a0 fs.length cap]] w fun e w' => ∃ v, e = .returned v ∧ Res w w' v (modL fs (leftTo fs vn)) := by
  obtain ⟨W, hW⟩ : ∃ W, W = w.alloc (.cells #[.int .i64 vn, .slice a0 fs.length cap] 30) := ⟨_, rfl⟩
  have hB0 : Below w.heap.size w W := by rw [hW]; exact (Below.refl _ w).alloc (Nat.le_refl _) _
  have hsW : W.heap.size = w.heap.size + 1 := by rw [hW]; simp
  have q0 : W.heap[w.heap.size]? = some (.cells #[.int .i64 vn, .slice a0 fs.length cap] 30 (0, 0)) := by rw [hW]; exact heap_alloc_new _ _
  obtain ⟨k0, k1, _, _⟩ := two_of q0
  have hown0 := World.ownsRow_made (base := w.heap.size + 1) (e := 2) (size := 1) W #[] 0 (by omega) (by simp [maxLen]) rfl
  have K0 := hid k0
  have K1 := hid k1
  have HW := hid hW
  have HsW := hid hsW
  have HB0 := hid hB0
  have Hx0 := hid hx
  have HC := hid hC
  have Hf := hid hC.range63
  have Hv6 := hid hC.hi
  have Hown0 := hid hown0
  obtain ⟨all, hall⟩ : ∃ all, all = leftTo fs vn := ⟨_, rfl⟩
  rw [← hall]
  have HA := hid hall
  clear hW hB0 q0 hx hC hown0 k0 k1 hall hsW
  go_enter Try.func70, Try.ntmps70
  go_wp2_with fail
  rw [← HW.out]
  go_loopw [4, 5] (fun p q wr => ∃ v : Nat, v ≤ vn ∧ p = .int .i64 (leftTo fs v) ∧ q = .int .i64 v ∧ wr.ownsRow (w.heap.size + 1) 2 1 (.slice (some ⟨w.heap.size + 1, 0, none⟩) 0 0) 0 [] ∧ Below (w.heap.size + 1) W wr) (fun _ q _ => vn - (intOf q).toNat)
  case atStart => exact ⟨0, Nat.zero_le _, rfl, rfl, by have := Hown0.out; rw [HsW.out] at this; simpa using this, (Below.refl _ W).alloc (by rw [HsW.out]; exact Nat.le_refl _) _⟩
  case round =>
    obtain ⟨v, hv, rfl, rfl, hown, hB⟩ := hrel
    have c0 := (hB.cell (p := ⟨w.heap.size, 0, none⟩) (by simp)).trans K0.out
    have c1 := (hB.cell (p := ⟨w.heap.size, 1, none⟩) (by simp)).trans K1.out
    have HBw := hid (HB0.out.trans (hB.mono (Nat.le_succ _)))
    have HB := hid hB
    have Hown := hid hown
    have Hsz : Hid (w.heap.size + 1 ≤ wr.heap.size) := hid (by have := hB.size; have := HsW.out; omega)
    clear hB hown Hown0
    by_cases hlt : v < vn
    · have hv6 := Hv6.out
      have hp2 : (2 : Nat) ^ v ≤ 32 := by have := Nat.pow_le_pow_right (n := 2) (by decide) (show v ≤ 5 by omega); omega
      have hpw : wrap64 (2 ^ v) = ((2 ^ v : Nat) : Int) := pow_wrap (show v ≤ 62 by omega)
      have hl64 := left_lt fs v (by omega)
      have hv0 : (0 : Int) ≤ (v : Int) := by omega
      have hv1 : (v : Int) < (vn : Int) := by omega
      have HH := hid (has_any (vn : Int) ((2 ^ v : Nat) : Int) a0 cap fs wr (Hx0.out.later HBw.out HBw.out.size) hl)
      obtain ⟨y, hy⟩ : ∃ y, y = 2 ^ v := ⟨_, rfl⟩
      have hL1 : leftTo fs (v + 1) = if hasV fs v then leftTo fs v ||| 2 ^ v else leftTo fs v := rfl
      have hhv : decide (((2 ^ v : Nat) : Int) ∈ fs) = hasV fs v := rfl
      rw [hhv] at HH
      have hor := or_int (x := leftTo fs v) (y := 2 ^ v) hl64 (by omega)
      rw [← hy] at hpw hor HH hL1
      have HL1 := hid hL1
      clear hhv hL1 hp2 hy
      by_cases hb : hasV fs v = true
      · rw [hb] at HH HL1
        clear hb
        go_wp2_with (go_at_call 87; refine HH.out.mono ?_; rintro e w2 ⟨rfl, hB2⟩; have HB2 := hid hB2; clear hB2)
        go_roundw
        case rel => exact ⟨v + 1, by omega, by rw [HL1.out]; rfl, by go_num, ownsRow_below Hown.out HB2.out (fun g hg => (Hown.out.lt g hg).2), HB.out.trans (HB2.out.mono Hsz.out)⟩
        case measure => simp [intOf]; omega
      · have hb' : hasV fs v = false := by simpa using hb
        rw [hb'] at HH HL1
        clear hb hb'
        go_wp2_with (go_at_call 87; refine HH.out.mono ?_; rintro e w2 ⟨rfl, hB2⟩; have HB2 := hid hB2; clear hB2)
        go_roundw
        case rel => exact ⟨v + 1, by omega, by rw [HL1.out]; rfl, by go_num, ownsRow_below Hown.out HB2.out (fun g hg => (Hown.out.lt g hg).2), HB.out.trans (HB2.out.mono Hsz.out)⟩
        case measure => simp [intOf]; omega
    · obtain rfl : v = vn := by omega
      rw [← HA.out]
      have ha64 : all < 64 := by rw [HA.out]; exact left_lt fs v (by have := Hv6.out; omega)
      go_wp2
      go_loopw [3, 4] (fun u p wr => ∃ (l : Nat) (O : List Int), p = .int .i64 l ∧ l < 64 ∧ Hid (O ++ modL fs l = modL fs all) ∧ O.length + l ≤ 64 ∧ wr.ownsRow (w.heap.size + 1) 2 1 u O.length (O.map (Value.int .i64)) ∧ Below (w.heap.size + 1) W wr) (fun _ p _ => (intOf p).toNat)
      case atStart => exact ⟨all, [], rfl, ha64, hid (by simp), by simp; omega, Hown.out, HB.out⟩
      case round =>
        clear Hown HB HBw Hsz c0 c1
        obtain ⟨l, O, rfl, hl64, HO, hOl, hown, hB⟩ := hrel
        have HB := hid hB
        have Hown := hid hown
        clear hB hown
        by_cases h0 : l = 0
        · subst h0
          have He : Hid (O = modL fs all) := hid (by have := HO.out; rw [modL_zero] at this; simpa using this)
          go_wp2
          go_ret
          exact ⟨_, rfl, by rw [← He.out]; exact ownsRow_base Hown.out (Nat.le_succ _), HB0.out.trans (HB.out.mono (Nat.le_succ _))⟩
        · have hr : ∀ x ∈ fs, x.toNat < 64 := fun y hy => by have := Hf.out y hy; omega
          have Hlc := hid (low_cut hr hl64 h0)
          have Hmp := hid (modL_pos hr hl64 h0)
          have hlf := low_facts ⟨l, hl64⟩ h0
          simp only at hlf
          obtain ⟨m, rfl⟩ : ∃ m : Nat, l = m + 1 := ⟨l - 1, by omega⟩
          obtain ⟨s, hs⟩ : ∃ s, s = lowN (m + 1) := ⟨_, rfl⟩
          rw [← hs] at Hlc Hmp hlf
          have hs64 := hlf.1
          have hand1 := and_int (x := m + 1) (y := m) hl64 (by omega)
          have hle : (m + 1) &&& m ≤ m + 1 := Nat.and_le_left
          have hsub : ((m : Int) + 1) - (((m + 1) &&& m : Nat) : Int) = (s : Int) := by rw [hs]; unfold lowN; rw [Nat.add_sub_cancel]; omega
          obtain ⟨am, ham⟩ : ∃ am, am = (m + 1) &&& m := ⟨_, rfl⟩
          rw [← ham] at hand1 hsub hle
          have hand : bits BinOp.and IntKind.i64 ((m : Int) + 1) (m : Int) = (am : Int) := by rw [show ((m : Int) + 1) = ((m + 1 : Nat) : Int) by omega]; exact hand1
          have hw1 : IntKind.i64.wrap (m : Int) = m := by rw [IntKind.wrap_i64]; omega
          have hw2 : IntKind.i64.wrap ((m : Int) + 1 - 1) = m := by rw [show (m : Int) + 1 - 1 = m by omega]; exact hw1
          have hw3 : wrap64 (m : Int) = m := IntWalk.wrap64_in _ ⟨by omega, by omega⟩
          have hw4 : wrap64 ((m : Int) + 1 - (am : Int)) = (s : Int) := (congrArg wrap64 hsub).trans (wrap64_nat hs64)
          have hw5 : IntKind.i64.wrap ((m : Int) + 1 - (am : Int)) = (s : Int) := (congrArg IntKind.i64.wrap hsub).trans (wrapk_nat hs64)
          clear hand1 ham hs hr hlf h0
          clear hsub hle
          go_wp2_with fail
          go_loopw [6, 7] (fun p q wx => ∃ (c : Nat) (b : Bool), p = .int .i64 c ∧ q = .bool b ∧ Mid fs s c ∧ Hid (b = false → ClF fs c) ∧ wx.ownsRow (w.heap.size + 1) 2 1 u3 O.length (O.map (Value.int .i64)) ∧ Below (w.heap.size + 1) W wx) (fun p q _ => 2 * (64 - (intOf p).toNat) + boolN q)
          case atStart => exact ⟨s, true, rfl, rfl, Mid.start hs64, hid (fun e => by cases e), Hown.out, HB.out⟩
          case round =>
            clear HB Hown
            obtain ⟨c, b, rfl, rfl, hm, Hcl, hown, hB⟩ := hrel
            have HM := hid hm
            have hc64 := hm.lt
            have HB := hid hB
            have Hown := hid hown
            clear hm hB hown
            cases b
            · clear hw1 hw2 hw3 hw4 hw5 hand
              have hclo := HM.out.done (Hcl.out rfl)
              have hce := cloN_eq hclo
              have hcut := Hlc.out.2
              have hmp := Hmp.out
              rw [hce] at hcut hmp
              have hand2 := and_int (x := m + 1) (y := c) hl64 hc64
              obtain ⟨ac, hac⟩ : ∃ ac, ac = (m + 1) &&& c := ⟨_, rfl⟩
              have hcn : cutN (m + 1) c = m + 1 - ac := by unfold cutN; rw [← hac]
              have hale : ac ≤ m + 1 := by rw [hac]; exact Nat.and_le_left
              obtain ⟨lc, hlc⟩ : ∃ lc, lc = cutN (m + 1) c := ⟨_, rfl⟩
              rw [← hac] at hand2
              rw [← hlc] at hcut hmp hcn
              have hOl2 : O.length ≤ 64 := by omega
              have hlc64 : lc < 64 := by omega
              have hsub2 : ((m : Int) + 1) - (ac : Int) = (lc : Int) := by omega
              have Hsz : Hid (w.heap.size + 1 ≤ wr.heap.size) := hid (by have := HB.out.size; have := HsW.out; omega)
              have hm1 : ((m : Int) + 1) = ((m + 1 : Nat) : Int) := by omega
              have hand3 : bits BinOp.and IntKind.i64 ((m : Int) + 1) (c : Int) = (ac : Int) := by rw [hm1]; exact hand2
              have hw6 : wrap64 ((m : Int) + 1 - (ac : Int)) = (lc : Int) := (congrArg wrap64 hsub2).trans (wrap64_nat hlc64)
              have hw7 : IntKind.i64.wrap ((m : Int) + 1 - (ac : Int)) = (lc : Int) := (congrArg IntKind.i64.wrap hsub2).trans (wrapk_nat hlc64)
              have Hmp2 := hid hmp
              have Hcut := hid hcut
              clear hand2 hac hcn hale hlc hsub2 hmp hcut hce hclo hm1
              go_wp2_with (at_builtin; refine append_int rfl rfl Hown.out Hsz.out (by omega) rfl rfl ?_; intro v' w2 hown2 hgrow2 hB2)
              go_roundw
              case rel => exact ⟨lc, O ++ [(c : Int)], by go_num, hlc64, by rw [List.append_assoc, ← HO.out, Hmp2.out]; rfl, by rw [List.length_append]; have := Hcut.out; simp; omega, hown2, HB.out.trans hB2⟩
              case measure => have := Hcut.out; simp [intOf]; omega
            · clear Hcl
              go_wp2
              go_loopw [6, 7, 8] (fun p q i wx => ∃ (c' : Nat) (b' : Bool) (k : Nat), p = .int .i64 c' ∧ q = .bool b' ∧ i = .int .i64 k ∧ k ≤ fs.length ∧ Mid fs s c' ∧ Hid (c &&& c' = c) ∧ Hid (b' = false → c' = c ∧ FcTo fs k c') ∧ Hid (b' = true → c < c') ∧ wx.ownsRow (w.heap.size + 1) 2 1 u3 O.length (O.map (Value.int .i64)) ∧ Below (w.heap.size + 1) W wx) (fun _ _ i _ => fs.length - (intOf i).toNat)
              case atStart => exact ⟨c, false, 0, rfl, rfl, rfl, Nat.zero_le _, HM.out, hid (Nat.and_self c), hid (fun _ => ⟨rfl, fun j hj => by omega⟩), hid (fun e => by cases e), Hown.out, HB.out⟩
              case round =>
                clear HB Hown
                obtain ⟨c', b', k, rfl, rfl, rfl, hk, hm', Hcc, Hfc, Hlt, hown, hB⟩ := hrel
                have HM' := hid hm'
                have hc'64 := hm'.lt
                have HB := hid hB
                have Hown := hid hown
                have HBw := hid (HB0.out.trans (hB.mono (Nat.le_succ _)))
                have c0 := (hB.cell (p := ⟨w.heap.size, 0, none⟩) (by simp)).trans K0.out
                have c1 := (hB.cell (p := ⟨w.heap.size, 1, none⟩) (by simp)).trans K1.out
                clear hm' hB hown HM hand hw1 hw2 hw3 hw4 hw5
                by_cases hlt : k < fs.length
                · obtain ⟨b1, off, hb, rfl, hcell⟩ : ∃ b off, b < w.heap.size ∧ a0 = some ⟨b, off, none⟩ ∧ ∀ i, i < fs.length → w.cell? ⟨b, off + i, none⟩ = some (.int .i64 (fs[i]?.getD 0)) := by
                    rcases Hx0.out with h | h
                    · rw [h] at hlt; simp at hlt
                    · exact h
                  have hxm := getD_mem hlt
                  obtain ⟨x, hx⟩ : ∃ x : Nat, (x : Int) = fs[k]?.getD 0 := ⟨(fs[k]?.getD 0).toNat, by have := Hf.out _ hxm; omega⟩
                  rw [← hx] at hxm
                  have hxr := Hf.out _ hxm
                  have hx64 : x < 64 := by omega
                  have hck : wr.cell? ⟨b1, off + k, none⟩ = some (.int .i64 (x : Int)) := (HBw.out.cell (p := ⟨b1, off + k, none⟩) hb).trans (by rw [hx]; exact hcell k hlt)
                  have hi0 : (0 : Int) ≤ (k : Int) := by omega
                  have hi1 : (k : Int) < (fs.length : Int) := by omega
                  have hand4 := and_int hx64 hc'64
                  have hor := or_int hc'64 hx64
                  have Hx1 := hid hx
                  have Hxm := hid hxm
                  clear hx hcell hxm hxr
                  by_cases hmt : x &&& c' = 0
                  · have hd3 : (((x &&& c' : Nat) : Int) != 0) = false := by simp [hmt]
                    have He := hid (fun e : b' = false => (⟨(Hfc.out e).1, fcTo_succ (Hfc.out e).2 Hx1.out (fun h => absurd hmt h)⟩ : c' = c ∧ FcTo fs (k + 1) c'))
                    clear hmt
                    go_wp2_with fail
                    refine wp_region_quiet_lit (by kernel_rfl) (by kernel_rfl) ?_
                    iterate 23 (with_reducible refine wpQuiet_step (fun K hK => ?_); have HK := hid hK; clear hK; go_simp; (first | with_reducible refine HK.out _ ?_ | (rw [if_neg (by decide)]; with_reducible refine HK.out _ ?_)); clear HK K)
                    with_reducible refine wpQuiet_nil ?_
                    intro _ hw'
                    obtain ⟨nq, hw''⟩ := hw'
                    subst hw''
                    go_wp2_with fail
                    go_roundw
                    case rel =>
                      (repeat apply Exists.intro)
                      refine ⟨⟨c', b', k + 1, ?_, ?_, ?_, by omega, HM'.out, Hcc.out, He.out, Hlt.out, Hown.out, HB.out.trans ⟨rfl, rfl, rfl, Nat.le_refl _, fun _ _ => rfl⟩⟩, rfl⟩ <;> first | rfl | go_num
                    case measure => simp [intOf]; omega
                  · have hd3 : (((x &&& c' : Nat) : Int) != 0) = true := by simp; omega
                    by_cases hsb : x &&& c' = x
                    · have hd4 : (((x &&& c' : Nat) : Int) != (x : Int)) = false := by simp; omega
                      have He := hid (fun e : b' = false => (⟨(Hfc.out e).1, fcTo_succ (Hfc.out e).2 Hx1.out (fun _ => hsb)⟩ : c' = c ∧ FcTo fs (k + 1) c'))
                      clear hmt hsb
                      go_wp2_with fail
                      refine wp_region_quiet_lit (by kernel_rfl) (by kernel_rfl) ?_
                      iterate 23 (with_reducible refine wpQuiet_step (fun K hK => ?_); have HK := hid hK; clear hK; go_simp; (first | with_reducible refine HK.out _ ?_ | (rw [if_neg (by decide)]; with_reducible refine HK.out _ ?_)); clear HK K)
                      with_reducible refine wpQuiet_nil ?_
                      intro _ hw'
                      obtain ⟨nq, hw''⟩ := hw'
                      subst hw''
                      go_wp2_with fail
                      go_roundw
                      case rel =>
                        (repeat apply Exists.intro)
                        refine ⟨⟨c', b', k + 1, ?_, ?_, ?_, by omega, HM'.out, Hcc.out, He.out, Hlt.out, Hown.out, HB.out.trans ⟨rfl, rfl, rfl, Nat.le_refl _, fun _ _ => rfl⟩⟩, rfl⟩ <;> first | rfl | go_num
                      case measure => simp [intOf]; omega
                    · have hd4 : (((x &&& c' : Nat) : Int) != (x : Int)) = true := by simp; omega
                      have HM2 := hid (HM'.out.step Hxm.out (by rw [Int.toNat_natCast]; exact hx64) (by rw [Int.toNat_natCast]; exact hmt))
                      rw [Int.toNat_natCast] at HM2
                      have Hcc2 := hid (sub_or (b := x) Hcc.out)
                      have hg := or_gt ⟨c', hc'64⟩ ⟨x, hx64⟩ hsb
                      simp only at hg
                      have Hlt2 := hid (show c < c' ||| x by have := sub_le Hcc.out; omega)
                      clear hmt hsb hg
                      go_wp2_with fail
                      refine wp_region_quiet_lit (by kernel_rfl) (by kernel_rfl) ?_
                      iterate 23 (with_reducible refine wpQuiet_step (fun K hK => ?_); have HK := hid hK; clear hK; go_simp; (first | with_reducible refine HK.out _ ?_ | (rw [if_neg (by decide)]; with_reducible refine HK.out _ ?_)); clear HK K)
                      with_reducible refine wpQuiet_nil ?_
                      intro _ hw'
                      obtain ⟨nq, hw''⟩ := hw'
                      subst hw''
                      go_wp2_with fail
                      go_roundw
                      case rel =>
                        (repeat apply Exists.intro)
                        refine ⟨⟨c' ||| x, true, k + 1, ?_, ?_, ?_, by omega, HM2.out, Hcc2.out, hid (fun e => by cases e), hid (fun _ => Hlt2.out), Hown.out, HB.out.trans ⟨rfl, rfl, rfl, Nat.le_refl _, fun _ _ => rfl⟩⟩, rfl⟩ <;> first | rfl | go_num
                      case measure => simp [intOf]; omega
                · obtain rfl : k = fs.length := by omega
                  have He : Hid (b' = false → ClF fs c') := hid (fun e => fcTo_all (Hfc.out e).2)
                  have hc64' := HM'.out.lt
                  go_wp2
                  go_roundw
                  case rel => exact ⟨c', b', by go_num, rfl, HM'.out, He.out, Hown.out, HB.out⟩
                  case measure =>
                    cases b'
                    · have := (Hfc.out rfl).1
                      subst this
                      simp [intOf, boolN]
                    · have := Hlt.out rfl
                      simp [intOf, boolN]
                      omega

end Go.Proofs.Ytilncaagpcgakaa
