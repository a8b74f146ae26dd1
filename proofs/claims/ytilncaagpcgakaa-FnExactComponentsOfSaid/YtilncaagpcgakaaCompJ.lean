import Derived.Test.YtilncaagpcgakaaCompI
import Derived.Test.YtilncaagpcgakaaFw
/-! ComponentsOf, the program's. -/
namespace Go.Proofs.Ytilncaagpcgakaa
open Go.RowKit

/-- What ComponentsOf hands back. -/
noncomputable def componentsOfR (V : Int) (fs : List Int) : List Int × Int := if isCB V fs then (modL fs (leftTo fs V.toNat), 0) else ([], 1)

theorem modF_len (fs : List Int) : ∀ n l, (modF fs n l).length ≤ n
  | 0, l => by simp [modF]
  | n + 1, l => by
    unfold modF
    split
    · simp
    · have := modF_len fs n (cutN l (cloN fs (lowN l))); simp only [List.length_cons]; omega
theorem componentsOfR_len (V : Int) (fs : List Int) (_h : fs.length ≤ 1048576) : (componentsOfR V fs).1.length ≤ 1048576 := by
  unfold componentsOfR
  by_cases hC : IsC V fs
  · rw [isCB_true hC, if_pos rfl]
    have h1 := modF_len fs (leftTo fs V.toNat) (leftTo fs V.toNat)
    have h2 := left_lt fs V.toNat (by have := hC.hi; omega)
    unfold modL
    simp only
    omega
  · rw [isCB_false hC, if_neg (by simp)]; simp

theorem comp_mono {P : Program} {f : FuncId} {args : Array Value} {w : World} {r : List Int × Int} {xs : List Int} {c : Int} (hr : r = (xs, c))
    (h : Calls P f args w fun e w' => ∃ v, e = .returned (.tuple #[v, .int .i64 c]) ∧ Res w w' v xs) : Calls P f args w fun e w' => ∃ v, e = .returned (.tuple #[v, .int .i64 r.2]) ∧ Res w w' v r.1 := by
  subst hr; exact h

theorem in_or {f s c : Nat} (h : s &&& f = f) : (s ||| c) &&& f = f := by
  rw [Nat.and_comm] at h ⊢
  exact sub_or h
theorem in_or' {f s c : Nat} (h : f &&& c = f) : (s ||| c) &&& f = f := by
  rw [Nat.and_comm, Nat.or_comm]
  exact sub_or h

set_option maxRecDepth 100000 in
set_option maxHeartbeats 4000000 in
theorem implComponentsOf (V : Int) (a0 : Option Addr) (cap : Nat) (fs : List Int) (w : World) (hx : SlI w w.heap.size a0 fs) (hl : fs.length ≤ 1048576) :
    Calls Try.prog 34 #[.agg #[.int .i64 V, .slice a0 fs.length cap]] w fun e w' => ∃ v, e = .returned (.tuple #[v, .int .i64 (componentsOfR V fs).2]) ∧ Res w w' v (componentsOfR V fs).1 := by
  have hB0 : Below w.heap.size w (w.alloc (.cells #[.int .i64 V, .slice a0 fs.length cap] 30)) := (Below.refl _ w).alloc (Nat.le_refl _) _
  have Hx := hid (hx.later hB0 hB0.size)
  have Hx0 := hid hx
  clear hx
  by_cases hC : IsC V fs
  · obtain ⟨vn, rfl⟩ : ∃ vn : Nat, V = vn := ⟨V.toNat, by have := hC.lo; omega⟩
    refine comp_mono (show componentsOfR vn fs = (modL fs (leftTo fs vn), 0) by unfold componentsOfR; rw [isCB_true hC, if_pos rfl]; rfl) ?_
    have HC := hid hC
    have Hf := hid hC.range63
    obtain ⟨all, hall⟩ : ∃ all, all = leftTo fs vn := ⟨_, rfl⟩
    rw [← hall]
    have HA := hid hall
    clear hC hall
    go_enter Try.func34, Try.ntmps34
    go_wp2_with fail
    refine (isc_yes (vn : Int) a0 cap fs _ Hx.out hl HC.out).mono ?_
    rintro e w1 ⟨rfl, hB1⟩
    have k0 : w1.cell? ⟨w.heap.size, 0, none⟩ = some (.int .i64 vn) := (hB1.cell (p := ⟨w.heap.size, 0, none⟩) (by simp)).trans (by simp [go_sem])
    have k1 : w1.cell? ⟨w.heap.size, 1, none⟩ = some (.slice a0 fs.length cap) := (hB1.cell (p := ⟨w.heap.size, 1, none⟩) (by simp)).trans (by simp [go_sem])
    have HB1 := hid (hB0.trans (hB1.mono (by simp)))
    have Hs1 : Hid (w.heap.size + 1 ≤ w1.heap.size) := hid (by have := hB1.size; simp at this; omega)
    have K0 := hid k0
    have K1 := hid k1
    clear hB0 hB1
    go_wp2_with fail
    clear k0 k1
    go_loopw [4, 5, 15] (fun v p i wr => ∃ (k seen : Nat) (O : List Int), k ≤ fs.length ∧ p = .int .i64 seen ∧ i = .int .i64 k ∧ seen < 64 ∧ Hid (O ++ modL fs (cutN all seen) = modL fs all) ∧ Hid (∀ j, j < k → ones (fs[j]?.getD 0).toNat = 1 → seen &&& (fs[j]?.getD 0).toNat = (fs[j]?.getD 0).toNat) ∧ O.length ≤ k ∧
        wr.ownsRow (w.heap.size + 1) 2 1 v O.length (O.map (Value.int .i64)) ∧ Below (w.heap.size + 1) w1 wr) (fun _ _ i _ => fs.length - (intOf i).toNat)
    case atStart => exact ⟨0, 0, [], Nat.zero_le _, rfl, rfl, by decide, hid (by simp [cutN]), hid (fun j hj => by omega), Nat.le_refl _, World.ownsRow_nil _ _ _ _, Below.refl _ _⟩
    case round =>
      obtain ⟨k, seen, O, hk, rfl, rfl, hs64, HO, Hv, hOk, hown, hB⟩ := hrel
      have HBw := hid (HB1.out.trans (hB.mono (by omega)))
      have Hsz := hid (Nat.le_trans Hs1.out hB.size)
      have HB := hid hB
      have Hown := hid hown
      by_cases hlt : k < fs.length
      · have c0 := (hB.cell (p := ⟨w.heap.size, 0, none⟩) (by simp)).trans K0.out
        have c1 := (hB.cell (p := ⟨w.heap.size, 1, none⟩) (by simp)).trans K1.out
        obtain ⟨b1, off, hb, rfl, hcell⟩ : ∃ b off, b < w.heap.size ∧ a0 = some ⟨b, off, none⟩ ∧ ∀ i, i < fs.length → w.cell? ⟨b, off + i, none⟩ = some (.int .i64 (fs[i]?.getD 0)) := by
          rcases Hx0.out with h | h
          · rw [h] at hlt; simp at hlt
          · exact h
        have hxm := getD_mem hlt
        obtain ⟨x, hx⟩ : ∃ x : Nat, (x : Int) = fs[k]?.getD 0 := ⟨(fs[k]?.getD 0).toNat, by have := Hf.out _ hxm; omega⟩
        rw [← hx] at hxm
        have hxr := Hf.out _ hxm
        have hx64 : x < 64 := by omega
        have hck : wr.cell? ⟨b1, off + k, none⟩ = some (.int .i64 (x : Int)) := (HBw.out.cell (p := ⟨b1, off + k, none⟩) hb).trans (by rw [hx]; exact hcell k hlt)
        have hi0 : (0 : Int) ≤ (k : Int) := by omega
        have hi1 : (k : Int) < (fs.length : Int) := by omega
        have ho := ones_le x
        have Hn : Hid (∀ s', (∀ j, j < k → ones (fs[j]?.getD 0).toNat = 1 → s' &&& (fs[j]?.getD 0).toNat = (fs[j]?.getD 0).toNat) → (ones x = 1 → s' &&& x = x) → ∀ j, j < k + 1 → ones (fs[j]?.getD 0).toNat = 1 → s' &&& (fs[j]?.getD 0).toNat = (fs[j]?.getD 0).toNat) := hid (fun s' h1 h2 j hj => by
          by_cases hjk : j < k
          · exact h1 j hjk
          · obtain rfl : j = k := by omega
            rw [← hx, Int.toNat_natCast]; exact h2)
        have hand := and_int hs64 hx64
        have Hx1 := hid hx
        have hx0 : x ≠ 0 := by omega
        clear hx hcell hxm hxr hB hown
        by_cases h1 : ones x = 1
        · have hd1 : ((ones x : Int) - 1 == 0) = true := by simp; omega
          by_cases h0 : seen &&& x = 0
          · have hd0 : (((seen &&& x : Nat) : Int) == 0) = true := by simp [h0]
            have Hst := hid (prog_step HC.out hlt hs64 (by rw [← HA.out]; exact HO.out) Hv.out Hx1.out h1 h0)
            rw [← HA.out] at Hst
            have hc := cloN_spec (fs := fs) (fun y hy => by have := Hf.out y hy; omega) hx64
            have HCW := hid (cwi_any (vn : Int) (some ⟨b1, off, none⟩) cap fs x wr (Hx0.out.later HBw.out HBw.out.size) hl HC.out hx64 hx0)
            obtain ⟨c, hcc⟩ : ∃ c, c = cloN fs x := ⟨_, rfl⟩
            rw [← hcc] at Hst hc HCW
            have hc64 := hc.lt
            have hor := or_int hs64 hc64
            have He := hid (Hn.out (seen ||| c) (fun j hj h => in_or (Hv.out j hj h)) (fun _ => in_or' hc.sup))
            have hsc := hid (Nat.or_lt_two_pow (n := 6) hs64 hc64)
            have hOl : O.length ≤ 1048576 := by omega
            clear h1 h0 hc hcc
            go_wp2_with (first
              | (go_at_call 59; refine (dim_any x _ hx64).mono ?_; rintro e w' ⟨rfl, rfl⟩)
              | (go_at_call 71; refine HCW.out.mono ?_; rintro e w2 ⟨rfl, hB2⟩; have hown2 := ownsRow_below Hown.out hB2 (fun g hg => (Hown.out.lt g hg).2); have hsz2 := Nat.le_trans Hsz.out hB2.size; have HB2 := hid hB2; clear hB2)
              | (at_builtin; refine append_int rfl rfl hown2 hsz2 (by omega) rfl rfl ?_; intro v' w3 hown3 hgrow3 hB3))
            go_roundw
            case rel => exact ⟨k + 1, seen ||| c, O ++ [(c : Int)], by omega, by go_num, by go_num, hsc.out, Hst.out, He.out, by simp; omega, hown3, (HB.out.trans (HB2.out.mono Hsz.out)).trans hB3⟩
            case measure => simp [intOf]; omega
          · have hd0 : (((seen &&& x : Nat) : Int) == 0) = false := by simp; omega
            have hin := one_or_none ⟨x, hx64⟩ h1 ⟨seen, hs64⟩ h0
            simp only at hin
            have He := hid (Hn.out seen Hv.out (fun _ => hin))
            clear h1 h0 hin
            go_wp2_with (go_at_call 59; refine (dim_any x _ hx64).mono ?_; rintro e w' ⟨rfl, rfl⟩)
            go_roundw
            case rel => exact ⟨k + 1, seen, O, by omega, by go_num, by go_num, hs64, HO.out, He.out, by omega, Hown.out, HB.out⟩
            case measure => simp [intOf]; omega
        · have hd1 : ((ones x : Int) - 1 == 0) = false := by simp; omega
          have He := hid (Hn.out seen Hv.out (fun h => absurd h h1))
          clear h1
          go_wp2_with (go_at_call 59; refine (dim_any x _ hx64).mono ?_; rintro e w' ⟨rfl, rfl⟩)
          go_roundw
          case rel => exact ⟨k + 1, seen, O, by omega, by go_num, by go_num, hs64, HO.out, He.out, by omega, Hown.out, HB.out⟩
          case measure => simp [intOf]; omega
      · obtain rfl : k = fs.length := by omega
        have He := hid (prog_end HC.out hs64 (by rw [← HA.out]; exact HO.out) Hv.out)
        rw [← HA.out] at He
        clear hB hown
        go_wp2
        go_ret2
        exact ⟨_, rfl, by rw [← He.out]; exact ownsRow_base Hown.out (Nat.le_succ _), HBw.out⟩
  · refine comp_mono (show componentsOfR V fs = ([], 1) by unfold componentsOfR; rw [isCB_false hC, if_neg (by simp)]) ?_
    go_enter Try.func34, Try.ntmps34
    go_wp2_with fail
    refine (isc_no V a0 cap fs _ Hx.out hl hC).mono ?_
    rintro e w1 ⟨rfl, hB1⟩
    go_wp2_with fail
    go_ret2
    exact ⟨_, rfl, res_nil _ _ (hB0.trans (hB1.mono (by simp)))⟩

end Go.Proofs.Ytilncaagpcgakaa
