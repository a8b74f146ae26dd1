import Derived.BigQuiet
import Derived.Maps.OwnSet
import Derived.Test.YtgcpakhagbbiiaaMB7
import Derived.Test.YtgcpakhagbbiiaaMB1
import Derived.Test.YtgcpakhagbbiiaaMB4
/-! spec.FlatFunction. -/
namespace Go.Proofs.Ytgcpakhagbbiiaa
open Go.RowKit

theorem isHighB_succ (ps : List Int) (k : Nat) (x : Int) : isHighB ps (k + 1) x = (isHighB ps k x || (at0 ps (k * 2 + 1) == x)) := by
  unfold isHighB
  rw [List.range_succ, List.any_append, show (at0 ps (k * 2 + 1) == x) = decide (at0 ps (k * 2 + 1) = x) from by rw [Bool.eq_iff_iff]; simp]
  simp
/-- The number of the group after some faces of the order. -/
def flG (ps : List Int) (n : Nat) (O : List Int) : Nat → Int
  | 0 => -1
  | i + 1 => if isHighB ps n (O[i]?.getD 0) then flG ps n O i else flG ps n O i + 1
theorem flG_rng (ps : List Int) (n : Nat) (O : List Int) (i : Nat) : -1 ≤ flG ps n O i ∧ flG ps n O i < i := by
  induction i with
  | zero => simp [flG]
  | succ i ih =>
    unfold flG
    split <;> omega
/-- One number put at all places of a face. -/
def setTo (fs out : List Int) (x g : Int) (k : Nat) : List Int := (List.range fs.length).map fun m => if m < k ∧ fs[m]?.getD 0 = x then g else out[m]?.getD 0
theorem setTo_len (fs out : List Int) (x g : Int) (k : Nat) : (setTo fs out x g k).length = fs.length := by simp [setTo]
theorem setTo_zero {fs out : List Int} (h : out.length = fs.length) (x g : Int) : setTo fs out x g 0 = out := by
  apply List.ext_getElem (by simp [setTo, h])
  intro i h1 h2
  simp [setTo, h2]
theorem setTo_yes {fs : List Int} (out : List Int) {x : Int} (g : Int) {k : Nat} (hx : fs[k]?.getD 0 = x) : setTo fs out x g (k + 1) = (setTo fs out x g k).set k g := by
  apply List.ext_getElem (by simp [setTo])
  intro i h1 h2
  have hi : i < fs.length := by simpa [setTo] using h1
  rw [List.getElem_set]
  by_cases e : k = i
  · subst e
    rw [if_pos rfl]
    simp only [setTo, List.getElem_map, List.getElem_range]
    rw [if_pos ⟨by omega, hx⟩]
  · rw [if_neg e]
    simp only [setTo, List.getElem_map, List.getElem_range]
    by_cases h : i < k
    · simp [h, Nat.lt_succ_of_lt h]
    · rw [if_neg (fun c => by omega), if_neg (fun c => h c.1)]
theorem setTo_no {fs : List Int} (out : List Int) {x : Int} (g : Int) {k : Nat} (hx : fs[k]?.getD 0 ≠ x) : setTo fs out x g (k + 1) = setTo fs out x g k := by
  apply List.ext_getElem (by simp [setTo])
  intro i h1 h2
  simp only [setTo, List.getElem_map, List.getElem_range]
  by_cases e : k = i
  · subst e
    rw [if_neg (fun c => hx c.2), if_neg (fun c => by omega)]
  · by_cases h : i < k
    · simp [h, Nat.lt_succ_of_lt h]
    · rw [if_neg (fun c => by omega), if_neg (fun c => h c.1)]
def flO (fs ps : List Int) (n : Nat) (O : List Int) : Nat → List Int
  | 0 => List.replicate fs.length 0
  | i + 1 => setTo fs (flO fs ps n O i) (O[i]?.getD 0) (flG ps n O (i + 1)) fs.length
theorem flO_len (fs ps : List Int) (n : Nat) (O : List Int) (i : Nat) : (flO fs ps n O i).length = fs.length := by
  cases i with
  | zero => simp [flO]
  | succ i => simp [flO, setTo_len]
def flatL (fs ps : List Int) (n : Nat) : List Int := flO fs ps n (ordL fs ps n) (ordL fs ps n).length
/-- What FlatFunction answers. -/
noncomputable def flatR (V : Int) (fs : List Int) (n : Nat) (ps : List Int) : List Int × Int := if (orderR V fs n ps).2 = 0 then (flatL fs ps n, 0) else ([], (orderR V fs n ps).2)
theorem order_zero {V : Int} {fs ps : List Int} {n : Nat} (h : (orderR V fs n ps).2 = 0) : IsC V fs ∧ OkTo fs ps n ∧ orderR V fs n ps = (ordL fs ps n, 0) := by
  unfold orderR at h ⊢
  by_cases hp : pcodeR V fs n ps = 0
  · rw [if_pos hp] at h ⊢
    have hCO : IsC V fs ∧ OkTo fs ps n := by
      rcases pcode_cases V fs n ps with ⟨hC, ho, _⟩ | ⟨_, _, h2, _⟩ | ⟨_, h2, _⟩
      · exact ⟨hC, ho⟩
      · rw [h2] at hp; cases hp
      · rw [h2] at hp; cases hp
    refine ⟨hCO.1, hCO.2, ?_⟩
    cases ha : acyB ps n
    · rw [ha] at h; simp at h
    · rfl
  · rw [if_neg hp] at h
    exact absurd h hp

set_option maxRecDepth 100000 in
set_option maxHeartbeats 4000000 in
theorem specFlatFunction (V : Int) (a0 : Option Addr) (cap : Nat) (fs : List Int) (a1 : Option Addr) (n cap1 : Nat) (ps : List Int) (w : World) (hx : SlI w w.heap.size a0 fs) (hx1 : SlI w w.heap.size a1 ps) (hl : fs.length ≤ 1048576) (hp : ps.length = 2 * n) (hn : n ≤ 1048576) (hw : ∀ x ∈ ps, (Lit.int .i64 x).wf = true) :
    Calls Try.prog 28 #[.agg #[.int .i64 V, .slice a0 fs.length cap], .slice a1 n cap1] w fun e w' => ∃ v, e = .returned (.tuple #[v, .int .i64 (flatR V fs n ps).2]) ∧ Res w w' v (flatR V fs n ps).1 := by
  have hB0 : Below w.heap.size w (w.alloc (.cells #[.int .i64 V, .slice a0 fs.length cap] 30)) := (Below.refl _ w).alloc (Nat.le_refl _) _
  have HI := hid (specOrderOfPairing V a0 cap fs a1 n cap1 ps _ (hx.later hB0 hB0.size) (hx1.later hB0 hB0.size) hl hp hn hw)
  have Hx := hid hx
  have Hy := hid hx1
  clear hx hx1
  by_cases h0 : (orderR V fs n ps).2 = 0
  · obtain ⟨hC, hO, hR⟩ := order_zero h0
    refine res_mono (show flatR V fs n ps = (flatL fs ps n, 0) by unfold flatR; rw [if_pos h0]) ?_
    rw [hR] at HI
    have hOl : (ordL fs ps n).length ≤ fs.length := (ordN_inv hC hO fs.length).le
    obtain ⟨O, hOe⟩ : ∃ O, O = ordL fs ps n := ⟨_, rfl⟩
    have hF : flatL fs ps n = flO fs ps n O O.length := by rw [hOe]; rfl
    rw [← hOe] at HI hOl
    rw [hF]
    have h63 := hC.len63
    have Hp := hid hp
    clear h0 hR hC hO hF hOe hp hw
    go_enter Try.func28, Try.ntmps28
    go_wp2_with fail
    refine HI.out.mono ?_
    rintro e w1 ⟨v, rfl, hr⟩
    have hB1 := hB0.trans (hr.2.mono (by simp))
    have k0 : w1.cell? ⟨w.heap.size, 0, none⟩ = some (.int .i64 V) := (hr.2.cell (p := ⟨w.heap.size, 0, none⟩) (by simp)).trans (by simp [go_sem])
    have k1 : w1.cell? ⟨w.heap.size, 1, none⟩ = some (.slice a0 fs.length cap) := (hr.2.cell (p := ⟨w.heap.size, 1, none⟩) (by simp)).trans (by simp [go_sem])
    obtain ⟨_, av, cv, rfl, hs⟩ := ownsRow_slI hr.1
    have hgp1 : w.heap.size < w1.heap.size := by have := hr.2.size; simp at this; omega
    have HB1 := hid hB1
    have Hs := hid hs
    clear hB0 hB1 HI hr hs
    go_wp2_with (refine make_int rfl rfl rfl rfl (by omega) ?_; intro w2 hown2 hg2 hB2)
    have Hown2 := hid hown2
    have HB2 := hid hB2
    clear hown2 hg2 hB2
    have K10 := hid k1
    have h21 : Hid (w1.heap.size < w2.heap.size) := hid (Hown2.out.lt w1.heap.size rfl).2
    go_wp2_with fail
    go_loopw [9, 10] (fun gg ii wx => ∃ i : Nat, i ≤ O.length ∧ gg = .int .i64 (flG ps n O i) ∧ ii = .int .i64 i ∧ Hid (wx.ownsRow w1.heap.size 2 1 (.slice (some ⟨w1.heap.size, 0, none⟩) fs.length fs.length) fs.length ((flO fs ps n O i).map (Value.int .i64)) ∧ Below w1.heap.size w1 wx)) (fun _ ii _ => O.length - (intOf ii).toNat)
    case atStart => exact ⟨0, Nat.zero_le _, rfl, rfl, hid ⟨Hown2.out, HB2.out⟩⟩
    case round =>
      clear Hown2
      obtain ⟨i, hi, rfl, rfl, HW⟩ := hrel
      have k1 : wr.cell? ⟨w.heap.size, 1, none⟩ = some (.slice a0 fs.length cap) := (HW.out.2.cell (p := ⟨w.heap.size, 1, none⟩) hgp1).trans k1
      by_cases hin : i < O.length
      · obtain ⟨x, hxe⟩ : ∃ x, x = O[i]?.getD 0 := ⟨_, rfl⟩
        rcases Hs.out with h | ⟨b3, off3, hb3, rfl, hc3⟩
        · rw [h] at hin; simp at hin
        have cx : wr.cell? ⟨b3, off3 + i, none⟩ = some (.int .i64 x) := by
          rw [HW.out.2.cell (p := ⟨b3, off3 + i, none⟩) hb3, hc3 i hin, hxe]
        have Cx := hid cx
        have Cx1 := hid (show w1.cell? ⟨b3, off3 + i, none⟩ = some (.int .i64 x) by rw [hc3 i hin, hxe])
        have Hb3 := hid hb3
        have K1 := hid k1
        have hii0 : (0 : Int) ≤ (i : Int) := by omega
        have hii1 : (i : Int) < (O.length : Int) := by omega
        obtain ⟨g0, hg0⟩ : ∃ g0, g0 = flG ps n O i := ⟨_, rfl⟩
        have hgr := flG_rng ps n O i
        obtain ⟨out, hout⟩ : ∃ out, out = flO fs ps n O i := ⟨_, rfl⟩
        have hol := flO_len fs ps n O i
        have Hg1 : Hid (flG ps n O (i + 1) = if isHighB ps n x then g0 else g0 + 1) := hid (by rw [hxe, hg0]; rfl)
        have Ho1 : Hid (flO fs ps n O (i + 1) = setTo fs out x (flG ps n O (i + 1)) fs.length) := hid (by rw [hxe, hout]; rfl)
        rw [← hg0] at hgr ⊢
        rw [← hout] at hol HW
        clear hxe hc3 hg0 hout cx k1
        go_wp2_with fail
        go_loopw [11, 12] (fun hh jj wx => ∃ j : Nat, j ≤ n ∧ hh = .bool (isHighB ps j x) ∧ jj = .int .i64 j ∧ Hid (Below wr.heap.size wr wx)) (fun _ jj _ => n - (intOf jj).toNat)
        case atStart => exact ⟨0, Nat.zero_le _, by simp [isHighB], rfl, hid (Below.refl _ _)⟩
        case round =>
          have HW2 := hid HW.out.2
          obtain ⟨j, hj, rfl, rfl, HBj⟩ := hrel
          by_cases hjn : j < n
          · obtain ⟨b2, off2, hb2, rfl, hc2⟩ : ∃ b off, b < w.heap.size ∧ a1 = some ⟨b, off, none⟩ ∧ ∀ i, i < ps.length → w.cell? ⟨b, off + i, none⟩ = some (.int .i64 (ps[i]?.getD 0)) := by
              rcases Hy.out with h | h
              · have := Hp.out; rw [h] at this; simp at this; omega
              · exact h
            have hB1r := HB1.out.trans (HW2.out.mono HB1.out.size)
            have c1 : wr.cell? ⟨b2, off2 + j * 2 + 1, none⟩ = some (.int .i64 (at0 ps (j * 2 + 1))) := ((hB1r.trans (HBj.out.mono hB1r.size)).cell (p := ⟨b2, off2 + j * 2 + 1, none⟩) hb2).trans (hc2 (j * 2 + 1) (by have := Hp.out; omega))
            have cx : wr.cell? ⟨b3, off3 + i, none⟩ = some (.int .i64 x) := (HBj.out.cell (p := ⟨b3, off3 + i, none⟩) (by have := HW2.out.size; show b3 < _; omega)).trans Cx.out
            obtain ⟨y, hy⟩ : ∃ y, y = at0 ps (j * 2 + 1) := ⟨_, rfl⟩
            rw [← hy] at c1
            have hi0 : (0 : Int) ≤ (j : Int) := by omega
            have hi1 : (j : Int) < (n : Int) := by omega
            have Hsu : Hid (isHighB ps (j + 1) x = (isHighB ps j x || (y == x))) := hid (by rw [isHighB_succ, ← hy])
            obtain ⟨d, hd⟩ : ∃ d, (y == x) = d := ⟨_, rfl⟩
            obtain ⟨r2, hr2⟩ : ∃ r2, r2 = isHighB ps j x := ⟨_, rfl⟩
            rw [hd, ← hr2] at Hsu
            rw [← hr2]
            have HBd := hid (fun N => HBj.out.trans ((below_drewN (Below.refl _ wr) N).mono HBj.out.size))
            clear hc2 hy hr2 hB1r
            cases r2
            · go_wp2_with fail
              go_quiet (fail)
              go_wp2_with fail
              go_roundw
              case rel => exact ⟨j + 1, by omega, by rw [Hsu.out]; first | rfl | (rw [← hd]; rfl) | simp [hd], by go_num, hid (HBd.out _)⟩
              case measure => simp [intOf]; omega
            · go_wp2_with fail
              go_quiet (fail)
              go_wp2_with fail
              go_roundw
              case rel => exact ⟨j + 1, by omega, by rw [Hsu.out]; rfl, by go_num, hid (HBd.out _)⟩
              case measure => simp [intOf]; omega
          · have hjn' : ¬ (j : Int) < (n : Int) := by omega
            have ej : isHighB ps j x = isHighB ps n x := by rw [show j = n by omega]
            obtain ⟨hb, hhb⟩ : ∃ hb, hb = isHighB ps n x := ⟨_, rfl⟩
            rw [ej, ← hhb]
            rw [← hhb] at Hg1
            obtain ⟨g1, hg1⟩ : ∃ g1, g1 = flG ps n O (i + 1) := ⟨_, rfl⟩
            rw [← hg1] at Hg1 Ho1
            have HG1 := hid hg1
            have hX : Hid (wr.ownsRow w1.heap.size 2 1 (.slice (some ⟨w1.heap.size, 0, none⟩) fs.length fs.length) fs.length (out.map (Value.int .i64)) ∧ Below w1.heap.size w1 wr) := hid ⟨row_later (B := 0) HW.out.1 HBj.out rfl, HW.out.2.trans (HBj.out.mono HW.out.2.size)⟩
            have hwr1 : IntKind.i64.wrap (g0 + 1) = g0 + 1 := by rw [IntKind.wrap_i64]; omega
            have hwr2 : wrap64 (g0 + 1) = g0 + 1 := IntWalk.wrap64_in _ ⟨by omega, by omega⟩
            clear ej hhb hg1 HW HBj HW2
            go_upto_if 53 with fail
            go_cut [9] from 27 to 76 (fun gv wx => gv = .int .i64 g1 ∧ wx = wr)
            case first =>
              cases hb
              · go_wp2_with fail
                go_meet
                case rel => exact ⟨by rw [Hg1.out]; rfl, rfl⟩
              · go_wp2_with fail
                go_meet
                case rel => exact ⟨by rw [Hg1.out]; rfl, rfl⟩
            case rest =>
              obtain ⟨rfl, rfl⟩ := hcut
              have HS0 := hid (setTo_zero hol x g1)
              clear Hg1 hwr1 hwr2
              go_wp2_with fail
              go_loopw [13] (fun jj wx => ∃ t : Nat, t ≤ fs.length ∧ jj = .int .i64 t ∧ Hid (wx.ownsRow w1.heap.size 2 1 (.slice (some ⟨w1.heap.size, 0, none⟩) fs.length fs.length) fs.length ((setTo fs out x g1 t).map (Value.int .i64)) ∧ Below w1.heap.size w1 wx)) (fun jj _ => fs.length - (intOf jj).toNat)
              case atStart => exact ⟨0, Nat.zero_le _, rfl, by rw [HS0.out]; exact hX⟩
              case round =>
                clear hX
                obtain ⟨t, ht, rfl, HT⟩ := hrel
                have k1 : wr.cell? ⟨w.heap.size, 1, none⟩ = some (.slice a0 fs.length cap) := (HT.out.2.cell (p := ⟨w.heap.size, 1, none⟩) hgp1).trans K10.out
                by_cases htn : t < fs.length
                · rcases Hx.out with h | ⟨b5, off5, hb5, rfl, hc5⟩
                  · rw [h] at htn; simp at htn
                  obtain ⟨y, hy⟩ : ∃ y, y = fs[t]?.getD 0 := ⟨_, rfl⟩
                  have cy : wr.cell? ⟨b5, off5 + t, none⟩ = some (.int .i64 y) := by
                    rw [(HB1.out.trans (HT.out.2.mono HB1.out.size)).cell (p := ⟨b5, off5 + t, none⟩) hb5, hc5 t htn, hy]
                  have cx : wr.cell? ⟨b3, off3 + i, none⟩ = some (.int .i64 x) := (HT.out.2.cell (p := ⟨b3, off3 + i, none⟩) Hb3.out).trans Cx1.out
                  have hfr : wr.frozen? ⟨w1.heap.size, t, none⟩ = false := HT.out.1.frozenAt t
                  obtain ⟨o, ho⟩ : ∃ o, wr.cell? ⟨w1.heap.size, t, none⟩ = some (.int .i64 o) := ⟨(setTo fs out x g1 t)[t]?.getD 0, by
                    rw [HT.out.1.cellAt t (by omega)]
                    simp [setTo_len, htn]⟩
                  have hi0 : (0 : Int) ≤ (t : Int) := by omega
                  have hi1 : (t : Int) < (fs.length : Int) := by omega
                  have Hsy := hid (fun (h : y = x) => setTo_yes out g1 (hy ▸ h))
                  have Hsn := hid (fun (h : ¬ y = x) => setTo_no (fs := fs) out g1 (k := t) (x := x) (by rw [← hy]; exact h))
                  have HBd := hid (fun N => (below_drewN (Below.refl wr.heap.size wr) N))
                  clear hc5 hy
                  by_cases e : y = x
                  · have hd : (y == x) = true := by simp [e]
                    have He := hid (Hsy.out e)
                    clear e
                    go_wp2_with fail
                    go_quiet (fail)
                    go_wp2_with fail
                    go_roundw
                    case rel =>
                      have hst := fun N => (row_later (B := 0) HT.out.1 (HBd.out N) rfl).stored t (.int .i64 g1)
                      simp only [← List.map_set, ← He.out] at hst
                      have hbn := fun N => HT.out.2.trans ((HBd.out N).mono HT.out.2.size)
                      exact ⟨t + 1, by omega, by go_num, hid ⟨(hst _).1, (hbn _).grown (hst _).2 (hbn _).size (fun r e => by cases e; exact Nat.le_refl _)⟩⟩
                    case measure => simp [intOf]; omega
                  · have hd : (y == x) = false := by simp [e]
                    have He := hid (Hsn.out e)
                    clear e
                    go_wp2_with fail
                    go_quiet (fail)
                    go_wp2_with fail
                    go_roundw
                    case rel => exact ⟨t + 1, by omega, by go_num, hid ⟨by rw [He.out]; exact row_later (B := 0) HT.out.1 (HBd.out _) rfl, HT.out.2.trans ((HBd.out _).mono HT.out.2.size)⟩⟩
                    case measure => simp [intOf]; omega
                · have htn' : ¬ (t : Int) < (fs.length : Int) := by omega
                  rw [show t = fs.length by omega] at HT
                  go_wp2_with fail
                  go_roundw
                  case rel => exact ⟨i + 1, by omega, by rw [← HG1.out], by go_num, hid ⟨by rw [Ho1.out]; exact HT.out.1, HT.out.2⟩⟩
                  case measure => simp [intOf]; omega
      · rw [show i = O.length by omega] at HW
        have hin' : ¬ (i : Int) < (O.length : Int) := by omega
        go_wp2_with fail
        go_ret2
        exact ⟨_, rfl, by rw [flO_len]; exact ownsRow_base HW.out.1 (by have := HB1.out.size; omega), HB1.out.trans (HW.out.2.mono HB1.out.size)⟩
  · obtain ⟨c, hc⟩ : ∃ c, c = (orderR V fs n ps).2 := ⟨_, rfl⟩
    refine res_mono (show flatR V fs n ps = ([], c) by unfold flatR; rw [if_neg h0, hc]) ?_
    rw [← hc] at h0 HI
    have hcn : (c != 0) = true := by simpa using h0
    clear hc hp h0
    go_enter Try.func28, Try.ntmps28
    go_wp2_with fail
    refine HI.out.mono ?_
    rintro e w1 ⟨v, rfl, hr⟩
    go_wp2_with fail
    go_ret2
    exact ⟨_, rfl, res_nil _ _ (hB0.trans (hr.2.mono (by simp)))⟩

end Go.Proofs.Ytgcpakhagbbiiaa

/-! A map of numbers to numbers, as a function: what is not in it counts as 0. -/
namespace Go.Proofs.Ytgcpakhagbbiiaa
open Go.RowKit Go.Shelf Go.ChangeMaps

theorem wf_wrap (x : Int) : (Lit.int .i64 (wrap64 x)).wf = true := WalkArith.wf_i64 (by unfold wrap64; omega)
theorem zero_i64 (w : World) : (zeroValue 2).run Try.prog w = .ok (.int .i64 0) w := by kernel_rfl

/-- The map in block b, after at most N stores. -/
def CntM (W : World) (b N : Nat) (f : Int → Int) : Prop :=
  ∃ D : DataW Unit, Maps.IsMap D ∧ W.ownsMap Try.prog 2 (plainElem (H := Unit) Try.prog 2) b N D ∧ ∀ p, D.atKey (.int .i64 p) (.lit (.int .i64 0)) = .lit (.int .i64 (f p))
theorem CntM.made (w : World) : CntM (w.alloc (.map #[] 0)) w.heap.size 0 (fun _ => 0) :=
  ⟨_, Maps.isMap_empty, World.ownsMap_made w _ _ _, fun _ => rfl⟩
theorem CntM.lt {W : World} {b N : Nat} {f : Int → Int} (h : CntM W b N f) : b < W.heap.size := by
  obtain ⟨D, _, h1, _⟩ := h
  exact h1.lt
theorem CntM.kept {W W' : World} {b N : Nat} {f : Int → Int} (h : CntM W b N f) {row : Option Nat} (hg : W.grownBy W' row) (hn : some b ≠ row) : CntM W' b N f := by
  obtain ⟨D, h0, h1, h2⟩ := h
  exact ⟨D, h0, h1.kept hg hn, h2⟩
theorem CntM.alloc {W : World} {b N : Nat} {f : Int → Int} (h : CntM W b N f) (o : Obj) : CntM (W.alloc o) b N f := h.kept (World.grownBy_alloc W o none) (by simp)
set_option maxRecDepth 100000 in
theorem CntM.lookup {W : World} {b N : Nat} {f : Int → Int} (h : CntM W b N f) {p : Int} (hp : (Lit.int .i64 p).wf = true) :
    (Instr.lookup 76 (.map (some b)) (.int .i64 p) false).run Try.prog W = .ok (.int .i64 (f p)) W := by
  obtain ⟨D, h0, h1, h2⟩ := h
  obtain ⟨v, qs, hrun, hv⟩ := h1.lookup (Maps.int_keyed Try.underlying2) Try.underlying76 (zero_i64 W) (plainElem_int Try.underlying2 (show (Lit.int .i64 0).wf = true by decide)) (Maps.keyOf_int_mk Try.underlying2 hp)
  rw [h2] at hv
  obtain ⟨a, rfl, hz, _⟩ := plainElem_int_inv Try.underlying2 hv
  injection hz with hz _
  injection hz with hz
  injection hz with _ hz
  rw [hrun, hz]
theorem CntM.update {W : World} {b N : Nat} {f : Int → Int} (h : CntM W b N f) (hN : N < maxLen) {p x : Int} (hp : (Lit.int .i64 p).wf = true) (hx : (Lit.int .i64 x).wf = true) :
    ∃ W', (Instr.mapUpdate 76 (.map (some b)) (.int .i64 p) (.int .i64 x)).run Try.prog W = .ok () W' ∧ CntM W' b (N + 1) (fun q => if q = p then x else f q) ∧ W.grownBy W' (some b) ∧ W'.heap.size = W.heap.size := by
  obtain ⟨D, h0, h1, h2⟩ := h
  obtain ⟨W', hrun, ho, ht⟩ := World.ownsMap.store h1 (Maps.int_keyed Try.underlying2) Try.underlying76 hN (Maps.keyOf_int_mk Try.underlying2 hp) (plainElem_int Try.underlying2 hx)
  have hs : W'.heap.size = W.heap.size := by
    obtain ⟨es, c, es', c', hb, rfl⟩ := ht
    simp [setBlock]
  refine ⟨W', hrun, ⟨_, h0.put _ _, ho, fun q => ?_⟩, ?_, hs⟩
  · by_cases e : q = p
    · subst e
      rw [Maps.atKey_put_same h0 (show WideAt.IsKeyLit (.int .i64 q) from trivial)]
      simp
    · rw [Maps.atKey_put_other (by simpa using e), h2]
      simp [e]
  · obtain ⟨es, c, es', c', hb, rfl⟩ := ht
    exact ⟨rfl, rfl, rfl, by simp [setBlock], fun i _ hi => heap_setBlock_other hb _ (fun e => hi (by rw [e]))⟩

end Go.Proofs.Ytgcpakhagbbiiaa

/-! The flat function, group by group: the mathematics; a map of the type numbering. -/
namespace Go.Proofs.Ytgcpakhagbbiiaa
open Go.RowKit Go.Shelf Go.ChangeMaps

/-- What a list of stores leaves at x. -/
def asgL (L : List (Int × Int)) (x : Int) : Int := L.foldl (fun v p => if x = p.1 then p.2 else v) 0
theorem asgL_snoc (L : List (Int × Int)) (a b : Int) : asgL (L ++ [(a, b)]) = fun q => if q = a then b else asgL L q := by
  funext q
  simp [asgL]
def asgO (ps : List Int) (n : Nat) (O : List Int) (k : Nat) : List (Int × Int) := (List.range k).map fun j => (O[j]?.getD 0, flG ps n O (j + 1))
theorem asgO_succ (ps : List Int) (n : Nat) (O : List Int) (k : Nat) : asgO ps n O (k + 1) = asgO ps n O k ++ [(O[k]?.getD 0, flG ps n O (k + 1))] := by simp [asgO, List.range_succ]
def asgT (ps : List Int) (n : Nat) (Os : List Int) : Nat → List (Int × Int)
  | 0 => []
  | t + 1 => asgT ps n Os t ++ (grpL ps n (Os[t]?.getD 0)).map fun x => (x, (t : Int))
theorem flG_app (ps : List Int) (n : Nat) (A X : List Int) : ∀ i, i ≤ A.length → flG ps n (A ++ X) i = flG ps n A i
  | 0, _ => rfl
  | i + 1, h => by
    have e : (A ++ X)[i]?.getD 0 = A[i]?.getD 0 := by rw [List.getElem?_append_left (by omega)]
    unfold flG
    rw [e, flG_app ps n A X i (by omega)]
theorem asgO_app (ps : List Int) (n : Nat) (A X : List Int) : ∀ k, k ≤ A.length → asgO ps n (A ++ X) k = asgO ps n A k
  | 0, _ => rfl
  | k + 1, h => by
    rw [asgO_succ, asgO_succ, asgO_app ps n A X k (by omega), flG_app ps n A X (k + 1) h, List.getElem?_append_left (by omega)]
theorem grp_form (ps : List Int) (n : Nat) (f : Int) : grpL ps n f = [f] ∨ ∃ h, grpL ps n f = [f, h] ∧ isHighB ps n h = true := by
  by_cases h0 : highOf ps n f = 0
  · exact .inl (by unfold grpL; rw [if_pos h0])
  · refine .inr ⟨highOf ps n f, by unfold grpL; rw [if_neg h0], ?_⟩
    by_cases hex : ∃ i, i < n ∧ at0 ps (i * 2) = f
    · obtain ⟨d, hd⟩ : ∃ d, d = n := ⟨_, rfl⟩
      have key : ∀ m i, i < m → m ≤ n → at0 ps (i * 2) = f → ∃ j, j < n ∧ at0 ps (j * 2) = f ∧ ∀ q, q < j → at0 ps (q * 2) ≠ f := by
        intro m
        induction m with
        | zero => intro i hi; omega
        | succ m ih =>
          intro i hi hm he
          by_cases hb : ∃ q, q < i ∧ at0 ps (q * 2) = f
          · obtain ⟨q, hq, hqe⟩ := hb
            exact ih q (by omega) (by omega) hqe
          · exact ⟨i, by omega, he, fun q hq hqe => hb ⟨q, hq, hqe⟩⟩
      obtain ⟨i, hi, he⟩ := hex
      obtain ⟨j, hj, hje, hjb⟩ := key (i + 1) i (by omega) (by omega) he
      rw [highOf_some hj hje hjb]
      exact isHighB_iff.2 ⟨j, hj, rfl⟩
    · exact absurd (highOf_none (fun i hi e => hex ⟨i, hi, e⟩)) h0
theorem asg_both {ps : List Int} {n : Nat} {Os : List Int} (hh : ∀ f ∈ Os, isHighB ps n f = false) : ∀ t, t ≤ Os.length →
    asgO ps n ((Os.take t).flatMap (grpL ps n)) ((Os.take t).flatMap (grpL ps n)).length = asgT ps n Os t ∧ flG ps n ((Os.take t).flatMap (grpL ps n)) ((Os.take t).flatMap (grpL ps n)).length = (t : Int) - 1
  | 0, _ => ⟨rfl, rfl⟩
  | t + 1, h => by
    obtain ⟨h1, h2⟩ := asg_both hh t (by omega)
    have hf : isHighB ps n (Os[t]?.getD 0) = false := hh _ (getD_mem (by omega))
    have hO : (Os.take (t + 1)).flatMap (grpL ps n) = (Os.take t).flatMap (grpL ps n) ++ grpL ps n (Os[t]?.getD 0) := by
      rw [take_snoc (by omega), List.flatMap_append]
      simp
    have hT : asgT ps n Os (t + 1) = asgT ps n Os t ++ (grpL ps n (Os[t]?.getD 0)).map fun x => (x, (t : Int)) := rfl
    rw [hO, hT]
    obtain ⟨A, hA⟩ : ∃ A, A = (Os.take t).flatMap (grpL ps n) := ⟨_, rfl⟩
    obtain ⟨f, hfe⟩ : ∃ f, f = Os[t]?.getD 0 := ⟨_, rfl⟩
    rw [← hA] at h1 h2 ⊢
    rw [← hfe] at hf ⊢
    rcases grp_form ps n f with hg | ⟨hi, hg, hhi⟩
    · rw [hg]
      have e0 : (A ++ [f])[A.length]?.getD 0 = f := by simp
      have e1 : flG ps n (A ++ [f]) (A.length + 1) = (t : Int) := by
        rw [flG, e0, hf, flG_app _ _ _ _ _ (Nat.le_refl _), h2]
        simp
      have hl : (A ++ [f]).length = A.length + 1 := by simp
      rw [hl, asgO_succ, asgO_app _ _ _ _ _ (Nat.le_refl _), h1, e0, e1]
      exact ⟨by simp, by omega⟩
    · rw [hg]
      have e0 : (A ++ [f, hi])[A.length]?.getD 0 = f := by simp
      have e00 : (A ++ [f, hi])[A.length + 1]?.getD 0 = hi := by
        rw [List.getElem?_append_right (by omega)]
        simp
      have e1 : flG ps n (A ++ [f, hi]) (A.length + 1) = (t : Int) := by
        rw [flG, e0, hf, flG_app _ _ _ _ _ (Nat.le_refl _), h2]
        simp
      have e2 : flG ps n (A ++ [f, hi]) (A.length + 1 + 1) = (t : Int) := by
        rw [flG, e00, hhi, if_pos rfl, e1]
      have hl : (A ++ [f, hi]).length = A.length + 1 + 1 := by simp
      rw [hl, asgO_succ, asgO_succ, asgO_app _ _ _ _ _ (Nat.le_refl _), h1, e0, e00, e1, e2]
      exact ⟨by simp, by omega⟩
theorem flO_asg (fs ps : List Int) (n : Nat) (O : List Int) : ∀ i, flO fs ps n O i = fs.map (asgL (asgO ps n O i))
  | 0 => by
    show List.replicate fs.length 0 = fs.map (fun _ => 0)
    exact (List.map_const' ..).symm
  | i + 1 => by
    have ih := flO_asg fs ps n O i
    show setTo fs (flO fs ps n O i) (O[i]?.getD 0) (flG ps n O (i + 1)) fs.length = _
    rw [ih, asgO_succ, asgL_snoc]
    apply List.ext_getElem (by simp [setTo])
    intro m h1 h2
    have hm : m < fs.length := by simpa [setTo] using h1
    simp only [setTo, List.getElem_map, List.getElem_range, List.getElem?_map, List.getElem?_eq_getElem hm, Option.map_some, Option.getD_some]
    by_cases e : fs[m] = O[i]?.getD 0
    · rw [if_pos ⟨hm, e⟩, if_pos e]
    · rw [if_neg (fun c => e c.2), if_neg e]
theorem flat_groups {fs ps : List Int} {n : Nat} {Os : List Int} (hO : Os.flatMap (grpL ps n) = ordL fs ps n) (hh : ∀ f ∈ Os, isHighB ps n f = false) : flatL fs ps n = fs.map (asgL (asgT ps n Os Os.length)) := by
  unfold flatL
  rw [flO_asg, ← hO]
  have := (asg_both hh Os.length (Nat.le_refl _)).1
  rw [List.take_length] at this
  rw [this]
theorem asgT_len (ps : List Int) (n : Nat) (Os : List Int) : ∀ t, (asgT ps n Os t).length ≤ 2 * t
  | 0 => Nat.le_refl _
  | t + 1 => by
    have ih := asgT_len ps n Os t
    have h2 : (grpL ps n (Os[t]?.getD 0)).length ≤ 2 := by unfold grpL; split <;> simp
    show (asgT ps n Os t ++ _).length ≤ _
    rw [List.length_append, List.length_map]
    omega

set_option maxRecDepth 100000 in
theorem CntM.lookupN {W : World} {b N : Nat} {f : Int → Int} (h : CntM W b N f) {p : Int} (hp : (Lit.int .i64 p).wf = true) :
    (Instr.lookup 77 (.map (some b)) (.int .i64 p) false).run Try.prog W = .ok (.int .i64 (f p)) W := by
  obtain ⟨D, h0, h1, h2⟩ := h
  obtain ⟨v, qs, hrun, hv⟩ := h1.lookup (Maps.int_keyed Try.underlying2) Try.underlying77 (zero_i64 W) (plainElem_int Try.underlying2 (show (Lit.int .i64 0).wf = true by decide)) (Maps.keyOf_int_mk Try.underlying2 hp)
  rw [h2] at hv
  obtain ⟨a, rfl, hz, _⟩ := plainElem_int_inv Try.underlying2 hv
  injection hz with hz _
  injection hz with hz
  injection hz with _ hz
  rw [hrun, hz]
theorem CntM.updateN {W : World} {b N : Nat} {f : Int → Int} (h : CntM W b N f) (hN : N < maxLen) {p x : Int} (hp : (Lit.int .i64 p).wf = true) (hx : (Lit.int .i64 x).wf = true) :
    ∃ W', (Instr.mapUpdate 77 (.map (some b)) (.int .i64 p) (.int .i64 x)).run Try.prog W = .ok () W' ∧ CntM W' b (N + 1) (fun q => if q = p then x else f q) ∧ W.grownBy W' (some b) := by
  obtain ⟨D, h0, h1, h2⟩ := h
  obtain ⟨W', hrun, ho, hg⟩ := World.ownsMap.update h1 (Maps.int_keyed Try.underlying2) Try.underlying77 hN (Maps.keyOf_int_mk Try.underlying2 hp) (plainElem_int Try.underlying2 hx)
  refine ⟨W', hrun, ⟨_, h0.put _ _, ho, fun q => ?_⟩, hg⟩
  by_cases e : q = p
  · subst e
    rw [Maps.atKey_put_same h0 (show WideAt.IsKeyLit (.int .i64 q) from trivial)]
    simp
  · rw [Maps.atKey_put_other (by simpa using e), h2]
    simp [e]

end Go.Proofs.Ytgcpakhagbbiiaa

/-! FlatFunction, the program's. -/
namespace Go.Proofs.Ytgcpakhagbbiiaa
open Go.RowKit

theorem flatR_len (V : Int) (fs : List Int) (n : Nat) (ps : List Int) (h : fs.length ≤ 1048576) (_hp : ps.length = 2 * n) (_hn : n ≤ 1048576) : (flatR V fs n ps).1.length ≤ 1048576 := by
  unfold flatR
  split
  · show (flO _ _ _ _ _).length ≤ _
    rw [flO_len]
    exact h
  · simp

set_option maxRecDepth 1000000 in
set_option maxHeartbeats 4000000 in
theorem implFlatFunction (V : Int) (a0 : Option Addr) (cap : Nat) (fs : List Int) (a1 : Option Addr) (n cap1 : Nat) (ps : List Int) (w : World) (hx : SlI w w.heap.size a0 fs) (hx1 : SlI w w.heap.size a1 ps) (hl : fs.length ≤ 1048576) (hp : ps.length = 2 * n) (hn : n ≤ 1048576) (hw : ∀ x ∈ ps, (Lit.int .i64 x).wf = true) :
    Calls Try.prog 29 #[.agg #[.int .i64 V, .slice a0 fs.length cap], .slice a1 n cap1] w fun e w' => ∃ v, e = .returned (.tuple #[v, .int .i64 (flatR V fs n ps).2]) ∧ Res w w' v (flatR V fs n ps).1 := by
  have hB0 : Below w.heap.size w (w.alloc (.cells #[.int .i64 V, .slice a0 fs.length cap] 30)) := (Below.refl _ w).alloc (Nat.le_refl _) _
  have HK := hid (pcode_impl V a0 cap fs a1 n cap1 ps _ (hx.later hB0 hB0.size) (hx1.later hB0 hB0.size) hl hp hn hw)
  have Hx := hid hx
  have Hy := hid hx1
  clear hx hx1
  by_cases hpc : pcodeR V fs n ps = 0
  · rw [hpc] at HK
    have hCO : IsC V fs ∧ OkTo fs ps n := by
      rcases pcode_cases V fs n ps with ⟨hC, ho, _⟩ | ⟨_, _, h2, _⟩ | ⟨_, h2, _⟩
      · exact ⟨hC, ho⟩
      · rw [h2] at hpc; cases hpc
      · rw [h2] at hpc; cases hpc
    have hR : orderR V fs n ps = if acyB ps n then (ordL fs ps n, 0) else ([], 5) := by unfold orderR; rw [if_pos hpc]
    have HAc := hid (fun w1 h => isAcy_any a1 n cap1 ps w1 h hp hn hw (okTo_apart hCO.2) (okTo_highs hCO.1 hCO.2))
    cases hac : acyB ps n
    · refine res_mono (show flatR V fs n ps = ([], 5) by unfold flatR; rw [hR, hac]; rfl) ?_
      rw [hac] at HAc
      clear hpc hCO hp hw hR hac
      go_enter Try.func29, Try.ntmps29
      go_wp2_with fail
      refine HK.out.mono ?_
      rintro e w1 ⟨rfl, hB1⟩
      have HB1 := hid (hB0.trans (hB1.mono (by simp)))
      clear hB0 hB1
      go_wp2_with fail
      refine (HAc.out w1 (Hy.out.later HB1.out HB1.out.size)).mono ?_
      rintro e w2 ⟨rfl, hB2⟩
      go_wp2_with fail
      go_ret2
      exact ⟨_, rfl, res_nil _ _ (HB1.out.trans (hB2.mono HB1.out.size))⟩
    · refine res_mono (show flatR V fs n ps = (flatL fs ps n, 0) by unfold flatR; rw [hR, hac]; rfl) ?_
      have hno := acyB_no hac
      rw [hac] at HAc
      have hl63 := ordL_le hCO.1 hCO.2
      have h63 := hCO.1.len63
      have Hrng := hid hCO.1.range63
      have Hgr := hid (fun f (h : f ∈ fs) => grp_rngP hCO.1 hCO.2 h)
      have HG := hid (fun w1 (h : Below w.heap.size w w1) => ordered_any V a0 cap fs a1 n cap1 ps w1 (Hx.out.later h h.size) (Hy.out.later h h.size) hp hn hw hCO.1 hCO.2 hno)
      have hmm := @run_makeMap Try.prog
      clear hpc hCO hp hw hR hac hno
      go_enter Try.func29, Try.ntmps29
      go_wp2_with fail
      refine HK.out.mono ?_
      rintro e w1 ⟨rfl, hB1⟩
      have k0 : w1.cell? ⟨w.heap.size, 0, none⟩ = some (.int .i64 V) := (hB1.cell (p := ⟨w.heap.size, 0, none⟩) (by simp)).trans (by simp [go_sem])
      have k1 : w1.cell? ⟨w.heap.size, 1, none⟩ = some (.slice a0 fs.length cap) := (hB1.cell (p := ⟨w.heap.size, 1, none⟩) (by simp)).trans (by simp [go_sem])
      have hlt : w.heap.size < w1.heap.size := by have := hB1.size; simp at this; omega
      have HB1 := hid (hB0.trans (hB1.mono (by simp)))
      clear hB0 hB1
      go_wp2_with fail
      refine (HAc.out w1 (Hy.out.later HB1.out HB1.out.size)).mono ?_
      rintro e w2 ⟨rfl, hB2⟩
      have k0 := (hB2.cell (p := ⟨w.heap.size, 0, none⟩) hlt).trans k0
      have k1 := (hB2.cell (p := ⟨w.heap.size, 1, none⟩) hlt).trans k1
      have hlt2 : w.heap.size < w2.heap.size := by have := hB2.size; omega
      have HB2 := hid (HB1.out.trans (hB2.mono HB1.out.size))
      have K1 := hid k1
      clear hB2
      have HG2 := hid (HG.out (w2.alloc (.map #[] 0)) (HB2.out.alloc HB2.out.size _))
      go_wp2_with fail
      refine HG2.out.mono ?_
      rintro e w3 ⟨v, vs, Os, rfl, hown, hgs, hflat, hhd, hB3⟩
      clear hmm
      have hM3 : CntM w3 w2.heap.size 0 (fun _ => 0) := (CntM.made w2).kept (row := none) ⟨hB3.os, hB3.tape, hB3.output, hB3.size, fun q hq _ => hB3.block q hq⟩ (by simp)
      have hOl : Os.length ≤ 63 := by
        have := flat_len (Os := Os) (ps := ps) (n := n)
        rw [hflat] at this
        omega
      have HFl := hid (flat_groups hflat (fun f hf => (hhd f hf).2))
      have Hgrr := hid (fun f (hf : f ∈ Os) => Hgr.out f (hhd f hf).1)
      have HB3 := hid ((HB2.out.alloc HB2.out.size (.map #[] 0)).trans (hB3.mono (HB2.out.alloc HB2.out.size (.map #[] 0)).size))
      have K13 := hid ((hB3.cell (p := ⟨w.heap.size, 1, none⟩) (by simp; omega)).trans ((((Below.refl w2.heap.size w2).alloc (Nat.le_refl _) (.map #[] 0)).cell (p := ⟨w.heap.size, 1, none⟩) hlt2).trans K1.out))
      have hsz3 : w2.heap.size < w3.heap.size := hM3.lt
      obtain ⟨av, cv, rfl⟩ := ownsRow_form hown
      have hcs : ∀ t, t < Os.length → ∃ g b, av = some ⟨g, 0, none⟩ ∧ w2.heap.size < g ∧ g < w3.heap.size ∧ w3.cell? ⟨g, t, none⟩ = some (.slice (some ⟨b, 0, none⟩) (grpL ps n (Os[t]?.getD 0)).length (grpL ps n (Os[t]?.getD 0)).length) ∧ w2.heap.size < b ∧ b < w3.heap.size ∧ ∀ j, j < (grpL ps n (Os[t]?.getD 0)).length → w3.cell? ⟨b, j, none⟩ = some (.int .i64 ((grpL ps n (Os[t]?.getD 0))[j]?.getD 0)) := by
        intro t ht
        have hlv : vs.length = Os.length := by have := hown.1; omega
        obtain ⟨b, hb1, hb2, hb3⟩ := hgs.2 t (by simpa using ht)
        rw [show (Os.map (grpL ps n))[t]?.getD [] = grpL ps n (Os[t]?.getD 0) by simp [ht]] at hb1 hb3
        rcases hown.2 with ⟨h1, h2⟩ | ⟨g, cap, cur, h1, hgb, hg, _⟩
        · omega
        · injection h1 with h1 _ _
          subst h1
          refine ⟨g, b, rfl, by simp at hgb; omega, lt_of_get hg, ?_, by simp at hb2; omega, lt_of_get hb3, fun j hj => by simp [World.cell?, hb3, hj]⟩
          rw [hown.cellAt t (by omega), List.getElem?_eq_getElem (by omega)]
          rw [List.getElem?_eq_getElem (by omega), Option.getD_some] at hb1
          rw [hb1]
      have Hcs := hid hcs
      have HM3 := hid hM3
      clear hcs hown hgs hflat hhd hB3 hM3 k0 k1
      go_wp2_with fail
      go_loopw [29] (fun iv wx => ∃ t : Nat, t ≤ Os.length ∧ iv = .int .i64 t ∧ Hid (CntM wx w2.heap.size (2 * t) (asgL (asgT ps n Os t))) ∧ Hid (w3.grownBy wx (some w2.heap.size))) (fun iv _ => Os.length - (intOf iv).toNat)
      case atStart => exact ⟨0, Nat.zero_le _, rfl, HM3, hid ⟨rfl, rfl, rfl, Nat.le_refl _, fun _ _ _ => rfl⟩⟩
      case round =>
        clear HM3
        obtain ⟨t, ht, rfl, HM, HGr⟩ := hrel
        by_cases hlt3 : t < Os.length
        · obtain ⟨g, b, rfl, hg1, hg2, hc, hb1, hb2, hcc⟩ := Hcs.out t hlt3
          obtain ⟨gl, hgl⟩ : ∃ gl, gl = grpL ps n (Os[t]?.getD 0) := ⟨_, rfl⟩
          have hgl2 : gl.length ≤ 2 := by rw [hgl]; unfold grpL; split <;> simp
          have hgr := Hgrr.out _ (getD_mem hlt3)
          have HT : Hid (asgT ps n Os (t + 1) = asgT ps n Os t ++ gl.map fun x => (x, (t : Int))) := hid (by rw [hgl]; rfl)
          rw [← hgl] at hc hcc hgr
          have hcx : wr.cell? ⟨g, t, none⟩ = some (.slice (some ⟨b, 0, none⟩) gl.length gl.length) := HGr.out.cell hc (by simp; omega)
          have hi0 : (0 : Int) ≤ (t : Int) := by omega
          have hi1 : (t : Int) < (Os.length : Int) := by omega
          have Hcc := hid hcc
          have Hgrg := hid hgr
          have hwt : (Lit.int .i64 (t : Int)).wf = true := WalkArith.wf_i64 (by omega)
          have H0 : Hid (CntM wr w2.heap.size (2 * t + 0) (asgL (asgT ps n Os t ++ (gl.take 0).map fun x => (x, (t : Int))))) := hid (by simpa using HM.out)
          clear hc hcc hgl hgr HM
          go_wp2_with fail
          go_loopw [36] (fun jv wx => ∃ u : Nat, u ≤ gl.length ∧ jv = .int .i64 u ∧ Hid (CntM wx w2.heap.size (2 * t + u) (asgL (asgT ps n Os t ++ (gl.take u).map fun x => (x, (t : Int))))) ∧ Hid (w3.grownBy wx (some w2.heap.size))) (fun jv _ => gl.length - (intOf jv).toNat)
          case atStart => exact ⟨0, Nat.zero_le _, rfl, H0, HGr⟩
          case round =>
            clear H0 HGr hcx
            obtain ⟨u, hu, rfl, HM, HGr⟩ := hrel
            by_cases hlu : u < gl.length
            · obtain ⟨x, hx⟩ : ∃ x, x = gl[u]?.getD 0 := ⟨_, rfl⟩
              have hxr := Hgrg.out _ (getD_mem hlu)
              have hcu := Hcc.out u hlu
              rw [← hx] at hxr hcu
              have hcx : wr.cell? ⟨b, u, none⟩ = some (.int .i64 x) := HGr.out.cell hcu (by simp; omega)
              have hwx : (Lit.int .i64 x).wf = true := WalkArith.wf_i64 (by omega)
              have htk : gl.take (u + 1) = gl.take u ++ [x] := by rw [take_snoc hlu, hx]
              have hj0 : (0 : Int) ≤ (u : Int) := by omega
              have hj1 : (u : Int) < (gl.length : Int) := by omega
              obtain ⟨wa, hrun1, hwa, hga⟩ := HM.out.updateN (show 2 * t + u < maxLen by unfold maxLen; omega) hwx hwt
              rw [← asgL_snoc] at hwa
              have Hwa : Hid (CntM wa w2.heap.size (2 * t + (u + 1)) (asgL (asgT ps n Os t ++ (gl.take (u + 1)).map fun x => (x, (t : Int))))) := hid (by
                rw [htk, List.map_append, ← List.append_assoc]
                exact hwa)
              have Hga := hid (HGr.out.trans hga)
              clear hwa hga htk hx hxr hcu
              go_wp2_with fail
              go_roundw
              case rel => exact ⟨u + 1, by omega, by go_num, Hwa, Hga⟩
              case measure => simp [intOf]; omega
            · obtain rfl : u = gl.length := by omega
              rw [List.take_length, ← HT.out] at HM
              go_wp2_with fail
              go_roundw
              case rel =>
                refine ⟨t + 1, by omega, by go_num, hid ?_, HGr⟩
                obtain ⟨D, d0, ⟨es, clock, hh, hF, hle, hD⟩, d2⟩ := HM.out
                exact ⟨D, d0, ⟨es, clock, hh, hF, by omega, hD⟩, d2⟩
              case measure => simp [intOf]; omega
        · obtain rfl : t = Os.length := by omega
          obtain ⟨h, hh⟩ : ∃ h, h = asgL (asgT ps n Os Os.length) := ⟨_, rfl⟩
          rw [← hh] at HM HFl
          have k1 : wr.cell? ⟨w.heap.size, 1, none⟩ = some (.slice a0 fs.length cap) := HGr.out.cell K13.out (by simp; omega)
          have HB4 := hid (HB3.out.grown HGr.out HB3.out.size (fun r e => by injection e with e; have := HB2.out.size; omega))
          clear hh Hcs HGr
          go_wp2_with fail
          go_loopw [12, 48] (fun ov iv wx => ∃ (j : Nat) (v : Value), j ≤ fs.length ∧ ov = v ∧ iv = .int .i64 j ∧ Hid (wx.ownsRow wr.heap.size 2 1 v ((fs.take j).map h).length (((fs.take j).map h).map (Value.int .i64))) ∧ Hid (Below wr.heap.size wr wx)) (fun _ iv _ => fs.length - (intOf iv).toNat)
          case atStart => exact ⟨0, .slice none 0 0, Nat.zero_le _, rfl, rfl, hid (World.ownsRow_nil _ _ _ _), hid (Below.refl _ _)⟩
          case round =>
            obtain ⟨j, v, hj, rfl, rfl, HO, HB⟩ := hrel
            by_cases hltj : j < fs.length
            · obtain ⟨b, off, hb, rfl, hc⟩ : ∃ b off, b < w.heap.size ∧ a0 = some ⟨b, off, none⟩ ∧ ∀ i, i < fs.length → w.cell? ⟨b, off + i, none⟩ = some (.int .i64 (fs[i]?.getD 0)) := by
                rcases Hx.out with h | h
                · rw [h] at hltj; simp at hltj
                · exact h
              obtain ⟨y, hy⟩ : ∃ y, y = fs[j]?.getD 0 := ⟨_, rfl⟩
              have hyr := Hrng.out _ (getD_mem hltj)
              rw [← hy] at hyr
              have hck := (HB.out.cell (p := ⟨b, off + j, none⟩) (by have := HB4.out.size; show b < _; omega)).trans ((HB4.out.cell (p := ⟨b, off + j, none⟩) hb).trans (hc j hltj))
              rw [← hy] at hck
              have hwy : (Lit.int .i64 y).wf = true := WalkArith.wf_i64 (by omega)
              have hlk := (HM.out.kept (row := none) ⟨HB.out.os, HB.out.tape, HB.out.output, HB.out.size, fun q hq _ => HB.out.block q hq⟩ (by simp)).lookupN hwy
              have hx2 : (fs.take (j + 1)).map h = (fs.take j).map h ++ [h y] := by rw [take_snoc hltj, hy]; simp
              obtain ⟨xs, hxs⟩ : ∃ xs, xs = (fs.take j).map h := ⟨_, rfl⟩
              have hxl : xs.length ≤ 63 := by rw [hxs]; simp; omega
              rw [← hxs] at HO hx2
              have Hx2 := hid hx2
              have hi0 : (0 : Int) ≤ (j : Int) := by omega
              have hi1 : (j : Int) < (fs.length : Int) := by omega
              have hsz := HB.out.size
              clear hc hy hx2 hxs
              go_wp2_with (at_builtin; refine append_int rfl rfl HO.out hsz (by omega) rfl rfl ?_; intro v' w4 hown4 hgrow4 hB4)
              have Hown4 := hid hown4
              have HB5 := hid (HB.out.trans (hB4.mono (Nat.le_refl _)))
              clear hown4 hgrow4 hB4
              go_wp2_with fail
              go_roundw
              case rel => exact ⟨j + 1, v', by omega, rfl, by go_num, hid (by rw [Hx2.out]; exact Hown4.out), HB5⟩
              case measure => simp [intOf]; omega
            · obtain rfl : j = fs.length := by omega
              rw [List.take_length] at HO
              go_wp2_with fail
              go_ret2
              rw [HFl.out]
              exact ⟨_, rfl, ownsRow_base HO.out HB4.out.size, HB4.out.trans (HB.out.mono HB4.out.size)⟩
  · obtain ⟨c, hc⟩ : ∃ c, c = pcodeR V fs n ps := ⟨_, rfl⟩
    have hO2 : orderR V fs n ps = ([], c) := by unfold orderR; rw [if_neg hpc, hc]
    rw [← hc] at hpc HK
    refine res_mono (show flatR V fs n ps = ([], c) by unfold flatR; rw [hO2, if_neg hpc]) ?_
    have hcn : (c != 0) = true := by simpa using hpc
    clear hc hp hw hpc hO2
    go_enter Try.func29, Try.ntmps29
    go_wp2_with fail
    refine HK.out.mono ?_
    rintro e w1 ⟨rfl, hB1⟩
    go_wp2_with fail
    go_ret2
    exact ⟨_, rfl, res_nil _ _ (hB0.trans (hB1.mono (by simp)))⟩

end Go.Proofs.Ytgcpakhagbbiiaa

/-! The law on FlatFunction, walked. -/
namespace Go.Proofs.Ytgcpakhagbbiiaa
open Go.RowKit

set_option maxRecDepth 100000 in
set_option maxHeartbeats 8000000 in
theorem law_FlatFunction (V0 : Int) (a0 : Option Addr) (cap0 : Nat) (xs0 : List Int) (a1 : Option Addr) (n1 cap1 : Nat) (ps1 : List Int) (w : World) (hx0 : SlI w w.heap.size a0 xs0) (hx1 : SlI w w.heap.size a1 ps1) (hp1 : ps1.length = 2 * n1) (wp1 : ∀ x ∈ ps1, (Lit.int .i64 x).wf = true) (hn0 : xs0.length ≤ 9223372036854775807) (hn1 : n1 ≤ 9223372036854775807)  :
    Calls Try.prog 4 #[.agg #[.int .i64 V0, .slice a0 xs0.length cap0], .slice a1 n1 cap1] w fun e w' => e = .returned (.bool true) ∧ Below w.heap.size w w' := by
  have F0 : Book w w [(a0, xs0), (a1, ps1)] [] [] := ⟨Below.refl _ _, by simp; exact ⟨hx0, hx1⟩, by simp, by simp⟩
  have F0 := F0.alloc (.cells #[.int .i64 V0, .slice a0 xs0.length cap0] 24)
  (try simp only [World.size_alloc] at F0)
  have B0 := hid F0
  clear F0 hx0 hx1
  have Hp1 := hid hp1
  have Wp1 := hid wp1
  clear hp1 wp1
  obtain ⟨r0, hr0⟩ : ∃ r, r = szR 1048576 xs0.length := ⟨_, rfl⟩
  have Hr0 := hid hr0
  obtain ⟨r1, hr1⟩ : ∃ r, r = szR r0 n1 := ⟨_, rfl⟩
  have Hr1 := hid hr1
  by_cases hb0 : 1048576 < xs0.length
  · have hm0 : r0 = -1 := by rw [hr0]; exact szR_big (by omega)
    clear hb0
    clear hr0 hr1
    go_enter Try.func4, Try.ntmps4
    go_wp2_with fail
    refine (szCx V0 a0 xs0.length cap0 1048576 _ (by omega) (by omega) hn0).mono ?_
    rintro e s0 ⟨rfl, hB⟩
    have zs0 := hB.size
    (try simp only [World.size_alloc] at zs0)
    have B0 := hid (B0.out.below hB)
    clear hB
    rw [← Hr0.out]
    go_wp2_with fail
    go_ret
    exact ⟨rfl, B0.out.from0⟩
  · have hv0 : r0 = 1048576 - xs0.length := by rw [hr0, szR_fit (by omega)]
    have hg0 : 0 ≤ r0 := by omega
    have hu0 : r0 ≤ 1048576 := by omega
    have hl0 : xs0.length ≤ 1048576 := by omega
    clear hr0 hb0
    have Hv0 := hid hv0
    clear hv0
    by_cases hb1 : r0 < n1
    · have hm1 : r1 = -1 := by rw [hr1]; exact szR_big (by omega)
      clear hb1
      clear hr1
      go_enter Try.func4, Try.ntmps4
      go_wp2_with fail
      refine (szCx V0 a0 xs0.length cap0 1048576 _ (by omega) (by omega) hn0).mono ?_
      rintro e s0 ⟨rfl, hB⟩
      have zs0 := hB.size
      (try simp only [World.size_alloc] at zs0)
      have B0 := hid (B0.out.below hB)
      clear hB
      rw [← Hr0.out]
      go_wp2_with fail
      refine (szPairs a1 n1 cap1 r0 _ hg0 hu0 hn1).mono ?_
      rintro e s1 ⟨rfl, hs1⟩
      subst hs1
      rw [← Hr1.out]
      go_wp2_with fail
      go_ret
      exact ⟨rfl, B0.out.from0⟩
    · have hv1 : r1 = r0 - n1 := by rw [hr1, szR_fit (by omega)]
      have hg1 : 0 ≤ r1 := by omega
      have hu1 : r1 ≤ 1048576 := by omega
      have hl1 : n1 ≤ 1048576 := by omega
      clear hr1 hb1
      have Hv1 := hid hv1
      clear hv1
      obtain ⟨R, hR⟩ : ∃ R, R = flatR V0 xs0 n1 ps1 := ⟨_, rfl⟩
      have hRl : R.1.length ≤ 1048576 := by rw [hR]; exact flatR_len V0 xs0 n1 ps1 hl0 Hp1.out hl1
      obtain ⟨ys, c⟩ := R
      simp only at hRl
      have HS : Hid (∀ a0 cap0 a1 cap1 w', SlI w' w'.heap.size a0 xs0 → SlI w' w'.heap.size a1 ps1 → Calls Try.prog 28 #[.agg #[.int .i64 V0, .slice a0 xs0.length cap0], .slice a1 n1 cap1] w' fun e w'' => ∃ v, e = .returned (.tuple #[v, .int .i64 c]) ∧ Res w' w'' v ys) :=
        hid (fun a0 cap0 a1 cap1 w' hs0 hs1 => by have := specFlatFunction V0 a0 cap0 xs0 a1 n1 cap1 ps1 w' hs0 hs1 hl0 Hp1.out hl1 Wp1.out; rwa [← hR] at this)
      have HI : Hid (∀ a0 cap0 a1 cap1 w', SlI w' w'.heap.size a0 xs0 → SlI w' w'.heap.size a1 ps1 → Calls Try.prog 29 #[.agg #[.int .i64 V0, .slice a0 xs0.length cap0], .slice a1 n1 cap1] w' fun e w'' => ∃ v, e = .returned (.tuple #[v, .int .i64 c]) ∧ Res w' w'' v ys) :=
        hid (fun a0 cap0 a1 cap1 w' hs0 hs1 => by have := implFlatFunction V0 a0 cap0 xs0 a1 n1 cap1 ps1 w' hs0 hs1 hl0 Hp1.out hl1 Wp1.out; rwa [← hR] at this)
      have hcc : (c != c) = false := by simp
      clear hR
      go_enter Try.func4, Try.ntmps4
      go_wp2_with fail
      refine (szCx V0 a0 xs0.length cap0 1048576 _ (by omega) (by omega) hn0).mono ?_
      rintro e s0 ⟨rfl, hB⟩
      have zs0 := hB.size
      (try simp only [World.size_alloc] at zs0)
      have B0 := hid (B0.out.below hB)
      clear hB
      rw [← Hr0.out]
      go_wp2_with fail
      refine (szPairs a1 n1 cap1 r0 _ hg0 hu0 hn1).mono ?_
      rintro e s1 ⟨rfl, hs1⟩
      subst hs1
      rw [← Hr1.out]
      obtain ⟨q0, q1⟩ := B0.out.two (.head _)
      go_wp2_with fail
      clear q0 q1
      refine (toCx V0 a0 cap0 xs0 _ (B0.out.arg (.head _)) hl0).mono ?_
      rintro e u0 ⟨gu0, rfl, hown, hB⟩
      have zu0 := hB.size
      (try simp only [World.size_alloc] at zu0)
      have B0 := hid (B0.out.row hown hB)
      clear hown hB
      (try simp only [World.size_alloc] at B0)
      go_wp2_with fail
      refine (toPairs a1 n1 cap1 ps1 _ (B0.out.arg (.tail _ (.head _))) Hp1.out hl1).mono ?_
      rintro e u1 ⟨rfl, hown, hB⟩
      have zu1 := hB.size
      (try simp only [World.size_alloc] at zu1)
      have B0 := hid (B0.out.row hown hB)
      clear hown hB
      (try simp only [World.size_alloc] at B0)
      go_wp2_with fail
      refine (HS.out _ _ _ _ _ (B0.out.slI (.tail _ (.head _))) (B0.out.slI (.head _))).mono ?_
      rintro e u9 ⟨vw, rfl, hres⟩
      have zu9 := hres.2.size
      (try simp only [World.size_alloc] at zu9)
      obtain ⟨_, aw, cw, rfl, _⟩ := ownsRow_slI hres.1
      have B0 := hid (B0.out.row hres.1 hres.2)
      clear hres
      (try simp only [World.size_alloc] at B0)
      obtain ⟨q0, q1⟩ := B0.out.two (.head _)
      go_wp2_with fail
      clear q0 q1
      refine (toCx V0 a0 cap0 xs0 _ (B0.out.arg (.head _)) hl0).mono ?_
      rintro e x0 ⟨gx0, rfl, hown, hB⟩
      have zx0 := hB.size
      (try simp only [World.size_alloc] at zx0)
      have B0 := hid (B0.out.row hown hB)
      clear hown hB
      (try simp only [World.size_alloc] at B0)
      have B0 := hid (B0.out.alloc (.cells #[.int .i64 V0, .slice (some ⟨gx0, 0, none⟩) xs0.length xs0.length] 30))
      go_wp2_with fail
      refine (toPairs a1 n1 cap1 ps1 _ (B0.out.arg (.tail _ (.head _))) Hp1.out hl1).mono ?_
      rintro e x1 ⟨rfl, hown, hB⟩
      have zx1 := hB.size
      (try simp only [World.size_alloc] at zx1)
      have B0 := hid (B0.out.row hown hB)
      clear hown hB
      (try simp only [World.size_alloc] at B0)
      obtain ⟨p00, p01⟩ := B0.out.two (.head _)
      go_wp2_with fail
      clear p00 p01
      refine (HI.out _ _ _ _ _ (B0.out.slI (.tail _ (.head _))) (B0.out.slI (.head _))).mono ?_
      rintro e v9 ⟨vg, rfl, hres⟩
      have zv9 := hres.2.size
      (try simp only [World.size_alloc] at zv9)
      obtain ⟨_, ag, cg, rfl, _⟩ := ownsRow_slI hres.1
      have B0 := hid (B0.out.row hres.1 hres.2)
      clear hres
      (try simp only [World.size_alloc] at B0)
      go_wp2_with fail
      refine (eqInts_yes _ _ _ _ ys ys _ (B0.out.slI (.head _)) (B0.out.slI (.tail _ (.tail _ (.tail _ (.head _))))) hRl hRl rfl).mono ?_
      rintro e e1 ⟨rfl, hB⟩
      have ze1 := hB.size
      (try simp only [World.size_alloc] at ze1)
      have B0 := hid (B0.out.below hB)
      clear hB
      obtain ⟨lxb00, lxb01⟩ := B0.out.two (.head _)
      obtain ⟨lk00, lk01⟩ := B0.out.two (.tail _ (.head _))
      go_wp2_with fail
      go_region_with (first
        | (go_at_call 18; refine (toCx V0 a0 cap0 xs0 _ (B0.out.drew.arg (.head _)) hl0).mono ?_; rintro e f0 ⟨gf0, rfl, hown, hB⟩; have zf0 := hB.size; have C0 := hid (B0.out.drew.row hown hB); clear hown hB; obtain ⟨m00, m01⟩ := C0.out.two (.head _))
        | (go_at_call 22; refine (eqCx_yes V0 _ _ _ _ xs0 xs0 _ (C0.out.slI (.tail _ (.tail _ (.tail _ (.head _))))) (C0.out.slI (.head _)) hl0 hl0 rfl).mono ?_; rintro e h0 ⟨rfl, hB⟩))
      all_goals
        have zh0 := hB.size
        have D0 := hid (C0.out.below hB)
        clear hB C0 B0 m00 m01
        clear lxb00 lxb01
        clear lk00 lk01
        have B0 := D0
        clear D0
        skip
        go_wp2_with fail
        refine (toPairs a1 n1 cap1 ps1 _ (B0.out.arg (.tail _ (.head _))) Hp1.out hl1).mono ?_
        rintro e f1 ⟨rfl, hown, hB⟩
        have zf1 := hB.size
        (try simp only [World.size_alloc] at zf1)
        have B0 := hid (B0.out.row hown hB)
        clear hown hB
        (try simp only [World.size_alloc] at B0)
        go_wp2_with fail
        refine (eqPairs_yes _ _ n1 _ _ ps1 _ (B0.out.slI (.tail _ (.tail _ (.tail _ (.head _))))) (B0.out.slI (.head _)) Hp1.out hl1).mono ?_
        rintro e h1 ⟨rfl, hB⟩
        have zh1 := hB.size
        (try simp only [World.size_alloc] at zh1)
        have B0 := hid (B0.out.below hB)
        clear hB
        (try simp only [World.size_alloc] at B0)
        have B0 := hid (B0.out.only (bs' := _) (L' := [⟨u9.heap.size, x0.heap.size, 2, 1, xs0.length, .slice (some ⟨gx0, 0, none⟩) xs0.length xs0.length, xs0⟩, ⟨x0.heap.size + 1, x1.heap.size, 69, 2, n1, .slice (some ⟨x0.heap.size + 1, 0, none⟩) n1 n1, ps1⟩, ⟨x1.heap.size, v9.heap.size, 2, 1, ys.length, .slice ag ys.length cg, ys⟩, ⟨u1.heap.size, u9.heap.size, 2, 1, ys.length, .slice aw ys.length cw, ys⟩]) (fun _ h => h) (by simp))
        obtain ⟨lxb00, lxb01⟩ := B0.out.two (.head _)
        go_wp2_with fail
        clear lxb00 lxb01
        refine (markCx V0 _ _ _ xs0 (1) _ (B0.out.own (.head _)) hl0 (by omega) (by omega)).mono ?_
        rintro e m0 ⟨rfl, hown, hg⟩
        have zm0 := hg.size
        (try simp only [World.size_alloc] at zm0)
        have B0 := hid (B0.out.mark (ys := count (1) xs0.length) (L' := [⟨x0.heap.size + 1, x1.heap.size, 69, 2, n1, .slice (some ⟨x0.heap.size + 1, 0, none⟩) n1 n1, ps1⟩, ⟨x1.heap.size, v9.heap.size, 2, 1, ys.length, .slice ag ys.length cg, ys⟩, ⟨u1.heap.size, u9.heap.size, 2, 1, ys.length, .slice aw ys.length cw, ys⟩]) (.head _) hown hg (by simp only; omega) (by simp; omega) (by simp <;> omega))
        clear hown hg
        go_wp2_with fail
        refine (markPairs _ _ _ _ ps1 (1 + xs0.length) _ (B0.out.own (.head _)) hl1 (by omega) (by omega)).mono ?_
        rintro e m1 ⟨rfl, hown, hg⟩
        have zm1 := hg.size
        (try simp only [World.size_alloc] at zm1)
        have B0 := hid (B0.out.mark (ys := count (1 + xs0.length) (n1 * 2)) (L' := [⟨x1.heap.size, v9.heap.size, 2, 1, ys.length, .slice ag ys.length cg, ys⟩, ⟨u1.heap.size, u9.heap.size, 2, 1, ys.length, .slice aw ys.length cw, ys⟩]) (.head _) hown hg (by simp only; omega) (by simp; omega) (by simp <;> omega))
        clear hown hg
        go_wp2_with fail
        refine (eqInts_yes _ _ _ _ ys ys _ (B0.out.slI (.head _)) (B0.out.slI (.tail _ (.head _))) hRl hRl rfl).mono ?_
        rintro e e2 ⟨rfl, hB⟩
        have ze2 := hB.size
        (try simp only [World.size_alloc] at ze2)
        have B0 := hid (B0.out.below hB)
        clear hB
        go_wp2_with fail
        refine (markInts _ _ _ ys 1 _ (B0.out.own (.head _)) hRl (by omega) (by omega)).mono ?_
        rintro e m8 ⟨rfl, hown, hg⟩
        have zm8 := hg.size
        (try simp only [World.size_alloc] at zm8)
        have B0 := hid (B0.out.mark (ys := count 1 ys.length) (L' := [⟨x1.heap.size, v9.heap.size, 2, 1, ys.length, .slice ag ys.length cg, count 1 ys.length⟩, ⟨u1.heap.size, u9.heap.size, 2, 1, ys.length, .slice aw ys.length cw, ys⟩]) (.head _) hown hg (by simp only; omega) (by simp; omega) (by simp <;> omega))
        clear hown hg
        go_wp2_with fail
        refine (heldInts _ _ ys.length _ 1 _ rfl (B0.out.slI (.head _)) hRl (by omega) (by omega)).mono ?_
        rintro e t1 ⟨rfl, hB⟩
        have zt1 := hB.size
        (try simp only [World.size_alloc] at zt1)
        have B0 := hid (B0.out.below hB)
        clear hB
        have hnn : ((1 : Int) + ys.length != 1 + ys.length) = false := by simp
        obtain ⟨q0, q1⟩ := B0.out.two (.tail _ (.head _))
        go_wp2_with fail
        clear q0 q1
        refine (toCx V0 a0 cap0 xs0 _ (B0.out.arg (.head _)) hl0).mono ?_
        rintro e y0 ⟨gy0, rfl, hown, hB⟩
        have zy0 := hB.size
        (try simp only [World.size_alloc] at zy0)
        have B0 := hid (B0.out.row hown hB)
        clear hown hB
        (try simp only [World.size_alloc] at B0)
        go_wp2_with fail
        refine (toPairs a1 n1 cap1 ps1 _ (B0.out.arg (.tail _ (.head _))) Hp1.out hl1).mono ?_
        rintro e y1 ⟨rfl, hown, hB⟩
        have zy1 := hB.size
        (try simp only [World.size_alloc] at zy1)
        have B0 := hid (B0.out.row hown hB)
        clear hown hB
        (try simp only [World.size_alloc] at B0)
        go_wp2_with fail
        refine (HI.out _ _ _ _ _ (B0.out.slI (.tail _ (.head _))) (B0.out.slI (.head _))).mono ?_
        rintro e t2 ⟨vh, rfl, hres⟩
        have zt2 := hres.2.size
        (try simp only [World.size_alloc] at zt2)
        obtain ⟨_, ah, ch, rfl, _⟩ := ownsRow_slI hres.1
        have B0 := hid (B0.out.row hres.1 hres.2)
        clear hres
        (try simp only [World.size_alloc] at B0)
        go_wp2_with fail
        refine (eqInts_yes _ _ _ _ ys ys _ (B0.out.slI (.head _)) (B0.out.slI (.tail _ (.tail _ (.tail _ (.tail _ (.head _)))))) hRl hRl rfl).mono ?_
        rintro e t3 ⟨rfl, hB⟩
        have zt3 := hB.size
        (try simp only [World.size_alloc] at zt3)
        have B0 := hid (B0.out.below hB)
        clear hB
        go_wp2_with fail
        refine (heldInts _ _ ys.length _ 1 _ rfl (B0.out.slI (.tail _ (.tail _ (.tail _ (.head _))))) hRl (by omega) (by omega)).mono ?_
        rintro e t4 ⟨rfl, hB⟩
        have zt4 := hB.size
        (try simp only [World.size_alloc] at zt4)
        have B0 := hid (B0.out.below hB)
        clear hB
        go_wp2_with fail
        go_ret
        exact ⟨rfl, B0.out.from0⟩

end Go.Proofs.Ytgcpakhagbbiiaa
