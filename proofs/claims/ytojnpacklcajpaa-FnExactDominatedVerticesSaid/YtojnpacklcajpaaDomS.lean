import Derived.Test.YtojnpacklcajpaaDomI
import Derived.Test.YtojnpacklcajpaaSpecC
/-! DominatedVertices, the model's, and the program's door. -/
namespace Go.Proofs.Ytojnpacklcajpaa
open Go.RowKit

theorem domR_mono {P : Program} {f : FuncId} {args : Array Value} {w : World} {r : List Int × Int} {xs : List Int} {c : Int} (hr : r = (xs, c))
    (h : Calls P f args w fun e w' => ∃ v, e = .returned (.tuple #[v, .int .i64 c]) ∧ Res w w' v xs) : Calls P f args w fun e w' => ∃ v, e = .returned (.tuple #[v, .int .i64 r.2]) ∧ Res w w' v r.1 := by
  subst hr; exact h

theorem comS_le (A b : Nat) : ∀ F : List Int, comS A b F ≤ A := by
  intro F
  unfold comS
  have key : ∀ (F : List Int) (c : Nat), F.foldl (comStepS b) c ≤ c := by
    intro F
    induction F with
    | nil => intro c; exact Nat.le_refl _
    | cons x F ih =>
      intro c
      refine Nat.le_trans (ih _) ?_
      unfold comStepS
      split
      · exact Nat.le_refl _
      · exact Nat.and_le_left
  exact key F A

set_option maxRecDepth 100000 in
set_option maxHeartbeats 4000000 in
/-- The model's l05Dominated. -/
theorem ldom_any (V : Nat) (a0 : Option Addr) (cap : Nat) (fs : List Int) (w : World) (hx : SlI w w.heap.size a0 fs) (hl : fs.length ≤ 1048576) (hC : IsC (V : Int) fs) :
    Calls Try.prog 67 #[.agg #[.int .i64 (V : Int), .slice a0 fs.length cap]] w fun e w' => ∃ v, e = .returned v ∧ Res w w' v (domL V fs V) := by
  have hB0 : Below w.heap.size w (w.alloc (.cells #[.int .i64 (V : Int), .slice a0 fs.length cap] 29)) := (Below.refl _ w).alloc (Nat.le_refl _) _
  have Hx := hid (hx.later hB0 hB0.size)
  have Hx0 := hid hx
  have HC := hid hC
  have hV : V ≤ 6 := by have := hC.hi; omega
  have Hf := hid hC.range63
  have Hfr : Hid (∀ x ∈ facetsL fs, 1 ≤ x ∧ x ≤ 63) := hid (fun x hx => hC.range63 x (facetsL_sub hx))
  have hFl : (facetsL fs).length ≤ 1048576 := Nat.le_trans (List.length_filter_le _ _) hl
  obtain ⟨F, hFF⟩ : ∃ F, F = facetsL fs := ⟨_, rfl⟩
  rw [← hFF] at Hfr hFl
  have HFF := hid hFF
  clear hC hFF hx
  go_enter Try.func67, Try.ntmps67
  go_wp2_with fail
  refine (facets_any (V : Int) a0 cap fs _ Hx.out hl Hf.out).mono ?_
  rintro e w1 ⟨v1, rfl, hr1⟩
  rw [← HFF.out] at hr1
  obtain ⟨_, aF, cF, rfl, _⟩ := ownsRow_slI hr1.1
  have q0 : w1.heap[w.heap.size]? = some (.cells #[.int .i64 (V : Int), .slice a0 fs.length cap] 29 (0, 0)) := (hr1.2.block _ (by simp)).trans (heap_alloc_new _ _)
  have HF1 := hid (owned_slI hr1.1)
  have HB1 := hid (hB0.trans (hr1.2.mono (by simp)))
  have hs1 : Hid (w.heap.size + 1 ≤ w1.heap.size) := hid (lt_get q0)
  have Q0 := hid q0
  have hown0 := World.ownsRow_made (base := w1.heap.size) (e := 2) (size := 1) w1 #[] 0 (by simp) (by simp [maxLen]) rfl
  have Hown0 := hid hown0
  clear hB0 hr1 q0 hown0
  go_wp2_with fail
  go_loopg [4, 5] V (fun g p i wr => ∃ k : Nat, k + g = V ∧ i = .int .i64 k ∧ wr.ownsRow w1.heap.size 2 1 p (domL V fs k).length ((domL V fs k).map (Value.int .i64)) ∧ Below w1.heap.size w1 wr)
  case atStart => exact ⟨0, by omega, rfl, by simpa [domL] using Hown0.out, (Below.refl _ _).alloc (Nat.le_refl _) _⟩
  case round =>
    clear Hown0
    obtain ⟨k, hkg, rfl, hown, hB⟩ := hrel
    have hs := hs1.out
    obtain ⟨k0, k1, _, _⟩ := two_of ((hB.block _ (by omega)).trans Q0.out)
    have hBW := HB1.out.trans (hB.mono (by omega))
    have hsz := hB.size
    cases gk with
    | zero =>
      obtain rfl : k = V := by omega
      go_wp2
      go_ret
      exact ⟨_, rfl, ownsRow_base hown (by omega), hBW⟩
    | succ g =>
      have hk : k < V := by omega
      have hp := pow_wrap (v := k) (by omega)
      have hb64 := pow6 hk hV
      have hdl : (domL V fs k).length ≤ 1048576 := by have := domL_len V fs k; omega
      have Hn := hid (fun c h => domL_succ V fs k c h)
      have Hown := hid hown
      have HB := hid hB
      have HBW := hid hBW
      have HxW := hid (Hx0.out.later hBW hBW.size)
      obtain ⟨D, hD⟩ : ∃ D, D = domL V fs k := ⟨_, rfl⟩
      rw [← hD] at Hown hdl Hn
      obtain ⟨b, hb⟩ : ∃ b : Nat, b = 2 ^ k := ⟨_, rfl⟩
      have Hdb : Hid (domB V fs k = (decide ((b : Int) ∈ fs) && decide (comS (2 ^ V - 1) b F ≠ b))) := hid (by rw [HFF.out, hb]; rfl)
      rw [← hb] at hp hb64
      have Hp := hid hp
      clear hown hB hBW hD hb hp
      by_cases hm : (b : Int) ∈ fs
      · have HM := hid hm
        rw [decide_eq_true hm, Bool.true_and] at Hdb
        clear hm
        go_wp2_with fail
        rw [Hp.out]
        refine (has_yes (V : Int) (b : Int) a0 cap fs _ HxW.out hl HM.out).mono ?_
        rintro e w2 ⟨rfl, hB2⟩
        have k02 := (hB2.cell (p := ⟨w.heap.size, 0, none⟩) (by show w.heap.size < _; omega)).trans k0
        have hs2 := hB2.size
        have HB2 := hid hB2
        clear hB2 k0 k1
        go_wp2_with fail
        refine (all_any (V : Int) _ (by omega) (by omega)).mono ?_
        rintro e u ⟨rfl, rfl⟩
        have hA : allV (V : Int) = ((2 ^ V - 1 : Nat) : Int) := by
          unfold allV
          rw [Int.toNat_natCast]
          have h1 := Nat.one_le_two_pow (n := V)
          have h2 : ((2 : Int) ^ V) = ((2 ^ V : Nat) : Int) := by simp
          rw [h2]
          omega
        rw [hA]
        have hA64 : 2 ^ V - 1 < 64 := by
          have : V = 0 ∨ V = 1 ∨ V = 2 ∨ V = 3 ∨ V = 4 ∨ V = 5 ∨ V = 6 := by omega
          rcases this with h | h | h | h | h | h | h <;> subst h <;> decide
        have Hcl := hid (fun F' => Nat.lt_of_le_of_lt (comS_le (2 ^ V - 1) b F') hA64)
        have HFw := hid (HF1.out.later (HB.out.trans (HB2.out.mono hsz)) (by omega))
        have Hown2 := hid (ownsRow_below Hown.out HB2.out (fun g hg => (Hown.out.lt g hg).2))
        obtain ⟨A, hAA⟩ : ∃ A, A = 2 ^ V - 1 := ⟨_, rfl⟩
        rw [← hAA] at Hcl Hdb
        rw [← hAA]
        obtain ⟨w3, hw3⟩ : ∃ w3, w3 = w2 := ⟨_, rfl⟩
        clear hA hA64 hAA k02 Hown
        go_wp2_with fail
        go_loopg [7, 8] F.length (fun g2 p i wx => ∃ j : Nat, j + g2 = F.length ∧ p = .int .i64 (comS A b (F.take j) : Int) ∧ i = .int .i64 j ∧ wx = w3)
        case atStart => exact ⟨0, by omega, rfl, rfl, hw3.symm⟩
        case round =>
          obtain ⟨j, hjg, rfl, rfl, rfl⟩ := hrel
          subst hw3
          cases gk with
          | zero =>
            obtain rfl : j = F.length := by omega
            rw [List.take_of_length_le (Nat.le_refl _)]
            have hcl := Hcl.out F
            by_cases hc : comS A b F = b
            · have HD := hid (Hn.out false (by rw [Hdb.out, hc]; simp))
              have hd : ((comS A b F : Int) != (b : Int)) = false := by simp [hc]
              clear hc
              go_wp2
              go_roundg g
              case measure => omega
              case rel => exact ⟨k + 1, by omega, by go_num, by rw [HD.out]; simpa using Hown2.out, HB.out.trans (HB2.out.mono hsz)⟩
            · have HD := hid (Hn.out true (by rw [Hdb.out]; simpa using hc))
              have hd : ((comS A b F : Int) != (b : Int)) = true := by simp; omega
              have hown2 := Hown2.out
              clear hc
              go_wp2_with (at_builtin; refine append_int rfl rfl hown2 (by omega) (by omega) rfl rfl ?_; intro v' w4 hown3 hgrow3 hB3)
              go_roundg g
              case measure => omega
              case rel => exact ⟨k + 1, by omega, by go_num, by rw [HD.out]; exact hown3, (HB.out.trans (HB2.out.mono hsz)).trans hB3⟩
          | succ g2 =>
            have hlt : j < F.length := by omega
            obtain ⟨b1, off, hb1, rfl, hc⟩ : ∃ b1 off, b1 < wr.heap.size ∧ aF = some ⟨b1, off, none⟩ ∧ ∀ i, i < F.length → wr.cell? ⟨b1, off + i, none⟩ = some (.int .i64 (F[i]?.getD 0)) := by
              rcases HFw.out with rfl | h
              · simp at hlt
              · exact h
            obtain ⟨x, hx⟩ : ∃ x : Nat, (x : Int) = F[j]?.getD 0 := ⟨(F[j]?.getD 0).toNat, by have := Hfr.out _ (getD_mem hlt); omega⟩
            have hxr := Hfr.out _ (getD_mem hlt)
            rw [← hx] at hxr
            have hx64 : x < 64 := by omega
            have hck : wr.cell? ⟨b1, off + j, none⟩ = some (.int .i64 (x : Int)) := by rw [hx]; exact hc j hlt
            have hi0 : (0 : Int) ≤ (j : Int) := by omega
            have hi1 : (j : Int) < (F.length : Int) := by omega
            have hclt := Hcl.out (F.take j)
            have hand := and_int64 hx64 hb64
            have Hs : Hid (comS A b (F.take (j + 1)) = comStepS b (comS A b (F.take j)) (x : Int)) := hid (by rw [take_snoc hlt, comS_snoc, ← hx])
            obtain ⟨c, hcc⟩ : ∃ c, c = comS A b (F.take j) := ⟨_, rfl⟩
            rw [← hcc] at hclt Hs ⊢
            have hand2 := and_int64 hclt hx64
            unfold comStepS at Hs
            rw [Int.toNat_natCast] at Hs
            clear hx hc hcc
            by_cases h0 : x &&& b = 0
            · have hd : (((x &&& b : Nat) : Int) != 0) = false := by simp [h0]
              have HP := hid (Hs.out.trans (by rw [if_pos h0]))
              clear h0 Hs
              go_wp2
              go_roundg g2
              case measure => omega
              case rel => exact ⟨j + 1, by omega, by rw [HP.out], by go_num, by trivial⟩
            · have hd : (((x &&& b : Nat) : Int) != 0) = true := by simp; omega
              have HP := hid (Hs.out.trans (by rw [if_neg h0]))
              clear h0 Hs
              go_wp2
              go_roundg g2
              case measure => omega
              case rel => exact ⟨j + 1, by omega, by rw [HP.out], by go_num, by trivial⟩
      · have HD := hid (Hn.out false (by rw [Hdb.out, decide_eq_false hm]; rfl))
        go_wp2_with (go_at_call 64; rw [Hp.out]; refine (has_no (V : Int) (b : Int) a0 cap fs _ HxW.out hl hm).mono ?_; rintro e w2 ⟨rfl, hB2⟩; have hs2 := hB2.size; have HB2 := hid hB2; clear hB2)
        go_roundg g
        case measure => omega
        case rel => exact ⟨k + 1, by omega, by go_num, by rw [HD.out]; simpa using ownsRow_below Hown.out HB2.out (fun g hg => (Hown.out.lt g hg).2), HB.out.trans (HB2.out.mono hsz)⟩

theorem specDominatedVertices (V : Int) (a : Option Addr) (cap : Nat) (fs : List Int) (w : World) (hx : SlI w w.heap.size a fs) (hl : fs.length ≤ 1048576) :
    Calls Try.prog 33 #[.agg #[.int .i64 V, .slice a fs.length cap]] w fun e w' => ∃ v, e = .returned (.tuple #[v, .int .i64 (domR V fs).2]) ∧ Res w w' v (domR V fs).1 := by
  have hB0 : Below w.heap.size w (w.alloc (.cells #[.int .i64 V, .slice a fs.length cap] 29)) := (Below.refl _ w).alloc (Nat.le_refl _) _
  have Hx := hid (hx.later hB0 hB0.size)
  by_cases hC : IsC V fs
  · obtain ⟨vn, rfl⟩ : ∃ vn : Nat, V = vn := ⟨V.toNat, by have := hC.lo; omega⟩
    refine domR_mono (show domR (vn : Int) fs = (domL vn fs vn, 0) by unfold domR; rw [isCB_true hC, if_pos rfl, Int.toNat_natCast]) ?_
    have HC := hid hC
    clear hC
    go_enter Try.func33, Try.ntmps33
    go_wp2_with fail
    refine (is_yes (vn : Int) a cap fs _ Hx.out hl HC.out).mono ?_
    rintro e w1 ⟨rfl, hB1⟩
    have k0 : w1.cell? ⟨w.heap.size, 0, none⟩ = some (.int .i64 vn) := (hB1.cell (p := ⟨w.heap.size, 0, none⟩) (by simp)).trans (by simp [go_sem])
    have k1 : w1.cell? ⟨w.heap.size, 1, none⟩ = some (.slice a fs.length cap) := (hB1.cell (p := ⟨w.heap.size, 1, none⟩) (by simp)).trans (by simp [go_sem])
    have hB01 := hB0.trans (hB1.mono (by simp))
    have hx1 := hid (hx.later hB01 hB01.size)
    go_wp2_with fail
    refine (ldom_any vn a cap fs _ hx1.out hl HC.out).mono ?_
    rintro e w2 ⟨v, rfl, hr⟩
    obtain ⟨_, av, cv, rfl, _⟩ := ownsRow_slI hr.1
    go_wp2_with fail
    go_ret2
    exact ⟨_, rfl, hr.later hB01⟩
  · refine domR_mono (show domR V fs = ([], 1) by unfold domR; rw [isCB_false hC, if_neg (by simp)]) ?_
    go_enter Try.func33, Try.ntmps33
    go_wp2_with fail
    refine (is_no V a cap fs _ Hx.out hl hC).mono ?_
    rintro e w1 ⟨rfl, hB1⟩
    go_wp2_with fail
    go_ret2
    exact ⟨_, rfl, res_nil _ _ (hB0.trans (hB1.mono (by simp)))⟩

theorem implDominatedVertices (V : Int) (a : Option Addr) (cap : Nat) (fs : List Int) (w : World) (hx : SlI w w.heap.size a fs) (hl : fs.length ≤ 1048576) :
    Calls Try.prog 34 #[.agg #[.int .i64 V, .slice a fs.length cap]] w fun e w' => ∃ v, e = .returned (.tuple #[v, .int .i64 (domR V fs).2]) ∧ Res w w' v (domR V fs).1 := by
  have hB0 : Below w.heap.size w (w.alloc (.cells #[.int .i64 V, .slice a fs.length cap] 29)) := (Below.refl _ w).alloc (Nat.le_refl _) _
  have Hx := hid (hx.later hB0 hB0.size)
  by_cases hC : IsC V fs
  · obtain ⟨vn, rfl⟩ : ∃ vn : Nat, V = vn := ⟨V.toNat, by have := hC.lo; omega⟩
    refine domR_mono (show domR (vn : Int) fs = (domL vn fs vn, 0) by unfold domR; rw [isCB_true hC, if_pos rfl, Int.toNat_natCast]) ?_
    have HC := hid hC
    clear hC
    go_enter Try.func34, Try.ntmps34
    go_wp2_with fail
    refine (isc_yes (vn : Int) a cap fs _ Hx.out hl HC.out).mono ?_
    rintro e w1 ⟨rfl, hB1⟩
    have k0 : w1.cell? ⟨w.heap.size, 0, none⟩ = some (.int .i64 vn) := (hB1.cell (p := ⟨w.heap.size, 0, none⟩) (by simp)).trans (by simp [go_sem])
    have k1 : w1.cell? ⟨w.heap.size, 1, none⟩ = some (.slice a fs.length cap) := (hB1.cell (p := ⟨w.heap.size, 1, none⟩) (by simp)).trans (by simp [go_sem])
    have hB01 := hB0.trans (hB1.mono (by simp))
    have hx1 := hid (hx.later hB01 hB01.size)
    go_wp2_with fail
    refine (doms_any vn a cap fs _ hx1.out hl HC.out).mono ?_
    rintro e w2 ⟨v, rfl, hr⟩
    obtain ⟨_, av, cv, rfl, _⟩ := ownsRow_slI hr.1
    go_wp2_with fail
    go_ret2
    exact ⟨_, rfl, hr.later hB01⟩
  · refine domR_mono (show domR V fs = ([], 1) by unfold domR; rw [isCB_false hC, if_neg (by simp)]) ?_
    go_enter Try.func34, Try.ntmps34
    go_wp2_with fail
    refine (isc_no V a cap fs _ Hx.out hl hC).mono ?_
    rintro e w1 ⟨rfl, hB1⟩
    go_wp2_with fail
    go_ret2
    exact ⟨_, rfl, res_nil _ _ (hB0.trans (hB1.mono (by simp)))⟩

end Go.Proofs.Ytojnpacklcajpaa
