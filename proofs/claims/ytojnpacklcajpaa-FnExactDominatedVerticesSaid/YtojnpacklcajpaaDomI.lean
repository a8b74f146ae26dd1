import Derived.Test.YtojnpacklcajpaaDomM
import Derived.Test.YtojnpacklcajpaaFacetsI
import Derived.Deep.LoopGhost
/-! DominatedVertices, the program's. -/
namespace Go.Proofs.Ytojnpacklcajpaa
open Go.RowKit

set_option maxRecDepth 100000 in
set_option maxHeartbeats 2000000 in
theorem isdom_any (a : Option Addr) (cap : Nat) (F : List Int) (b : Nat) (w : World) (hx : SlI w w.heap.size a F) (hl : F.length ≤ 1048576) (hf : ∀ x ∈ F, 1 ≤ x ∧ x ≤ 63) (hb : b < 64) :
    Calls Try.prog 101 #[.slice a F.length cap, .int .i64 (b : Int)] w fun e w' => e = .returned (.bool (bits BinOp.andNot IntKind.i64 (comI b F : Int) (b : Int) != 0)) ∧ w = w' := by
  have Hx := hid hx
  have Hf := hid hf
  clear hx hf
  go_enter Try.func101, Try.ntmps101
  go_wp2
  go_loopw [5, 10] (fun p i wx => ∃ k : Nat, k ≤ F.length ∧ p = .int .i64 (comI b (F.take k) : Int) ∧ i = .int .i64 k ∧ wx = w) (fun _ i _ => F.length - (intOf i).toNat)
  case atStart => exact ⟨0, Nat.zero_le _, rfl, rfl, rfl⟩
  case round =>
    obtain ⟨k, hk, rfl, rfl, rfl⟩ := hrel
    by_cases hlt : k < F.length
    · obtain ⟨b1, off, hb1, rfl, hc⟩ : ∃ b off, b < wr.heap.size ∧ a = some ⟨b, off, none⟩ ∧ ∀ i, i < F.length → wr.cell? ⟨b, off + i, none⟩ = some (.int .i64 (F[i]?.getD 0)) := by
        rcases Hx.out with rfl | h
        · simp at hlt
        · exact h
      obtain ⟨x, hx⟩ : ∃ x : Nat, (x : Int) = F[k]?.getD 0 := ⟨(F[k]?.getD 0).toNat, by have := Hf.out _ (getD_mem hlt); omega⟩
      have hxr := Hf.out _ (getD_mem hlt)
      rw [← hx] at hxr
      have hx64 : x < 64 := by omega
      have hck : wr.cell? ⟨b1, off + k, none⟩ = some (.int .i64 (x : Int)) := by rw [hx]; exact hc k hlt
      have hi0 : (0 : Int) ≤ (k : Int) := by omega
      have hi1 : (k : Int) < (F.length : Int) := by omega
      have hclt := comI_lt (b := b) (F := F.take k) (fun x hx => Hf.out x (List.take_subset _ _ hx))
      have hand := and_int64 hx64 hb
      have Hn : Hid (comI b (F.take (k + 1)) = comStepI b (comI b (F.take k)) (x : Int)) := hid (by rw [take_snoc hlt, comI_snoc, ← hx])
      obtain ⟨c, hcc⟩ : ∃ c, c = comI b (F.take k) := ⟨_, rfl⟩
      rw [← hcc] at hclt Hn ⊢
      have hand2 := and_int64 hclt hx64
      have hand3 := and_int64 hx64 hx64
      rw [Nat.and_self] at hand3
      unfold comStepI at Hn
      rw [Int.toNat_natCast] at Hn
      clear hx hc hcc
      by_cases h0 : x &&& b = 0
      · have hd : (((x &&& b : Nat) : Int) == 0) = true := by simp [h0]
        have HP := hid (Hn.out.trans (by rw [if_pos h0]))
        clear h0 Hn
        go_wp2
        go_roundw
        case rel => exact ⟨k + 1, by omega, by rw [HP.out], by go_num, by trivial⟩
        case measure => simp [intOf]; omega
      · have hd : (((x &&& b : Nat) : Int) == 0) = false := by simp; omega
        by_cases hc0 : c = 0
        · subst hc0
          have HP := hid (Hn.out.trans (by rw [if_neg h0, if_pos rfl, Nat.and_self]))
          clear h0 Hn
          go_wp2
          go_roundw
          case rel => exact ⟨k + 1, by omega, by rw [HP.out], by go_num, by trivial⟩
          case measure => simp [intOf]; omega
        · have hd2 : ((c : Int) == 0) = false := by simp; omega
          have HP := hid (Hn.out.trans (by rw [if_neg h0, if_neg hc0]))
          clear h0 Hn hc0
          go_wp2
          go_roundw
          case rel => exact ⟨k + 1, by omega, by rw [HP.out], by go_num, by trivial⟩
          case measure => simp [intOf]; omega
    · obtain rfl : k = F.length := by omega
      rw [List.take_of_length_le (Nat.le_refl _)]
      go_wp2
      go_ret
      exact ⟨rfl, rfl⟩

theorem pow6 {v V : Nat} (h : v < V) (hV : V ≤ 6) : 2 ^ v < 64 := by
  have : v = 0 ∨ v = 1 ∨ v = 2 ∨ v = 3 ∨ v = 4 ∨ v = 5 := by omega
  rcases this with rfl | rfl | rfl | rfl | rfl | rfl <;> decide

set_option maxRecDepth 100000 in
set_option maxHeartbeats 4000000 in
/-- The program's dominatedVertices. -/
theorem doms_any (V : Nat) (a0 : Option Addr) (cap : Nat) (fs : List Int) (w : World) (hx : SlI w w.heap.size a0 fs) (hl : fs.length ≤ 1048576) (hC : IsC (V : Int) fs) :
    Calls Try.prog 68 #[.agg #[.int .i64 (V : Int), .slice a0 fs.length cap]] w fun e w' => ∃ v, e = .returned v ∧ Res w w' v (domL V fs V) := by
  have hB0 : Below w.heap.size w (w.alloc (.cells #[.int .i64 (V : Int), .slice a0 fs.length cap] 29)) := (Below.refl _ w).alloc (Nat.le_refl _) _
  have Hx := hid (hx.later hB0 hB0.size)
  have HC := hid hC
  have hV : V ≤ 6 := by have := hC.hi; omega
  have hF := implFacetsOf (V : Int) a0 cap fs (w.alloc (.cells #[.int .i64 (V : Int), .slice a0 fs.length cap] 29)) Hx.out hl
  rw [show facetsOfR (V : Int) fs = (facetsL fs, 0) by unfold facetsOfR; rw [isCB_true hC, if_pos rfl]] at hF
  have HF := hid hF
  have Hfr : Hid (∀ x ∈ facetsL fs, 1 ≤ x ∧ x ≤ 63) := hid (fun x hx => hC.range63 x (facetsL_sub hx))
  have hFl : (facetsL fs).length ≤ 1048576 := Nat.le_trans (List.length_filter_le _ _) hl
  have Hdp := hid (fun v hv => dom_prog hC (v := v) hv)
  obtain ⟨F, hFF⟩ : ∃ F, F = facetsL fs := ⟨_, rfl⟩
  rw [← hFF] at HF Hfr hFl Hdp
  clear hC hF hFF
  go_enter Try.func68, Try.ntmps68
  go_wp2_with fail
  refine HF.out.mono ?_
  rintro e w1 ⟨v1, rfl, hr1⟩
  obtain ⟨_, aF, cF, rfl, _⟩ := ownsRow_slI hr1.1
  have k0 : w1.cell? ⟨w.heap.size, 0, none⟩ = some (.int .i64 (V : Int)) := (hr1.2.cell (p := ⟨w.heap.size, 0, none⟩) (by simp)).trans (by simp [go_sem])
  have HF1 := hid (owned_slI hr1.1)
  have HB1 := hid (hB0.trans (hr1.2.mono (by simp)))
  clear hB0 hr1 HF
  go_wp2_with fail
  clear k0
  go_loopg [5, 14] V (fun g p i wr => ∃ k : Nat, k + g = V ∧ i = .int .i64 k ∧ wr.ownsRow w1.heap.size 2 1 p (domL V fs k).length ((domL V fs k).map (Value.int .i64)) ∧ Below w1.heap.size w1 wr)
  case atStart => exact ⟨0, by omega, rfl, World.ownsRow_nil _ _ _ _, Below.refl _ _⟩
  case round =>
    obtain ⟨k, hkg, rfl, hown, hB⟩ := hrel
    have hsz := hB.size
    cases gk with
    | zero =>
      obtain rfl : k = V := by omega
      have hBs := HB1.out.size
      go_wp2
      go_ret
      exact ⟨_, rfl, ownsRow_base hown hBs, HB1.out.trans (hB.mono hBs)⟩
    | succ g =>
      have hk : k < V := by omega
      have hk0 : ¬ ((k : Int) < 0) := by omega
      have hp := pow_wrap (v := k) (by omega)
      have hb64 := pow6 hk hV
      have hdl : (domL V fs k).length ≤ 1048576 := by have := domL_len V fs k; omega
      have Hi := hid (isdom_any aF cF F (2 ^ k) wr (HF1.out.later hB hsz) hFl Hfr.out hb64)
      rw [Hdp.out k hk] at Hi
      have Hown := hid hown
      have HB := hid hB
      have Hn := hid (fun c h => domL_succ V fs k c h)
      obtain ⟨d, hd⟩ : ∃ d, d = domB V fs k := ⟨_, rfl⟩
      rw [← hd] at Hi Hn
      obtain ⟨D, hD⟩ : ∃ D, D = domL V fs k := ⟨_, rfl⟩
      rw [← hD] at Hown hdl Hn
      clear hown hB hd hD
      cases d
      · have HP := hid (Hn.out false rfl)
        clear Hn
        go_wp2_with (go_at_call 101; rw [hp]; refine Hi.out.mono ?_; rintro e u ⟨rfl, rfl⟩)
        go_roundg g
        case measure => omega
        case rel => exact ⟨k + 1, by omega, by go_num, by rw [HP.out]; simpa using Hown.out, HB.out⟩
      · have HP := hid (Hn.out true rfl)
        clear Hn
        have hown2 := Hown.out
        go_wp2_with (first
          | (go_at_call 101; rw [hp]; refine Hi.out.mono ?_; rintro e u ⟨rfl, rfl⟩)
          | (at_builtin; refine append_int rfl rfl hown2 hsz (by omega) rfl rfl ?_; intro v' w3 hown3 hgrow3 hB3))
        go_roundg g
        case measure => omega
        case rel => exact ⟨k + 1, by omega, by go_num, by rw [HP.out]; exact hown3, HB.out.trans hB3⟩

end Go.Proofs.Ytojnpacklcajpaa
