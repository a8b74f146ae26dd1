import Derived.Test.YtojnpacklcajpaaFreeS
import Derived.Test.YtojnpacklcajpaaFreeP
/-! FreePairs, the model's. -/
namespace Go.Proofs.Ytojnpacklcajpaa
open Go.RowKit

set_option maxRecDepth 100000 in
set_option maxHeartbeats 4000000 in
theorem specFreePairs (V : Int) (a0 : Option Addr) (cap : Nat) (fs : List Int) (w : World) (hx : SlI w w.heap.size a0 fs) (hl : fs.length ≤ 1048576) :
    Calls Try.prog 16 #[.agg #[.int .i64 V, .slice a0 fs.length cap]] w fun e w' => ∃ v, e = .returned (.tuple #[v, .int .i64 (freePairsR V fs).2]) ∧ ResP w w' v (freePairsR V fs).1 := by
  have hB0 : Below w.heap.size w (w.alloc (.cells #[.int .i64 V, .slice a0 fs.length cap] 29)) := (Below.refl _ w).alloc (Nat.le_refl _) _
  have Hx := hid (hx.later hB0 hB0.size)
  by_cases hC : IsC V fs
  · refine pairs_mono (show freePairsR V fs = (freeP fs fs, 0) by unfold freePairsR; rw [isCB_true hC, if_pos rfl]) ?_
    have HC := hid hC
    have Hf := hid hC.range63
    have Hx0 := hid hx
    clear hC hx
    go_enter Try.func16, Try.ntmps16
    go_wp2_with fail
    refine (is_yes V a0 cap fs _ Hx.out hl HC.out).mono ?_
    rintro e w1 ⟨rfl, hB1⟩
    have hB01 := hB0.trans (hB1.mono (by simp))
    have q0 : w1.heap[w.heap.size]? = some (.cells #[.int .i64 V, .slice a0 fs.length cap] 29 (0, 0)) := (hB1.block _ (by simp)).trans (heap_alloc_new _ _)
    have HB01 := hid hB01
    have hs1 : Hid (w.heap.size + 1 ≤ w1.heap.size) := hid (by have := hB1.size; simp at this; omega)
    have Q0 := hid q0
    have hown0 := World.ownsRow_made (base := w1.heap.size) (e := 63) (size := 2) w1 #[] 0 (by simp) (by simp [maxLen]) rfl
    have Hown0 := hid hown0
    clear hB0 hB01 hB1 q0 hown0
    go_wp2_with fail
    go_loopg [4, 5] fs.length (fun g v i wr => ∃ k : Nat, k + g = fs.length ∧ i = .int .i64 k ∧ wr.ownsRow w1.heap.size 63 2 v (freeP fs (fs.take k)).length ((flatP (freeP fs (fs.take k))).map (Value.int .i64)) ∧ Below w1.heap.size w1 wr)
    case atStart => exact ⟨0, by omega, rfl, by simpa [freeP, flatP] using Hown0.out, (Below.refl _ _).alloc (Nat.le_refl _) _⟩
    case round =>
      clear Hown0
      obtain ⟨k, hkg, rfl, hown, hB⟩ := hrel
      have hs := hs1.out
      obtain ⟨k0, k1, _, _⟩ := two_of ((hB.block _ (by omega)).trans Q0.out)
      have hBW := HB01.out.trans (hB.mono (by omega))
      have hsz := hB.size
      cases gk with
      | zero =>
        obtain rfl : k = fs.length := by omega
        rw [List.take_of_length_le (Nat.le_refl _)] at hown
        go_wp2
        go_ret2
        exact ⟨_, rfl, ownsRow_base hown (by omega), hBW⟩
      | succ g =>
        have hlt : k < fs.length := by omega
        obtain ⟨b, off, hb, rfl, hc⟩ : ∃ b off, b < w.heap.size ∧ a0 = some ⟨b, off, none⟩ ∧ ∀ i, i < fs.length → w.cell? ⟨b, off + i, none⟩ = some (.int .i64 (fs[i]?.getD 0)) := by
          rcases Hx0.out with rfl | h
          · simp at hlt
          · exact h
        obtain ⟨f, hf⟩ : ∃ f : Nat, (f : Int) = fs[k]?.getD 0 := ⟨(fs[k]?.getD 0).toNat, by have := Hf.out _ (getD_mem hlt); omega⟩
        have hfr := Hf.out _ (getD_mem hlt)
        rw [← hf] at hfr
        have hf64 : f < 64 := by omega
        have hck : wr.cell? ⟨b, off + k, none⟩ = some (.int .i64 (f : Int)) := by rw [hf]; exact (hBW.cell (p := ⟨b, off + k, none⟩) hb).trans (hc k hlt)
        have hi0 : (0 : Int) ≤ (k : Int) := by omega
        have hi1 : (k : Int) < (fs.length : Int) := by omega
        have Hn : Hid (freeP fs (fs.take (k + 1)) = freeP fs (fs.take k) ++ (if freeG fs f = 0 then [] else [((f : Int), freeG fs f)])) := hid (by rw [take_snoc hlt, freeP_snoc, ← hf, Int.toNat_natCast])
        have hgr := freeG_rng (f := f) Hf.out
        have hpl : (freeP fs (fs.take k)).length ≤ 1048576 := Nat.le_trans (freeP_len fs _) (by simp; omega)
        have Hxr := hid (Hx0.out.later hBW (by omega))
        have Hcf := hid (free_any V (some ⟨b, off, none⟩) cap fs f wr.drew Hxr.out hl Hf.out hf64)
        have Hown := hid hown
        have HB := hid hB
        obtain ⟨G, hG⟩ : ∃ G, G = freeG fs f := ⟨_, rfl⟩
        obtain ⟨P, hP⟩ : ∃ P, P = freeP fs (fs.take k) := ⟨_, rfl⟩
        rw [← hG] at Hn hgr Hcf
        rw [← hP] at Hn hpl Hown
        clear hc hf hown hB hBW hG hP
        go_wp2_with fail
        go_region_with (go_at_call 54; refine Hcf.out.mono ?_; rintro e w2 ⟨rfl, hB2⟩)
        all_goals
          have hB2' : Below wr.heap.size wr w2 := ⟨hB2.os, hB2.tape, hB2.output, hB2.size, hB2.block⟩
          have hs2 := hB2'.size
          have k02 := (hB2'.cell (p := ⟨w.heap.size, 0, none⟩) (by show w.heap.size < _; omega)).trans k0
          have k12 := (hB2'.cell (p := ⟨w.heap.size, 1, none⟩) (by show w.heap.size < _; omega)).trans k1
          have hck2 := (hB2'.cell (p := ⟨b, off + k, none⟩) (by show b < _; omega)).trans hck
          have hown2 := ownsRow_below Hown.out hB2' (fun g hg => (Hown.out.lt g hg).2)
          have HBt := hid (HB.out.trans (hB2'.mono hsz))
          have hsz2 : w1.heap.size ≤ w2.heap.size := by omega
          clear hB2 hB2' k0 k1 hck
          by_cases hG : G = 0
          · subst hG
            have HP : Hid (freeP fs (fs.take (k + 1)) = P) := hid (Hn.out.trans (by simp))
            clear Hn
            go_wp2_with fail
            go_roundg g
            case measure => omega
            case rel => exact ⟨k + 1, by omega, by go_num, by rw [HP.out]; exact hown2, HBt.out⟩
          · have hG0 : 0 < G := by omega
            have HP : Hid (freeP fs (fs.take (k + 1)) = P ++ [((f : Int), G)]) := hid (Hn.out.trans (by rw [if_neg hG]))
            clear Hn hG
            go_wp2_with (at_builtin; refine append_pair rfl rfl hown2 hsz2 (by omega) rfl rfl ?_; intro v' w3 hown3 hgrow3 hB3)
            go_roundg g
            case measure => omega
            case rel => exact ⟨k + 1, by omega, by go_num, by rw [HP.out]; exact hown3, HBt.out.trans hB3⟩
  · refine pairs_mono (show freePairsR V fs = ([], 1) by unfold freePairsR; rw [isCB_false hC, if_neg (by simp)]) ?_
    go_enter Try.func16, Try.ntmps16
    go_wp2_with fail
    refine (is_no V a0 cap fs _ Hx.out hl hC).mono ?_
    rintro e w1 ⟨rfl, hB1⟩
    go_wp2_with fail
    go_ret2
    exact ⟨_, rfl, World.ownsRow_nil _ _ _ _, hB0.trans (hB1.mono (by simp))⟩

end Go.Proofs.Ytojnpacklcajpaa
