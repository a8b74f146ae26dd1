import Derived.Test.YtmkknfdjoajpcaaCx
/-! The faces as keys of a map: the program's facesHaving. -/
namespace Go.Proofs.Ytmkknfdjoajpcaa
open Go.RowKit

theorem wf_face {x : Int} (h0 : 1 ≤ x) (h1 : x ≤ 63) : (Lit.int .i64 x).wf = true := WalkArith.wf_i64 (by omega)

/-- The map of faces. -/
def MapW (w' : World) (b n : Nat) (fs : List Int) : Prop := w'.ownsMap Try.prog 2 (plainElem (H := Unit) Try.prog 4) b n (knownD fs)

theorem MapW.later {w w' : World} {b n : Nat} {fs : List Int} (h : MapW w b n fs) (hB : Below w.heap.size w w') : MapW w' b n fs :=
  World.ownsMap.kept h (row := none) ⟨hB.os, hB.tape, hB.output, hB.size, fun k hk _ => hB.block k hk⟩ (by simp)

theorem MapW.lt {w : World} {b n : Nat} {fs : List Int} (h : MapW w b n fs) : b < w.heap.size := World.ownsMap.lt h

set_option maxRecDepth 100000 in
set_option maxHeartbeats 2000000 in
theorem fh_in (V : Int) (a0 : Option Addr) (cap : Nat) (fs : List Int) (f : Int) (w : World) (hx : SlI w w.heap.size a0 fs) (hl : fs.length ≤ 1048576) (hC : IsC V fs) (hwf : (Lit.int .i64 f).wf = true) (c : Bool) (hc : decide (f ∈ fs) = c) :
    Calls Try.prog 97 #[.agg #[.int .i64 V, .slice a0 fs.length cap], .int .i64 f] w fun e w' => ∃ b, e = .returned (if c then .tuple #[.map (some b), .int .i64 0] else .tuple #[.map none, .int .i64 2]) ∧ (∃ n, MapW w' b n fs) ∧ w.heap.size ≤ b ∧ Below w.heap.size w w' := by
  have hB0 : Below w.heap.size w (w.alloc (.cells #[.int .i64 V, .slice a0 fs.length cap] 26)) := (Below.refl _ w).alloc (Nat.le_refl _) _
  have Hx := hid (hx.later hB0 (by simp <;> omega))
  have Hx0 := hid hx
  have Hf := hid hC.range63
  have HC := hid hC
  clear hx hC
  have hmm := @run_makeMap Try.prog
  go_enter Try.func97, Try.ntmps97
  go_wp2_with fail
  refine (isc_yes V a0 cap fs _ Hx.out hl HC.out).mono ?_
  rintro e w1 ⟨rfl, hB1⟩
  have k0 : w1.cell? ⟨w.heap.size, 0, none⟩ = some (.int .i64 V) := (hB1.cell (p := ⟨w.heap.size, 0, none⟩) (by simp <;> omega)).trans (by simp [go_sem])
  have k1 : w1.cell? ⟨w.heap.size, 1, none⟩ = some (.slice a0 fs.length cap) := (hB1.cell (p := ⟨w.heap.size, 1, none⟩) (by simp <;> omega)).trans (by simp [go_sem])
  have hB01 := hid (hB0.trans (hB1.mono (by simp <;> omega)))
  have hs1 : w.heap.size < w1.heap.size := by have := hB1.size; simp at this; omega
  clear hB0 hB1
  go_wp2_with fail
  clear hmm
  go_loopw [16] (fun i wr => ∃ (k : Nat), k ≤ fs.length ∧ i = .int .i64 k ∧ MapW wr w1.heap.size k (fs.take k) ∧ Below w.heap.size w wr) (fun i _ => fs.length - (intOf i).toNat)
  case atStart => exact ⟨0, Nat.zero_le _, rfl, World.ownsMap_made w1 Try.prog 2 _, hB01.out.trans ((Below.refl _ w1).alloc (by omega) _)⟩
  case round =>
    obtain ⟨k, hk, rfl, hown, hB⟩ := hrel
    by_cases hlt : k < fs.length
    · obtain ⟨b, off, hb, rfl, hc⟩ : ∃ b off, b < w.heap.size ∧ a0 = some ⟨b, off, none⟩ ∧ ∀ i, i < fs.length → w.cell? ⟨b, off + i, none⟩ = some (.int .i64 (fs[i]?.getD 0)) := by
        rcases Hx0.out with rfl | h
        · simp at hlt
        · exact h
      obtain ⟨x, hx⟩ : ∃ x, x = fs[k]?.getD 0 := ⟨_, rfl⟩
      have hxr := Hf.out _ (getD_mem hlt)
      rw [← hx] at hxr
      have hck : wr.cell? ⟨b, off + k, none⟩ = some (.int .i64 x) := by rw [hx]; exact (hB.cell (p := ⟨b, off + k, none⟩) hb).trans (hc k hlt)
      have Hsn : Hid (fs.take (k + 1) = fs.take k ++ [x]) := hid (by rw [take_snoc hlt, ← hx])
      have hi0 : (0 : Int) ≤ (k : Int) := by omega
      have hi1 : (k : Int) < (fs.length : Int) := by omega
      have hkm : k < maxLen := by unfold maxLen; omega
      have hwx := wf_face hxr.1 hxr.2
      have Hown := hid hown
      have HB := hid hB
      clear hc hx hown hB
      go_wp2_with (first | (at_mapUpdate; refine wpList_mapUpdate_own _ rfl _ _ _ 76 rfl 2 4 (Maps.int_keyed Try.underlying2) Try.underlying76 _ w1.heap.size _ _ rfl Hown.out hkm _ _ _ rfl rfl (Maps.keyOf_int_mk Try.underlying2 hwx) _ [] (plainElem_bool Try.underlying4 true) ?_; intro w2 hown2 hgrow2) | go_in)
      go_roundw
      case rel =>
        refine ⟨k + 1, by omega, by go_num, ?_, HB.out.grown hgrow2 HB.out.size (fun r e => by cases e; omega)⟩
        rw [Hsn.out]
        unfold MapW
        rw [knownD_snoc]
        exact hown2
      case measure => simp [intOf]; omega
    · obtain rfl : k = fs.length := by omega
      rw [List.take_of_length_le (Nat.le_refl _)] at hown
      have hlook := lookup_known hown hwf
      rw [hc] at hlook
      have Hown := hid hown
      have HB := hid hB
      clear hown hB
      cases c
      · go_wp2_with (simp only [hlook])
        go_ret2
        exact ⟨rfl, w1.heap.size, ⟨_, Hown.out⟩, by omega, HB.out⟩
      · go_wp2_with fail
        go_ret2
        exact ⟨w1.heap.size, rfl, ⟨_, Hown.out⟩, by omega, HB.out⟩

theorem fh_yes (V : Int) (a0 : Option Addr) (cap : Nat) (fs : List Int) (f : Int) (w : World) (hx : SlI w w.heap.size a0 fs) (hl : fs.length ≤ 1048576) (hC : IsC V fs) (hm : f ∈ fs) :
    Calls Try.prog 97 #[.agg #[.int .i64 V, .slice a0 fs.length cap], .int .i64 f] w fun e w' => ∃ b, e = .returned (.tuple #[.map (some b), .int .i64 0]) ∧ (∃ n, MapW w' b n fs) ∧ w.heap.size ≤ b ∧ Below w.heap.size w w' :=
  fh_in V a0 cap fs f w hx hl hC (wf_face (hC.range63 f hm).1 (hC.range63 f hm).2) true (decide_eq_true hm)

theorem fh_no (V : Int) (a0 : Option Addr) (cap : Nat) (fs : List Int) (f : Int) (w : World) (hx : SlI w w.heap.size a0 fs) (hl : fs.length ≤ 1048576) (hC : IsC V fs) (hwf : (Lit.int .i64 f).wf = true) (hm : f ∉ fs) :
    Calls Try.prog 97 #[.agg #[.int .i64 V, .slice a0 fs.length cap], .int .i64 f] w fun e w' => e = .returned (.tuple #[.map none, .int .i64 2]) ∧ Below w.heap.size w w' :=
  (fh_in V a0 cap fs f w hx hl hC hwf false (decide_eq_false hm)).mono fun _ _ ⟨_, he, _, _, hB⟩ => ⟨he, hB⟩

theorem fh_bad (V : Int) (a0 : Option Addr) (cap : Nat) (fs : List Int) (f : Int) (w : World) (hx : SlI w w.heap.size a0 fs) (hl : fs.length ≤ 1048576) (hC : ¬ IsC V fs) :
    Calls Try.prog 97 #[.agg #[.int .i64 V, .slice a0 fs.length cap], .int .i64 f] w fun e w' => e = .returned (.tuple #[.map none, .int .i64 1]) ∧ Below w.heap.size w w' := by
  have hB0 : Below w.heap.size w (w.alloc (.cells #[.int .i64 V, .slice a0 fs.length cap] 26)) := (Below.refl _ w).alloc (Nat.le_refl _) _
  have Hx := hid (hx.later hB0 (by simp <;> omega))
  go_enter Try.func97, Try.ntmps97
  go_wp2_with fail
  refine (isc_no V a0 cap fs _ Hx.out hl hC).mono ?_
  rintro e w1 ⟨rfl, hB1⟩
  have hB01 := hid (hB0.trans (hB1.mono (by simp <;> omega)))
  go_wp2_with fail
  go_ret2
  exact ⟨rfl, hB01.out⟩


/-! The model's test of a face. -/

theorem face_yes (V : Int) (a0 : Option Addr) (cap : Nat) (fs : List Int) (f : Int) (w : World) (hx : SlI w w.heap.size a0 fs) (hl : fs.length ≤ 1048576) (hC : IsC V fs) (hm : f ∈ fs) :
    Calls Try.prog 63 #[.agg #[.int .i64 V, .slice a0 fs.length cap], .int .i64 f] w fun e w' => e = .returned (.int .i64 0) ∧ Below w.heap.size w w' := by
  have hB0 : Below w.heap.size w (w.alloc (.cells #[.int .i64 V, .slice a0 fs.length cap] 26)) := (Below.refl _ w).alloc (Nat.le_refl _) _
  have Hx := hid (hx.later hB0 (by simp <;> omega))
  have HC := hid hC
  clear hC
  go_enter Try.func63, Try.ntmps63
  go_wp2_with fail
  refine (is_yes V a0 cap fs _ Hx.out hl HC.out).mono ?_
  rintro e w1 ⟨rfl, hB1⟩
  have k0 : w1.cell? ⟨w.heap.size, 0, none⟩ = some (.int .i64 V) := (hB1.cell (p := ⟨w.heap.size, 0, none⟩) (by simp <;> omega)).trans (by simp [go_sem])
  have k1 : w1.cell? ⟨w.heap.size, 1, none⟩ = some (.slice a0 fs.length cap) := (hB1.cell (p := ⟨w.heap.size, 1, none⟩) (by simp <;> omega)).trans (by simp [go_sem])
  have hB01 := hB0.trans (hB1.mono (by simp <;> omega))
  have hx1 := hid (hx.later hB01 hB01.size)
  go_wp2_with fail
  refine (has_yes V f a0 cap fs _ hx1.out hl hm).mono ?_
  rintro e w2 ⟨rfl, hB2⟩
  have hB02 := hid (hB01.trans (hB2.mono hB01.size))
  go_wp2_with fail
  go_ret
  exact ⟨rfl, hB02.out⟩

theorem face_no (V : Int) (a0 : Option Addr) (cap : Nat) (fs : List Int) (f : Int) (w : World) (hx : SlI w w.heap.size a0 fs) (hl : fs.length ≤ 1048576) (hC : IsC V fs) (hm : f ∉ fs) :
    Calls Try.prog 63 #[.agg #[.int .i64 V, .slice a0 fs.length cap], .int .i64 f] w fun e w' => e = .returned (.int .i64 2) ∧ Below w.heap.size w w' := by
  have hB0 : Below w.heap.size w (w.alloc (.cells #[.int .i64 V, .slice a0 fs.length cap] 26)) := (Below.refl _ w).alloc (Nat.le_refl _) _
  have Hx := hid (hx.later hB0 (by simp <;> omega))
  have HC := hid hC
  clear hC
  go_enter Try.func63, Try.ntmps63
  go_wp2_with fail
  refine (is_yes V a0 cap fs _ Hx.out hl HC.out).mono ?_
  rintro e w1 ⟨rfl, hB1⟩
  have k0 : w1.cell? ⟨w.heap.size, 0, none⟩ = some (.int .i64 V) := (hB1.cell (p := ⟨w.heap.size, 0, none⟩) (by simp <;> omega)).trans (by simp [go_sem])
  have k1 : w1.cell? ⟨w.heap.size, 1, none⟩ = some (.slice a0 fs.length cap) := (hB1.cell (p := ⟨w.heap.size, 1, none⟩) (by simp <;> omega)).trans (by simp [go_sem])
  have hB01 := hB0.trans (hB1.mono (by simp <;> omega))
  have hx1 := hid (hx.later hB01 hB01.size)
  go_wp2_with fail
  refine (has_no V f a0 cap fs _ hx1.out hl hm).mono ?_
  rintro e w2 ⟨rfl, hB2⟩
  have hB02 := hid (hB01.trans (hB2.mono hB01.size))
  go_wp2_with fail
  go_ret
  exact ⟨rfl, hB02.out⟩

theorem face_bad (V : Int) (a0 : Option Addr) (cap : Nat) (fs : List Int) (f : Int) (w : World) (hx : SlI w w.heap.size a0 fs) (hl : fs.length ≤ 1048576) (hC : ¬ IsC V fs) :
    Calls Try.prog 63 #[.agg #[.int .i64 V, .slice a0 fs.length cap], .int .i64 f] w fun e w' => e = .returned (.int .i64 1) ∧ Below w.heap.size w w' := by
  have hB0 : Below w.heap.size w (w.alloc (.cells #[.int .i64 V, .slice a0 fs.length cap] 26)) := (Below.refl _ w).alloc (Nat.le_refl _) _
  have Hx := hid (hx.later hB0 (by simp <;> omega))
  go_enter Try.func63, Try.ntmps63
  go_wp2_with fail
  refine (is_no V a0 cap fs _ Hx.out hl hC).mono ?_
  rintro e w1 ⟨rfl, hB1⟩
  have hB01 := hid (hB0.trans (hB1.mono (by simp <;> omega)))
  go_wp2_with fail
  go_ret
  exact ⟨rfl, hB01.out⟩


end Go.Proofs.Ytmkknfdjoajpcaa
