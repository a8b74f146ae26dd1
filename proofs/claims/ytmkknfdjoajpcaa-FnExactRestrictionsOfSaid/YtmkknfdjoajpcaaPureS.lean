import Derived.Test.YtmkknfdjoajpcaaPure
/-! Pure complexes: the model's. -/
namespace Go.Proofs.Ytmkknfdjoajpcaa
open Go.RowKit

set_option maxRecDepth 100000 in
set_option maxHeartbeats 2000000 in
theorem pureS_any (V : Int) (a : Option Addr) (cap : Nat) (fs : List Int) (w : World) (hx : SlI w w.heap.size a fs) (hl : fs.length ≤ 1048576) (hC : IsC V fs) :
    Calls Try.prog 58 #[.agg #[.int .i64 V, .slice a fs.length cap]] w fun e w' => e = .returned (.bool (pureB (facetsL fs))) ∧ Below w.heap.size w w' := by
  obtain ⟨W, hW⟩ : ∃ W, W = w.alloc (.cells #[.int .i64 V, .slice a fs.length cap] 26) := ⟨_, rfl⟩
  have hB0 : Below w.heap.size w W := by rw [hW]; exact (Below.refl _ w).alloc (Nat.le_refl _) _
  have HF := hid (facets_any V a cap fs W (hx.later hB0 hB0.size) hl hC.range63)
  have HW := hid hW
  have HB0 := hid hB0
  have Hr := hid (facetsL_range hC)
  have Hle := hid (facetsL_le fs)
  obtain ⟨L, hL⟩ : ∃ L, L = facetsL fs := ⟨_, rfl⟩
  rw [← hL] at HF Hr Hle
  rw [← hL]
  clear hx hW hB0 hC hL
  have hL63 : L.length ≤ 1048576 := by have := Hle.out; omega
  go_enter Try.func58, Try.ntmps58
  go_wp2_with fail
  rw [← HW.out]
  refine HF.out.mono ?_
  rintro e w1 ⟨v, rfl, hr⟩
  obtain ⟨_, av, cv, rfl, hs⟩ := ownsRow_slI hr.1
  have HB1 := hid (HB0.out.trans (hr.2.mono HB0.out.size))
  have Hs := hid hs
  clear hr hs
  go_wp2_with fail
  go_loopw [4] (fun i wr => ∃ k : Nat, k ≤ L.length ∧ i = .int .i64 k ∧ Hid ((L.take k).all (fun x => decide (ones x.toNat = ones (L[0]?.getD 0).toNat)) = true) ∧ Hid (Below w1.heap.size w1 wr)) (fun i _ => L.length - (RowKit.intOf i).toNat)
  case atStart => exact ⟨0, Nat.zero_le _, rfl, hid (by simp), hid (Below.refl _ _)⟩
  case round =>
    obtain ⟨k, hk, rfl, Hk, HB⟩ := hrel
    by_cases hlt : k < L.length
    · obtain ⟨b, off, hb, rfl, hc⟩ : ∃ b off, b < wr.heap.size ∧ av = some ⟨b, off, none⟩ ∧ ∀ i, i < L.length → wr.cell? ⟨b, off + i, none⟩ = some (.int .i64 (L[i]?.getD 0)) := by
        rcases Hs.out.later HB.out HB.out.size with h | h
        · rw [h] at hlt; simp at hlt
        · exact h
      obtain ⟨x, hx⟩ : ∃ x : Nat, (x : Int) = L[k]?.getD 0 := ⟨(L[k]?.getD 0).toNat, by have := Hr.out _ (getD_mem hlt); omega⟩
      obtain ⟨f, hf⟩ : ∃ f : Nat, (f : Int) = L[0]?.getD 0 := ⟨(L[0]?.getD 0).toNat, by have := Hr.out _ (getD_mem (show 0 < L.length by omega)); omega⟩
      have hx64 : x < 64 := by have := Hr.out _ (getD_mem hlt); omega
      have hf64 : f < 64 := by have := Hr.out _ (getD_mem (show 0 < L.length by omega)); omega
      have hck : wr.cell? ⟨b, off + k, none⟩ = some (.int .i64 (x : Int)) := by rw [hx]; exact hc k hlt
      have hc0 : wr.cell? ⟨b, off, none⟩ = some (.int .i64 (f : Int)) := by rw [hf]; exact hc 0 (by omega)
      have hi0 : (0 : Int) ≤ (k : Int) := by omega
      have hi1 : (k : Int) < (L.length : Int) := by omega
      have hi2 : (0 : Int) < (L.length : Int) := by omega
      have hfn : (L[0]?.getD 0).toNat = f := by omega
      have Hsn : Hid (∀ c, decide (ones x = ones f) = c → (L.take (k + 1)).all (fun x => decide (ones x.toNat = ones (L[0]?.getD 0).toNat)) = c) := hid (fun c hcc => by
        rw [take_snoc hlt, List.all_append, Hk.out, ← hx, hfn]; simpa using hcc)
      have Hall : Hid (decide (ones x = ones f) = false → pureB L = false) := hid (fun hcc => by
        unfold pureB
        rw [List.all_eq_false]
        exact ⟨_, getD_mem hlt, by rw [← hx, hfn]; simpa using hcc⟩)
      clear hx hf hc hfn
      by_cases he : ones x = ones f
      · have hd : ((ones x : Int) != (ones f : Int)) = false := by simp; omega
        have He := hid (Hsn.out true (decide_eq_true he))
        clear he Hsn Hall
        go_wp2_with fail
        go_quiet ((go_at_call 94; exact quiet_of_eq (ones_any _ _ (by assumption))))
        go_wp2_with fail
        go_roundw
        case rel => exact ⟨k + 1, by omega, by go_num, He, hid ⟨HB.out.os, HB.out.tape, HB.out.output, HB.out.size, HB.out.block⟩⟩
        case measure => simp [RowKit.intOf]; omega
      · have hd : ((ones x : Int) != (ones f : Int)) = true := by simp; omega
        have He := hid (Hall.out (decide_eq_false he))
        clear he Hsn Hall
        go_wp2_with fail
        go_quiet ((go_at_call 94; exact quiet_of_eq (ones_any _ _ (by assumption))))
        go_wp2_with fail
        go_ret
        exact ⟨ret_bool He.out.symm, HB1.out.trans (Below.mono ⟨HB.out.os, HB.out.tape, HB.out.output, HB.out.size, HB.out.block⟩ HB1.out.size)⟩
    · have He : Hid (pureB L = true) := hid (by have h := Hk.out; rw [show k = L.length by omega, List.take_length] at h; exact h)
      go_wp2_with fail
      go_ret
      exact ⟨ret_bool He.out.symm, HB1.out.trans (HB.out.mono HB1.out.size)⟩

set_option maxRecDepth 100000 in
set_option maxHeartbeats 1000000 in
theorem specIsPure (V : Int) (a : Option Addr) (cap : Nat) (fs : List Int) (w : World) (hx : SlI w w.heap.size a fs) (hl : fs.length ≤ 1048576) :
    Calls Try.prog 29 #[.agg #[.int .i64 V, .slice a fs.length cap]] w fun e w' => e = .returned (.tuple #[.bool (isPureR V fs).1, .int .i64 (isPureR V fs).2]) ∧ Below w.heap.size w w' := by
  have hB0 : Below w.heap.size w (w.alloc (.cells #[.int .i64 V, .slice a fs.length cap] 26)) := (Below.refl _ w).alloc (Nat.le_refl _) _
  have Hx := hid (hx.later hB0 hB0.size)
  have Hxw := hid hx
  have HB0 := hid hB0
  clear hx hB0
  by_cases hC : IsC V fs
  · refine bool_mono' (show isPureR V fs = (pureB (facetsL fs), 0) by unfold isPureR; rw [isCB_true hC, if_pos rfl]) ?_
    have HC := hid hC
    have Hp := hid (fun W (h : Below w.heap.size w W) => pureS_any V a cap fs W (Hxw.out.later h h.size) hl hC)
    obtain ⟨b, hb⟩ : ∃ b, b = pureB (facetsL fs) := ⟨_, rfl⟩
    rw [← hb] at Hp
    rw [← hb]
    clear hC hb
    go_enter Try.func29, Try.ntmps29
    go_wp2_with fail
    refine (is_yes V a cap fs _ Hx.out hl HC.out).mono ?_
    rintro e w1 ⟨rfl, hB1⟩
    have k0 : w1.cell? ⟨w.heap.size, 0, none⟩ = some (.int .i64 V) := (hB1.cell (p := ⟨w.heap.size, 0, none⟩) (by simp <;> omega)).trans (by simp [go_sem])
    have k1 : w1.cell? ⟨w.heap.size, 1, none⟩ = some (.slice a fs.length cap) := (hB1.cell (p := ⟨w.heap.size, 1, none⟩) (by simp <;> omega)).trans (by simp [go_sem])
    have HB1 := hid (HB0.out.trans (hB1.mono (by simp <;> omega)))
    clear hB1
    go_wp2_with fail
    refine (Hp.out w1 HB1.out).mono ?_
    rintro e w2 ⟨rfl, hB2⟩
    have HB2 := hid (HB1.out.trans (hB2.mono HB1.out.size))
    go_wp2_with fail
    go_ret2
    exact ⟨rfl, HB2.out⟩
  · refine bool_mono' (show isPureR V fs = (false, 1) by unfold isPureR; rw [isCB_false hC, if_neg (by simp)]) ?_
    go_enter Try.func29, Try.ntmps29
    go_wp2_with fail
    refine (is_no V a cap fs _ Hx.out hl hC).mono ?_
    rintro e w1 ⟨rfl, hB1⟩
    have HB1 := hid (HB0.out.trans (hB1.mono (by simp <;> omega)))
    go_wp2_with fail
    go_ret2
    exact ⟨rfl, HB1.out⟩

end Go.Proofs.Ytmkknfdjoajpcaa
