import Derived.Test.YtojnpacklcajpaaFreeM
import Derived.Test.YtojnpacklcajpaaEqP
import Derived.Test.YtojnpacklcajpaaCx
import Derived.Deep.LoopGhost
/-! l05Free: the model's test whether a face is free. -/
namespace Go.Proofs.Ytojnpacklcajpaa
open Go.RowKit

theorem frOf_one {us : List Int} (h : us.length ≤ 1) : us.headD 0 = frOf us := by
  match us, h with
  | [], _ => rfl
  | [a], _ => rfl

set_option maxRecDepth 100000 in
set_option maxHeartbeats 4000000 in
theorem free_any (V : Int) (a0 : Option Addr) (cap : Nat) (fs : List Int) (f : Nat) (w : World) (hx : SlI w w.heap.size a0 fs) (hl : fs.length ≤ 1048576) (hf : ∀ x ∈ fs, 1 ≤ x ∧ x ≤ 63) (hf64 : f < 64) :
    Calls Try.prog 54 #[.agg #[.int .i64 V, .slice a0 fs.length cap], .int .i64 (f : Int)] w fun e w' => e = .returned (.int .i64 (freeG fs f)) ∧ Below w.heap.size w w' := by
  obtain ⟨W, hW⟩ : ∃ W, W = w.alloc (.cells #[.int .i64 V, .slice a0 fs.length cap] 29) := ⟨_, rfl⟩
  have hB0 : Below w.heap.size w W := by rw [hW]; exact (Below.refl _ w).alloc (Nat.le_refl _) _
  have q0 : W.heap[w.heap.size]? = some (.cells #[.int .i64 V, .slice a0 fs.length cap] 29 (0, 0)) := by rw [hW]; exact heap_alloc_new _ _
  obtain ⟨k0, k1, _, _⟩ := two_of q0
  have HW := hid hW
  have HB0 := hid hB0
  have Hx0 := hid hx
  have Hf := hid hf
  clear hW hB0 q0 hx hf
  go_enter Try.func54, Try.ntmps54
  go_wp2
  rw [← HW.out]
  go_loopg [5, 6] fs.length (fun g p i wx => ∃ j : Nat, j + g = fs.length ∧ p = .int .i64 ((upF (fs.take j) f).headD 0) ∧ i = .int .i64 j ∧ Hid ((upF (fs.take j) f).length ≤ 1) ∧ wx = W)
  case atStart => exact ⟨0, by omega, rfl, rfl, hid (by simp [upF]), rfl⟩
  case round =>
    obtain ⟨j, hjg, rfl, rfl, Hu, rfl⟩ := hrel
    cases gk with
    | zero =>
      obtain rfl : j = fs.length := by omega
      rw [List.take_of_length_le (Nat.le_refl _)] at Hu ⊢
      rw [frOf_one Hu.out]
      go_wp2
      go_ret
      exact ⟨rfl, HB0.out⟩
    | succ g =>
      have hjl : j < fs.length := by omega
      obtain ⟨b, off, hb, rfl, hc⟩ : ∃ b off, b < w.heap.size ∧ a0 = some ⟨b, off, none⟩ ∧ ∀ i, i < fs.length → w.cell? ⟨b, off + i, none⟩ = some (.int .i64 (fs[i]?.getD 0)) := by
        rcases Hx0.out with rfl | h
        · simp at hjl
        · exact h
      obtain ⟨y, hy⟩ : ∃ y : Nat, (y : Int) = fs[j]?.getD 0 := ⟨(fs[j]?.getD 0).toNat, by have := Hf.out _ (getD_mem hjl); omega⟩
      have hyr := Hf.out _ (getD_mem hjl)
      rw [← hy] at hyr
      have hy64 : y < 64 := by omega
      have hcj : wr.cell? ⟨b, off + j, none⟩ = some (.int .i64 (y : Int)) := by rw [hy]; exact (HB0.out.cell (p := ⟨b, off + j, none⟩) hb).trans (hc j hjl)
      have hj0 : (0 : Int) ≤ (j : Int) := by omega
      have hj1 : (j : Int) < (fs.length : Int) := by omega
      have Hs : Hid (∀ c, decide (y &&& f = f ∧ y ≠ f) = c → upF (fs.take (j + 1)) f = upF (fs.take j) f ++ (if c then [(y : Int)] else [])) := hid (fun c hc => by rw [hy]; exact upF_snoc hjl c (by rw [← hy, Int.toNat_natCast]; exact hc))
      have hand := and_int64 hy64 hf64
      have hr0 := Hf.out
      clear hc hy
      by_cases hyx : y &&& f = f
      · have hd2 : (((y &&& f : Nat) : Int) == (f : Int)) = true := by simp [hyx]
        by_cases hyf : y = f
        · subst hyf
          have hd : ((y : Int) != (y : Int)) = false := by simp
          have HS := hid (Hs.out false (by simp))
          clear hr0 hyx
          go_wp2
          go_roundg g
          case measure => omega
          case rel => exact ⟨j + 1, by omega, by rw [HS.out]; simp, by go_num, by rw [HS.out]; simpa using Hu, rfl⟩
        · have hd : ((y : Int) != (f : Int)) = true := by simp; omega
          have HS := hid (Hs.out true (by simp [hyx, hyf]))
          rcases hu : upF (fs.take j) f with _ | ⟨g0, _ | ⟨g1, l⟩⟩
          · rw [hu] at HS
            have hh : (([] : List Int).headD 0) = 0 := rfl
            clear hr0 hyx hyf hu
            simp only [List.headD]
            go_wp2
            go_roundg g
            case measure => omega
            case rel => exact ⟨j + 1, by omega, by rw [HS.out]; rfl, by go_num, by rw [HS.out]; exact hid (by simp), rfl⟩
          · have hgm := hr0 g0 (List.take_subset _ _ (upF_mem (f := f) (fs := fs.take j) (by rw [hu]; simp)).1)
            rw [hu] at HS
            have hg0 : (0 : Int) < g0 := by omega
            have Hz : Hid (freeG fs f = 0) := hid (freeG_two (j := j + 1) (by rw [HS.out]; simp))
            clear hr0 hyx hyf hu hgm
            simp only [List.headD]
            go_wp2
            go_ret
            exact ⟨ret_int Hz.out.symm, HB0.out⟩
          · have := Hu.out; rw [hu] at this; simp at this
      · have hd2 : (((y &&& f : Nat) : Int) == (f : Int)) = false := by simp; omega
        have HS := hid (Hs.out false (by simp [hyx]))
        clear hr0 hyx
        go_wp2
        go_roundg g
        case measure => omega
        case rel => exact ⟨j + 1, by omega, by rw [HS.out]; simp, by go_num, by rw [HS.out]; simpa using Hu, rfl⟩

end Go.Proofs.Ytojnpacklcajpaa
