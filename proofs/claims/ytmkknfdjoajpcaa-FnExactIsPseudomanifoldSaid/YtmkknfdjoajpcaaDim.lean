import Derived.Test.YtmkknfdjoajpcaaFacesOf
import Derived.Deep.RegionHeld3
/-! The dimension of a complex, the model's and the program's. -/
namespace Go.Proofs.Ytmkknfdjoajpcaa
open Go.RowKit

/-- The greater number, as the model has it. -/
def more (m y : Int) : Int := if m < y then y else m

/-- The dimension of a list of faces. -/
def top (fs : List Int) : Int := fs.foldl (fun m x => more m ((ones x.toNat : Int) - 1)) (-1)

theorem top_snoc (pre : List Int) (x : Int) : top (pre ++ [x]) = more (top pre) ((ones x.toNat : Int) - 1) := by simp [top]

theorem top_from (fs : List Int) : ∀ m : Int, -1 ≤ m → m ≤ 5 → -1 ≤ fs.foldl (fun m x => more m ((ones x.toNat : Int) - 1)) m ∧ fs.foldl (fun m x => more m ((ones x.toNat : Int) - 1)) m ≤ 5 ∧ m ≤ fs.foldl (fun m x => more m ((ones x.toNat : Int) - 1)) m ∧ ∀ x ∈ fs, (ones x.toNat : Int) - 1 ≤ fs.foldl (fun m x => more m ((ones x.toNat : Int) - 1)) m := by
  induction fs with
  | nil => intro m h0 h1; exact ⟨h0, h1, Int.le_refl _, by simp⟩
  | cons x fs ih =>
    intro m h0 h1
    have ho := ones_le x.toNat
    have hm : -1 ≤ more m ((ones x.toNat : Int) - 1) ∧ more m ((ones x.toNat : Int) - 1) ≤ 5 ∧ m ≤ more m ((ones x.toNat : Int) - 1) ∧ (ones x.toNat : Int) - 1 ≤ more m ((ones x.toNat : Int) - 1) := by
      unfold more
      split <;> omega
    obtain ⟨a1, a2, a3, a4⟩ := ih _ hm.1 hm.2.1
    simp only [List.foldl_cons]
    refine ⟨a1, a2, by omega, ?_⟩
    intro y hy
    rcases List.mem_cons.1 hy with rfl | hy
    · omega
    · exact a4 y hy

theorem top_lo (fs : List Int) : -1 ≤ top fs := (top_from fs (-1) (by omega) (by omega)).1
theorem top_hi (fs : List Int) : top fs ≤ 5 := (top_from fs (-1) (by omega) (by omega)).2.1
theorem top_ge (fs : List Int) {x : Int} (hx : x ∈ fs) : (ones x.toNat : Int) - 1 ≤ top fs := (top_from fs (-1) (by omega) (by omega)).2.2.2 x hx

theorem cell_alloc0 {W : World} {p : Addr} {v : Value} (h : W.cell? p = some v) (o : Obj) : (W.alloc o).cell? p = some v :=
  (World.cell?_alloc_some W p o (show (W.cell? p).isSome = true by rw [h]; rfl)).trans h

set_option maxHeartbeats 1000000 in
theorem dimS_any (V : Int) (a0 : Option Addr) (cap : Nat) (fs : List Int) (w : World) (hx : SlI w w.heap.size a0 fs) (hl : fs.length ≤ 1048576) (hf : ∀ x ∈ fs, 1 ≤ x ∧ x ≤ 63) :
    Calls Try.prog 60 #[.agg #[.int .i64 V, .slice a0 fs.length cap]] w fun e w' => e = .returned (.int .i64 (top fs)) ∧ Below w.heap.size w w' := by
  have hB0 : Below w.heap.size w (w.alloc (.cells #[.int .i64 V, .slice a0 fs.length cap] 26)) := (Below.refl _ w).alloc (Nat.le_refl _) _
  have Hx0 := hid hx
  have Hf := hid hf
  clear hx hf
  go_enter Try.func60, Try.ntmps60
  go_wp2
  go_loopw [3, 4] (fun m i wr => ∃ k : Nat, k ≤ fs.length ∧ i = .int .i64 k ∧ m = .int .i64 (top (fs.take k)) ∧ wr = w.alloc (.cells #[.int .i64 V, .slice a0 fs.length cap] 26)) (fun _ i _ => fs.length - (intOf i).toNat)
  case atStart => exact ⟨0, Nat.zero_le _, rfl, by simp [top], rfl⟩
  case round =>
    obtain ⟨k, hk, rfl, rfl, rfl⟩ := hrel
    by_cases hlt : k < fs.length
    · obtain ⟨b, off, hb, rfl, hc⟩ : ∃ b off, b < w.heap.size ∧ a0 = some ⟨b, off, none⟩ ∧ ∀ i, i < fs.length → w.cell? ⟨b, off + i, none⟩ = some (.int .i64 (fs[i]?.getD 0)) := by
        rcases Hx0.out with rfl | h
        · simp at hlt
        · exact h
      obtain ⟨x, hx⟩ : ∃ x : Nat, (x : Int) = fs[k]?.getD 0 := ⟨(fs[k]?.getD 0).toNat, by have := Hf.out _ (getD_mem hlt); omega⟩
      have hx64 : x < 64 := by have := Hf.out _ (getD_mem hlt); omega
      have hck : ∀ o, (w.alloc o).cell? ⟨b, off + k, none⟩ = some (.int .i64 (x : Int)) := cell_alloc0 (by rw [hx]; exact hc k hlt)
      have hi0 : (0 : Int) ≤ (k : Int) := by omega
      have hi1 : (k : Int) < (fs.length : Int) := by omega
      have Ht : Hid (top (fs.take (k + 1)) = more (top (fs.take k)) ((ones x : Int) - 1)) := hid (by rw [take_snoc hlt, ← hx, top_snoc]; simp)
      have ht0 := top_lo (fs.take k)
      have ht1 := top_hi (fs.take k)
      obtain ⟨t, htt⟩ : ∃ t, t = top (fs.take k) := ⟨_, rfl⟩
      rw [← htt] at Ht ht0 ht1 ⊢
      have ho := ones_le x
      clear hx hc htt
      by_cases hm : t < (ones x : Int) - 1
      · have hmm : more t ((ones x : Int) - 1) = (ones x : Int) - 1 := by unfold more; rw [if_pos hm]
        rw [hmm] at Ht
        clear hmm
        go_wp2_with (go_at_call 94; refine (ones_any x _ hx64).mono ?_; rintro e w' ⟨rfl, rfl⟩)
        go_roundw
        case rel => exact ⟨k + 1, by omega, by go_num, by first | (rw [Ht.out]; done) | (rw [Ht.out]; congr 1; omega), trivial⟩
        case measure => simp [intOf]; omega
      · have hmm : more t ((ones x : Int) - 1) = t := by unfold more; rw [if_neg hm]
        rw [hmm] at Ht
        have hm' : (ones x : Int) - 1 ≤ t := by omega
        clear hmm
        go_wp2_with (go_at_call 94; refine (ones_any x _ hx64).mono ?_; rintro e w' ⟨rfl, rfl⟩)
        go_roundw
        case rel => exact ⟨k + 1, by omega, by go_num, by first | (rw [Ht.out]; done) | (rw [Ht.out]; congr 1; omega), trivial⟩
        case measure => simp [intOf]; omega
    · go_wp2
      go_ret
      obtain rfl : k = fs.length := by omega
      exact ⟨ret_int (by rw [List.take_of_length_le (Nat.le_refl _)]), hB0⟩

set_option maxHeartbeats 1000000 in
theorem dimI_any (V : Int) (a0 : Option Addr) (cap : Nat) (fs : List Int) (w : World) (hx : SlI w w.heap.size a0 fs) (hl : fs.length ≤ 1048576) (hf : ∀ x ∈ fs, 1 ≤ x ∧ x ≤ 63) :
    Calls Try.prog 105 #[.agg #[.int .i64 V, .slice a0 fs.length cap]] w fun e w' => e = .returned (.int .i64 (top fs)) ∧ Below w.heap.size w w' := by
  have hB0 : Below w.heap.size w (w.alloc (.cells #[.int .i64 V, .slice a0 fs.length cap] 26)) := (Below.refl _ w).alloc (Nat.le_refl _) _
  have Hx0 := hid hx
  have Hf := hid hf
  clear hx hf
  go_enter Try.func105, Try.ntmps105
  go_wp2
  go_loopw [3, 9] (fun m i wr => ∃ k : Nat, k ≤ fs.length ∧ i = .int .i64 k ∧ m = .int .i64 (top (fs.take k)) ∧ wr = w.alloc (.cells #[.int .i64 V, .slice a0 fs.length cap] 26)) (fun _ i _ => fs.length - (intOf i).toNat)
  case atStart => exact ⟨0, Nat.zero_le _, rfl, by simp [top], rfl⟩
  case round =>
    obtain ⟨k, hk, rfl, rfl, rfl⟩ := hrel
    by_cases hlt : k < fs.length
    · obtain ⟨b, off, hb, rfl, hc⟩ : ∃ b off, b < w.heap.size ∧ a0 = some ⟨b, off, none⟩ ∧ ∀ i, i < fs.length → w.cell? ⟨b, off + i, none⟩ = some (.int .i64 (fs[i]?.getD 0)) := by
        rcases Hx0.out with rfl | h
        · simp at hlt
        · exact h
      obtain ⟨x, hx⟩ : ∃ x : Nat, (x : Int) = fs[k]?.getD 0 := ⟨(fs[k]?.getD 0).toNat, by have := Hf.out _ (getD_mem hlt); omega⟩
      have hx64 : x < 64 := by have := Hf.out _ (getD_mem hlt); omega
      have hck : ∀ o, (w.alloc o).cell? ⟨b, off + k, none⟩ = some (.int .i64 (x : Int)) := cell_alloc0 (by rw [hx]; exact hc k hlt)
      have hi0 : (0 : Int) ≤ (k : Int) := by omega
      have hi1 : (k : Int) < (fs.length : Int) := by omega
      have Ht : Hid (top (fs.take (k + 1)) = more (top (fs.take k)) ((ones x : Int) - 1)) := hid (by rw [take_snoc hlt, ← hx, top_snoc]; simp)
      have ht0 := top_lo (fs.take k)
      have ht1 := top_hi (fs.take k)
      obtain ⟨t, htt⟩ : ∃ t, t = top (fs.take k) := ⟨_, rfl⟩
      rw [← htt] at Ht ht0 ht1 ⊢
      have ho := ones_le x
      clear hx hc htt
      by_cases hm : t < (ones x : Int) - 1
      · have hmm : more t ((ones x : Int) - 1) = (ones x : Int) - 1 := by unfold more; rw [if_pos hm]
        rw [hmm] at Ht
        clear hmm
        go_wp2_with (go_at_call 106; refine (dim_any x _ hx64).mono ?_; rintro e w' ⟨rfl, rfl⟩)
        go_roundw
        case rel => exact ⟨k + 1, by omega, by go_num, by first | (rw [Ht.out]; done) | (rw [Ht.out]; congr 1; omega), trivial⟩
        case measure => simp [intOf]; omega
      · have hmm : more t ((ones x : Int) - 1) = t := by unfold more; rw [if_neg hm]
        rw [hmm] at Ht
        have hm' : (ones x : Int) - 1 ≤ t := by omega
        clear hmm
        go_wp2_with (go_at_call 106; refine (dim_any x _ hx64).mono ?_; rintro e w' ⟨rfl, rfl⟩)
        go_roundw
        case rel => exact ⟨k + 1, by omega, by go_num, by first | (rw [Ht.out]; done) | (rw [Ht.out]; congr 1; omega), trivial⟩
        case measure => simp [intOf]; omega
    · go_wp2
      go_ret
      obtain rfl : k = fs.length := by omega
      exact ⟨ret_int (by rw [List.take_of_length_le (Nat.le_refl _)]), hB0⟩

end Go.Proofs.Ytmkknfdjoajpcaa
