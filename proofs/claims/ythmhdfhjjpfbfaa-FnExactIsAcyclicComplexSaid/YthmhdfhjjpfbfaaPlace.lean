import Derived.Test.YthmhdfhjjpfbfaaGen
import Derived.Test.YthmhdfhjjpfbfaaSpecA
/-! The place of a number in a list, the model's and the program's. -/
namespace Go.Proofs.Ythmhdfhjjpfbfaa
open Go.RowKit

theorem idx_at {x : Int} {xs : List Int} (hm : x ∈ xs) : xs[xs.idxOf x]?.getD 0 = x := by
  have hk := List.idxOf_lt_length_of_mem hm
  rw [List.getElem?_eq_getElem hk]
  simp [List.getElem_idxOf hk]
theorem idx_ne {x : Int} {xs : List Int} {k : Nat} (hk : k < xs.idxOf x) : xs[k]?.getD 0 ≠ x := by
  have hl := List.idxOf_le_length (a := x) (l := xs)
  rw [List.getElem?_eq_getElem (by omega : k < xs.length)]
  simp only [Option.getD_some]
  unfold List.idxOf at hk
  have := List.not_of_lt_findIdx hk
  simpa using this

set_option maxRecDepth 100000 in
set_option maxHeartbeats 1000000 in
theorem index_at (a : Option Addr) (cap : Nat) (xs : List Int) (x : Int) (w : World) (hx : SlI w w.heap.size a xs) (hl : xs.length ≤ 1048576) (hm : x ∈ xs) :
    Calls Try.prog 120 #[.slice a xs.length cap, .int .i64 x] w fun e w' => e = .returned (.int .i64 (xs.idxOf x : Int)) ∧ w = w' := by
  rcases hx with rfl | ⟨b, off, hb, rfl, hc⟩
  · simp at hm
  · have Hc := hid hc
    have hil := List.idxOf_lt_length_of_mem hm
    have Hat := hid (idx_at hm)
    obtain ⟨q, hq⟩ : ∃ q, q = xs.idxOf x := ⟨_, rfl⟩
    rw [← hq] at hil Hat ⊢
    have Hlt := hid (fun k (hk : k < q) => idx_ne (x := x) (xs := xs) (by rw [← hq]; exact hk))
    clear hc hm hq
    go_enter Try.func120, Try.ntmps120
    go_wp2
    go_loop [8] (fun i => ∃ k : Nat, k ≤ q ∧ i = .int .i64 k) (fun i => xs.length - (intOf i).toNat)
    case atStart => exact ⟨0, Nat.zero_le _, rfl⟩
    case round =>
      obtain ⟨k, hk, rfl⟩ := hrel
      obtain ⟨y, hy⟩ : ∃ y, y = xs[k]?.getD 0 := ⟨_, rfl⟩
      have hck : w.cell? ⟨b, off + k, none⟩ = some (.int .i64 y) := by rw [hy]; exact Hc.out k (by omega)
      have hi0 : (0 : Int) ≤ (k : Int) := by omega
      have hi1 : (k : Int) < (xs.length : Int) := by omega
      by_cases hlt : k < q
      · have hd : (x == y) = false := by have := Hlt.out k hlt; rw [← hy] at this; simp; omega
        clear hy
        go_wp2
        go_round
        case rel => exact ⟨k + 1, by omega, by go_num⟩
        case measure => simp [intOf]; omega
      · obtain rfl : k = q := by omega
        have hd : (x == y) = true := by have := Hat.out; rw [← hy] at this; simp [this]
        clear hy
        go_wp2
        go_ret
        exact ⟨rfl, rfl⟩

set_option maxRecDepth 100000 in
set_option maxHeartbeats 1000000 in
theorem place_at (a : Option Addr) (cap : Nat) (xs : List Int) (x : Int) (w : World) (hx : SlI w w.heap.size a xs) (hl : xs.length ≤ 1048576) (hm : x ∈ xs) :
    Calls Try.prog 143 #[.slice a xs.length cap, .int .i64 x] w fun e w' => e = .returned (.int .i64 (xs.idxOf x : Int)) ∧ w = w' := by
  rcases hx with rfl | ⟨b, off, hb, rfl, hc⟩
  · simp at hm
  · have Hc := hid hc
    have hil := List.idxOf_lt_length_of_mem hm
    have Hat := hid (idx_at hm)
    obtain ⟨q, hq⟩ : ∃ q, q = xs.idxOf x := ⟨_, rfl⟩
    rw [← hq] at hil Hat ⊢
    have Hlt := hid (fun k (hk : k < q) => idx_ne (x := x) (xs := xs) (by rw [← hq]; exact hk))
    clear hc hm hq
    go_enter Try.func143, Try.ntmps143
    go_wp2
    go_loop [5] (fun i => ∃ k : Nat, k ≤ q ∧ i = .int .i64 k) (fun i => xs.length - (intOf i).toNat)
    case atStart => exact ⟨0, Nat.zero_le _, rfl⟩
    case round =>
      obtain ⟨k, hk, rfl⟩ := hrel
      obtain ⟨y, hy⟩ : ∃ y, y = xs[k]?.getD 0 := ⟨_, rfl⟩
      have hck : w.cell? ⟨b, off + k, none⟩ = some (.int .i64 y) := by rw [hy]; exact Hc.out k (by omega)
      have hi0 : (0 : Int) ≤ (k : Int) := by omega
      have hi1 : (k : Int) < (xs.length : Int) := by omega
      by_cases hlt : k < q
      · have hd : (y == x) = false := by have := Hlt.out k hlt; rw [← hy] at this; simp; omega
        clear hy
        go_wp2
        go_round
        case rel => exact ⟨k + 1, by omega, by go_num⟩
        case measure => simp [intOf]; omega
      · obtain rfl : k = q := by omega
        have hd : (y == x) = true := by have := Hat.out; rw [← hy] at this; simp [this]
        clear hy
        go_wp2
        go_ret
        exact ⟨rfl, rfl⟩

end Go.Proofs.Ythmhdfhjjpfbfaa
