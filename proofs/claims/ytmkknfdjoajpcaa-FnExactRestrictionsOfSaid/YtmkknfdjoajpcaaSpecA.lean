import Derived.Test.YtmkknfdjoajpcaaGen
/-! Contracts of the model's functions of layer 1: has, is. -/
namespace Go.Proofs.Ytmkknfdjoajpcaa
open Go.RowKit

set_option maxHeartbeats 400000 in
theorem has_any (V f : Int) (a : Option Addr) (cap : Nat) (xs : List Int) (w : World) (hx : SlI w w.heap.size a xs) (hl : xs.length ≤ 1048576) :
    Calls Try.prog 67 #[.agg #[.int .i64 V, .slice a xs.length cap], .int .i64 f] w fun e w' => e = .returned (.bool (decide (f ∈ xs))) ∧ Below w.heap.size w w' := by
  have hB : ∀ x, Below w.heap.size w (w.alloc x) := fun x => (Below.refl _ w).alloc (Nat.le_refl _) _
  rcases hx with rfl | ⟨b, off, hb, rfl, hc⟩
  · go_enter Try.func67, Try.ntmps67
    go_wp2
    refine wp_loop_rounds 1 ?_; rw [rounds_succ]
    go_wp2
    go_ret
    exact ⟨ret_bool (by simp), hB _⟩
  · have hne : b ≠ w.heap.size := by omega
    go_enter Try.func67, Try.ntmps67
    go_wp2
    go_loop [5] (fun i => ∃ k : Nat, k ≤ xs.length ∧ i = .int .i64 k ∧ ∀ j, j < k → xs[j]?.getD 0 ≠ f) (fun i => xs.length - (intOf i).toNat)
    case atStart => exact ⟨0, Nat.zero_le _, rfl, by omega⟩
    case round =>
      obtain ⟨k, hk, rfl, hno⟩ := hrel
      have Hno := hid hno
      clear hno
      by_cases hlt : k < xs.length
      · have hck := hc k hlt
        have Hc := hid hc
        clear hc
        have hm := getD_mem hlt
        go_wp2
        · go_ret
          refine ⟨ret_bool ?_, hB _⟩
          have e : (xs[k] == f) = true := by assumption
          rw [List.getElem?_eq_getElem hlt] at hm
          have e' := eq_of_beq e
          rw [← e']; symm; exact decide_eq_true (by simp)
        · go_round
          case rel =>
            have e : (xs[k] == f) = false := by assumption
            refine ⟨k + 1, by omega, by go_num, fun j hj => ?_⟩
            by_cases hjk : j = k
            · subst hjk; rw [List.getElem?_eq_getElem hlt]; simpa using e
            · exact Hno.out j (by omega)
          case measure => simp [intOf]; omega
      · go_wp2
        go_ret
        refine ⟨ret_bool ?_, hB _⟩
        symm
        refine decide_eq_false (fun hm => ?_)
        obtain ⟨j, hj, e⟩ := mem_getD hm
        exact Hno.out j (by omega) e

set_option maxHeartbeats 400000 in
theorem in_any (n lo hi : Int) (w : World) :
    Calls Try.prog 86 #[.int .i64 n, .int .i64 lo, .int .i64 hi] w fun e w' => e = .returned (.bool (decide (lo ≤ n) && decide (n ≤ hi))) ∧ w = w' := by
  go_enter Try.func86, Try.ntmps86
  go_wp2
  · have h : lo ≤ n := by assumption
    go_ret
    exact ⟨ret_bool (by simp [h]), rfl⟩
  · have h : n < lo := by assumption
    go_ret
    exact ⟨ret_bool (by rw [decide_eq_false (show ¬ lo ≤ n by omega)]; rfl), rfl⟩

set_option maxHeartbeats 400000 in
theorem all_any (V : Int) (w : World) (h1 : 0 ≤ V) (h2 : V ≤ 6) :
    Calls Try.prog 66 #[.int .i64 V] w fun e w' => e = .returned (.int .i64 (allV V)) ∧ w = w' := by
  go_enter Try.func66, Try.ntmps66
  go_wp2
  go_ret
  exact ⟨ret_int (all_wrap h1 h2), rfl⟩

set_option maxHeartbeats 400000 in
theorem below_any (f : Nat) (w : World) (h2 : f < 64) :
    Calls Try.prog 88 #[.int .i64 f] w fun e w' => ∃ v, e = .returned v ∧ w'.ownsRow w.heap.size 2 1 v (belowR f 63).length ((belowR f 63).map (Value.int .i64)) ∧ Below w.heap.size w w' := by
  go_enter Try.func88, Try.ntmps88
  go_wp2
  go_loopw [3, 4] (fun v i wr => ∃ m : Nat, m ≤ 63 ∧ i = .int .i64 (62 - m) ∧ wr.ownsRow w.heap.size 2 1 v (belowR f m).length ((belowR f m).map (Value.int .i64)) ∧ Below w.heap.size w wr) (fun _ i _ => (1 + intOf i).toNat)
  case atStart =>
    exact ⟨0, by omega, by simp, World.ownsRow_made w #[] 0 (Nat.le_refl _) (by simp [maxLen]) rfl, (Below.refl _ w).alloc (Nat.le_refl _) _⟩
  case round =>
    obtain ⟨m, hm, rfl, hown, hB⟩ := hrel
    by_cases hlt : m < 63
    · have hz : (0 : Int) ≤ 62 - m := by omega
      have hlen := belowR_len f m
      have hbit := bit_one (v := 62 - m) h2
      have hne := ne_wrap (f := f) (v := 62 - m) (by omega)
      have hsub := sub_wrap (v := 62 - m) h2 (by omega)
      have Hd : Hid (∀ b, (bitN f (62 - m) && f != 2 ^ (62 - m)) = b → belowR f (m + 1) = belowR f m ++ (if b then [(f : Int) - 2 ^ (62 - m)] else [])) := by
        intro b hb; rw [belowR, hb]
      have Hs := hid hsub
      clear hsub
      have hsz := hB.size
      by_cases hb : bitN f (62 - m) = true
      · rw [if_pos hb] at hbit
        by_cases hq : (f != 2 ^ (62 - m)) = true
        · rw [hq] at hne
          have hd := Hd.out true (by rw [hb, hq]; rfl)
          have HD := hid hd
          clear hd Hd hq hb
          go_wp2_with (first
            | (at_builtin; refine append_int rfl rfl hown hsz (by omega) rfl rfl ?_; intro v' w1 hown1 hgrow1 hB1))
          go_roundw
          case rel =>
            refine ⟨m + 1, by omega, by go_num, ?_, ?_⟩
            · rw [HD.out]
              rw [Hs.out] at hown1
              exact hown1
            · exact hB.trans hB1
          case measure => simp [intOf]; omega
        · have hq' : (f != 2 ^ (62 - m)) = false := by simpa using hq
          rw [hq'] at hne
          have HD := hid (Hd.out false (by rw [hb, hq']; rfl))
          clear Hd hq hq' hb
          go_wp2_with fail
          go_roundw
          case rel =>
            refine ⟨m + 1, by omega, by go_num, ?_, hB⟩
            rw [HD.out]; simpa using hown
          case measure => simp [intOf]; omega
      · rw [if_neg hb] at hbit
        have HD := hid (Hd.out false (by simp [hb]))
        clear Hd hb hne
        go_wp2_with fail
        go_roundw
        case rel =>
          refine ⟨m + 1, by omega, by go_num, ?_, hB⟩
          rw [HD.out]; simpa using hown
        case measure => simp [intOf]; omega
    · obtain rfl : m = 63 := by omega
      go_wp2
      go_ret
      exact ⟨_, rfl, hown, hB⟩

set_option maxHeartbeats 400000 in
theorem in_yes (n lo hi : Int) (w : World) (h1 : lo ≤ n) (h2 : n ≤ hi) :
    Calls Try.prog 86 #[.int .i64 n, .int .i64 lo, .int .i64 hi] w fun e w' => e = .returned (.bool true) ∧ w = w' :=
  (in_any n lo hi w).mono fun _ _ ⟨he, hw⟩ => ⟨by rw [he]; simp [h1, h2], hw⟩

theorem in_no (n lo hi : Int) (w : World) (h : ¬ (lo ≤ n ∧ n ≤ hi)) :
    Calls Try.prog 86 #[.int .i64 n, .int .i64 lo, .int .i64 hi] w fun e w' => e = .returned (.bool false) ∧ w = w' :=
  (in_any n lo hi w).mono fun _ _ ⟨he, hw⟩ => ⟨by rw [he]; simp at h; by_cases hx : lo ≤ n
                                                  · rw [decide_eq_false (show ¬ n ≤ hi by have := h hx; omega)]; simp
                                                  · rw [decide_eq_false hx]; simp, hw⟩

theorem has_yes (V f : Int) (a : Option Addr) (cap : Nat) (xs : List Int) (w : World) (hx : SlI w w.heap.size a xs) (hl : xs.length ≤ 1048576) (h : f ∈ xs) :
    Calls Try.prog 67 #[.agg #[.int .i64 V, .slice a xs.length cap], .int .i64 f] w fun e w' => e = .returned (.bool true) ∧ Below w.heap.size w w' :=
  (has_any V f a cap xs w hx hl).mono fun _ _ ⟨he, hw⟩ => ⟨by rw [he, decide_eq_true h], hw⟩

theorem has_no (V f : Int) (a : Option Addr) (cap : Nat) (xs : List Int) (w : World) (hx : SlI w w.heap.size a xs) (hl : xs.length ≤ 1048576) (h : f ∉ xs) :
    Calls Try.prog 67 #[.agg #[.int .i64 V, .slice a xs.length cap], .int .i64 f] w fun e w' => e = .returned (.bool false) ∧ Below w.heap.size w w' :=
  (has_any V f a cap xs w hx hl).mono fun _ _ ⟨he, hw⟩ => ⟨by rw [he, decide_eq_false h], hw⟩

end Go.Proofs.Ytmkknfdjoajpcaa
