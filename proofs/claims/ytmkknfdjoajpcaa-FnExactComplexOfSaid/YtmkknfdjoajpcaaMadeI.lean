import Derived.Test.YtmkknfdjoajpcaaMadeS
/-! ComplexOf: the program's. -/
namespace Go.Proofs.Ytmkknfdjoajpcaa
open Go.RowKit Go.Shelf

set_option maxRecDepth 100000 in
set_option maxHeartbeats 4000000 in
theorem implComplexOf (V : Int) (a : Option Addr) (cap : Nat) (xs : List Int) (w : World) (hx : SlI w w.heap.size a xs) (hl : xs.length ≤ 1048576) (_ : (Lit.int .i64 V).wf = true) :
    Calls Try.prog 47 #[.int .i64 V, .slice a xs.length cap] w fun e w' => ∃ v, e = .returned (.tuple #[.agg #[.int .i64 (complexOfR V xs).1, v], .int .i64 (complexOfR V xs).2.2]) ∧ Res w w' v (complexOfR V xs).2.1 := by
  have Hx := hid hx
  have hB1 : Below w.heap.size w (w.alloc (.cells #[.int .i64 0, .slice none 0 0] 26)) := (Below.refl _ w).alloc (Nat.le_refl _) _
  have HB1 := hid hB1
  obtain ⟨W, hW⟩ : ∃ W, W = w.alloc (.cells #[.int .i64 0, .slice none 0 0] 26) := ⟨_, rfl⟩
  have hb : Hid (W.heap[w.heap.size]? = some (.cells #[.int .i64 0, .slice none 0 0] 26 (0, 0))) := hid (by rw [hW]; exact heap_alloc_new _ _)
  have hBW : Hid (Below w.heap.size w W) := hid (by rw [hW]; exact hB1)
  have HW := hid hW
  obtain ⟨q0, q1, q2, q3⟩ := two_of hb.out
  clear hx hB1 hW
  by_cases hv : 1 ≤ V ∧ V ≤ 6
  · have h1 := hv.1
    have h2 := hv.2
    obtain ⟨A, hA, hA1, hA2⟩ := allV_nat h1 h2
    have Hall : Hid (∀ W, Calls Try.prog 52 #[.int .i64 V] W fun e w' => e = .returned (.int .i64 (A : Int)) ∧ W = w') := hid (fun W => by rw [hA]; exact av_any V W (by omega) h2)
    have HA := hid hA
    clear hA
    by_cases h64 : xs.length ≤ 64
    · have hd : decide ((64 : Int) < (xs.length : Int)) = false := decide_eq_false (by omega)
      go_enter Try.func47, Try.ntmps47
      go_wp2_with fail
      rw [← HW.out]
      refine (vc_yes V _ h1 h2).mono ?_
      rintro e w1 ⟨rfl, rfl⟩
      go_wp2_with fail
      go_loopw [19] (fun i wr => ∃ k : Nat, k ≤ xs.length ∧ i = .int .i64 k ∧ Hid (∀ x ∈ xs.take k, 1 ≤ x ∧ x ≤ (A : Int)) ∧ Hid (Below w.heap.size w wr ∧ wr.heap[w.heap.size]? = some (.cells #[.int .i64 0, .slice none 0 0] 26 (0, 0)))) (fun i _ => xs.length - (RowKit.intOf i).toNat)
      case atStart => exact ⟨0, Nat.zero_le _, rfl, hid (by simp), hid ⟨hBW.out, hb.out⟩⟩
      case round =>
        obtain ⟨k, hk, rfl, Hk, Hw⟩ := hrel
        by_cases hlt : k < xs.length
        · obtain ⟨b, off, hbb, rfl, hc⟩ : ∃ b off, b < w.heap.size ∧ a = some ⟨b, off, none⟩ ∧ ∀ i, i < xs.length → w.cell? ⟨b, off + i, none⟩ = some (.int .i64 (xs[i]?.getD 0)) := by
            rcases Hx.out with rfl | h
            · simp at hlt
            · exact h
          have Hc := hid hc
          clear hc
          obtain ⟨x, hx⟩ : ∃ x, x = xs[k]?.getD 0 := ⟨_, rfl⟩
          have hck : wr.cell? ⟨b, off + k, none⟩ = some (.int .i64 x) := by rw [hx]; exact (Hw.out.1.cell (p := ⟨b, off + k, none⟩) hbb).trans (Hc.out k hlt)
          have hi0 : (0 : Int) ≤ (k : Int) := by omega
          have hi1 : (k : Int) < (xs.length : Int) := by omega
          obtain ⟨r0, r1, g0, g1⟩ := two_of Hw.out.2
          have Hx1 := hid hx
          clear hx
          by_cases hlo : x < 1
          · have HR : Hid (complexOfR V xs = (0, [], 2)) := hid (by
              unfold complexOfR
              rw [if_pos ⟨h1, h2⟩, if_pos h64, if_neg]
              intro h
              have := setsOk_iff.1 h x (by rw [Hx1.out]; exact getD_mem hlt)
              omega)
            have hd1 : decide (x < 1) = true := decide_eq_true hlo
            clear hlo
            go_wp2_with fail
            (try simp only [Exit.inBlock, Exit.then])
            exact bad_end (p := 4) (u := 5) HR.out (by kernel_rfl) rfl rfl rfl Hw.out.2 Hw.out.1
          · have hd1 : decide (x < 1) = false := decide_eq_false hlo
            by_cases hhi : (A : Int) < x
            · have HR : Hid (complexOfR V xs = (0, [], 2)) := hid (by
                unfold complexOfR
                rw [if_pos ⟨h1, h2⟩, if_pos h64, if_neg]
                intro h
                have := setsOk_iff.1 h x (by rw [Hx1.out]; exact getD_mem hlt)
                rw [← HA.out] at this
                omega)
              have hd2 : decide ((A : Int) < x) = true := decide_eq_true hhi
              clear hlo hhi
              go_wp2_with fail
              refine (Hall.out _).mono ?_
              rintro e w1 ⟨rfl, rfl⟩
              go_wp2_with fail
              (try simp only [Exit.inBlock, Exit.then])
              exact bad_end (p := 4) (u := 5) HR.out (by kernel_rfl) rfl rfl rfl Hw.out.2 Hw.out.1
            · have He : Hid (∀ y ∈ xs.take (k + 1), 1 ≤ y ∧ y ≤ (A : Int)) := hid (by
                rw [take_snoc hlt, ← Hx1.out]
                intro y hy
                rcases List.mem_append.1 hy with hy | hy
                · exact Hk.out y hy
                · simp at hy; rw [hy]; omega)
              have hd2 : decide ((A : Int) < x) = false := decide_eq_false hhi
              clear hlo hhi
              go_wp2_with fail
              refine (Hall.out _).mono ?_
              rintro e w1 ⟨rfl, rfl⟩
              go_wp2_with fail
              go_roundw
              case rel => exact ⟨k + 1, by omega, by go_num, He.out, Hw⟩
              case measure => simp [RowKit.intOf]; omega
        · have hkn : k = xs.length := by omega
          have Hok : Hid (∀ x ∈ xs, 1 ≤ x ∧ x ≤ allV V) := hid (by
            have h := Hk.out
            rw [hkn, List.take_length, HA.out] at h
            exact h)
          have HR : Hid (complexOfR V xs = (V, madeL V xs, 0)) := hid (by
            unfold complexOfR
            rw [if_pos ⟨h1, h2⟩, if_pos h64, if_pos (setsOk_iff.2 Hok.out)])
          go_wp2_with fail
          refine (made_any V a cap xs wr (Hx.out.later Hw.out.1 Hw.out.1.size) hl h2 Hok.out).mono ?_
          rintro e w2 ⟨v, rfl, hr⟩
          obtain ⟨_, av, cv, rfl, _⟩ := ownsRow_slI hr.1
          have k2 := (hr.2.block _ (lt_get Hw.out.2)).trans Hw.out.2
          obtain ⟨r0, r1, g0, g1⟩ := two_of k2
          have K2 := hid k2
          clear k2
          go_wp2_with fail
          (try simp only [Exit.inBlock, Exit.then])
          rw [HR.out]
          have R3 := two_of (two_set K2.out (.int .i64 V) (.slice av (madeL V xs).length cv))
          refine done_cx (p := 4) (u := 5) (by kernel_rfl) rfl rfl R3.1 R3.2.1 rfl ⟨_, rfl, ?_⟩
          exact (hr.later Hw.out.1).set2 K2.out (by decide) (Nat.le_refl _) _ _
    · have hd : decide ((64 : Int) < (xs.length : Int)) = true := decide_eq_true (by omega)
      have HR : Hid (complexOfR V xs = (0, [], 2)) := hid (by unfold complexOfR; rw [if_pos ⟨h1, h2⟩, if_neg h64])
      go_enter Try.func47, Try.ntmps47
      go_wp2_with fail
      rw [← HW.out]
      refine (vc_yes V _ h1 h2).mono ?_
      rintro e w1 ⟨rfl, rfl⟩
      go_wp2_with fail
      (try simp only [Exit.inBlock, Exit.then])
      exact bad_end (p := 4) (u := 5) HR.out (by kernel_rfl) rfl rfl rfl hb.out hBW.out
  · have HR : Hid (complexOfR V xs = (0, [], 2)) := hid (by unfold complexOfR; rw [if_neg hv])
    have Hv := hid hv
    clear hv
    go_enter Try.func47, Try.ntmps47
    go_wp2_with fail
    rw [← HW.out]
    refine (vc_no V _ Hv.out).mono ?_
    rintro e w1 ⟨rfl, rfl⟩
    go_wp2_with fail
    (try simp only [Exit.inBlock, Exit.then])
    exact bad_end (p := 4) (u := 5) HR.out (by kernel_rfl) rfl rfl rfl hb.out hBW.out


end Go.Proofs.Ytmkknfdjoajpcaa
