import Derived.Test.YtefggcgjhpndgaaBook
import Derived.Test.YtefggcgjhpndgaaJoinOf
/-! The law on JoinOf, walked. -/
namespace Go.Proofs.Ytefggcgjhpndgaa
open Go.RowKit

set_option maxRecDepth 100000 in
set_option maxHeartbeats 8000000 in
theorem law_JoinOf (V0 : Int) (a0 : Option Addr) (cap0 : Nat) (xs0 : List Int) (V1 : Int) (a1 : Option Addr) (cap1 : Nat) (xs1 : List Int) (w : World) (hx0 : SlI w w.heap.size a0 xs0) (hx1 : SlI w w.heap.size a1 xs1)  (hn0 : xs0.length ≤ 9223372036854775807) (hn1 : xs1.length ≤ 9223372036854775807)  :
    Calls Try.prog 3 #[.agg #[.int .i64 V0, .slice a0 xs0.length cap0], .agg #[.int .i64 V1, .slice a1 xs1.length cap1]] w fun e w' => e = .returned (.bool true) ∧ Below w.heap.size w w' := by
  have F0 : Book w w [(a0, xs0), (a1, xs1)] [] [] := ⟨Below.refl _ _, by simp; exact ⟨hx0, hx1⟩, by simp, by simp⟩
  have F0 := F0.alloc (.cells #[.int .i64 V0, .slice a0 xs0.length cap0] 24)
  have F0 := F0.alloc (.cells #[.int .i64 V1, .slice a1 xs1.length cap1] 24)
  (try simp only [World.size_alloc] at F0)
  have B0 := hid F0
  clear F0 hx0 hx1
  obtain ⟨r0, hr0⟩ : ∃ r, r = szR 1048576 xs0.length := ⟨_, rfl⟩
  have Hr0 := hid hr0
  obtain ⟨r1, hr1⟩ : ∃ r, r = szR r0 xs1.length := ⟨_, rfl⟩
  have Hr1 := hid hr1
  by_cases hb0 : 1048576 < xs0.length
  · have hm0 : r0 = -1 := by rw [hr0]; exact szR_big (by omega)
    clear hb0
    clear hr0 hr1
    go_enter Try.func3, Try.ntmps3
    go_wp2_with fail
    refine (szCx V0 a0 xs0.length cap0 1048576 _ (by omega) (by omega) hn0).mono ?_
    rintro e s0 ⟨rfl, hB⟩
    have zs0 := hB.size
    (try simp only [World.size_alloc] at zs0)
    have B0 := hid (B0.out.below hB)
    clear hB
    rw [← Hr0.out]
    go_wp2_with fail
    go_ret
    exact ⟨rfl, B0.out.from0⟩
  · have hv0 : r0 = 1048576 - xs0.length := by rw [hr0, szR_fit (by omega)]
    have hg0 : 0 ≤ r0 := by omega
    have hu0 : r0 ≤ 1048576 := by omega
    have hl0 : xs0.length ≤ 1048576 := by omega
    clear hr0 hb0
    have Hv0 := hid hv0
    clear hv0
    by_cases hb1 : r0 < xs1.length
    · have hm1 : r1 = -1 := by rw [hr1]; exact szR_big (by omega)
      clear hb1
      clear hr1
      go_enter Try.func3, Try.ntmps3
      go_wp2_with fail
      refine (szCx V0 a0 xs0.length cap0 1048576 _ (by omega) (by omega) hn0).mono ?_
      rintro e s0 ⟨rfl, hB⟩
      have zs0 := hB.size
      (try simp only [World.size_alloc] at zs0)
      have B0 := hid (B0.out.below hB)
      clear hB
      rw [← Hr0.out]
      obtain ⟨q0, q1⟩ := B0.out.two (.head _)
      go_wp2_with fail
      clear q0 q1
      refine (szCx V1 a1 xs1.length cap1 r0 _ hg0 hu0 hn1).mono ?_
      rintro e s1 ⟨rfl, hB⟩
      have zs1 := hB.size
      (try simp only [World.size_alloc] at zs1)
      have B0 := hid (B0.out.below hB)
      clear hB
      rw [← Hr1.out]
      go_wp2_with fail
      go_ret
      exact ⟨rfl, B0.out.from0⟩
    · have hv1 : r1 = r0 - xs1.length := by rw [hr1, szR_fit (by omega)]
      have hg1 : 0 ≤ r1 := by omega
      have hu1 : r1 ≤ 1048576 := by omega
      have hl1 : xs1.length ≤ 1048576 := by omega
      clear hr1 hb1
      have Hv1 := hid hv1
      clear hv1
      obtain ⟨R, hR⟩ : ∃ R, R = joinOfR V0 xs0 V1 xs1 := ⟨_, rfl⟩
      have hRl : R.2.1.length ≤ 1048576 := by rw [hR]; exact joinOfR_len V0 xs0 V1 xs1 hl0 hl1
      obtain ⟨U, ys, c⟩ := R
      simp only at hRl
      have HS : Hid (∀ a0 cap0 a1 cap1 w', SlI w' w'.heap.size a0 xs0 → SlI w' w'.heap.size a1 xs1 → Calls Try.prog 16 #[.agg #[.int .i64 V0, .slice a0 xs0.length cap0], .agg #[.int .i64 V1, .slice a1 xs1.length cap1]] w' fun e w'' => ∃ v, e = .returned (.tuple #[.agg #[.int .i64 U, v], .int .i64 c]) ∧ Res w' w'' v ys) :=
        hid (fun a0 cap0 a1 cap1 w' hs0 hs1 => by have := specJoinOf V0 a0 cap0 xs0 V1 a1 cap1 xs1 w' hs0 hs1 hl0 hl1; rwa [← hR] at this)
      have HI : Hid (∀ a0 cap0 a1 cap1 w', SlI w' w'.heap.size a0 xs0 → SlI w' w'.heap.size a1 xs1 → Calls Try.prog 18 #[.agg #[.int .i64 V0, .slice a0 xs0.length cap0], .agg #[.int .i64 V1, .slice a1 xs1.length cap1]] w' fun e w'' => ∃ v, e = .returned (.tuple #[.agg #[.int .i64 U, v], .int .i64 c]) ∧ Res w' w'' v ys) :=
        hid (fun a0 cap0 a1 cap1 w' hs0 hs1 => by have := implJoinOf V0 a0 cap0 xs0 V1 a1 cap1 xs1 w' hs0 hs1 hl0 hl1; rwa [← hR] at this)
      have hcc : (c != c) = false := by simp
      clear hR
      go_enter Try.func3, Try.ntmps3
      go_wp2_with fail
      refine (szCx V0 a0 xs0.length cap0 1048576 _ (by omega) (by omega) hn0).mono ?_
      rintro e s0 ⟨rfl, hB⟩
      have zs0 := hB.size
      (try simp only [World.size_alloc] at zs0)
      have B0 := hid (B0.out.below hB)
      clear hB
      rw [← Hr0.out]
      obtain ⟨q0, q1⟩ := B0.out.two (.head _)
      go_wp2_with fail
      clear q0 q1
      refine (szCx V1 a1 xs1.length cap1 r0 _ hg0 hu0 hn1).mono ?_
      rintro e s1 ⟨rfl, hB⟩
      have zs1 := hB.size
      (try simp only [World.size_alloc] at zs1)
      have B0 := hid (B0.out.below hB)
      clear hB
      rw [← Hr1.out]
      obtain ⟨q0, q1⟩ := B0.out.two (.tail _ (.head _))
      obtain ⟨p0, p1⟩ := B0.out.two (.head _)
      have n0 := World.new_ne s1 _ q0
      have m0 := World.new_ne s1 _ p0
      go_wp2_with fail
      go_cut [6, 7] from 27 to 34 (fun p q wx => ∃ (b9 l9 h9 : Nat) (a9 : Option Addr) (c9 : Nat), p = .pointer (some ⟨b9, 0, none⟩) ∧ q = .int .i64 c ∧ s1.heap.size ≤ l9 ∧ l9 ≤ h9 ∧ h9 ≤ wx.heap.size ∧ s1.heap.size ≤ b9 ∧ (b9 < l9 ∨ h9 ≤ b9) ∧ b9 < wx.heap.size ∧ Book w wx [(a0, xs0), (a1, xs1)] [(b9, .cells #[.int .i64 U, .slice a9 ys.length c9] 26), (w.heap.size + 1, .cells #[.int .i64 V1, .slice a1 xs1.length cap1] 24), (w.heap.size, .cells #[.int .i64 V0, .slice a0 xs0.length cap0] 24)] [⟨l9, h9, 2, 1, ys.length, .slice a9 ys.length c9, ys⟩])
      case first =>
        go_region_held3 (fun w' => w'.cell? ⟨w.heap.size, 0, none⟩ = some (.int .i64 V0) ∧ w'.cell? ⟨w.heap.size, 1, none⟩ = some (.slice a0 xs0.length cap0) ∧ w'.cell? ⟨w.heap.size + 1, 0, none⟩ = some (.int .i64 V1) ∧ w'.cell? ⟨w.heap.size + 1, 1, none⟩ = some (.slice a1 xs1.length cap1)) (go_keep) (first
          | (go_at_call 17; have hC1 := C1.out; clear hC1; refine (toCx V1 a1 cap1 xs1 _ (by first | with_reducible_and_instances exact Book.arg (C1.out) (.tail _ (.head _)) | with_reducible_and_instances exact Book.arg ((C1.out.alloc (.cells #[.int .i64 0, .slice none 0 0] 26))) (.tail _ (.head _))) hl1).mono ?_; rintro e u2 ⟨g2, rfl, hown2, hB2⟩; (first | (have hZ : Below u1.heap.size u1 u2 := (by with_reducible exact hB2); have yu2 : u1.heap.size ≤ u2.heap.size := hZ.size; have C2 := hid (Book.row (C1.out) hown2 hB2); clear hZ) | (have hZ : Below (World.alloc u1 (.cells #[.int .i64 0, .slice none 0 0] 26)).heap.size (World.alloc u1 (.cells #[.int .i64 0, .slice none 0 0] 26)) u2 := (by with_reducible exact hB2); have yu2 : u1.heap.size + 1 ≤ u2.heap.size := (by simpa using hZ.size); have C2 := hid (Book.row ((C1.out.alloc (.cells #[.int .i64 0, .slice none 0 0] 26))) hown2 hB2); clear hZ)); clear hown2 hB2; (try simp only [World.size_alloc] at C2); have q02 : u2.cell? ⟨w.heap.size, 0, none⟩ = some (.int .i64 V0) := (by first | exact (C2.out.two (.tail _ (.head _))).1 | exact (C2.out.two (.tail _ (.tail _ (.head _)))).1); have q12 : u2.cell? ⟨w.heap.size, 1, none⟩ = some (.slice a0 xs0.length cap0) := (by first | exact (C2.out.two (.tail _ (.head _))).2 | exact (C2.out.two (.tail _ (.tail _ (.head _)))).2); have p02 : u2.cell? ⟨w.heap.size + 1, 0, none⟩ = some (.int .i64 V1) := (by first | exact (C2.out.two (.head _)).1 | exact (C2.out.two (.tail _ (.head _))).1); have p12 : u2.cell? ⟨w.heap.size + 1, 1, none⟩ = some (.slice a1 xs1.length cap1) := (by first | exact (C2.out.two (.head _)).2 | exact (C2.out.two (.tail _ (.head _))).2); have n2 := World.new_ne u2 _ q02; have m2 := World.new_ne u2 _ p02)
          | (go_at_call 17; refine (toCx V0 a0 cap0 xs0 _ (by first | with_reducible_and_instances exact Book.arg (B0.out.drew) (.head _) | with_reducible_and_instances exact Book.arg ((B0.out.alloc (.cells #[.int .i64 0, .slice none 0 0] 26)).drew) (.head _)) hl0).mono ?_; rintro e u1 ⟨g1, rfl, hown1, hB1⟩; (first | (have hZ : Below s1.drew.heap.size s1.drew u1 := (by with_reducible exact hB1); have yu1 : s1.heap.size ≤ u1.heap.size := hZ.size; have C1 := hid (Book.row (B0.out.drew) hown1 hB1); clear hZ) | (have hZ : Below (World.alloc s1 (.cells #[.int .i64 0, .slice none 0 0] 26)).drew.heap.size (World.alloc s1 (.cells #[.int .i64 0, .slice none 0 0] 26)).drew u1 := (by with_reducible exact hB1); have yu1 : s1.heap.size + 1 ≤ u1.heap.size := (by simpa using hZ.size); have C1 := hid (Book.row ((B0.out.alloc (.cells #[.int .i64 0, .slice none 0 0] 26)).drew) hown1 hB1); clear hZ)); clear hown1 hB1; have q01 : u1.cell? ⟨w.heap.size, 0, none⟩ = some (.int .i64 V0) := (by first | exact (C1.out.two (.tail _ (.head _))).1 | exact (C1.out.two (.tail _ (.tail _ (.head _)))).1); have q11 : u1.cell? ⟨w.heap.size, 1, none⟩ = some (.slice a0 xs0.length cap0) := (by first | exact (C1.out.two (.tail _ (.head _))).2 | exact (C1.out.two (.tail _ (.tail _ (.head _)))).2); have p01 : u1.cell? ⟨w.heap.size + 1, 0, none⟩ = some (.int .i64 V1) := (by first | exact (C1.out.two (.head _)).1 | exact (C1.out.two (.tail _ (.head _))).1); have p11 : u1.cell? ⟨w.heap.size + 1, 1, none⟩ = some (.slice a1 xs1.length cap1) := (by first | exact (C1.out.two (.head _)).2 | exact (C1.out.two (.tail _ (.head _))).2); have n1 := World.new_ne u1 _ q01; have m1 := World.new_ne u1 _ p01)
          | (go_at_call 16; refine (HS.out _ _ _ _ _ (by first | with_reducible_and_instances exact Book.slI (C2.out) (.tail _ (.head _)) | with_reducible_and_instances exact Book.slI ((C2.out.alloc (.cells #[.int .i64 0, .slice none 0 0] 26))) (.tail _ (.head _))) (by first | with_reducible_and_instances exact Book.slI (C2.out) (.head _) | with_reducible_and_instances exact Book.slI ((C2.out.alloc (.cells #[.int .i64 0, .slice none 0 0] 26))) (.head _))).mono ?_; rintro e u3 ⟨v, rfl, hr1, hr2⟩; obtain ⟨_, av, cv, rfl, _⟩ := ownsRow_slI hr1; (first | (have hZ : Below u2.heap.size u2 u3 := (by with_reducible exact hr2); have yu3 : u2.heap.size ≤ u3.heap.size := hZ.size; have C3 := hid (Book.row (C2.out) hr1 hr2); clear hZ) | (have hZ : Below (World.alloc u2 (.cells #[.int .i64 0, .slice none 0 0] 26)).heap.size (World.alloc u2 (.cells #[.int .i64 0, .slice none 0 0] 26)) u3 := (by with_reducible exact hr2); have yu3 : u2.heap.size + 1 ≤ u3.heap.size := (by simpa using hZ.size); have C3 := hid (Book.row ((C2.out.alloc (.cells #[.int .i64 0, .slice none 0 0] 26))) hr1 hr2); clear hZ)); clear hr1 hr2; (try simp only [World.size_alloc] at C3); have q03 : u3.cell? ⟨w.heap.size, 0, none⟩ = some (.int .i64 V0) := (by first | exact (C3.out.two (.tail _ (.head _))).1 | exact (C3.out.two (.tail _ (.tail _ (.head _)))).1); have q13 : u3.cell? ⟨w.heap.size, 1, none⟩ = some (.slice a0 xs0.length cap0) := (by first | exact (C3.out.two (.tail _ (.head _))).2 | exact (C3.out.two (.tail _ (.tail _ (.head _)))).2); have p03 : u3.cell? ⟨w.heap.size + 1, 0, none⟩ = some (.int .i64 V1) := (by first | exact (C3.out.two (.head _)).1 | exact (C3.out.two (.tail _ (.head _))).1); have p13 : u3.cell? ⟨w.heap.size + 1, 1, none⟩ = some (.slice a1 xs1.length cap1) := (by first | exact (C3.out.two (.head _)).2 | exact (C3.out.two (.tail _ (.head _))).2); have n3 := World.new_ne u3 _ q03; have m3 := World.new_ne u3 _ p03; (try obtain ⟨c0, c1, f0, f1⟩ := two_of (C3.out.blocks (s1.heap.size, .cells #[.int .i64 0, .slice none 0 0] 26) (.head _))); (try obtain ⟨c0, c1, f0, f1⟩ := two_of (C3.out.blocks (u1.heap.size, .cells #[.int .i64 0, .slice none 0 0] 26) (.head _))); (try obtain ⟨c0, c1, f0, f1⟩ := two_of (C3.out.blocks (u2.heap.size, .cells #[.int .i64 0, .slice none 0 0] 26) (.head _))); skip))
        all_goals
          clear q0 q1 p0 p1 n0 m0
          go_wp2_with fail
          go_meet
          case rel => first
            | exact ⟨u3.heap.size, u2.heap.size, u3.heap.size, av, cv, rfl, rfl, by omega, by omega, by simp, by omega, by omega, by simp, (by with_reducible_and_instances exact (C3.out.alloc _).only (by simp) (by simp))⟩
            | exact ⟨s1.heap.size, u2.heap.size, u3.heap.size, av, cv, rfl, rfl, by omega, by omega, by simp, by omega, by omega, by simp; omega, (Book.only (bs' := [(s1.heap.size, .cells #[.int .i64 0, .slice none 0 0] 26), (w.heap.size + 1, .cells #[.int .i64 V1, .slice a1 xs1.length cap1] 24), (w.heap.size, .cells #[.int .i64 V0, .slice a0 xs0.length cap0] 24)]) (L' := [⟨u2.heap.size, u3.heap.size, 2, 1, ys.length, .slice av ys.length cv, ys⟩]) C3.out (by simp) (by simp)).set2 (by omega) (by simp; omega) (by simp)⟩
            | exact ⟨u1.heap.size, u2.heap.size, u3.heap.size, av, cv, rfl, rfl, by omega, by omega, by simp, by omega, by omega, by simp; omega, (Book.only (bs' := [(u1.heap.size, .cells #[.int .i64 0, .slice none 0 0] 26), (w.heap.size + 1, .cells #[.int .i64 V1, .slice a1 xs1.length cap1] 24), (w.heap.size, .cells #[.int .i64 V0, .slice a0 xs0.length cap0] 24)]) (L' := [⟨u2.heap.size, u3.heap.size, 2, 1, ys.length, .slice av ys.length cv, ys⟩]) C3.out (by simp) (by simp)).set2 (by omega) (by simp; omega) (by simp)⟩
            | exact ⟨u2.heap.size, u2.heap.size + 1, u3.heap.size, av, cv, rfl, rfl, by omega, by omega, by simp, by omega, by omega, by simp; omega, (Book.only (bs' := [(u2.heap.size, .cells #[.int .i64 0, .slice none 0 0] 26), (w.heap.size + 1, .cells #[.int .i64 V1, .slice a1 xs1.length cap1] 24), (w.heap.size, .cells #[.int .i64 V0, .slice a0 xs0.length cap0] 24)]) (L' := [⟨u2.heap.size + 1, u3.heap.size, 2, 1, ys.length, .slice av ys.length cv, ys⟩]) C3.out (by simp) (by simp)).set2 (by omega) (by simp; omega) (by simp)⟩
      case rest =>
        obtain ⟨bw, lo, hi, aw, cw, rfl, rfl, zw1, zw2, zw3, zw4, zw5, zw6, hbk⟩ := hcut
        have B0 := hid hbk
        clear hbk q0 q1 p0 p1 n0 m0
        obtain ⟨wz, hwz⟩ : ∃ x, x = wc := ⟨_, rfl⟩
        rw [← hwz] at B0 zw3 zw6 ⊢
        clear hwz
        obtain ⟨q0, q1⟩ := B0.out.two (.tail _ (.tail _ (.head _)))
        go_wp2_with fail
        clear q0 q1
        refine (toCx V0 a0 cap0 xs0 _ (B0.out.arg (.head _)) hl0).mono ?_
        rintro e x0 ⟨gx0, rfl, hown, hB⟩
        have zx0 := hB.size
        (try simp only [World.size_alloc] at zx0)
        have B0 := hid (B0.out.row hown hB)
        clear hown hB
        (try simp only [World.size_alloc] at B0)
        have B0 := hid (B0.out.alloc (.cells #[.int .i64 V0, .slice (some ⟨gx0, 0, none⟩) xs0.length xs0.length] 26))
        obtain ⟨q0, q1⟩ := B0.out.two (.tail _ (.tail _ (.head _)))
        go_wp2_with fail
        clear q0 q1
        refine (toCx V1 a1 cap1 xs1 _ (B0.out.arg (.tail _ (.head _))) hl1).mono ?_
        rintro e x1 ⟨gx1, rfl, hown, hB⟩
        have zx1 := hB.size
        (try simp only [World.size_alloc] at zx1)
        have B0 := hid (B0.out.row hown hB)
        clear hown hB
        (try simp only [World.size_alloc] at B0)
        have B0 := hid (B0.out.alloc (.cells #[.int .i64 V1, .slice (some ⟨gx1, 0, none⟩) xs1.length xs1.length] 26))
        obtain ⟨p00, p01⟩ := B0.out.two (.tail _ (.head _))
        obtain ⟨p10, p11⟩ := B0.out.two (.head _)
        go_wp2_with fail
        clear p00 p01
        clear p10 p11
        refine (HI.out _ _ _ _ _ (B0.out.slI (.tail _ (.head _))) (B0.out.slI (.head _))).mono ?_
        rintro e v9 ⟨vg, rfl, hres⟩
        have zv9 := hres.2.size
        (try simp only [World.size_alloc] at zv9)
        obtain ⟨_, ag, cg, rfl, _⟩ := ownsRow_slI hres.1
        have B0 := hid (B0.out.row hres.1 hres.2)
        clear hres
        (try simp only [World.size_alloc] at B0)
        have B0 := hid (B0.out.alloc (.cells #[.int .i64 U, .slice ag ys.length cg] 26))
        obtain ⟨lgb0, lgb1⟩ := B0.out.two (.head _)
        obtain ⟨lwb0, lwb1⟩ := B0.out.two (.tail _ (.tail _ (.tail _ (.head _))))
        go_wp2_with fail
        clear lgb0 lgb1
        clear lwb0 lwb1
        refine (eqCx_yes U _ _ _ _ ys ys _ (B0.out.slI (.head _)) (B0.out.slI (.tail _ (.tail _ (.tail _ (.head _))))) hRl hRl rfl).mono ?_
        rintro e e1 ⟨rfl, hB⟩
        have ze1 := hB.size
        (try simp only [World.size_alloc] at ze1)
        have B0 := hid (B0.out.below hB)
        clear hB
        obtain ⟨lxb00, lxb01⟩ := B0.out.two (.tail _ (.tail _ (.head _)))
        obtain ⟨lk00, lk01⟩ := B0.out.two (.tail _ (.tail _ (.tail _ (.tail _ (.tail _ (.head _))))))
        go_wp2_with fail
        obtain ⟨wp0, hwp0⟩ : ∃ x : Nat, x = e1.heap.size := ⟨_, rfl⟩
        go_cut [58] from 54 to 58 (fun p wx => p = .bool false ∧ wp0 ≤ wx.heap.size ∧ Book w wx [(a0, xs0), (a1, xs1)] [(v9.heap.size, .cells #[.int .i64 U, .slice ag ys.length cg] 26), (x1.heap.size, .cells #[.int .i64 V1, .slice (some ⟨gx1, 0, none⟩) xs1.length xs1.length] 26), (x0.heap.size, .cells #[.int .i64 V0, .slice (some ⟨gx0, 0, none⟩) xs0.length xs0.length] 26), (bw, .cells #[.int .i64 U, .slice aw ys.length cw] 26), (w.heap.size + 1, .cells #[.int .i64 V1, .slice a1 xs1.length cap1] 24), (w.heap.size, .cells #[.int .i64 V0, .slice a0 xs0.length cap0] 24)] [⟨x1.heap.size + 1, v9.heap.size, 2, 1, ys.length, .slice ag ys.length cg, ys⟩, ⟨x0.heap.size + 1, x1.heap.size, 2, 1, xs1.length, .slice (some ⟨gx1, 0, none⟩) xs1.length xs1.length, xs1⟩, ⟨wz.heap.size, x0.heap.size, 2, 1, xs0.length, .slice (some ⟨gx0, 0, none⟩) xs0.length xs0.length, xs0⟩, ⟨lo, hi, 2, 1, ys.length, .slice aw ys.length cw, ys⟩])
        case first =>
          go_region_with (first
            | (go_at_call 17; refine (toCx V0 a0 cap0 xs0 _ (B0.out.drew.arg (.head _)) hl0).mono ?_; rintro e f0 ⟨gf0, rfl, hown, hB⟩; have zf0 : e1.heap.size ≤ f0.heap.size := hB.size; have C0 := hid (B0.out.drew.row hown hB); clear hown hB; obtain ⟨m00, m01⟩ := C0.out.two (.tail _ (.tail _ (.head _))))
            | (go_at_call 19; refine (eqCx_yes V0 _ _ _ _ xs0 xs0 _ (C0.out.slI (.tail _ (.tail _ (.tail _ (.head _))))) (C0.out.slI (.head _)) hl0 hl0 rfl).mono ?_; rintro e h0 ⟨rfl, hB⟩))
          all_goals
            have zh0 := hB.size
            have D0 := hid (C0.out.below hB)
            clear hB
            go_wp2_with fail
            go_meet
            case rel => exact ⟨rfl, by omega, D0.out.only (by simp) (by simp)⟩
        case rest =>
          obtain ⟨rfl, zc0, hbk⟩ := hcut
          have B0 := hid hbk
          clear hbk
          clear lxb00 lxb01
          clear lk00 lk01
          obtain ⟨wd0, hwd0⟩ : ∃ x, x = wc := ⟨_, rfl⟩
          rw [← hwd0] at B0 zc0 ⊢
          rw [hwp0] at zc0
          clear hwd0 hwp0
          obtain ⟨lxb10, lxb11⟩ := B0.out.two (.tail _ (.head _))
          obtain ⟨lk10, lk11⟩ := B0.out.two (.tail _ (.tail _ (.tail _ (.tail _ (.head _)))))
          go_wp2_with fail
          obtain ⟨wp1, hwp1⟩ : ∃ x : Nat, x = wd0.heap.size := ⟨_, rfl⟩
          go_cut [63] from 59 to 63 (fun p wx => p = .bool false ∧ wp1 ≤ wx.heap.size ∧ Book w wx [(a0, xs0), (a1, xs1)] [(v9.heap.size, .cells #[.int .i64 U, .slice ag ys.length cg] 26), (x1.heap.size, .cells #[.int .i64 V1, .slice (some ⟨gx1, 0, none⟩) xs1.length xs1.length] 26), (x0.heap.size, .cells #[.int .i64 V0, .slice (some ⟨gx0, 0, none⟩) xs0.length xs0.length] 26), (bw, .cells #[.int .i64 U, .slice aw ys.length cw] 26), (w.heap.size + 1, .cells #[.int .i64 V1, .slice a1 xs1.length cap1] 24), (w.heap.size, .cells #[.int .i64 V0, .slice a0 xs0.length cap0] 24)] [⟨x1.heap.size + 1, v9.heap.size, 2, 1, ys.length, .slice ag ys.length cg, ys⟩, ⟨x0.heap.size + 1, x1.heap.size, 2, 1, xs1.length, .slice (some ⟨gx1, 0, none⟩) xs1.length xs1.length, xs1⟩, ⟨wz.heap.size, x0.heap.size, 2, 1, xs0.length, .slice (some ⟨gx0, 0, none⟩) xs0.length xs0.length, xs0⟩, ⟨lo, hi, 2, 1, ys.length, .slice aw ys.length cw, ys⟩])
          case first =>
            go_region_with (first
              | (go_at_call 17; refine (toCx V1 a1 cap1 xs1 _ (B0.out.drew.arg (.tail _ (.head _))) hl1).mono ?_; rintro e f1 ⟨gf1, rfl, hown, hB⟩; have zf1 : wd0.heap.size ≤ f1.heap.size := hB.size; have C0 := hid (B0.out.drew.row hown hB); clear hown hB; obtain ⟨m10, m11⟩ := C0.out.two (.tail _ (.head _)))
              | (go_at_call 19; refine (eqCx_yes V1 _ _ _ _ xs1 xs1 _ (C0.out.slI (.tail _ (.tail _ (.head _)))) (C0.out.slI (.head _)) hl1 hl1 rfl).mono ?_; rintro e h1 ⟨rfl, hB⟩))
            all_goals
              have zh1 := hB.size
              have D0 := hid (C0.out.below hB)
              clear hB
              go_wp2_with fail
              go_meet
              case rel => exact ⟨rfl, by omega, D0.out.only (by simp) (by simp)⟩
          case rest =>
            obtain ⟨rfl, zc1, hbk⟩ := hcut
            have B0 := hid hbk
            clear hbk
            clear lxb10 lxb11
            clear lk10 lk11
            obtain ⟨wd1, hwd1⟩ : ∃ x, x = wc := ⟨_, rfl⟩
            rw [← hwd1] at B0 zc1 ⊢
            rw [hwp1] at zc1
            clear hwd1 hwp1
            (try simp only [World.size_alloc] at B0)
            have B0 := hid (B0.out.only (bs' := _) (L' := [⟨wz.heap.size, x0.heap.size, 2, 1, xs0.length, .slice (some ⟨gx0, 0, none⟩) xs0.length xs0.length, xs0⟩, ⟨x0.heap.size + 1, x1.heap.size, 2, 1, xs1.length, .slice (some ⟨gx1, 0, none⟩) xs1.length xs1.length, xs1⟩, ⟨x1.heap.size + 1, v9.heap.size, 2, 1, ys.length, .slice ag ys.length cg, ys⟩, ⟨lo, hi, 2, 1, ys.length, .slice aw ys.length cw, ys⟩]) (fun _ h => h) (by simp))
            obtain ⟨lxb00, lxb01⟩ := B0.out.two (.tail _ (.tail _ (.head _)))
            go_wp2_with fail
            clear lxb00 lxb01
            refine (markCx V0 _ _ _ xs0 (1) _ (B0.out.own (.head _)) hl0 (by omega) (by omega)).mono ?_
            rintro e m0 ⟨rfl, hown, hg⟩
            have zm0 := hg.size
            (try simp only [World.size_alloc] at zm0)
            have B0 := hid (B0.out.mark (ys := count (1) xs0.length) (L' := [⟨x0.heap.size + 1, x1.heap.size, 2, 1, xs1.length, .slice (some ⟨gx1, 0, none⟩) xs1.length xs1.length, xs1⟩, ⟨x1.heap.size + 1, v9.heap.size, 2, 1, ys.length, .slice ag ys.length cg, ys⟩, ⟨lo, hi, 2, 1, ys.length, .slice aw ys.length cw, ys⟩]) (.head _) hown hg (by simp only; omega) (by simp; omega) (by simp <;> omega))
            clear hown hg
            obtain ⟨lxb10, lxb11⟩ := B0.out.two (.tail _ (.head _))
            go_wp2_with fail
            clear lxb10 lxb11
            refine (markCx V1 _ _ _ xs1 (1 + xs0.length) _ (B0.out.own (.head _)) hl1 (by omega) (by omega)).mono ?_
            rintro e m1 ⟨rfl, hown, hg⟩
            have zm1 := hg.size
            (try simp only [World.size_alloc] at zm1)
            have B0 := hid (B0.out.mark (ys := count (1 + xs0.length) xs1.length) (L' := [⟨x1.heap.size + 1, v9.heap.size, 2, 1, ys.length, .slice ag ys.length cg, ys⟩, ⟨lo, hi, 2, 1, ys.length, .slice aw ys.length cw, ys⟩]) (.head _) hown hg (by simp only; omega) (by simp; omega) (by simp <;> omega))
            clear hown hg
            obtain ⟨lgb0, lgb1⟩ := B0.out.two (.head _)
            obtain ⟨lwb0, lwb1⟩ := B0.out.two (.tail _ (.tail _ (.tail _ (.head _))))
            go_wp2_with fail
            clear lgb0 lgb1
            clear lwb0 lwb1
            refine (eqCx_yes U _ _ _ _ ys ys _ (B0.out.slI (.head _)) (B0.out.slI (.tail _ (.head _))) hRl hRl rfl).mono ?_
            rintro e e2 ⟨rfl, hB⟩
            have ze2 := hB.size
            (try simp only [World.size_alloc] at ze2)
            have B0 := hid (B0.out.below hB)
            clear hB
            obtain ⟨lgb0, lgb1⟩ := B0.out.two (.head _)
            go_wp2_with fail
            clear lgb0 lgb1
            refine (markCx U _ _ _ ys 1 _ (B0.out.own (.head _)) hRl (by omega) (by omega)).mono ?_
            rintro e m8 ⟨rfl, hown, hg⟩
            have zm8 := hg.size
            (try simp only [World.size_alloc] at zm8)
            have B0 := hid (B0.out.mark (ys := count 1 ys.length) (L' := [⟨x1.heap.size + 1, v9.heap.size, 2, 1, ys.length, .slice ag ys.length cg, count 1 ys.length⟩, ⟨lo, hi, 2, 1, ys.length, .slice aw ys.length cw, ys⟩]) (.head _) hown hg (by simp only; omega) (by simp; omega) (by simp <;> omega))
            clear hown hg
            obtain ⟨lgb0, lgb1⟩ := B0.out.two (.head _)
            go_wp2_with fail
            clear lgb0 lgb1
            refine (heldCx U _ _ ys.length _ 1 _ rfl (B0.out.slI (.head _)) hRl (by omega) (by omega)).mono ?_
            rintro e t1 ⟨rfl, hB⟩
            have zt1 := hB.size
            (try simp only [World.size_alloc] at zt1)
            have B0 := hid (B0.out.below hB)
            clear hB
            have hnn : ((1 : Int) + ys.length != 1 + ys.length) = false := by simp
            obtain ⟨q0, q1⟩ := B0.out.two (.tail _ (.tail _ (.tail _ (.tail _ (.tail _ (.head _))))))
            obtain ⟨p0, p1⟩ := B0.out.two (.tail _ (.tail _ (.tail _ (.tail _ (.head _)))))
            have n0 := World.new_ne t1 _ q0
            have m0 := World.new_ne t1 _ p0
            go_wp2_with fail
            go_cut [15, 16] from 94 to 101 (fun p q wx => ∃ (b9 l9 h9 : Nat) (a9 : Option Addr) (c9 : Nat), p = .pointer (some ⟨b9, 0, none⟩) ∧ q = .int .i64 c ∧ t1.heap.size ≤ l9 ∧ l9 ≤ h9 ∧ h9 ≤ wx.heap.size ∧ t1.heap.size ≤ b9 ∧ (b9 < l9 ∨ h9 ≤ b9) ∧ b9 < wx.heap.size ∧ Book w wx [(a0, xs0), (a1, xs1)] [(b9, .cells #[.int .i64 U, .slice a9 ys.length c9] 26), (v9.heap.size, .cells #[.int .i64 U, .slice ag ys.length cg] 26), (bw, .cells #[.int .i64 U, .slice aw ys.length cw] 26), (w.heap.size + 1, .cells #[.int .i64 V1, .slice a1 xs1.length cap1] 24), (w.heap.size, .cells #[.int .i64 V0, .slice a0 xs0.length cap0] 24)] [⟨l9, h9, 2, 1, ys.length, .slice a9 ys.length c9, ys⟩, ⟨x1.heap.size + 1, v9.heap.size, 2, 1, ys.length, .slice ag ys.length cg, count 1 ys.length⟩, ⟨lo, hi, 2, 1, ys.length, .slice aw ys.length cw, ys⟩])
            case first =>
              go_region_held3 (fun w' => w'.cell? ⟨w.heap.size, 0, none⟩ = some (.int .i64 V0) ∧ w'.cell? ⟨w.heap.size, 1, none⟩ = some (.slice a0 xs0.length cap0) ∧ w'.cell? ⟨w.heap.size + 1, 0, none⟩ = some (.int .i64 V1) ∧ w'.cell? ⟨w.heap.size + 1, 1, none⟩ = some (.slice a1 xs1.length cap1)) (go_keep) (first
                | (go_at_call 17; have hC1 := C1.out; clear hC1; refine (toCx V1 a1 cap1 xs1 _ (by first | with_reducible_and_instances exact Book.arg (C1.out) (.tail _ (.head _)) | with_reducible_and_instances exact Book.arg ((C1.out.alloc (.cells #[.int .i64 0, .slice none 0 0] 26))) (.tail _ (.head _))) hl1).mono ?_; rintro e u2 ⟨g2, rfl, hown2, hB2⟩; (first | (have hZ : Below u1.heap.size u1 u2 := (by with_reducible exact hB2); have yu2 : u1.heap.size ≤ u2.heap.size := hZ.size; have C2 := hid (Book.row (C1.out) hown2 hB2); clear hZ) | (have hZ : Below (World.alloc u1 (.cells #[.int .i64 0, .slice none 0 0] 26)).heap.size (World.alloc u1 (.cells #[.int .i64 0, .slice none 0 0] 26)) u2 := (by with_reducible exact hB2); have yu2 : u1.heap.size + 1 ≤ u2.heap.size := (by simpa using hZ.size); have C2 := hid (Book.row ((C1.out.alloc (.cells #[.int .i64 0, .slice none 0 0] 26))) hown2 hB2); clear hZ)); clear hown2 hB2; (try simp only [World.size_alloc] at C2); have q02 : u2.cell? ⟨w.heap.size, 0, none⟩ = some (.int .i64 V0) := (by first | exact (C2.out.two (.tail _ (.tail _ (.tail _ (.tail _ (.tail _ (.head _))))))).1 | exact (C2.out.two (.tail _ (.tail _ (.tail _ (.tail _ (.tail _ (.tail _ (.head _)))))))).1); have q12 : u2.cell? ⟨w.heap.size, 1, none⟩ = some (.slice a0 xs0.length cap0) := (by first | exact (C2.out.two (.tail _ (.tail _ (.tail _ (.tail _ (.tail _ (.head _))))))).2 | exact (C2.out.two (.tail _ (.tail _ (.tail _ (.tail _ (.tail _ (.tail _ (.head _)))))))).2); have p02 : u2.cell? ⟨w.heap.size + 1, 0, none⟩ = some (.int .i64 V1) := (by first | exact (C2.out.two (.tail _ (.tail _ (.tail _ (.tail _ (.head _)))))).1 | exact (C2.out.two (.tail _ (.tail _ (.tail _ (.tail _ (.tail _ (.head _))))))).1); have p12 : u2.cell? ⟨w.heap.size + 1, 1, none⟩ = some (.slice a1 xs1.length cap1) := (by first | exact (C2.out.two (.tail _ (.tail _ (.tail _ (.tail _ (.head _)))))).2 | exact (C2.out.two (.tail _ (.tail _ (.tail _ (.tail _ (.tail _ (.head _))))))).2); have n2 := World.new_ne u2 _ q02; have m2 := World.new_ne u2 _ p02)
                | (go_at_call 17; refine (toCx V0 a0 cap0 xs0 _ (by first | with_reducible_and_instances exact Book.arg (B0.out.drew) (.head _) | with_reducible_and_instances exact Book.arg ((B0.out.alloc (.cells #[.int .i64 0, .slice none 0 0] 26)).drew) (.head _)) hl0).mono ?_; rintro e u1 ⟨g1, rfl, hown1, hB1⟩; (first | (have hZ : Below t1.drew.heap.size t1.drew u1 := (by with_reducible exact hB1); have yu1 : t1.heap.size ≤ u1.heap.size := hZ.size; have C1 := hid (Book.row (B0.out.drew) hown1 hB1); clear hZ) | (have hZ : Below (World.alloc t1 (.cells #[.int .i64 0, .slice none 0 0] 26)).drew.heap.size (World.alloc t1 (.cells #[.int .i64 0, .slice none 0 0] 26)).drew u1 := (by with_reducible exact hB1); have yu1 : t1.heap.size + 1 ≤ u1.heap.size := (by simpa using hZ.size); have C1 := hid (Book.row ((B0.out.alloc (.cells #[.int .i64 0, .slice none 0 0] 26)).drew) hown1 hB1); clear hZ)); clear hown1 hB1; have q01 : u1.cell? ⟨w.heap.size, 0, none⟩ = some (.int .i64 V0) := (by first | exact (C1.out.two (.tail _ (.tail _ (.tail _ (.tail _ (.tail _ (.head _))))))).1 | exact (C1.out.two (.tail _ (.tail _ (.tail _ (.tail _ (.tail _ (.tail _ (.head _)))))))).1); have q11 : u1.cell? ⟨w.heap.size, 1, none⟩ = some (.slice a0 xs0.length cap0) := (by first | exact (C1.out.two (.tail _ (.tail _ (.tail _ (.tail _ (.tail _ (.head _))))))).2 | exact (C1.out.two (.tail _ (.tail _ (.tail _ (.tail _ (.tail _ (.tail _ (.head _)))))))).2); have p01 : u1.cell? ⟨w.heap.size + 1, 0, none⟩ = some (.int .i64 V1) := (by first | exact (C1.out.two (.tail _ (.tail _ (.tail _ (.tail _ (.head _)))))).1 | exact (C1.out.two (.tail _ (.tail _ (.tail _ (.tail _ (.tail _ (.head _))))))).1); have p11 : u1.cell? ⟨w.heap.size + 1, 1, none⟩ = some (.slice a1 xs1.length cap1) := (by first | exact (C1.out.two (.tail _ (.tail _ (.tail _ (.tail _ (.head _)))))).2 | exact (C1.out.two (.tail _ (.tail _ (.tail _ (.tail _ (.tail _ (.head _))))))).2); have n1 := World.new_ne u1 _ q01; have m1 := World.new_ne u1 _ p01)
                | (go_at_call 18; refine (HI.out _ _ _ _ _ (by first | with_reducible_and_instances exact Book.slI (C2.out) (.tail _ (.head _)) | with_reducible_and_instances exact Book.slI ((C2.out.alloc (.cells #[.int .i64 0, .slice none 0 0] 26))) (.tail _ (.head _))) (by first | with_reducible_and_instances exact Book.slI (C2.out) (.head _) | with_reducible_and_instances exact Book.slI ((C2.out.alloc (.cells #[.int .i64 0, .slice none 0 0] 26))) (.head _))).mono ?_; rintro e u3 ⟨v, rfl, hr1, hr2⟩; obtain ⟨_, av, cv, rfl, _⟩ := ownsRow_slI hr1; (first | (have hZ : Below u2.heap.size u2 u3 := (by with_reducible exact hr2); have yu3 : u2.heap.size ≤ u3.heap.size := hZ.size; have C3 := hid (Book.row (C2.out) hr1 hr2); clear hZ) | (have hZ : Below (World.alloc u2 (.cells #[.int .i64 0, .slice none 0 0] 26)).heap.size (World.alloc u2 (.cells #[.int .i64 0, .slice none 0 0] 26)) u3 := (by with_reducible exact hr2); have yu3 : u2.heap.size + 1 ≤ u3.heap.size := (by simpa using hZ.size); have C3 := hid (Book.row ((C2.out.alloc (.cells #[.int .i64 0, .slice none 0 0] 26))) hr1 hr2); clear hZ)); clear hr1 hr2; (try simp only [World.size_alloc] at C3); have q03 : u3.cell? ⟨w.heap.size, 0, none⟩ = some (.int .i64 V0) := (by first | exact (C3.out.two (.tail _ (.tail _ (.tail _ (.tail _ (.tail _ (.head _))))))).1 | exact (C3.out.two (.tail _ (.tail _ (.tail _ (.tail _ (.tail _ (.tail _ (.head _)))))))).1); have q13 : u3.cell? ⟨w.heap.size, 1, none⟩ = some (.slice a0 xs0.length cap0) := (by first | exact (C3.out.two (.tail _ (.tail _ (.tail _ (.tail _ (.tail _ (.head _))))))).2 | exact (C3.out.two (.tail _ (.tail _ (.tail _ (.tail _ (.tail _ (.tail _ (.head _)))))))).2); have p03 : u3.cell? ⟨w.heap.size + 1, 0, none⟩ = some (.int .i64 V1) := (by first | exact (C3.out.two (.tail _ (.tail _ (.tail _ (.tail _ (.head _)))))).1 | exact (C3.out.two (.tail _ (.tail _ (.tail _ (.tail _ (.tail _ (.head _))))))).1); have p13 : u3.cell? ⟨w.heap.size + 1, 1, none⟩ = some (.slice a1 xs1.length cap1) := (by first | exact (C3.out.two (.tail _ (.tail _ (.tail _ (.tail _ (.head _)))))).2 | exact (C3.out.two (.tail _ (.tail _ (.tail _ (.tail _ (.tail _ (.head _))))))).2); have n3 := World.new_ne u3 _ q03; have m3 := World.new_ne u3 _ p03; (try obtain ⟨c0, c1, f0, f1⟩ := two_of (C3.out.blocks (t1.heap.size, .cells #[.int .i64 0, .slice none 0 0] 26) (.head _))); (try obtain ⟨c0, c1, f0, f1⟩ := two_of (C3.out.blocks (u1.heap.size, .cells #[.int .i64 0, .slice none 0 0] 26) (.head _))); (try obtain ⟨c0, c1, f0, f1⟩ := two_of (C3.out.blocks (u2.heap.size, .cells #[.int .i64 0, .slice none 0 0] 26) (.head _))); skip))
              all_goals
                clear q0 q1 p0 p1 n0 m0
                go_wp2_with fail
                go_meet
                case rel => first
                  | exact ⟨u3.heap.size, u2.heap.size, u3.heap.size, av, cv, rfl, rfl, by omega, by omega, by simp, by omega, by omega, by simp, (by with_reducible_and_instances exact (C3.out.alloc _).only (by simp) (by simp))⟩
                  | exact ⟨t1.heap.size, u2.heap.size, u3.heap.size, av, cv, rfl, rfl, by omega, by omega, by simp, by omega, by omega, by simp; omega, (Book.only (bs' := [(t1.heap.size, .cells #[.int .i64 0, .slice none 0 0] 26), (v9.heap.size, .cells #[.int .i64 U, .slice ag ys.length cg] 26), (bw, .cells #[.int .i64 U, .slice aw ys.length cw] 26), (w.heap.size + 1, .cells #[.int .i64 V1, .slice a1 xs1.length cap1] 24), (w.heap.size, .cells #[.int .i64 V0, .slice a0 xs0.length cap0] 24)]) (L' := [⟨u2.heap.size, u3.heap.size, 2, 1, ys.length, .slice av ys.length cv, ys⟩, ⟨x1.heap.size + 1, v9.heap.size, 2, 1, ys.length, .slice ag ys.length cg, count 1 ys.length⟩, ⟨lo, hi, 2, 1, ys.length, .slice aw ys.length cw, ys⟩]) C3.out (by simp) (by simp)).set2 (by omega) (by simp; omega) (by simp)⟩
                  | exact ⟨u1.heap.size, u2.heap.size, u3.heap.size, av, cv, rfl, rfl, by omega, by omega, by simp, by omega, by omega, by simp; omega, (Book.only (bs' := [(u1.heap.size, .cells #[.int .i64 0, .slice none 0 0] 26), (v9.heap.size, .cells #[.int .i64 U, .slice ag ys.length cg] 26), (bw, .cells #[.int .i64 U, .slice aw ys.length cw] 26), (w.heap.size + 1, .cells #[.int .i64 V1, .slice a1 xs1.length cap1] 24), (w.heap.size, .cells #[.int .i64 V0, .slice a0 xs0.length cap0] 24)]) (L' := [⟨u2.heap.size, u3.heap.size, 2, 1, ys.length, .slice av ys.length cv, ys⟩, ⟨x1.heap.size + 1, v9.heap.size, 2, 1, ys.length, .slice ag ys.length cg, count 1 ys.length⟩, ⟨lo, hi, 2, 1, ys.length, .slice aw ys.length cw, ys⟩]) C3.out (by simp) (by simp)).set2 (by omega) (by simp; omega) (by simp)⟩
                  | exact ⟨u2.heap.size, u2.heap.size + 1, u3.heap.size, av, cv, rfl, rfl, by omega, by omega, by simp, by omega, by omega, by simp; omega, (Book.only (bs' := [(u2.heap.size, .cells #[.int .i64 0, .slice none 0 0] 26), (v9.heap.size, .cells #[.int .i64 U, .slice ag ys.length cg] 26), (bw, .cells #[.int .i64 U, .slice aw ys.length cw] 26), (w.heap.size + 1, .cells #[.int .i64 V1, .slice a1 xs1.length cap1] 24), (w.heap.size, .cells #[.int .i64 V0, .slice a0 xs0.length cap0] 24)]) (L' := [⟨u2.heap.size + 1, u3.heap.size, 2, 1, ys.length, .slice av ys.length cv, ys⟩, ⟨x1.heap.size + 1, v9.heap.size, 2, 1, ys.length, .slice ag ys.length cg, count 1 ys.length⟩, ⟨lo, hi, 2, 1, ys.length, .slice aw ys.length cw, ys⟩]) C3.out (by simp) (by simp)).set2 (by omega) (by simp; omega) (by simp)⟩
            case rest =>
              obtain ⟨bh, lh, ih, ah, ch, rfl, rfl, zx1, zx2, zx3, zx4, zx5, zx6, hbk⟩ := hcut
              have B0 := hid hbk
              clear hbk q0 q1 p0 p1 n0 m0
              obtain ⟨lhb0, lhb1⟩ := B0.out.two (.head _)
              obtain ⟨lwb0, lwb1⟩ := B0.out.two (.tail _ (.tail _ (.head _)))
              go_wp2_with fail
              clear lhb0 lhb1
              clear lwb0 lwb1
              refine (eqCx_yes U _ _ _ _ ys ys _ (B0.out.slI (.head _)) (B0.out.slI (.tail _ (.tail _ (.head _)))) hRl hRl rfl).mono ?_
              rintro e t3 ⟨rfl, hB⟩
              have zt3 := hB.size
              (try simp only [World.size_alloc] at zt3)
              have B0 := hid (B0.out.below hB)
              clear hB
              obtain ⟨lgb0, lgb1⟩ := B0.out.two (.tail _ (.head _))
              go_wp2_with fail
              clear lgb0 lgb1
              refine (heldCx U _ _ ys.length _ 1 _ rfl (B0.out.slI (.tail _ (.head _))) hRl (by omega) (by omega)).mono ?_
              rintro e t4 ⟨rfl, hB⟩
              have zt4 := hB.size
              (try simp only [World.size_alloc] at zt4)
              have B0 := hid (B0.out.below hB)
              clear hB
              go_wp2_with fail
              go_ret
              exact ⟨rfl, B0.out.from0⟩

end Go.Proofs.Ytefggcgjhpndgaa
