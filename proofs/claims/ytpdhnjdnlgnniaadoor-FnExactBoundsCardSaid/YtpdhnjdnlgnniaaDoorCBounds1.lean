import Derived.Test.YtpdhnjdnlgnniaaDoorMB6
/-! The law on Bounds, walked. -/
namespace Go.Proofs.YtpdhnjdnlgnniaaDoor
open Go.RowKit

set_option maxRecDepth 100000 in
set_option maxHeartbeats 8000000 in
theorem law_Bounds (V0 : Int) (a0 : Option Addr) (cap0 : Nat) (xs0 : List Int) (a1 : Option Addr) (cap1 : Nat) (gs1 : List Int) (w : World) (hx0 : SlI w w.heap.size a0 xs0) (hx1 : SlI w w.heap.size a1 gs1)  (hn0 : xs0.length ≤ 9223372036854775807)  (pv : Value) (hG : w.cell? ⟨0, 0, none⟩ = some (.iface 74 pv)) :
    Calls Tryd.prog 3 #[.agg #[.int .i64 V0, .slice a0 xs0.length cap0], .slice a1 gs1.length cap1] w fun e w' => e = .returned (.bool true) ∧ Below w.heap.size w w' := by
  have HG := hid hG
  have HGl := hid (World.block_lt_of_cell? w _ hG)
  clear hG
  have F0 : Book w w [(a0, xs0), (a1, gs1)] [] [] := ⟨Below.refl _ _, by simp; exact ⟨hx0, hx1⟩, by simp, by simp⟩
  have F0 := F0.alloc (.cells #[.int .i64 V0, .slice a0 xs0.length cap0] 24)
  (try simp only [World.size_alloc] at F0)
  have B0 := hid F0
  clear F0 hx0 hx1
  obtain ⟨r0, hr0⟩ : ∃ r, r = szR 1048576 xs0.length := ⟨_, rfl⟩
  have Hr0 := hid hr0
  by_cases hbL1 : 1048576 < gs1.length
  · clear hr0
    have hbi1 : (gs1.length : Int) > 1048576 := by omega
    go_enter Tryd.func3, Tryd.ntmps3
    go_wp2_with fail
    go_ret
    exact ⟨rfl, B0.out.from0⟩
  have hl1 : gs1.length ≤ 1048576 := by omega
  have hbi1 : ¬ (gs1.length : Int) > 1048576 := by omega
  by_cases hb0 : 1048576 < xs0.length
  · have hm0 : r0 = -1 := by rw [hr0]; exact szR_big (by omega)
    clear hb0
    clear hr0
    go_enter Tryd.func3, Tryd.ntmps3
    go_wp2_with fail
    refine (szCx V0 a0 xs0.length cap0 1048576 _ (by omega) (by omega) hn0).mono ?_
    rintro e s0 ⟨rfl, hB⟩
    have zs0 := hB.size
    (try simp only [World.size_alloc] at zs0)
    have B0 := hid (B0.out.below hB)
    clear hB
    rw [← Hr0.out]
    go_wp2_with fail
    go_ret
    exact ⟨rfl, B0.out.from0⟩
  · have hv0 : r0 = 1048576 - xs0.length := by rw [hr0, szR_fit (by omega)]
    have hg0 : 0 ≤ r0 := by omega
    have hu0 : r0 ≤ 1048576 := by omega
    have hl0 : xs0.length ≤ 1048576 := by omega
    clear hr0 hb0
    have Hv0 := hid hv0
    clear hv0
    obtain ⟨R, hR⟩ : ∃ R, R = bndsR V0 xs0 gs1 := ⟨_, rfl⟩
    obtain ⟨bb, c⟩ := R
    have HS : Hid (∀ a0 cap0 a1 cap1 w', SlI w' w'.heap.size a0 xs0 → SlI w' w'.heap.size a1 gs1 → Calls Tryd.prog 6 #[.agg #[.int .i64 V0, .slice a0 xs0.length cap0], .slice a1 gs1.length cap1] w' fun e w'' => e = .returned (.tuple #[.bool bb, .int .i64 c]) ∧ Below w'.heap.size w' w'') :=
      hid (fun a0 cap0 a1 cap1 w' hs0 hs1 => by have := specBounds V0 a0 cap0 xs0 a1 cap1 gs1 w' hs0 hs1 hl0 hl1; rwa [← hR] at this)
    have HI : Hid (∀ a0 cap0 a1 cap1 w', SlI w' w'.heap.size a0 xs0 → SlI w' w'.heap.size a1 gs1 → w'.cell? ⟨0, 0, none⟩ = some (.iface 74 pv) → Calls Tryd.prog 9 #[.agg #[.int .i64 V0, .slice a0 xs0.length cap0], .slice a1 gs1.length cap1] w' fun e w'' => e = .returned (.tuple #[.bool bb, .int .i64 c]) ∧ Below w'.heap.size w' w'') :=
      hid (fun a0 cap0 a1 cap1 w' hs0 hs1 hG' => by have := implBounds V0 a0 cap0 xs0 a1 cap1 gs1 w' hs0 hs1 hl0 hl1 pv hG'; rwa [← hR] at this)
    have hcc : (c != c) = false := by simp
    clear hR
    go_enter Tryd.func3, Tryd.ntmps3
    go_wp2_with fail
    refine (szCx V0 a0 xs0.length cap0 1048576 _ (by omega) (by omega) hn0).mono ?_
    rintro e s0 ⟨rfl, hB⟩
    have zs0 := hB.size
    (try simp only [World.size_alloc] at zs0)
    have B0 := hid (B0.out.below hB)
    clear hB
    rw [← Hr0.out]
    obtain ⟨q0, q1⟩ := B0.out.two (.head _)
    go_wp2_with fail
    clear q0 q1
    refine (toCx V0 a0 cap0 xs0 _ (B0.out.arg (.head _)) hl0).mono ?_
    rintro e u0 ⟨gu0, rfl, hown, hB⟩
    have zu0 := hB.size
    (try simp only [World.size_alloc] at zu0)
    have B0 := hid (B0.out.row hown hB)
    clear hown hB
    (try simp only [World.size_alloc] at B0)
    go_wp2_with fail
    refine (toInts a1 cap1 gs1 _ (B0.out.arg (.tail _ (.head _))) hl1).mono ?_
    rintro e u1 ⟨rfl, hown, hB⟩
    have zu1 := hB.size
    (try simp only [World.size_alloc] at zu1)
    have B0 := hid (B0.out.row hown hB)
    clear hown hB
    (try simp only [World.size_alloc] at B0)
    go_wp2_with fail
    refine (HS.out _ _ _ _ _ (B0.out.slI (.tail _ (.head _))) (B0.out.slI (.head _))).mono ?_
    rintro e u9 ⟨rfl, hB⟩
    have zu9 := hB.size
    (try simp only [World.size_alloc] at zu9)
    have B0 := hid (B0.out.below hB)
    clear hB
    obtain ⟨q0, q1⟩ := B0.out.two (.head _)
    go_wp2_with fail
    clear q0 q1
    refine (toCx V0 a0 cap0 xs0 _ (B0.out.arg (.head _)) hl0).mono ?_
    rintro e x0 ⟨gx0, rfl, hown, hB⟩
    have zx0 := hB.size
    (try simp only [World.size_alloc] at zx0)
    have B0 := hid (B0.out.row hown hB)
    clear hown hB
    (try simp only [World.size_alloc] at B0)
    have B0 := hid (B0.out.alloc (.cells #[.int .i64 V0, .slice (some ⟨gx0, 0, none⟩) xs0.length xs0.length] 28))
    go_wp2_with fail
    refine (toInts a1 cap1 gs1 _ (B0.out.arg (.tail _ (.head _))) hl1).mono ?_
    rintro e x1 ⟨rfl, hown, hB⟩
    have zx1 := hB.size
    (try simp only [World.size_alloc] at zx1)
    have B0 := hid (B0.out.row hown hB)
    clear hown hB
    (try simp only [World.size_alloc] at B0)
    obtain ⟨p00, p01⟩ := B0.out.two (.head _)
    go_wp2_with fail
    clear p00 p01
    refine (HI.out _ _ _ _ _ (B0.out.slI (.tail _ (.head _))) (B0.out.slI (.head _)) ((B0.out.from0.cell (p := ⟨0, 0, none⟩) HGl.out).trans HG.out)).mono ?_
    rintro e v9 ⟨rfl, hB⟩
    have zv9 := hB.size
    (try simp only [World.size_alloc] at zv9)
    have B0 := hid (B0.out.below hB)
    clear hB
    clear HS HI
    cases bb
    all_goals
      obtain ⟨lxb00, lxb01⟩ := B0.out.two (.head _)
      obtain ⟨lk00, lk01⟩ := B0.out.two (.tail _ (.head _))
      go_wp2_with fail
      go_region_with (first
        | (go_at_call 7; refine (toCx V0 a0 cap0 xs0 _ (B0.out.drew.arg (.head _)) hl0).mono ?_; rintro e f0 ⟨gf0, rfl, hown, hB⟩; have zf0 := hB.size; have C0 := hid (B0.out.drew.row hown hB); clear hown hB; obtain ⟨m00, m01⟩ := C0.out.two (.head _))
        | (go_at_call 10; refine (eqCx_yes V0 _ _ _ _ xs0 xs0 _ (C0.out.slI (.tail _ (.tail _ (.head _)))) (C0.out.slI (.head _)) hl0 hl0 rfl).mono ?_; rintro e h0 ⟨rfl, hB⟩))
      all_goals
        have zh0 := hB.size
        have D0 := hid (C0.out.below hB)
        clear hB C0 B0 m00 m01
        clear lxb00 lxb01
        clear lk00 lk01
        have B0 := D0
        clear D0
        skip
        go_wp2_with fail
        refine (toInts a1 cap1 gs1 _ (B0.out.arg (.tail _ (.head _))) hl1).mono ?_
        rintro e f1 ⟨rfl, hown, hB⟩
        have zf1 := hB.size
        (try simp only [World.size_alloc] at zf1)
        have B0 := hid (B0.out.row hown hB)
        clear hown hB
        (try simp only [World.size_alloc] at B0)
        go_wp2_with fail
        refine (eqInts_yes _ _ _ _ gs1 gs1 _ (B0.out.slI (.tail _ (.tail _ (.head _)))) (B0.out.slI (.head _)) hl1 hl1 rfl).mono ?_
        rintro e h1 ⟨rfl, hB⟩
        have zh1 := hB.size
        (try simp only [World.size_alloc] at zh1)
        have B0 := hid (B0.out.below hB)
        clear hB
        go_wp2_with fail
        go_ret
        exact ⟨rfl, B0.out.from0⟩

end Go.Proofs.YtpdhnjdnlgnniaaDoor
