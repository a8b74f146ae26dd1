import Derived.Test.YtbhdipljhelddaaMFS5
/-! The law on FirstShelling, walked. -/
namespace Go.Proofs.Ytbhdipljhelddaa
open Go.RowKit

set_option maxRecDepth 100000 in
set_option maxHeartbeats 8000000 in
theorem law_FirstShelling (V0 : Int) (a0 : Option Addr) (cap0 : Nat) (xs0 : List Int) (w : World) (hx0 : SlI w w.heap.size a0 xs0)  (hn0 : xs0.length ≤ 9223372036854775807)  :
    Calls Try.prog 5 #[.agg #[.int .i64 V0, .slice a0 xs0.length cap0]] w fun e w' => e = .returned (.bool true) ∧ Below w.heap.size w w' := by
  have F0 : Book w w [(a0, xs0)] [] [] := ⟨Below.refl _ _, by simp; exact hx0, by simp, by simp⟩
  have F0 := F0.alloc (.cells #[.int .i64 V0, .slice a0 xs0.length cap0] 24)
  (try simp only [World.size_alloc] at F0)
  have B0 := hid F0
  clear F0 hx0
  obtain ⟨r0, hr0⟩ : ∃ r, r = szR 1048576 xs0.length := ⟨_, rfl⟩
  have Hr0 := hid hr0
  by_cases hb0 : 1048576 < xs0.length
  · have hm0 : r0 = -1 := by rw [hr0]; exact szR_big (by omega)
    clear hb0
    clear hr0
    go_enter Try.func5, Try.ntmps5
    go_wp2_with fail
    refine (szCx V0 a0 xs0.length cap0 1048576 _ (by omega) (by omega) hn0).mono ?_
    rintro e s0 ⟨rfl, hB⟩
    have zs0 := hB.size
    (try simp only [World.size_alloc] at zs0)
    have B0 := hid (B0.out.below hB)
    clear hB
    rw [← Hr0.out]
    go_wp2_with fail
    go_ret
    exact ⟨rfl, B0.out.from0⟩
  · have hv0 : r0 = 1048576 - xs0.length := by rw [hr0, szR_fit (by omega)]
    have hg0 : 0 ≤ r0 := by omega
    have hu0 : r0 ≤ 1048576 := by omega
    have hl0 : xs0.length ≤ 1048576 := by omega
    clear hr0 hb0
    have Hv0 := hid hv0
    clear hv0
    obtain ⟨R, hR⟩ : ∃ R, R = fshR V0 xs0 := ⟨_, rfl⟩
    have hRl : R.1.length ≤ 1048576 := by rw [hR]; exact fshR_len V0 xs0 hl0
    obtain ⟨ys, c⟩ := R
    simp only at hRl
    have HS : Hid (∀ a0 cap0 w', SlI w' w'.heap.size a0 xs0 → Calls Try.prog 27 #[.agg #[.int .i64 V0, .slice a0 xs0.length cap0]] w' fun e w'' => ∃ v, e = .returned (.tuple #[v, .int .i64 c]) ∧ Res w' w'' v ys) :=
      hid (fun a0 cap0 w' hs0 => by have := specFirstShelling V0 a0 cap0 xs0 w' hs0 hl0; rwa [← hR] at this)
    have HI : Hid (∀ a0 cap0 w', SlI w' w'.heap.size a0 xs0 → Calls Try.prog 28 #[.agg #[.int .i64 V0, .slice a0 xs0.length cap0]] w' fun e w'' => ∃ v, e = .returned (.tuple #[v, .int .i64 c]) ∧ Res w' w'' v ys) :=
      hid (fun a0 cap0 w' hs0 => by have := implFirstShelling V0 a0 cap0 xs0 w' hs0 hl0; rwa [← hR] at this)
    have hcc : (c != c) = false := by simp
    clear hR
    go_enter Try.func5, Try.ntmps5
    go_wp2_with fail
    refine (szCx V0 a0 xs0.length cap0 1048576 _ (by omega) (by omega) hn0).mono ?_
    rintro e s0 ⟨rfl, hB⟩
    have zs0 := hB.size
    (try simp only [World.size_alloc] at zs0)
    have B0 := hid (B0.out.below hB)
    clear hB
    rw [← Hr0.out]
    obtain ⟨q0, q1⟩ := B0.out.two (.head _)
    go_wp2_with fail
    clear q0 q1
    refine (toCx V0 a0 cap0 xs0 _ (B0.out.arg (.head _)) hl0).mono ?_
    rintro e u0 ⟨gu0, rfl, hown, hB⟩
    have zu0 := hB.size
    (try simp only [World.size_alloc] at zu0)
    have B0 := hid (B0.out.row hown hB)
    clear hown hB
    (try simp only [World.size_alloc] at B0)
    go_wp2_with fail
    refine (HS.out _ _ _ (B0.out.slI (.head _))).mono ?_
    rintro e u9 ⟨vw, rfl, hres⟩
    have zu9 := hres.2.size
    (try simp only [World.size_alloc] at zu9)
    obtain ⟨_, aw, cw, rfl, _⟩ := ownsRow_slI hres.1
    have B0 := hid (B0.out.row hres.1 hres.2)
    clear hres
    (try simp only [World.size_alloc] at B0)
    obtain ⟨q0, q1⟩ := B0.out.two (.head _)
    go_wp2_with fail
    clear q0 q1
    refine (toCx V0 a0 cap0 xs0 _ (B0.out.arg (.head _)) hl0).mono ?_
    rintro e x0 ⟨gx0, rfl, hown, hB⟩
    have zx0 := hB.size
    (try simp only [World.size_alloc] at zx0)
    have B0 := hid (B0.out.row hown hB)
    clear hown hB
    (try simp only [World.size_alloc] at B0)
    have B0 := hid (B0.out.alloc (.cells #[.int .i64 V0, .slice (some ⟨gx0, 0, none⟩) xs0.length xs0.length] 28))
    obtain ⟨p00, p01⟩ := B0.out.two (.head _)
    go_wp2_with fail
    clear p00 p01
    refine (HI.out _ _ _ (B0.out.slI (.head _))).mono ?_
    rintro e v9 ⟨vg, rfl, hres⟩
    have zv9 := hres.2.size
    (try simp only [World.size_alloc] at zv9)
    obtain ⟨_, ag, cg, rfl, _⟩ := ownsRow_slI hres.1
    have B0 := hid (B0.out.row hres.1 hres.2)
    clear hres
    (try simp only [World.size_alloc] at B0)
    go_wp2_with fail
    refine (eqInts_yes _ _ _ _ ys ys _ (B0.out.slI (.head _)) (B0.out.slI (.tail _ (.tail _ (.head _)))) hRl hRl rfl).mono ?_
    rintro e e1 ⟨rfl, hB⟩
    have ze1 := hB.size
    (try simp only [World.size_alloc] at ze1)
    have B0 := hid (B0.out.below hB)
    clear hB
    obtain ⟨lxb00, lxb01⟩ := B0.out.two (.head _)
    obtain ⟨lk00, lk01⟩ := B0.out.two (.tail _ (.head _))
    go_wp2_with fail
    go_region_with (first
      | (go_at_call 13; refine (toCx V0 a0 cap0 xs0 _ (B0.out.drew.arg (.head _)) hl0).mono ?_; rintro e f0 ⟨gf0, rfl, hown, hB⟩; have zf0 := hB.size; have C0 := hid (B0.out.drew.row hown hB); clear hown hB; obtain ⟨m00, m01⟩ := C0.out.two (.head _))
      | (go_at_call 16; refine (eqCx_yes V0 _ _ _ _ xs0 xs0 _ (C0.out.slI (.tail _ (.tail _ (.head _)))) (C0.out.slI (.head _)) hl0 hl0 rfl).mono ?_; rintro e h0 ⟨rfl, hB⟩))
    all_goals
      have zh0 := hB.size
      have D0 := hid (C0.out.below hB)
      clear hB C0 B0 m00 m01
      clear lxb00 lxb01
      clear lk00 lk01
      have B0 := D0
      clear D0
      skip
      (try simp only [World.size_alloc] at B0)
      have B0 := hid (B0.out.only (bs' := _) (L' := [⟨u9.heap.size, x0.heap.size, 2, 1, xs0.length, .slice (some ⟨gx0, 0, none⟩) xs0.length xs0.length, xs0⟩, ⟨x0.heap.size + 1, v9.heap.size, 2, 1, ys.length, .slice ag ys.length cg, ys⟩, ⟨u0.heap.size, u9.heap.size, 2, 1, ys.length, .slice aw ys.length cw, ys⟩]) (fun _ h => h) (by simp))
      obtain ⟨lxb00, lxb01⟩ := B0.out.two (.head _)
      go_wp2_with fail
      clear lxb00 lxb01
      refine (markCx V0 _ _ _ xs0 (1) _ (B0.out.own (.head _)) hl0 (by omega) (by omega)).mono ?_
      rintro e m0 ⟨rfl, hown, hg⟩
      have zm0 := hg.size
      (try simp only [World.size_alloc] at zm0)
      have B0 := hid (B0.out.mark (ys := count (1) xs0.length) (L' := [⟨x0.heap.size + 1, v9.heap.size, 2, 1, ys.length, .slice ag ys.length cg, ys⟩, ⟨u0.heap.size, u9.heap.size, 2, 1, ys.length, .slice aw ys.length cw, ys⟩]) (.head _) hown hg (by simp only; omega) (by simp; omega) (by simp <;> omega))
      clear hown hg
      go_wp2_with fail
      refine (eqInts_yes _ _ _ _ ys ys _ (B0.out.slI (.head _)) (B0.out.slI (.tail _ (.head _))) hRl hRl rfl).mono ?_
      rintro e e2 ⟨rfl, hB⟩
      have ze2 := hB.size
      (try simp only [World.size_alloc] at ze2)
      have B0 := hid (B0.out.below hB)
      clear hB
      go_wp2_with fail
      refine (markInts _ _ _ ys 1 _ (B0.out.own (.head _)) hRl (by omega) (by omega)).mono ?_
      rintro e m8 ⟨rfl, hown, hg⟩
      have zm8 := hg.size
      (try simp only [World.size_alloc] at zm8)
      have B0 := hid (B0.out.mark (ys := count 1 ys.length) (L' := [⟨x0.heap.size + 1, v9.heap.size, 2, 1, ys.length, .slice ag ys.length cg, count 1 ys.length⟩, ⟨u0.heap.size, u9.heap.size, 2, 1, ys.length, .slice aw ys.length cw, ys⟩]) (.head _) hown hg (by simp only; omega) (by simp; omega) (by simp <;> omega))
      clear hown hg
      go_wp2_with fail
      refine (heldInts _ _ ys.length _ 1 _ rfl (B0.out.slI (.head _)) hRl (by omega) (by omega)).mono ?_
      rintro e t1 ⟨rfl, hB⟩
      have zt1 := hB.size
      (try simp only [World.size_alloc] at zt1)
      have B0 := hid (B0.out.below hB)
      clear hB
      have hnn : ((1 : Int) + ys.length != 1 + ys.length) = false := by simp
      obtain ⟨q0, q1⟩ := B0.out.two (.tail _ (.head _))
      go_wp2_with fail
      clear q0 q1
      refine (toCx V0 a0 cap0 xs0 _ (B0.out.arg (.head _)) hl0).mono ?_
      rintro e y0 ⟨gy0, rfl, hown, hB⟩
      have zy0 := hB.size
      (try simp only [World.size_alloc] at zy0)
      have B0 := hid (B0.out.row hown hB)
      clear hown hB
      (try simp only [World.size_alloc] at B0)
      go_wp2_with fail
      refine (HI.out _ _ _ (B0.out.slI (.head _))).mono ?_
      rintro e t2 ⟨vh, rfl, hres⟩
      have zt2 := hres.2.size
      (try simp only [World.size_alloc] at zt2)
      obtain ⟨_, ah, ch, rfl, _⟩ := ownsRow_slI hres.1
      have B0 := hid (B0.out.row hres.1 hres.2)
      clear hres
      (try simp only [World.size_alloc] at B0)
      go_wp2_with fail
      refine (eqInts_yes _ _ _ _ ys ys _ (B0.out.slI (.head _)) (B0.out.slI (.tail _ (.tail _ (.tail _ (.head _))))) hRl hRl rfl).mono ?_
      rintro e t3 ⟨rfl, hB⟩
      have zt3 := hB.size
      (try simp only [World.size_alloc] at zt3)
      have B0 := hid (B0.out.below hB)
      clear hB
      go_wp2_with fail
      refine (heldInts _ _ ys.length _ 1 _ rfl (B0.out.slI (.tail _ (.tail _ (.head _)))) hRl (by omega) (by omega)).mono ?_
      rintro e t4 ⟨rfl, hB⟩
      have zt4 := hB.size
      (try simp only [World.size_alloc] at zt4)
      have B0 := hid (B0.out.below hB)
      clear hB
      go_wp2_with fail
      go_ret
      exact ⟨rfl, B0.out.from0⟩

end Go.Proofs.Ytbhdipljhelddaa
