import Derived.Test.YtbhdipljhelddaaMCF4
import Derived.Test.YtbhdipljhelddaaMCF5
import Derived.Test.YtbhdipljhelddaaMCF9
/-! The law on CancelFaces, walked. -/
namespace Go.Proofs.Ytbhdipljhelddaa
open Go.RowKit

set_option maxRecDepth 100000 in
set_option maxHeartbeats 8000000 in
theorem law_CancelFaces (V0 : Int) (a0 : Option Addr) (cap0 : Nat) (xs0 : List Int) (a1 : Option Addr) (n1 cap1 : Nat) (ps1 : List Int) (d2 : Int) (d3 : Int) (w : World) (hx0 : SlI w w.heap.size a0 xs0) (hx1 : SlI w w.heap.size a1 ps1) (hp1 : ps1.length = 2 * n1) (wp1 : ∀ x ∈ ps1, (Lit.int .i64 x).wf = true) (hn0 : xs0.length ≤ 9223372036854775807) (hn1 : n1 ≤ 9223372036854775807) (wd2 : (Lit.int .i64 d2).wf = true) (wd3 : (Lit.int .i64 d3).wf = true) :
    Calls Try.prog 4 #[.agg #[.int .i64 V0, .slice a0 xs0.length cap0], .slice a1 n1 cap1, .int .i64 d2, .int .i64 d3] w fun e w' => e = .returned (.bool true) ∧ Below w.heap.size w w' := by
  have F0 : Book w w [(a0, xs0), (a1, ps1)] [] [] := ⟨Below.refl _ _, by simp; exact ⟨hx0, hx1⟩, by simp, by simp⟩
  have F0 := F0.alloc (.cells #[.int .i64 V0, .slice a0 xs0.length cap0] 24)
  (try simp only [World.size_alloc] at F0)
  have B0 := hid F0
  clear F0 hx0 hx1
  have Hp1 := hid hp1
  have Wp1 := hid wp1
  clear hp1 wp1
  obtain ⟨r0, hr0⟩ : ∃ r, r = szR 1048576 xs0.length := ⟨_, rfl⟩
  have Hr0 := hid hr0
  obtain ⟨r1, hr1⟩ : ∃ r, r = szR r0 n1 := ⟨_, rfl⟩
  have Hr1 := hid hr1
  by_cases hb0 : 1048576 < xs0.length
  · have hm0 : r0 = -1 := by rw [hr0]; exact szR_big (by omega)
    clear hb0
    clear hr0 hr1
    go_enter Try.func4, Try.ntmps4
    go_wp2_with fail
    refine (szCx V0 a0 xs0.length cap0 1048576 _ (by omega) (by omega) hn0).mono ?_
    rintro e s0 ⟨rfl, hB⟩
    have zs0 := hB.size
    (try simp only [World.size_alloc] at zs0)
    have B0 := hid (B0.out.below hB)
    clear hB
    rw [← Hr0.out]
    go_wp2_with fail
    go_ret
    exact ⟨rfl, B0.out.from0⟩
  · have hv0 : r0 = 1048576 - xs0.length := by rw [hr0, szR_fit (by omega)]
    have hg0 : 0 ≤ r0 := by omega
    have hu0 : r0 ≤ 1048576 := by omega
    have hl0 : xs0.length ≤ 1048576 := by omega
    clear hr0 hb0
    have Hv0 := hid hv0
    clear hv0
    by_cases hb1 : r0 < n1
    · have hm1 : r1 = -1 := by rw [hr1]; exact szR_big (by omega)
      clear hb1
      clear hr1
      go_enter Try.func4, Try.ntmps4
      go_wp2_with fail
      refine (szCx V0 a0 xs0.length cap0 1048576 _ (by omega) (by omega) hn0).mono ?_
      rintro e s0 ⟨rfl, hB⟩
      have zs0 := hB.size
      (try simp only [World.size_alloc] at zs0)
      have B0 := hid (B0.out.below hB)
      clear hB
      rw [← Hr0.out]
      go_wp2_with fail
      refine (szPairs a1 n1 cap1 r0 _ hg0 hu0 hn1).mono ?_
      rintro e s1 ⟨rfl, hs1⟩
      subst hs1
      rw [← Hr1.out]
      go_wp2_with fail
      go_ret
      exact ⟨rfl, B0.out.from0⟩
    · have hv1 : r1 = r0 - n1 := by rw [hr1, szR_fit (by omega)]
      have hg1 : 0 ≤ r1 := by omega
      have hu1 : r1 ≤ 1048576 := by omega
      have hl1 : n1 ≤ 1048576 := by omega
      clear hr1 hb1
      have Hv1 := hid hv1
      clear hv1
      obtain ⟨R, hR⟩ : ∃ R, R = cancR V0 xs0 n1 ps1 d2 d3 := ⟨_, rfl⟩
      have hRl : R.1.length ≤ 1048576 := by rw [hR]; exact cancR_len V0 xs0 n1 ps1 d2 d3 hl0 Hp1.out hl1
      obtain ⟨ys, c⟩ := R
      simp only at hRl
      have HS : Hid (∀ a0 cap0 a1 cap1 w', SlI w' w'.heap.size a0 xs0 → SlI w' w'.heap.size a1 ps1 → Calls Try.prog 21 #[.agg #[.int .i64 V0, .slice a0 xs0.length cap0], .slice a1 n1 cap1, .int .i64 d2, .int .i64 d3] w' fun e w'' => ∃ v, e = .returned (.tuple #[v, .int .i64 c]) ∧ ResP w' w'' v ys) :=
        hid (fun a0 cap0 a1 cap1 w' hs0 hs1 => by have := specCancelFaces V0 a0 cap0 xs0 a1 n1 cap1 ps1 d2 d3 w' hs0 hs1 hl0 Hp1.out hl1 Wp1.out wd2 wd3; rwa [← hR] at this)
      have HI : Hid (∀ a0 cap0 a1 cap1 w', SlI w' w'.heap.size a0 xs0 → SlI w' w'.heap.size a1 ps1 → Calls Try.prog 23 #[.agg #[.int .i64 V0, .slice a0 xs0.length cap0], .slice a1 n1 cap1, .int .i64 d2, .int .i64 d3] w' fun e w'' => ∃ v, e = .returned (.tuple #[v, .int .i64 c]) ∧ ResP w' w'' v ys) :=
        hid (fun a0 cap0 a1 cap1 w' hs0 hs1 => by have := implCancelFaces V0 a0 cap0 xs0 a1 n1 cap1 ps1 d2 d3 w' hs0 hs1 hl0 Hp1.out hl1 Wp1.out wd2 wd3; rwa [← hR] at this)
      have hcc : (c != c) = false := by simp
      have Hq0 := hid (flatP_len ys)
      clear hR
      go_enter Try.func4, Try.ntmps4
      go_wp2_with fail
      refine (szCx V0 a0 xs0.length cap0 1048576 _ (by omega) (by omega) hn0).mono ?_
      rintro e s0 ⟨rfl, hB⟩
      have zs0 := hB.size
      (try simp only [World.size_alloc] at zs0)
      have B0 := hid (B0.out.below hB)
      clear hB
      rw [← Hr0.out]
      go_wp2_with fail
      refine (szPairs a1 n1 cap1 r0 _ hg0 hu0 hn1).mono ?_
      rintro e s1 ⟨rfl, hs1⟩
      subst hs1
      rw [← Hr1.out]
      obtain ⟨q0, q1⟩ := B0.out.two (.head _)
      go_wp2_with fail
      clear q0 q1
      refine (toCx V0 a0 cap0 xs0 _ (B0.out.arg (.head _)) hl0).mono ?_
      rintro e u0 ⟨gu0, rfl, hown, hB⟩
      have zu0 := hB.size
      (try simp only [World.size_alloc] at zu0)
      have B0 := hid (B0.out.row hown hB)
      clear hown hB
      (try simp only [World.size_alloc] at B0)
      go_wp2_with fail
      refine (toPairs a1 n1 cap1 ps1 _ (B0.out.arg (.tail _ (.head _))) Hp1.out hl1).mono ?_
      rintro e u1 ⟨rfl, hown, hB⟩
      have zu1 := hB.size
      (try simp only [World.size_alloc] at zu1)
      have B0 := hid (B0.out.row hown hB)
      clear hown hB
      (try simp only [World.size_alloc] at B0)
      go_wp2_with fail
      refine (HS.out _ _ _ _ _ (B0.out.slI (.tail _ (.head _))) (B0.out.slI (.head _))).mono ?_
      rintro e u9 ⟨vw, rfl, hres⟩
      have zu9 := hres.2.size
      (try simp only [World.size_alloc] at zu9)
      obtain ⟨_, aw, cw, rfl, _⟩ := pairs_form hres.1
      have B0 := hid (B0.out.row hres.1 hres.2)
      clear hres
      (try simp only [World.size_alloc] at B0)
      obtain ⟨q0, q1⟩ := B0.out.two (.head _)
      go_wp2_with fail
      clear q0 q1
      refine (toCx V0 a0 cap0 xs0 _ (B0.out.arg (.head _)) hl0).mono ?_
      rintro e x0 ⟨gx0, rfl, hown, hB⟩
      have zx0 := hB.size
      (try simp only [World.size_alloc] at zx0)
      have B0 := hid (B0.out.row hown hB)
      clear hown hB
      (try simp only [World.size_alloc] at B0)
      have B0 := hid (B0.out.alloc (.cells #[.int .i64 V0, .slice (some ⟨gx0, 0, none⟩) xs0.length xs0.length] 28))
      go_wp2_with fail
      refine (toPairs a1 n1 cap1 ps1 _ (B0.out.arg (.tail _ (.head _))) Hp1.out hl1).mono ?_
      rintro e x1 ⟨rfl, hown, hB⟩
      have zx1 := hB.size
      (try simp only [World.size_alloc] at zx1)
      have B0 := hid (B0.out.row hown hB)
      clear hown hB
      (try simp only [World.size_alloc] at B0)
      obtain ⟨p00, p01⟩ := B0.out.two (.head _)
      go_wp2_with fail
      clear p00 p01
      refine (HI.out _ _ _ _ _ (B0.out.slI (.tail _ (.head _))) (B0.out.slI (.head _))).mono ?_
      rintro e v9 ⟨vg, rfl, hres⟩
      have zv9 := hres.2.size
      (try simp only [World.size_alloc] at zv9)
      obtain ⟨_, ag, cg, rfl, _⟩ := pairs_form hres.1
      have B0 := hid (B0.out.row hres.1 hres.2)
      clear hres
      (try simp only [World.size_alloc] at B0)
      go_wp2_with fail
      refine (eqPairs_yes _ _ ys.length _ _ (flatP ys) _ (B0.out.slI (.head _)) (B0.out.slI (.tail _ (.tail _ (.tail _ (.head _))))) Hq0.out hRl).mono ?_
      rintro e e1 ⟨rfl, hB⟩
      have ze1 := hB.size
      (try simp only [World.size_alloc] at ze1)
      have B0 := hid (B0.out.below hB)
      clear hB
      obtain ⟨lxb00, lxb01⟩ := B0.out.two (.head _)
      obtain ⟨lk00, lk01⟩ := B0.out.two (.tail _ (.head _))
      go_wp2_with fail
      go_region_with (first
        | (go_at_call 13; refine (toCx V0 a0 cap0 xs0 _ (B0.out.drew.arg (.head _)) hl0).mono ?_; rintro e f0 ⟨gf0, rfl, hown, hB⟩; have zf0 := hB.size; have C0 := hid (B0.out.drew.row hown hB); clear hown hB; obtain ⟨m00, m01⟩ := C0.out.two (.head _))
        | (go_at_call 16; refine (eqCx_yes V0 _ _ _ _ xs0 xs0 _ (C0.out.slI (.tail _ (.tail _ (.tail _ (.head _))))) (C0.out.slI (.head _)) hl0 hl0 rfl).mono ?_; rintro e h0 ⟨rfl, hB⟩))
      all_goals
        have zh0 := hB.size
        have D0 := hid (C0.out.below hB)
        clear hB C0 B0 m00 m01
        clear lxb00 lxb01
        clear lk00 lk01
        have B0 := D0
        clear D0
        skip
        go_wp2_with fail
        refine (toPairs a1 n1 cap1 ps1 _ (B0.out.arg (.tail _ (.head _))) Hp1.out hl1).mono ?_
        rintro e f1 ⟨rfl, hown, hB⟩
        have zf1 := hB.size
        (try simp only [World.size_alloc] at zf1)
        have B0 := hid (B0.out.row hown hB)
        clear hown hB
        (try simp only [World.size_alloc] at B0)
        go_wp2_with fail
        refine (eqPairs_yes _ _ n1 _ _ ps1 _ (B0.out.slI (.tail _ (.tail _ (.tail _ (.head _))))) (B0.out.slI (.head _)) Hp1.out hl1).mono ?_
        rintro e h1 ⟨rfl, hB⟩
        have zh1 := hB.size
        (try simp only [World.size_alloc] at zh1)
        have B0 := hid (B0.out.below hB)
        clear hB
        (try simp only [World.size_alloc] at B0)
        have B0 := hid (B0.out.only (bs' := _) (L' := [⟨u9.heap.size, x0.heap.size, 2, 1, xs0.length, .slice (some ⟨gx0, 0, none⟩) xs0.length xs0.length, xs0⟩, ⟨x0.heap.size + 1, x1.heap.size, 65, 2, n1, .slice (some ⟨x0.heap.size + 1, 0, none⟩) n1 n1, ps1⟩, ⟨x1.heap.size, v9.heap.size, 65, 2, ys.length, .slice ag ys.length cg, (flatP ys)⟩, ⟨u1.heap.size, u9.heap.size, 65, 2, ys.length, .slice aw ys.length cw, (flatP ys)⟩]) (fun _ h => h) (by simp))
        obtain ⟨lxb00, lxb01⟩ := B0.out.two (.head _)
        go_wp2_with fail
        clear lxb00 lxb01
        refine (markCx V0 _ _ _ xs0 (1) _ (B0.out.own (.head _)) hl0 (by omega) (by omega)).mono ?_
        rintro e m0 ⟨rfl, hown, hg⟩
        have zm0 := hg.size
        (try simp only [World.size_alloc] at zm0)
        have B0 := hid (B0.out.mark (ys := count (1) xs0.length) (L' := [⟨x0.heap.size + 1, x1.heap.size, 65, 2, n1, .slice (some ⟨x0.heap.size + 1, 0, none⟩) n1 n1, ps1⟩, ⟨x1.heap.size, v9.heap.size, 65, 2, ys.length, .slice ag ys.length cg, (flatP ys)⟩, ⟨u1.heap.size, u9.heap.size, 65, 2, ys.length, .slice aw ys.length cw, (flatP ys)⟩]) (.head _) hown hg (by simp only; omega) (by simp; omega) (by simp <;> omega))
        clear hown hg
        go_wp2_with fail
        refine (markPairs _ _ _ _ ps1 (1 + xs0.length) _ (B0.out.own (.head _)) hl1 (by omega) (by omega)).mono ?_
        rintro e m1 ⟨rfl, hown, hg⟩
        have zm1 := hg.size
        (try simp only [World.size_alloc] at zm1)
        have B0 := hid (B0.out.mark (ys := count (1 + xs0.length) (n1 * 2)) (L' := [⟨x1.heap.size, v9.heap.size, 65, 2, ys.length, .slice ag ys.length cg, (flatP ys)⟩, ⟨u1.heap.size, u9.heap.size, 65, 2, ys.length, .slice aw ys.length cw, (flatP ys)⟩]) (.head _) hown hg (by simp only; omega) (by simp; omega) (by simp <;> omega))
        clear hown hg
        go_wp2_with fail
        refine (eqPairs_yes _ _ ys.length _ _ (flatP ys) _ (B0.out.slI (.head _)) (B0.out.slI (.tail _ (.head _))) Hq0.out hRl).mono ?_
        rintro e e2 ⟨rfl, hB⟩
        have ze2 := hB.size
        (try simp only [World.size_alloc] at ze2)
        have B0 := hid (B0.out.below hB)
        clear hB
        go_wp2_with fail
        refine (markPairs _ _ _ _ (flatP ys) (1) _ (B0.out.own (.head _)) hRl (by omega) (by omega)).mono ?_
        rintro e m8 ⟨rfl, hown, hg⟩
        have zm8 := hg.size
        (try simp only [World.size_alloc] at zm8)
        have B0 := hid (B0.out.mark (ys := count (1) (ys.length * 2)) (L' := [⟨x1.heap.size, v9.heap.size, 65, 2, ys.length, .slice ag ys.length cg, count (1) (ys.length * 2)⟩, ⟨u1.heap.size, u9.heap.size, 65, 2, ys.length, .slice aw ys.length cw, (flatP ys)⟩]) (.head _) hown hg (by simp only; omega) (by simp; omega) (by simp <;> omega))
        clear hown hg
        go_wp2_with fail
        refine (heldPairs _ _ ys.length _ (1) _ rfl (B0.out.slI (.head _)) hRl (by omega) (by omega)).mono ?_
        rintro e t1 ⟨rfl, hB⟩
        have zt1 := hB.size
        (try simp only [World.size_alloc] at zt1)
        have B0 := hid (B0.out.below hB)
        clear hB
        have hnn : ((1 : Int) + 2 * ys.length != 1 + 2 * ys.length) = false := by simp
        obtain ⟨q0, q1⟩ := B0.out.two (.tail _ (.head _))
        go_wp2_with fail
        clear q0 q1
        refine (toCx V0 a0 cap0 xs0 _ (B0.out.arg (.head _)) hl0).mono ?_
        rintro e y0 ⟨gy0, rfl, hown, hB⟩
        have zy0 := hB.size
        (try simp only [World.size_alloc] at zy0)
        have B0 := hid (B0.out.row hown hB)
        clear hown hB
        (try simp only [World.size_alloc] at B0)
        go_wp2_with fail
        refine (toPairs a1 n1 cap1 ps1 _ (B0.out.arg (.tail _ (.head _))) Hp1.out hl1).mono ?_
        rintro e y1 ⟨rfl, hown, hB⟩
        have zy1 := hB.size
        (try simp only [World.size_alloc] at zy1)
        have B0 := hid (B0.out.row hown hB)
        clear hown hB
        (try simp only [World.size_alloc] at B0)
        go_wp2_with fail
        refine (HI.out _ _ _ _ _ (B0.out.slI (.tail _ (.head _))) (B0.out.slI (.head _))).mono ?_
        rintro e t2 ⟨vh, rfl, hres⟩
        have zt2 := hres.2.size
        (try simp only [World.size_alloc] at zt2)
        obtain ⟨_, ah, ch, rfl, _⟩ := pairs_form hres.1
        have B0 := hid (B0.out.row hres.1 hres.2)
        clear hres
        (try simp only [World.size_alloc] at B0)
        go_wp2_with fail
        refine (eqPairs_yes _ _ ys.length _ _ (flatP ys) _ (B0.out.slI (.head _)) (B0.out.slI (.tail _ (.tail _ (.tail _ (.tail _ (.head _)))))) Hq0.out hRl).mono ?_
        rintro e t3 ⟨rfl, hB⟩
        have zt3 := hB.size
        (try simp only [World.size_alloc] at zt3)
        have B0 := hid (B0.out.below hB)
        clear hB
        go_wp2_with fail
        refine (heldPairs _ _ ys.length _ (1) _ rfl (B0.out.slI (.tail _ (.tail _ (.tail _ (.head _))))) hRl (by omega) (by omega)).mono ?_
        rintro e t4 ⟨rfl, hB⟩
        have zt4 := hB.size
        (try simp only [World.size_alloc] at zt4)
        have B0 := hid (B0.out.below hB)
        clear hB
        go_wp2_with fail
        go_ret
        exact ⟨rfl, B0.out.from0⟩

end Go.Proofs.Ytbhdipljhelddaa
