import Derived.Deep.CutRange
import Derived.Test.YtplcbiconfpmlaaMB5
import Derived.Test.YtplcbiconfpmlaaMB3
import Derived.Test.YtplcbiconfpmlaaMB7
/-! The law on GreedyPairing, walked. -/
namespace Go.Proofs.Ytplcbiconfpmlaa
open Go.RowKit

set_option maxRecDepth 100000 in
set_option maxHeartbeats 8000000 in
theorem law_GreedyPairing (V : Int) (a : Option Addr) (cap : Nat) (xs : List Int) (w : World) (hx : SlI w w.heap.size a xs) (hn : xs.length ≤ 9223372036854775807) :
    Calls Try.prog 8 #[.agg #[.int .i64 V, .slice a xs.length cap]] w fun e w' => e = .returned (.bool true) ∧ Below w.heap.size w w' := by
  have F0 : Book w w [(a, xs)] [] [] := ⟨Below.refl _ _, by simp; exact hx, by simp, by simp⟩
  have F0 := F0.alloc (.cells #[.int .i64 V, .slice a xs.length cap] 24)
  (try simp only [World.size_alloc] at F0)
  have B0 := hid F0
  clear F0 hx
  obtain ⟨r, hr⟩ : ∃ r, r = szR 1048576 xs.length := ⟨_, rfl⟩
  have Hr := hid hr
  by_cases hl : 1048576 < xs.length
  · have hr1 : r = -1 := by rw [hr]; exact szR_big (by omega)
    clear hr
    go_enter Try.func8, Try.ntmps8
    go_wp2_with fail
    refine (szCx V a xs.length cap 1048576 _ (by omega) (by omega) hn).mono ?_
    rintro e s0 ⟨rfl, hB⟩
    have B0 := hid (B0.out.below hB)
    rw [← Hr.out]
    go_wp2_with fail
    go_ret
    exact ⟨rfl, B0.out.from0⟩
  · have hr1 : 0 ≤ r := by rw [hr, szR_fit (by omega)]; omega
    have hl' : xs.length ≤ 1048576 := by omega
    clear hr hl
    obtain ⟨R, hR⟩ : ∃ R, R = greedyR V xs := ⟨_, rfl⟩
    have hRl0 : R.1.length ≤ 1048576 := by rw [hR]; exact greedyR_len V xs hl'
    obtain ⟨y0, c⟩ := R
    simp only at hRl0
    have HS : Hid (∀ a cap w', SlI w' w'.heap.size a xs → Calls Try.prog 39 #[.agg #[.int .i64 V, .slice a xs.length cap]] w' fun e w'' => ∃ v0 l0 h0, e = .returned (.tuple #[v0, .int .i64 c]) ∧ PartB w' w'' ⟨l0, h0, 49, 2, y0.length, v0, (flatP y0)⟩ ∧ Below w'.heap.size w' w'') :=
      hid (fun a cap w' h => by have := specGreedyPairing V a cap xs w' h hl'; rw [← hR] at this; refine this.mono ?_; rintro e w'' ⟨v, rfl, hr⟩; exact ⟨v, _, _, rfl, part_pairs hr, hr.2⟩)
    have HI : Hid (∀ a cap w', SlI w' w'.heap.size a xs → Calls Try.prog 40 #[.agg #[.int .i64 V, .slice a xs.length cap]] w' fun e w'' => ∃ v0 l0 h0, e = .returned (.tuple #[v0, .int .i64 c]) ∧ PartB w' w'' ⟨l0, h0, 49, 2, y0.length, v0, (flatP y0)⟩ ∧ Below w'.heap.size w' w'') :=
      hid (fun a cap w' h => by have := implGreedyPairing V a cap xs w' h hl'; rw [← hR] at this; refine this.mono ?_; rintro e w'' ⟨v, rfl, hr⟩; exact ⟨v, _, _, rfl, part_pairs hr, hr.2⟩)
    have hcc : (c != c) = false := by simp
    clear hR
    have Hq0 := hid (flatP_len y0)
    go_enter Try.func8, Try.ntmps8
    go_wp2_with fail
    refine (szCx V a xs.length cap 1048576 _ (by omega) (by omega) hn).mono ?_
    rintro e s0 ⟨rfl, hB⟩
    have zs0 := hB.size
    (try simp only [World.size_alloc] at zs0)
    have B0 := hid (B0.out.below hB)
    clear hB
    rw [← Hr.out]
    obtain ⟨q0, q1⟩ := B0.out.two (.head _)
    go_wp2_with fail
    clear q0 q1
    refine (toCx V a cap xs _ (B0.out.arg (.head _)) hl').mono ?_
    rintro e u0 ⟨gu0, rfl, hown, hB⟩
    have zu0 := hB.size
    (try simp only [World.size_alloc] at zu0)
    have B0 := hid (B0.out.row hown hB)
    clear hown hB
    (try simp only [World.size_alloc] at B0)
    go_wp2_with fail
    refine (HS.out _ _ _ (B0.out.slI (.head _))).mono ?_
    rintro e u9 ⟨vw0, lw0, hw0, rfl, p0, hB⟩
    have zu9 := hB.size
    (try simp only [World.size_alloc] at zu9)
    have B0 := hid (B0.out.below hB)
    clear hB
    have o0 := p0.own
    dsimp only at o0
    obtain ⟨_, aw0, cw0, rfl, _⟩ := pairs_form o0
    clear o0
    have lew0 : hw0 ≤ _ := p0.le
    have gew0 : _ ≤ lw0 := p0.ge
    (try simp only [World.size_alloc] at gew0)
    have B0 := hid (B0.out.add p0)
    clear p0
    (try simp only [World.size_alloc] at B0)
    obtain ⟨q0, q1⟩ := B0.out.two (.head _)
    go_wp2_with fail
    clear q0 q1
    refine (toCx V a cap xs _ (B0.out.arg (.head _)) hl').mono ?_
    rintro e x0 ⟨gx0, rfl, hown, hB⟩
    have zx0 := hB.size
    (try simp only [World.size_alloc] at zx0)
    have B0 := hid (B0.out.row hown hB)
    clear hown hB
    (try simp only [World.size_alloc] at B0)
    have B0 := hid (B0.out.alloc (.cells #[.int .i64 V, .slice (some ⟨gx0, 0, none⟩) xs.length xs.length] 28))
    (try simp only [World.size_alloc] at B0)
    obtain ⟨lxb0, lxb1⟩ := B0.out.two (.head _)
    go_wp2_with fail
    clear lxb0 lxb1
    refine (HI.out _ _ _ (B0.out.slI (.head _))).mono ?_
    rintro e v9 ⟨vg0, lg0, hg0, rfl, p0, hB⟩
    have zv9 := hB.size
    (try simp only [World.size_alloc] at zv9)
    have B0 := hid (B0.out.below hB)
    clear hB
    have o0 := p0.own
    dsimp only at o0
    obtain ⟨_, ag0, cg0, rfl, _⟩ := pairs_form o0
    clear o0
    have leg0 : hg0 ≤ _ := p0.le
    have geg0 : _ ≤ lg0 := p0.ge
    (try simp only [World.size_alloc] at geg0)
    have B0 := hid (B0.out.add p0)
    clear p0
    (try simp only [World.size_alloc] at B0)
    go_wp2_with fail
    refine (eqPairs_yes _ _ y0.length _ _ (flatP y0) _ (B0.out.slI (.head _)) (B0.out.slI (.tail _ (.tail _ (.head _)))) Hq0.out hRl0).mono ?_
    rintro e e1 ⟨rfl, hB⟩
    have ze1 := hB.size
    (try simp only [World.size_alloc] at ze1)
    have B0 := hid (B0.out.below hB)
    clear hB
    obtain ⟨lxb0, lxb1⟩ := B0.out.two (.head _)
    obtain ⟨lk0, lk1⟩ := B0.out.two (.tail _ (.head _))
    go_wp2_with fail
    go_cut [45] from 41 to 45 (fun p wx => p = .bool false ∧ e1.heap.size ≤ wx.heap.size ∧ Book w wx [(a, xs)] [(x0.heap.size, .cells #[.int .i64 V, .slice (some ⟨gx0, 0, none⟩) xs.length xs.length] 28), (w.heap.size, .cells #[.int .i64 V, .slice a xs.length cap] 24)] [⟨u9.heap.size, x0.heap.size, 2, 1, xs.length, .slice (some ⟨gx0, 0, none⟩) xs.length xs.length, xs⟩, ⟨lg0, hg0, 49, 2, y0.length, .slice ag0 y0.length cg0, (flatP y0)⟩, ⟨lw0, hw0, 49, 2, y0.length, .slice aw0 y0.length cw0, (flatP y0)⟩])
    case first =>
      go_region_with (first
        | (go_at_call 17; refine (toCx V a cap xs _ (B0.out.drew.arg (.head _)) hl').mono ?_; rintro e f0 ⟨gf0, rfl, hown, hB⟩; have zf0 : e1.heap.size ≤ f0.heap.size := hB.size; have C0 := hid (B0.out.drew.row hown hB); clear hown hB; obtain ⟨m00, m01⟩ := C0.out.two (.head _))
        | (go_at_call 21; refine (eqCx_yes V _ _ _ _ xs xs _ (C0.out.slI (.tail _ (.tail _ (.head _)))) (C0.out.slI (.head _)) hl' hl' rfl).mono ?_; rintro e h0 ⟨rfl, hB⟩))
      all_goals
        have zh0 := hB.size
        have D0 := hid (C0.out.below hB)
        clear hB
        go_wp2_with fail
        go_meet
        case rel => exact ⟨rfl, by omega, D0.out.only (by simp) (by simp)⟩
    case rest =>
      obtain ⟨rfl, zc0, hbk⟩ := hcut
      have B0 := hid hbk
      clear hbk
      clear lxb0 lxb1
      clear lk0 lk1
      obtain ⟨wd0, hwd0⟩ : ∃ x, x = wc := ⟨_, rfl⟩
      rw [← hwd0] at B0 zc0 ⊢
      clear hwd0
      obtain ⟨lxb0, lxb1⟩ := B0.out.two (.head _)
      go_wp2_with fail
      clear lxb0 lxb1
      refine (markCx V _ _ _ xs (1) _ (B0.out.own (.head _)) hl' (by omega) (by omega)).mono ?_
      rintro e mX ⟨rfl, hown, hg⟩
      have zmX := hg.size
      (try simp only [World.size_alloc] at zmX)
      have B0 := hid (B0.out.mark (ys := count (1) xs.length) (L' := [⟨lg0, hg0, 49, 2, y0.length, .slice ag0 y0.length cg0, (flatP y0)⟩, ⟨lw0, hw0, 49, 2, y0.length, .slice aw0 y0.length cw0, (flatP y0)⟩]) (.head _) hown hg (by simp only; omega) (by simp <;> omega) (by simp <;> omega))
      clear hown hg
      go_wp2_with fail
      refine (eqPairs_yes _ _ y0.length _ _ (flatP y0) _ (B0.out.slI (.head _)) (B0.out.slI (.tail _ (.head _))) Hq0.out hRl0).mono ?_
      rintro e e2 ⟨rfl, hB⟩
      have ze2 := hB.size
      (try simp only [World.size_alloc] at ze2)
      have B0 := hid (B0.out.below hB)
      clear hB
      go_wp2_with fail
      refine (markPairs _ _ _ _ (flatP y0) (1) _ (B0.out.own (.head _)) hRl0 (by omega) (by omega)).mono ?_
      rintro e mg0 ⟨rfl, hown, hg⟩
      have zmg0 := hg.size
      (try simp only [World.size_alloc] at zmg0)
      have B0 := hid (B0.out.mark (ys := count (1) (y0.length * 2)) (L' := [⟨lg0, hg0, 49, 2, y0.length, .slice ag0 y0.length cg0, count (1) (y0.length * 2)⟩, ⟨lw0, hw0, 49, 2, y0.length, .slice aw0 y0.length cw0, (flatP y0)⟩]) (.head _) hown hg (by simp only; omega) (by simp <;> omega) (by simp <;> omega))
      clear hown hg
      go_wp2_with fail
      refine (heldPairs _ _ y0.length _ (1) _ rfl (B0.out.slI (.head _)) hRl0 (by omega) (by omega)).mono ?_
      rintro e t1 ⟨rfl, hB⟩
      have zt1 := hB.size
      (try simp only [World.size_alloc] at zt1)
      have B0 := hid (B0.out.below hB)
      clear hB
      have hnn : ((1 : Int) + 2 * y0.length != 1 + 2 * y0.length) = false := by simp
      obtain ⟨q0, q1⟩ := B0.out.two (.tail _ (.head _))
      go_wp2_with fail
      clear q0 q1
      refine (toCx V a cap xs _ (B0.out.arg (.head _)) hl').mono ?_
      rintro e zc ⟨gzc, rfl, hown, hB⟩
      have zzc := hB.size
      (try simp only [World.size_alloc] at zzc)
      have B0 := hid (B0.out.row hown hB)
      clear hown hB
      (try simp only [World.size_alloc] at B0)
      go_wp2_with fail
      refine (HI.out _ _ _ (B0.out.slI (.head _))).mono ?_
      rintro e t9 ⟨vh0, lh0, hh0, rfl, p0, hB⟩
      have zt9 := hB.size
      (try simp only [World.size_alloc] at zt9)
      have B0 := hid (B0.out.below hB)
      clear hB
      have o0 := p0.own
      dsimp only at o0
      obtain ⟨_, ah0, ch0, rfl, _⟩ := pairs_form o0
      clear o0
      have leh0 : hh0 ≤ _ := p0.le
      have geh0 : _ ≤ lh0 := p0.ge
      (try simp only [World.size_alloc] at geh0)
      have B0 := hid (B0.out.add p0)
      clear p0
      (try simp only [World.size_alloc] at B0)
      go_wp2_with fail
      refine (eqPairs_yes _ _ y0.length _ _ (flatP y0) _ (B0.out.slI (.head _)) (B0.out.slI (.tail _ (.tail _ (.tail _ (.head _))))) Hq0.out hRl0).mono ?_
      rintro e e3 ⟨rfl, hB⟩
      have ze3 := hB.size
      (try simp only [World.size_alloc] at ze3)
      have B0 := hid (B0.out.below hB)
      clear hB
      go_wp2_with fail
      refine (heldPairs _ _ y0.length _ (1) _ rfl (B0.out.slI (.tail _ (.tail _ (.head _)))) hRl0 (by omega) (by omega)).mono ?_
      rintro e t2 ⟨rfl, hB⟩
      have zt2 := hB.size
      (try simp only [World.size_alloc] at zt2)
      have B0 := hid (B0.out.below hB)
      clear hB
      go_wp2_with fail
      go_ret
      exact ⟨rfl, B0.out.from0⟩

end Go.Proofs.Ytplcbiconfpmlaa
