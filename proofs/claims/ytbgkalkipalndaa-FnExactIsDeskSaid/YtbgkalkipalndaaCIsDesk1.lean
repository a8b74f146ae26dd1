import Derived.Test.YtbgkalkipalndaaMB4
import Derived.Test.YtbgkalkipalndaaMB7
/-! The law on IsDesk, walked. -/
namespace Go.Proofs.Ytbgkalkipalndaa
open Go.RowKit

theorem Book.three {w0 w : World} {A : List (Option Addr × List Int)} {bs : List (Nat × Obj)} {L : List Bk} (h : Book w0 w A bs L) {b t : Nat} {u v x : Value} (hb : (b, Obj.cells #[u, v, x] t (0, 0)) ∈ bs) : w.cell? ⟨b, 0, none⟩ = some u ∧ w.cell? ⟨b, 1, none⟩ = some v ∧ w.cell? ⟨b, 2, none⟩ = some x := by
  have := h.blocks _ hb
  refine ⟨?_, ?_, ?_⟩ <;> simp [World.cell?, this]

/-- Two new rows, out of a call. -/
theorem Book.row2 {w0 w w' : World} {A : List (Option Addr × List Int)} {bs : List (Nat × Obj)} {L : List Bk} (h : Book w0 w A bs L) {ty sz n ty' sz' n' m g : Nat} {l c : Nat} {v' : Value} {xs xs' : List Int}
    (hg : g < m) (hown : w'.ownsRow w.heap.size ty sz (.slice (some ⟨g, 0, none⟩) l c) n (xs.map (Value.int .i64))) (hown' : w'.ownsRow m ty' sz' v' n' (xs'.map (Value.int .i64))) (hmw : m ≤ w'.heap.size) (hb : Below w.heap.size w w') :
    Book w0 w' A bs (⟨w.heap.size, m, ty, sz, n, .slice (some ⟨g, 0, none⟩) l c, xs⟩ :: ⟨m, w'.heap.size, ty', sz', n', v', xs'⟩ :: L) :=
  { h.below hb with
    rows := fun p hp => by
      rcases List.mem_cons.1 hp with rfl | hp
      · refine ⟨hown, fun k hk => ?_, hmw⟩
        have e : g = k := by simpa [Value.ownBlock] using hk
        show k < m
        omega
      · rcases List.mem_cons.1 hp with rfl | hp
        · exact ⟨hown', fun k hk => (hown'.lt k hk).2, Nat.le_refl _⟩
        · exact (h.below hb).rows p hp }

set_option maxRecDepth 100000 in
set_option maxHeartbeats 8000000 in
theorem law_IsDesk (V0 : Int) (a0 : Option Addr) (cap0 : Nat) (xs0 : List Int) (a1 : Option Addr) (n1 cap1 : Nat) (ps1 : List Int) (w : World) (hx0 : SlI w w.heap.size a0 xs0) (hx1 : SlI w w.heap.size a1 ps1) (hp1 : ps1.length = 2 * n1) (wp1 : ∀ x ∈ ps1, (Lit.int .i64 x).wf = true) (hn0 : xs0.length ≤ 9223372036854775807) (hn1 : n1 ≤ 9223372036854775807) :
    Calls Try.prog 3 #[.agg #[.int .i64 V0, .slice a0 xs0.length cap0, .slice a1 n1 cap1]] w fun e w' => e = .returned (.bool true) ∧ Below w.heap.size w w' := by
  have F0 : Book w w [(a0, xs0), (a1, ps1)] [] [] := ⟨Below.refl _ _, by simp; exact ⟨hx0, hx1⟩, by simp, by simp⟩
  have F0 := F0.alloc (.cells #[.int .i64 V0, .slice a0 xs0.length cap0, .slice a1 n1 cap1] 27)
  have B0 := hid F0
  have Hsz := hid (szDk V0 a0 xs0.length cap0 a1 n1 cap1 1048576 (w.alloc (.cells #[.int .i64 V0, .slice a0 xs0.length cap0, .slice a1 n1 cap1] 27)) (by omega) (by omega) hn0 hn1)
  have Hp1 := hid hp1
  have Wp1 := hid wp1
  clear F0 hx0 hx1 hp1 wp1
  by_cases hfit : xs0.length + n1 ≤ 1048576
  · have hl0 : xs0.length ≤ 1048576 := by omega
    have hl1 : n1 ≤ 1048576 := by omega
    have he : szR (szR 1048576 xs0.length) n1 = 1048576 - xs0.length - n1 := by rw [szR_fit (left := 1048576) (n := xs0.length) (by omega), szR_fit (by omega)]
    rw [he] at Hsz
    obtain ⟨r, hr⟩ : ∃ r : Int, r = 1048576 - xs0.length - n1 := ⟨_, rfl⟩
    rw [← hr] at Hsz
    have hr0 : 0 ≤ r := by omega
    have hs0 := hid (fun W a cap a' cap' (h0 : SlI W W.heap.size a xs0) (h1 : SlI W W.heap.size a' ps1) => specIsDesk V0 a cap xs0 a' n1 cap' ps1 W h0 h1 hl0 Hp1.out hl1)
    have hi0 := hid (fun W a cap a' cap' (h0 : SlI W W.heap.size a xs0) (h1 : SlI W W.heap.size a' ps1) => implIsDesk V0 a cap xs0 a' n1 cap' ps1 W h0 h1 hl0 Hp1.out hl1 Wp1.out)
    obtain ⟨bb, hbb⟩ : ∃ bb, bb = isDeskB V0 xs0 n1 ps1 := ⟨_, rfl⟩
    rw [← hbb] at hs0 hi0
    clear hbb hfit he hr
    go_enter Try.func3, Try.ntmps3
    go_wp2_with fail
    refine Hsz.out.mono ?_
    rintro e s0 ⟨rfl, hB⟩
    have B0 := hid (B0.out.below hB)
    clear hB Hsz
    obtain ⟨q0, q1, q2⟩ := B0.out.three (.head _)
    go_wp2_with fail
    clear q0 q1 q2
    refine (toDk V0 a0 cap0 xs0 a1 n1 cap1 ps1 _ (B0.out.arg (.head _)) hl0 (B0.out.arg (.tail _ (.head _))) Hp1.out hl1).mono ?_
    rintro e u0 ⟨g, m, g2, rfl, hgm, _, hown, hown2, hB⟩
    have B0 := hid (B0.out.row2 hgm hown hown2 (by have := (hown2.lt _ rfl); omega) hB)
    clear hgm hown hown2 hB
    go_wp2_with fail
    refine (hs0.out _ _ _ _ _ (B0.out.slI (.head _)) (B0.out.slI (.tail _ (.head _)))).mono ?_
    rintro e u1 ⟨rfl, hB⟩
    have B0 := hid (B0.out.below hB)
    clear hB hs0
    obtain ⟨q0, q1, q2⟩ := B0.out.three (.head _)
    go_wp2_with fail
    clear q0 q1 q2
    refine (toDk V0 a0 cap0 xs0 a1 n1 cap1 ps1 _ (B0.out.arg (.head _)) hl0 (B0.out.arg (.tail _ (.head _))) Hp1.out hl1).mono ?_
    rintro e u2 ⟨g', m', g2', rfl, hgm, _, hown, hown2, hB⟩
    have B0 := hid (B0.out.row2 hgm hown hown2 (by have := (hown2.lt _ rfl); omega) hB)
    clear hgm hown hown2 hB
    have B0 := hid (B0.out.alloc (.cells #[.int .i64 V0, .slice (some ⟨g', 0, none⟩) xs0.length xs0.length, .slice (some ⟨g2', 0, none⟩) n1 n1] 33))
    obtain ⟨q0, q1, q2⟩ := B0.out.three (.head _)
    go_wp2_with fail
    clear q0 q1 q2
    refine (hi0.out _ _ _ _ _ (B0.out.slI (.head _)) (B0.out.slI (.tail _ (.head _)))).mono ?_
    rintro e u3 ⟨rfl, hB⟩
    have B0 := hid (B0.out.below hB)
    clear hB hi0
    obtain ⟨q0, q1, q2⟩ := B0.out.three (.head _)
    obtain ⟨p0, p1, p2⟩ := B0.out.three (.tail _ (.head _))
    have hbb : (bb != bb) = false := by simp
    go_wp2_with fail
    go_region_held3 (fun W => W.cell? ⟨u2.heap.size, 0, none⟩ = some (.int .i64 V0) ∧ W.cell? ⟨u2.heap.size, 1, none⟩ = some (.slice (some ⟨g', 0, none⟩) xs0.length xs0.length) ∧ W.cell? ⟨u2.heap.size, 2, none⟩ = some (.slice (some ⟨g2', 0, none⟩) n1 n1) ∧
        W.cell? ⟨w.heap.size, 0, none⟩ = some (.int .i64 V0) ∧ W.cell? ⟨w.heap.size, 1, none⟩ = some (.slice a0 xs0.length cap0) ∧ W.cell? ⟨w.heap.size, 2, none⟩ = some (.slice a1 n1 cap1)) (go_keep) (first
      | (go_at_call 13; refine (toDk V0 a0 cap0 xs0 a1 n1 cap1 ps1 _ (B0.out.drew.arg (.head _)) hl0 (B0.out.drew.arg (.tail _ (.head _))) Hp1.out hl1).mono ?_; rintro e f0 ⟨gf, mf, g2f, rfl, hgm, _, hown, hown2, hB⟩; have C0 := hid (B0.out.drew.row2 hgm hown hown2 (by have := (hown2.lt _ rfl); omega) hB); clear hgm hown hown2 hB; obtain ⟨m0, m1, m2⟩ := C0.out.three (.head _); obtain ⟨o0, o1, o2⟩ := C0.out.three (.tail _ (.head _)))
      | (go_at_call 15; refine (eqDk_yes V0 _ _ _ _ xs0 xs0 _ _ n1 _ _ ps1 _ (C0.out.slI (.tail _ (.tail _ (.head _)))) (C0.out.slI (.head _)) (C0.out.slI (.tail _ (.tail _ (.tail _ (.head _))))) (C0.out.slI (.tail _ (.head _))) hl0 hl0 rfl Hp1.out hl1).mono ?_; rintro e h0 ⟨rfl, hB⟩; have D0 := hid (C0.out.below hB); clear hB; obtain ⟨s0, s1, s2⟩ := D0.out.three (.head _); obtain ⟨r0, r1, r2⟩ := D0.out.three (.tail _ (.head _)))
      | fail)
    all_goals
      go_wp2_with fail
      go_ret
      exact ⟨rfl, D0.out.from0⟩
  · have he : szR (szR 1048576 xs0.length) n1 = -1 := by
      by_cases h : (1048576 : Int) < xs0.length
      · rw [szR_big h, szR_neg]
      · rw [szR_fit h, szR_big (by omega)]
    rw [he] at Hsz
    clear hfit he
    go_enter Try.func3, Try.ntmps3
    go_wp2_with fail
    refine Hsz.out.mono ?_
    rintro e s0 ⟨rfl, hB⟩
    have B0 := hid (B0.out.below hB)
    clear hB
    go_wp2_with fail
    go_ret
    exact ⟨rfl, B0.out.from0⟩

end Go.Proofs.Ytbgkalkipalndaa
