import Derived.Test.YtbgkalkipalndaaRows
import Derived.ProofKit
import Derived.OpenShut
import Derived.ShutString
import Derived.ChangeOld
import Derived.Below
import Derived.Lib.SmallJoins
import Derived.Test.YtbgkalkipalndaaMB1
import Derived.Test.YtbgkalkipalndaaMB2
import Derived.Test.YtbgkalkipalndaaMB4
import Derived.Test.YtbgkalkipalndaaMB5
import Derived.Test.YtbgkalkipalndaaMB6
/-! Desks in the laws: sizes, copies, comparisons. -/
namespace Go.Proofs.Ytbgkalkipalndaa
open Go.RowKit

theorem three_of {w : World} {b : Nat} {x y z : Value} {t : Nat} (h : w.heap[b]? = some (.cells #[x, y, z] t (0, 0))) : w.cell? ⟨b, 0, none⟩ = some x ∧ w.cell? ⟨b, 1, none⟩ = some y ∧ w.cell? ⟨b, 2, none⟩ = some z ∧
    w.frozen? ⟨b, 0, none⟩ = false ∧ w.frozen? ⟨b, 1, none⟩ = false ∧ w.frozen? ⟨b, 2, none⟩ = false := by
  refine ⟨?_, ?_, ?_, ?_, ?_, ?_⟩ <;> simp [World.cell?, World.frozen?, h]

theorem three_set2 {w : World} {b : Nat} {x y z : Value} {t : Nat} (h : w.heap[b]? = some (.cells #[x, y, z] t (0, 0))) (u v : Value) : ((w.setCell ⟨b, 0, none⟩ u).setCell ⟨b, 1, none⟩ v).heap[b]? = some (.cells #[u, v, z] t (0, 0)) := by
  simp only [World.setCell, Array.getElem?_modify, h]
  simp

theorem three_set1 {w : World} {b : Nat} {x y z : Value} {t : Nat} (h : w.heap[b]? = some (.cells #[x, y, z] t (0, 0))) (u : Value) : (w.setCell ⟨b, 2, none⟩ u).heap[b]? = some (.cells #[x, y, u] t (0, 0)) := by
  simp only [World.setCell, Array.getElem?_modify, h]
  simp

theorem three_set {w : World} {b : Nat} {x y z : Value} {t : Nat} (h : w.heap[b]? = some (.cells #[x, y, z] t (0, 0))) (u v q : Value) : (((w.setCell ⟨b, 0, none⟩ u).setCell ⟨b, 1, none⟩ v).setCell ⟨b, 2, none⟩ q).heap[b]? = some (.cells #[u, v, q] t (0, 0)) := three_set1 (three_set2 h u v) q

set_option maxRecDepth 100000 in
theorem load_dk {w : World} {b : Nat} {x y z : Value} (h0 : w.cell? ⟨b, 0, none⟩ = some x) (h1 : w.cell? ⟨b, 1, none⟩ = some y) (h2 : w.cell? ⟨b, 2, none⟩ = some z) :
    (loadVar 33 ⟨b, 0, none⟩).run Try.prog w = .ok (.agg #[x, y, z]) w := by
  go_simp

set_option maxRecDepth 100000 in
theorem done_dk {fn : Func} {R : Ending → World → Prop} {a : Act} {w : World} {p : Tmp} (hr : fn.results = #[.cell p 33]) (hd : a.defers = []) {b : Nat} {x y z : Value}
    (hp : a.tmps.getD p undef = .pointer (some ⟨b, 0, none⟩)) (h0 : w.cell? ⟨b, 0, none⟩ = some x) (h1 : w.cell? ⟨b, 1, none⟩ = some y) (h2 : w.cell? ⟨b, 2, none⟩ = some z) (hR : R (.returned (.agg #[x, y, z])) w) : bodyPost Try.prog fn R .ret a w := by
  refine bodyPost_ret (v := .agg #[x, y, z]) ?_ hd hR
  have hp' : a.tmps[p]?.getD undef = .pointer (some ⟨b, 0, none⟩) := by simpa using hp
  simp [results, hr, hp', asAddr, load_dk h0 h1 h2]

theorem szR_neg (n : Nat) : szR (-1) n = -1 := szR_big (by omega)

set_option maxHeartbeats 1000000 in
theorem szDk (V : Int) (a0 : Option Addr) (n0 cap0 : Nat) (a1 : Option Addr) (n1 cap1 : Nat) (left : Int) (w : World) (h1 : 0 ≤ left) (h2 : left ≤ 1048576) (hn0 : n0 ≤ 9223372036854775807) (hn1 : n1 ≤ 9223372036854775807) :
    Calls Try.prog 11 #[.agg #[.int .i64 V, .slice a0 n0 cap0, .slice a1 n1 cap1], .int .i64 left] w fun e w' => e = .returned (.int .i64 (szR (szR left n0) n1)) ∧ Below w.heap.size w w' := by
  obtain ⟨W, hW⟩ : ∃ W, W = w.alloc (.cells #[.int .i64 V, .slice a0 n0 cap0, .slice a1 n1 cap1] 27) := ⟨_, rfl⟩
  have hBW : Hid (Below w.heap.size w W) := hid (by rw [hW]; exact (Below.refl _ w).alloc (Nat.le_refl _) _)
  have hb : Hid (W.heap[w.heap.size]? = some (.cells #[.int .i64 V, .slice a0 n0 cap0, .slice a1 n1 cap1] 27 (0, 0))) := hid (by rw [hW]; exact heap_alloc_new _ _)
  have HW := hid hW
  obtain ⟨q0, q1, q2, _, _, _⟩ := three_of hb.out
  clear hW
  have HC := hid (szCx V a0 n0 cap0 left W h1 h2 hn0)
  by_cases hs : left < n0
  · rw [szR_big hs] at HC ⊢
    rw [szR_neg]
    clear hs
    go_enter Try.func11, Try.ntmps11
    go_wp2_with fail
    rw [← HW.out]
    go_wp2_with fail
    refine HC.out.mono ?_
    rintro e w1 ⟨rfl, hB1⟩
    have HB1 := hid (hBW.out.trans (hB1.mono hBW.out.size))
    clear hB1
    go_wp2_with fail
    go_ret
    exact ⟨rfl, HB1.out⟩
  · rw [szR_fit hs] at HC ⊢
    obtain ⟨r, hr⟩ : ∃ r : Int, r = left - n0 := ⟨_, rfl⟩
    rw [← hr] at HC ⊢
    have hr0 : 0 ≤ r := by omega
    have hr1 : r ≤ 1048576 := by omega
    clear hs hr
    have HP := hid (fun W => szPairs a1 n1 cap1 r W hr0 hr1 hn1)
    by_cases hs : r < n1
    · rw [szR_big hs] at HP ⊢
      clear hs
      go_enter Try.func11, Try.ntmps11
      go_wp2_with fail
      rw [← HW.out]
      go_wp2_with fail
      refine HC.out.mono ?_
      rintro e w1 ⟨rfl, hB1⟩
      obtain ⟨_, _, k2, _, _, _⟩ := three_of ((hB1.block _ (lt_get hb.out)).trans hb.out)
      have HB1 := hid (hBW.out.trans (hB1.mono hBW.out.size))
      clear hB1
      go_wp2_with fail
      refine (HP.out _).mono ?_
      rintro e w2 ⟨rfl, rfl⟩
      go_wp2_with fail
      go_ret
      exact ⟨rfl, HB1.out⟩
    · have hs2 : (0 : Int) ≤ r - n1 := by omega
      have HF := hid (szR_fit hs)
      rw [HF.out] at HP ⊢
      clear hs
      go_enter Try.func11, Try.ntmps11
      go_wp2_with fail
      rw [← HW.out]
      go_wp2_with fail
      refine HC.out.mono ?_
      rintro e w1 ⟨rfl, hB1⟩
      obtain ⟨_, _, k2, _, _, _⟩ := three_of ((hB1.block _ (lt_get hb.out)).trans hb.out)
      have HB1 := hid (hBW.out.trans (hB1.mono hBW.out.size))
      clear hB1
      go_wp2_with fail
      refine (HP.out _).mono ?_
      rintro e w2 ⟨rfl, rfl⟩
      go_wp2_with fail
      go_ret
      exact ⟨rfl, HB1.out⟩

set_option maxRecDepth 100000 in
set_option maxHeartbeats 2000000 in
theorem toDk (V : Int) (a0 : Option Addr) (cap0 : Nat) (xs : List Int) (a1 : Option Addr) (n1 cap1 : Nat) (ps : List Int) (w : World) (hx : SlI w w.heap.size a0 xs) (hl : xs.length ≤ 1048576) (hx1 : SlI w w.heap.size a1 ps) (hp : ps.length = 2 * n1) (hl1 : n1 ≤ 1048576) :
    Calls Try.prog 13 #[.agg #[.int .i64 V, .slice a0 xs.length cap0, .slice a1 n1 cap1]] w fun e w' =>
      ∃ g m g2, e = .returned (.agg #[.int .i64 V, .slice (some ⟨g, 0, none⟩) xs.length xs.length, .slice (some ⟨g2, 0, none⟩) n1 n1]) ∧ g < m ∧ w.heap.size ≤ m ∧
        w'.ownsRow w.heap.size 2 1 (.slice (some ⟨g, 0, none⟩) xs.length xs.length) xs.length (xs.map (Value.int .i64)) ∧ w'.ownsRow m 77 2 (.slice (some ⟨g2, 0, none⟩) n1 n1) n1 (ps.map (Value.int .i64)) ∧ Below w.heap.size w w' := by
  obtain ⟨W, hW⟩ : ∃ W, W = ((w.alloc (.cells #[.int .i64 V, .slice a0 xs.length cap0, .slice a1 n1 cap1] 27)).alloc (.cells #[.int .i64 0, .slice none 0 0, .slice none 0 0] 33)).alloc (.cells #[.int .i64 0, .slice none 0 0, .slice none 0 0] 33) := ⟨_, rfl⟩
  have hBW : Hid (Below w.heap.size w W) := hid (by rw [hW]; exact (((Below.refl _ w).alloc (Nat.le_refl _) _).alloc (by simp) _).alloc (by simp <;> omega) _)
  have hb : Hid (W.heap[w.heap.size]? = some (.cells #[.int .i64 V, .slice a0 xs.length cap0, .slice a1 n1 cap1] 27 (0, 0))) := hid (by rw [hW]; exact (Below.heap_alloc _ _ _ (by simp; omega)).trans ((Below.heap_alloc _ _ _ (by simp)).trans (heap_alloc_new _ _)))
  have hc : Hid (W.heap[w.heap.size + 1]? = some (.cells #[.int .i64 0, .slice none 0 0, .slice none 0 0] 33 (0, 0))) := hid (by rw [hW]; exact (Below.heap_alloc _ _ _ (by simp)).trans (new2 _ _ _))
  have hd : Hid (W.heap[w.heap.size + 1 + 1]? = some (.cells #[.int .i64 0, .slice none 0 0, .slice none 0 0] 33 (0, 0))) := hid (by rw [hW]; exact new3 _ _ _ _)
  have hWs : Hid (W.heap.size = w.heap.size + 3) := hid (by rw [hW]; simp)
  have HW := hid hW
  clear hW
  obtain ⟨q0, q1, _, _, _, _⟩ := three_of hb.out
  have HC := hid (toCx V a0 cap0 xs W (hx.later hBW.out hBW.out.size) hl)
  have Hx1 := hid hx1
  clear hx hx1
  go_enter Try.func13, Try.ntmps13
  go_wp2_with fail
  rw [← HW.out]
  go_wp2_with fail
  refine HC.out.mono ?_
  rintro e w1 ⟨g, rfl, hown, hB1⟩
  have hg := hown.lt g rfl
  have hs1 := hB1.size
  obtain ⟨_, _, k2, _, _, _⟩ := three_of ((hB1.block _ (lt_get hb.out)).trans hb.out)
  have K1 := hid ((hB1.block _ (lt_get hc.out)).trans hc.out)
  have k3 := (hB1.block _ (lt_get hd.out)).trans hd.out
  obtain ⟨d0, d1, d2, f0, f1, f2⟩ := three_of k3
  have K3 := hid k3
  have HB1 := hid (hBW.out.trans (hB1.mono hBW.out.size))
  have Hown := hid hown
  clear k3 hB1 hown
  go_wp2_with fail
  obtain ⟨W2, hW2⟩ : ∃ W2, W2 = (w1.setCell ⟨w.heap.size + 1 + 1, 0, none⟩ (.int .i64 V)).setCell ⟨w.heap.size + 1 + 1, 1, none⟩ (.slice (some ⟨g, 0, none⟩) xs.length xs.length) := ⟨_, rfl⟩
  rw [← hW2]
  have hBW2 : Hid (Below w.heap.size w W2) := hid (by rw [hW2]; exact (HB1.out.setCell (by show w.heap.size ≤ w.heap.size + 1 + 1; omega) _).setCell (by show w.heap.size ≤ w.heap.size + 1 + 1; omega) _)
  have hz2 : Hid (W2.heap.size = w1.heap.size) := hid (by rw [hW2]; simp [World.setCell])
  have hO2 : Hid (W2.ownsRow W.heap.size 2 1 (.slice (some ⟨g, 0, none⟩) xs.length xs.length) xs.length (xs.map (Value.int .i64))) := hid (by
    have := hWs.out
    rw [hW2]
    refine ownsRow_set (ownsRow_set Hown.out ?_ _) ?_ _ <;> (simp [Value.ownBlock]; omega))
  have m1 : Hid (W2.heap[w.heap.size + 1]? = some (.cells #[.int .i64 0, .slice none 0 0, .slice none 0 0] 33 (0, 0))) := hid (by
    rw [hW2]; exact (Below.heap_setCell _ _ _ _ (by show w.heap.size + 1 ≠ w.heap.size + 1 + 1; omega)).trans ((Below.heap_setCell _ _ _ _ (by show w.heap.size + 1 ≠ w.heap.size + 1 + 1; omega)).trans K1.out))
  have m3 : Hid (W2.heap[w.heap.size + 1 + 1]? = some (.cells #[.int .i64 V, .slice (some ⟨g, 0, none⟩) xs.length xs.length, .slice none 0 0] 33 (0, 0))) := hid (by rw [hW2]; exact three_set2 K3.out _ _)
  clear hW2 d0 d1 d2 f0 f1 f2 q0 q1
  refine (toPairs a1 n1 cap1 ps _ (Hx1.out.later hBW2.out hBW2.out.size) hp hl1).mono ?_
  rintro e w3 ⟨rfl, hown3, hB3⟩
  have HB3 := hid (hBW2.out.trans (hB3.mono hBW2.out.size))
  obtain ⟨r0, r1, r2, e0, e1, e2⟩ := three_of ((hB3.block _ (lt_get m1.out)).trans m1.out)
  have R1 := hid ((hB3.block _ (lt_get m1.out)).trans m1.out)
  obtain ⟨d0, d1, d2, f0, f1, f2⟩ := three_of ((hB3.block _ (lt_get m3.out)).trans m3.out)
  have R3 := hid ((hB3.block _ (lt_get m3.out)).trans m3.out)
  have hO3 := hid (ownsRow_below hO2.out hB3 (fun g' hg' => by have hgg : g = g' := by { simpa [Value.ownBlock] using hg' }; have := hz2.out; omega))
  have Hown3 := hid hown3
  have hs3 := hB3.size
  clear hB3 hown3
  go_wp2_with fail
  (try simp only [Exit.inBlock, Exit.then])
  have T3 := three_set1 R3.out (.slice (some ⟨W2.heap.size, 0, none⟩) n1 n1)
  have T1 := three_of (three_set ((Below.heap_setCell w3 ⟨w.heap.size + 1 + 1, 2, none⟩ (.slice (some ⟨W2.heap.size, 0, none⟩) n1 n1) (w.heap.size + 1) (by show w.heap.size + 1 ≠ w.heap.size + 1 + 1; omega)).trans R1.out) (.int .i64 V) (.slice (some ⟨g, 0, none⟩) xs.length xs.length) (.slice (some ⟨W2.heap.size, 0, none⟩) n1 n1))
  have hz := hz2.out
  have hs := hWs.out
  refine done_dk (p := 2) (by kernel_rfl) rfl rfl T1.1 T1.2.1 T1.2.2.1 ⟨g, W2.heap.size, W2.heap.size, rfl, by omega, hBW2.out.size, ?_, ?_, ?_⟩
  · refine ownsRow_base (base := W.heap.size) ?_ hBW.out.size
    refine ownsRow_set (ownsRow_set (ownsRow_set (ownsRow_set hO3.out ?_ _) ?_ _) ?_ _) ?_ _ <;> (simp [Value.ownBlock]; omega)
  · refine ownsRow_set (ownsRow_set (ownsRow_set (ownsRow_set Hown3.out ?_ _) ?_ _) ?_ _) ?_ _ <;> (simp [Value.ownBlock]; omega)
  · exact (((HB3.out.setCell (by show w.heap.size ≤ w.heap.size + 1 + 1; omega) _).setCell (by show w.heap.size ≤ w.heap.size + 1; omega) _).setCell (by show w.heap.size ≤ w.heap.size + 1; omega) _).setCell (by show w.heap.size ≤ w.heap.size + 1; omega) _

set_option maxRecDepth 100000 in
set_option maxHeartbeats 1000000 in
theorem eqDk_yes (V : Int) (a0 b0 : Option Addr) (c0 d0 : Nat) (xs ys : List Int) (a1 b1 : Option Addr) (n1 c1 d1 : Nat) (ps : List Int) (w : World) (hx : SlI w w.heap.size a0 xs) (hy : SlI w w.heap.size b0 ys) (hx1 : SlI w w.heap.size a1 ps) (hy1 : SlI w w.heap.size b1 ps) (hl : xs.length ≤ 1048576) (hl2 : ys.length ≤ 1048576) (h : xs = ys) (hp : ps.length = 2 * n1) (hl1 : n1 ≤ 1048576) :
    Calls Try.prog 15 #[.agg #[.int .i64 V, .slice a0 xs.length c0, .slice a1 n1 c1], .agg #[.int .i64 V, .slice b0 ys.length d0, .slice b1 n1 d1]] w fun e w' => e = .returned (.bool true) ∧ Below w.heap.size w w' := by
  obtain ⟨W, hW⟩ : ∃ W, W = (w.alloc (.cells #[.int .i64 V, .slice a0 xs.length c0, .slice a1 n1 c1] 33)).alloc (.cells #[.int .i64 V, .slice b0 ys.length d0, .slice b1 n1 d1] 33) := ⟨_, rfl⟩
  have hBW : Hid (Below w.heap.size w W) := hid (by rw [hW]; exact ((Below.refl _ w).alloc (Nat.le_refl _) _).alloc (by simp) _)
  have hb : Hid (W.heap[w.heap.size]? = some (.cells #[.int .i64 V, .slice a0 xs.length c0, .slice a1 n1 c1] 33 (0, 0))) := hid (by rw [hW]; exact (Below.heap_alloc _ _ _ (by simp)).trans (heap_alloc_new _ _))
  have hc : Hid (W.heap[w.heap.size + 1]? = some (.cells #[.int .i64 V, .slice b0 ys.length d0, .slice b1 n1 d1] 33 (0, 0))) := hid (by rw [hW]; exact new2 _ _ _)
  have HW := hid hW
  clear hW
  obtain ⟨q0, q1, _, _, _, _⟩ := three_of hb.out
  obtain ⟨p0, p1, _, _, _, _⟩ := three_of hc.out
  have HC := hid (eqCx_yes V a0 b0 c0 d0 xs ys W (hx.later hBW.out hBW.out.size) (hy.later hBW.out hBW.out.size) hl hl2 h)
  have Hx1 := hid hx1
  have Hy1 := hid hy1
  clear hx hy hx1 hy1 h
  go_enter Try.func15, Try.ntmps15
  go_wp2_with fail
  rw [← HW.out]
  go_wp2_with fail
  refine HC.out.mono ?_
  rintro e w1 ⟨rfl, hB1⟩
  obtain ⟨_, _, k2, _, _, _⟩ := three_of ((hB1.block _ (lt_get hb.out)).trans hb.out)
  obtain ⟨_, _, j2, _, _, _⟩ := three_of ((hB1.block _ (lt_get hc.out)).trans hc.out)
  have HB1 := hid (hBW.out.trans (hB1.mono hBW.out.size))
  clear hB1 q0 q1 p0 p1
  go_wp2_with fail
  refine (eqPairs_yes a1 b1 n1 c1 d1 ps _ (Hx1.out.later HB1.out HB1.out.size) (Hy1.out.later HB1.out HB1.out.size) hp hl1).mono ?_
  rintro e w2 ⟨rfl, hB2⟩
  have HB2 := hid (HB1.out.trans (hB2.mono HB1.out.size))
  clear hB2
  go_wp2_with fail
  go_ret
  exact ⟨rfl, HB2.out⟩

end Go.Proofs.Ytbgkalkipalndaa

/-! IsDesk on both sides. -/
namespace Go.Proofs.Ytbgkalkipalndaa
open Go.RowKit

/-- Is it a desk? -/
noncomputable def isDeskB (V : Int) (fs : List Int) (n : Nat) (ps : List Int) : Bool := decide (acodeR V fs n ps true = 0)

theorem isDesk_acy (V : Int) (fs : List Int) (n : Nat) (ps : List Int) : isDeskB V fs n ps = (((isAcyclicR V fs n ps).2 == 0) && (isAcyclicR V fs n ps).1) := by
  unfold isDeskB isAcyclicR acodeR
  by_cases hp : pcodeR V fs n ps = 0
  · simp only [if_pos hp, if_true]
    cases acyB ps n <;> simp
  · simp only [if_neg hp]
    simp [hp]

set_option maxRecDepth 100000 in
set_option maxHeartbeats 1000000 in
theorem implIsDesk (V : Int) (a0 : Option Addr) (cap : Nat) (fs : List Int) (a1 : Option Addr) (n cap1 : Nat) (ps : List Int) (w : World) (hx : SlI w w.heap.size a0 fs) (hx1 : SlI w w.heap.size a1 ps) (hl : fs.length ≤ 1048576) (hp : ps.length = 2 * n) (hn : n ≤ 1048576) (hw : ∀ x ∈ ps, (Lit.int .i64 x).wf = true) :
    Calls Try.prog 14 #[.agg #[.int .i64 V, .slice a0 fs.length cap, .slice a1 n cap1]] w fun e w' => e = .returned (.bool (isDeskB V fs n ps)) ∧ Below w.heap.size w w' := by
  obtain ⟨W, hW⟩ : ∃ W, W = w.alloc (.cells #[.int .i64 V, .slice a0 fs.length cap, .slice a1 n cap1] 33) := ⟨_, rfl⟩
  have hBW : Hid (Below w.heap.size w W) := hid (by rw [hW]; exact (Below.refl _ w).alloc (Nat.le_refl _) _)
  have hb : W.heap[w.heap.size]? = some (.cells #[.int .i64 V, .slice a0 fs.length cap, .slice a1 n cap1] 33 (0, 0)) := by rw [hW]; exact heap_alloc_new _ _
  obtain ⟨q0, q1, q2, _, _, _⟩ := three_of hb
  have HW := hid hW
  have HE := hid (isDesk_acy V fs n ps)
  have HC := hid (implIsAcyclicPairing V a0 cap fs a1 n cap1 ps W (hx.later hBW.out hBW.out.size) (hx1.later hBW.out hBW.out.size) hl hp hn hw)
  obtain ⟨R, hR⟩ : ∃ R, R = isAcyclicR V fs n ps := ⟨_, rfl⟩
  rw [← hR] at HE HC
  clear hR
  obtain ⟨b, c⟩ := R
  clear hW hx hx1 hb hw hp
  by_cases hc : c = 0
  · subst hc
    go_enter Try.func14, Try.ntmps14
    go_wp2_with fail
    rw [← HW.out]
    go_wp2_with fail
    refine HC.out.mono ?_
    rintro e w1 ⟨rfl, hB1⟩
    have HB1 := hid (hBW.out.trans (hB1.mono hBW.out.size))
    clear hB1 q0 q1 q2
    go_wp2_with fail
    go_ret
    exact ⟨ret_bool (by rw [HE.out]; simp), HB1.out⟩
  · have hd : (c == 0) = false := by simpa using hc
    clear hc
    go_enter Try.func14, Try.ntmps14
    go_wp2_with fail
    rw [← HW.out]
    go_wp2_with fail
    refine HC.out.mono ?_
    rintro e w1 ⟨rfl, hB1⟩
    have HB1 := hid (hBW.out.trans (hB1.mono hBW.out.size))
    clear hB1 q0 q1 q2
    go_wp2_with fail
    go_ret
    exact ⟨ret_bool (by rw [HE.out]; simp [hd]), HB1.out⟩

set_option maxRecDepth 100000 in
set_option maxHeartbeats 1000000 in
theorem specIsDesk (V : Int) (a0 : Option Addr) (cap : Nat) (fs : List Int) (a1 : Option Addr) (n cap1 : Nat) (ps : List Int) (w : World) (hx : SlI w w.heap.size a0 fs) (hx1 : SlI w w.heap.size a1 ps) (hl : fs.length ≤ 1048576) (hp : ps.length = 2 * n) (hn : n ≤ 1048576) :
    Calls Try.prog 12 #[.agg #[.int .i64 V, .slice a0 fs.length cap, .slice a1 n cap1]] w fun e w' => e = .returned (.bool (isDeskB V fs n ps)) ∧ Below w.heap.size w w' := by
  obtain ⟨W, hW⟩ : ∃ W, W = w.alloc (.cells #[.int .i64 V, .slice a0 fs.length cap, .slice a1 n cap1] 33) := ⟨_, rfl⟩
  have hBW : Hid (Below w.heap.size w W) := hid (by rw [hW]; exact (Below.refl _ w).alloc (Nat.le_refl _) _)
  have hb : W.heap[w.heap.size]? = some (.cells #[.int .i64 V, .slice a0 fs.length cap, .slice a1 n cap1] 33 (0, 0)) := by rw [hW]; exact heap_alloc_new _ _
  obtain ⟨q0, q1, q2, _, _, _⟩ := three_of hb
  have HW := hid hW
  have HC := hid (code8_any V a0 cap fs a1 n cap1 ps W (hx.later hBW.out hBW.out.size) (hx1.later hBW.out hBW.out.size) hl hp hn)
  obtain ⟨c, hc⟩ : ∃ c, c = acodeR V fs n ps true := ⟨_, rfl⟩
  have HE : Hid (isDeskB V fs n ps = (c == 0)) := hid (by unfold isDeskB; rw [← hc]; by_cases h : c = 0 <;> simp [h])
  rw [← hc] at HC
  rw [HE.out]
  clear hW hx hx1 hb hp hc
  go_enter Try.func12, Try.ntmps12
  go_wp2_with fail
  rw [← HW.out]
  go_wp2_with fail
  refine HC.out.mono ?_
  rintro e w1 ⟨rfl, hB1⟩
  have HB1 := hid (hBW.out.trans (hB1.mono hBW.out.size))
  clear hB1 q0 q1 q2
  go_wp2_with fail
  go_ret
  exact ⟨rfl, HB1.out⟩

end Go.Proofs.Ytbgkalkipalndaa

/-! What a complex that comes in is told as, for the rows of all laws. -/
namespace Go.Proofs.Ytbgkalkipalndaa
open Go.ChangeShapes Go.WideShapes Go.ChangeAt Go.RowKit Go.Joins

theorem own : ownKnob Try.prog.godebug = none := by kernel_rfl
theorem laidOut : laidOutB Try.prog = true := by kernel_rfl

variable {H : Type} {enc : TypeId × Value → H}

/-- A slice of int64 that came in. -/
theorem slI_of_trod {W : World} {n : Nat} {v : Value} {y : DataW H × List MemPlace} (hf : DataW.trod enc Try.prog W 0 (fun _ => true) true n 22 [v] = some y) :
    ∃ a len cap xs, v = .slice a len cap ∧ xs.length = len ∧ len ≤ 9223372036854775807 ∧ SlI W W.heap.size a xs ∧ ∀ x ∈ xs, (Lit.int .i64 x).wf = true := by
  rcases open_ints Try.underlying22 Try.underlying2 (by kernel_rfl) hf with ⟨hcs, _⟩ | ⟨x, l, c, zs, hcs, _, hl, hm, hz, _, hcell, hwf⟩
  · simp at hcs
    subst hcs
    exact ⟨none, 0, 0, [], rfl, rfl, by omega, .inl rfl, by simp⟩
  · simp at hcs
    subst hcs
    simp at hz
    have hlen : (zs.take l).length = l := by simp; omega
    unfold maxLen at hm
    refine ⟨some x, l, c, zs.take l, rfl, hlen, by omega, ?_, fun y hy => hwf y (List.mem_of_mem_take hy)⟩
    by_cases h0 : l = 0
    · subst h0; exact .inl (by simp)
    · right
      obtain ⟨b, off, spot⟩ := x
      have hc0 := hcell 0 (by omega)
      have hspot : spot = none := by simpa [Addr.add] using World.cell?_spot hc0
      subst hspot
      refine ⟨b, off, ?_, rfl, fun i hi => ?_⟩
      · have := World.block_lt_of_cell? W _ hc0
        simpa [Addr.add] using this
      · rw [hlen] at hi
        have := hcell i (by omega)
        have hadd : (⟨b, off, none⟩ : Addr).add i = ⟨b, off + i, none⟩ := by unfold Addr.add; split <;> simp_all
        rw [hadd] at this
        rw [List.getElem?_take, if_pos hi]
        simpa using this

end Go.Proofs.Ytbgkalkipalndaa

/-! What a list of pairs that comes in is told as. -/
namespace Go.Proofs.Ytbgkalkipalndaa
open Go.ChangeShapes Go.WideShapes Go.ChangeAt Go.RowKit Go.Joins

variable {H : Type} {enc : TypeId × Value → H}

/-- The number in a cell. -/
def cellInt (v : Option Value) : Int := match v with | some (.int _ n) => n | _ => 0

set_option maxRecDepth 100000 in
theorem two_of_trod {W : World} {n : Nat} {cs : List Value} {y : DataW H × List MemPlace} (hf : DataW.trod enc Try.prog W 0 (fun _ => true) true n 76 cs = some y) : ∃ x y : Int, cs = [.int .i64 x, .int .i64 y] ∧ (Lit.int .i64 x).wf = true ∧ (Lit.int .i64 y).wf = true := by
  cases n with
  | zero => simp [DataW.trod] at hf
  | succ n =>
    unfold DataW.trod at hf
    rw [Try.underlying76] at hf
    simp only at hf
    rw [show Try.prog.cellsOf 76 = 2 by kernel_rfl, show Try.prog.cellsOf 2 = 1 by kernel_rfl] at hf
    split at hf
    · next hl =>
      match cs, hl with
      | [c0, c1], _ =>
        simp only [Option.map_eq_some_iff] at hf
        obtain ⟨xs, hx, _⟩ := hf
        rw [show List.range 2 = [0, 1] from rfl, List.mapM_cons, List.mapM_cons, List.mapM_nil] at hx
        simp only [bind, Option.bind_eq_some_iff, pure, Option.some.injEq] at hx
        obtain ⟨y0, h0, _, ⟨y1, h1, _, rfl, rfl⟩, rfl⟩ := hx
        obtain ⟨a, ea, _, wa⟩ := DataW.trod_int Try.underlying2 h0
        obtain ⟨b, eb, _, wb⟩ := DataW.trod_int Try.underlying2 h1
        simp at ea eb
        subst ea; subst eb
        exact ⟨a, b, rfl, wa, wb⟩
    · cases hf

set_option maxRecDepth 100000 in
/-- A list of pairs that came in. -/
theorem pairs_of_trod {W : World} {n : Nat} {v : Value} {y : DataW H × List MemPlace} (hf : DataW.trod enc Try.prog W 0 (fun _ => true) true n 25 [v] = some y) :
    ∃ a len cap ps, v = .slice a len cap ∧ ps.length = 2 * len ∧ len ≤ 9223372036854775807 ∧ SlI W W.heap.size a ps ∧ ∀ x ∈ ps, (Lit.int .i64 x).wf = true := by
  rcases DataW.trod_slice Try.underlying25 hf with ⟨hcs, _⟩ | ⟨a, len, cap, elems, rest, m, _, hcs, _, hb, hl, hm, hlen, hel, _, _⟩
  · simp at hcs
    subst hcs
    exact ⟨none, 0, 0, [], rfl, rfl, by omega, .inl rfl, by simp⟩
  · simp at hcs
    subst hcs
    unfold maxLen at hm
    have hc : Try.prog.cellsOf 76 = 2 := by kernel_rfl
    have each : ∀ i, i < 2 * len → ∃ x, W.cell? (a.add i) = some (.int .i64 x) ∧ (Lit.int .i64 x).wf = true := by
      intro i hi
      have h := hel (i / 2) (by omega)
      rw [hc] at h
      have hy : elems[i / 2]? = some (elems[i / 2]'(by omega)) := List.getElem?_eq_getElem (by omega)
      rw [hy, Option.bind_eq_some_iff] at h
      obtain ⟨cs, hcs, ht⟩ := h
      obtain ⟨x, y, rfl, wx, wy⟩ := two_of_trod ht
      have h3 := (World.cells?_some hcs).2.2 (i % 2) (Nat.mod_lt _ (by decide))
      have hadd : (a.add (i / 2 * 2)).add (i % 2) = a.add i := by
        rw [Addr.add_add]
        congr 1
        omega
      rw [hadd] at h3
      rcases Nat.mod_two_eq_zero_or_one i with h | h <;> rw [h] at h3 <;> simp at h3
      · exact ⟨_, h3, wx⟩
      · exact ⟨_, h3, wy⟩
    refine ⟨some a, len, cap, (List.range (2 * len)).map (fun i => cellInt (W.cell? (a.add i))), rfl, by simp, by omega, ?_, ?_⟩
    rotate_left
    · intro x hx
      obtain ⟨i, hi, rfl⟩ := List.mem_map.1 hx
      obtain ⟨y, hy, wy⟩ := each i (List.mem_range.1 hi)
      rw [hy]
      exact wy
    by_cases h0 : len = 0
    · subst h0; exact .inl (by simp)
    · right
      obtain ⟨b, off, spot⟩ := a
      obtain ⟨x0, hc0, _⟩ := each 0 (by omega)
      have hspot : spot = none := by simpa [Addr.add] using World.cell?_spot hc0
      subst hspot
      refine ⟨b, off, ?_, rfl, fun i hi => ?_⟩
      · have := World.block_lt_of_cell? W _ hc0
        simpa [Addr.add] using this
      · simp only [List.length_map, List.length_range] at hi
        obtain ⟨x, hx, _⟩ := each i hi
        have hadd : (⟨b, off, none⟩ : Addr).add i = ⟨b, off + i, none⟩ := by unfold Addr.add; split <;> simp_all
        rw [hadd] at hx
        rw [hx, List.getElem?_map, List.getElem?_range hi]
        simp only [Option.map_some, Option.getD_some]
        rw [hadd, hx]
        rfl

theorem pairs_in {W : World} {n : Nat} {a : Option Addr} {m cap : Nat} {y : DataW H × List MemPlace} (hf : DataW.trod enc Try.prog W 0 (fun _ => true) true n 25 (Value.slice a m cap).cells.toList = some y) :
    ∃ ps, ps.length = 2 * m ∧ m ≤ 9223372036854775807 ∧ SlI W W.heap.size a ps ∧ ∀ x ∈ ps, (Lit.int .i64 x).wf = true := by
  obtain ⟨a', len, cap', ps, he, h1, h2, h3, h4⟩ := pairs_of_trod (v := .slice a m cap) hf
  cases he
  exact ⟨ps, h1, h2, h3, h4⟩

end Go.Proofs.Ytbgkalkipalndaa

/-! l02Ways: the model's number of ways. -/
namespace Go.Proofs.Ytbgkalkipalndaa
open Go.RowKit

/-- The first k steps' ways, and the one without steps. -/
def gwPart (ps : List Int) (n : Nat) (b a : Int) (k : Nat) : Int := (if a = b then 1 else 0) + (((nextL ps n a).take k).map (gw ps n b)).sum
theorem gwPart_zero (ps : List Int) (n : Nat) (b a : Int) : gwPart ps n b a 0 = if a = b then 1 else 0 := by simp [gwPart]
theorem gwPart_succ {ps : List Int} {n : Nat} {b a : Int} {k : Nat} (hk : k < (nextL ps n a).length) : gwPart ps n b a (k + 1) = gwPart ps n b a k + gw ps n b ((nextL ps n a)[k]?.getD 0) := by
  unfold gwPart
  rw [List.take_add_one, List.getElem?_eq_getElem hk]
  simp only [Option.toList_some, List.map_append, List.map_cons, List.map_nil, List.sum_append, List.sum_cons, List.sum_nil, Option.getD_some, Int.add_zero, Int.add_assoc]
theorem gwPart_all {ps : List Int} {n : Nat} (hc : NoCycle ps n) (b a : Int) : gwPart ps n b a (nextL ps n a).length = gw ps n b a := by
  rw [gw_step hc, gwPart, List.take_length]

set_option maxRecDepth 1000000 in
set_option maxHeartbeats 2000000 in
theorem ways_round (a1 : Option Addr) (n cap : Nat) (ps : List Int) (b a : Int) (w : World) (hx : SlI w w.heap.size a1 ps) (hp : ps.length = 2 * n) (hl : n ≤ 1048576) (hh : HighsB ps n) (hc : NoCycle ps n)
    (H : ∀ y ∈ nextL ps n a, ∀ w', Below w.heap.size w w' → Calls Try.prog 65 #[.slice a1 n cap, .int .i64 y, .int .i64 b] w' fun e w'' => e = .returned (.int .i64 (wrap64 (gw ps n b y))) ∧ Below w'.heap.size w' w'') :
    Calls Try.prog 65 #[.slice a1 n cap, .int .i64 a, .int .i64 b] w fun e w' => e = .returned (.int .i64 (wrap64 (gw ps n b a))) ∧ Below w.heap.size w w' := by
  have HN := hid (next_any a1 n cap ps a w hx hp hl (hh a))
  obtain ⟨E, hE⟩ : ∃ E, E = gw ps n b a := ⟨_, rfl⟩
  rw [← hE]
  have HE := hid (hE.trans (gwPart_all hc b a).symm)
  obtain ⟨d, hd⟩ : ∃ d, (a == b) = d := ⟨_, rfl⟩
  have hst : Hid ((if d then 1 else 0 : Int) = wrap64 (gwPart ps n b a 0)) := hid (by
    rw [gwPart_zero, ← hd]
    by_cases e : a = b
    · simp [e, wrap64]
    · simp [e, wrap64])
  obtain ⟨m, hm⟩ : ∃ m, m = (nextL ps n a).length := ⟨_, rfl⟩
  have hml : m ≤ 63 := by rw [hm]; exact nextL_len ps n a
  have HH := hid H
  have Hm := hid hm
  rw [← hm] at HN HE
  clear hx hp hh hc H hE hm
  cases d
  · go_enter Try.func65, Try.ntmps65
    go_wp2_with fail
    refine HN.out.mono ?_
    rintro e w1 ⟨g, c, rfl, hR⟩
    obtain ⟨hgb, av, cv, hve, hs⟩ := ownsRow_slI hR.1
    injection hve with hve1 hve2 hve3
    clear hve2 hve3
    subst hve1
    have HS := hid hs
    have HB1 := hid hR.2
    clear hR hs hgb
    go_wp2_with fail
    go_loopw [7, 9] (fun t i wr => ∃ k : Nat, k ≤ m ∧ i = .int .i64 k ∧ t = .int .i64 (wrap64 (gwPart ps n b a k)) ∧ Below w1.heap.size w1 wr) (fun _ i _ => m - (intOf i).toNat)
    case atStart => exact ⟨0, Nat.zero_le _, rfl, by rw [← hst.out]; rfl, Below.refl _ _⟩
    case round =>
      obtain ⟨k, hk, rfl, rfl, hB⟩ := hrel
      by_cases hlt : k < m
      · obtain ⟨y, hy⟩ : ∃ y, y = (nextL ps n a)[k]?.getD 0 := ⟨_, rfl⟩
        obtain ⟨hgb, hcell⟩ : g < w1.heap.size ∧ wr.cell? ⟨g, k, none⟩ = some (.int .i64 y) := by
          rw [show k = 0 + k by omega]
          rcases HS.out with h | ⟨b', o', hb', e', h'⟩
          · have := Hm.out; rw [h] at this; simp at this; omega
          · injection e' with e'
            injection e' with e1 e2
            subst e1
            subst e2
            have h2 := h' k (by have := Hm.out; omega)
            rw [← hy] at h2
            exact ⟨hb', (hB.cell (p := ⟨g, 0 + k, none⟩) hb').trans h2⟩
        have hym : y ∈ nextL ps n a := by rw [hy]; exact getD_mem (by have := Hm.out; omega)
        have HC := hid (HH.out y hym wr (HB1.out.trans (hB.mono HB1.out.size)))
        have hsum : Hid (wrap64 (wrap64 (gwPart ps n b a k) + wrap64 (gw ps n b y)) = wrap64 (gwPart ps n b a (k + 1))) := hid (by rw [wrap64_add, gwPart_succ (by have := Hm.out; omega), ← hy])
        have hi0 : (0 : Int) ≤ (k : Int) := by omega
        have hi1 : (k : Int) < (m : Int) := by omega
        have HB := hid hB
        clear hy hym hB
        go_wp2_with fail
        refine HC.out.mono ?_
        rintro e w2 ⟨rfl, hB2⟩
        have HB2 := hid (HB.out.trans (hB2.mono HB.out.size))
        clear hB2
        go_wp2_with fail
        go_roundw
        case rel => exact ⟨k + 1, by omega, by go_num, by first | exact congrArg (Value.int .i64) hsum.out | (rw [← hsum.out]; done), HB2.out⟩
        case measure => simp [intOf]; omega
      · obtain rfl : k = m := by omega
        go_wp2_with fail
        go_ret
        exact ⟨ret_int (by rw [HE.out]), HB1.out.trans (hB.mono HB1.out.size)⟩
  · go_enter Try.func65, Try.ntmps65
    go_wp2_with fail
    refine HN.out.mono ?_
    rintro e w1 ⟨g, c, rfl, hR⟩
    obtain ⟨hgb, av, cv, hve, hs⟩ := ownsRow_slI hR.1
    injection hve with hve1 hve2 hve3
    clear hve2 hve3
    subst hve1
    have HS := hid hs
    have HB1 := hid hR.2
    clear hR hs hgb
    go_wp2_with fail
    go_loopw [7, 9] (fun t i wr => ∃ k : Nat, k ≤ m ∧ i = .int .i64 k ∧ t = .int .i64 (wrap64 (gwPart ps n b a k)) ∧ Below w1.heap.size w1 wr) (fun _ i _ => m - (intOf i).toNat)
    case atStart => exact ⟨0, Nat.zero_le _, rfl, by rw [← hst.out]; rfl, Below.refl _ _⟩
    case round =>
      obtain ⟨k, hk, rfl, rfl, hB⟩ := hrel
      by_cases hlt : k < m
      · obtain ⟨y, hy⟩ : ∃ y, y = (nextL ps n a)[k]?.getD 0 := ⟨_, rfl⟩
        obtain ⟨hgb, hcell⟩ : g < w1.heap.size ∧ wr.cell? ⟨g, k, none⟩ = some (.int .i64 y) := by
          rw [show k = 0 + k by omega]
          rcases HS.out with h | ⟨b', o', hb', e', h'⟩
          · have := Hm.out; rw [h] at this; simp at this; omega
          · injection e' with e'
            injection e' with e1 e2
            subst e1
            subst e2
            have h2 := h' k (by have := Hm.out; omega)
            rw [← hy] at h2
            exact ⟨hb', (hB.cell (p := ⟨g, 0 + k, none⟩) hb').trans h2⟩
        have hym : y ∈ nextL ps n a := by rw [hy]; exact getD_mem (by have := Hm.out; omega)
        have HC := hid (HH.out y hym wr (HB1.out.trans (hB.mono HB1.out.size)))
        have hsum : Hid (wrap64 (wrap64 (gwPart ps n b a k) + wrap64 (gw ps n b y)) = wrap64 (gwPart ps n b a (k + 1))) := hid (by rw [wrap64_add, gwPart_succ (by have := Hm.out; omega), ← hy])
        have hi0 : (0 : Int) ≤ (k : Int) := by omega
        have hi1 : (k : Int) < (m : Int) := by omega
        have HB := hid hB
        clear hy hym hB
        go_wp2_with fail
        refine HC.out.mono ?_
        rintro e w2 ⟨rfl, hB2⟩
        have HB2 := hid (HB.out.trans (hB2.mono HB.out.size))
        clear hB2
        go_wp2_with fail
        go_roundw
        case rel => exact ⟨k + 1, by omega, by go_num, by first | exact congrArg (Value.int .i64) hsum.out | (rw [← hsum.out]; done), HB2.out⟩
        case measure => simp [intOf]; omega
      · obtain rfl : k = m := by omega
        go_wp2_with fail
        go_ret
        exact ⟨ret_int (by rw [HE.out]), HB1.out.trans (hB.mono HB1.out.size)⟩

theorem ways_upto (a1 : Option Addr) (n cap : Nat) (ps : List Int) (b : Int) (hp : ps.length = 2 * n) (hl : n ≤ 1048576) (hh : HighsB ps n) (hc : NoCycle ps n) : ∀ (m : Nat) (a : Int) (w : World), SlI w w.heap.size a1 ps → (∀ i, i < n → at0 ps (i * 2) = a → rkP ps n i < m) →
    Calls Try.prog 65 #[.slice a1 n cap, .int .i64 a, .int .i64 b] w fun e w' => e = .returned (.int .i64 (wrap64 (gw ps n b a))) ∧ Below w.heap.size w w'
  | 0, a, w, hx, hr => ways_round a1 n cap ps b a w hx hp hl hh hc (fun y hy => by
    obtain ⟨i, hi, e⟩ := next_low hy
    exact absurd (hr i hi e) (Nat.not_lt_zero _))
  | m + 1, a, w, hx, hr => ways_round a1 n cap ps b a w hx hp hl hh hc (fun y hy w' hb => ways_upto a1 n cap ps b hp hl hh hc m y w' (hx.later hb hb.size) (fun j hj e => by
    obtain ⟨i, hi, e2⟩ := next_low hy
    have h1 := hr i hi e2
    have h2 := rkP_lt hc hj (show StepP ps n i j by unfold StepP; rw [e, e2]; exact hy)
    omega))
/-- The model's number of ways. -/
theorem ways_any (a1 : Option Addr) (n cap : Nat) (ps : List Int) (b a : Int) (w : World) (hx : SlI w w.heap.size a1 ps) (hp : ps.length = 2 * n) (hl : n ≤ 1048576) (hh : HighsB ps n) (hc : NoCycle ps n) :
    Calls Try.prog 65 #[.slice a1 n cap, .int .i64 a, .int .i64 b] w fun e w' => e = .returned (.int .i64 (wrap64 (gw ps n b a))) ∧ Below w.heap.size w w' :=
  ways_upto a1 n cap ps b hp hl hh hc (n + 1) a w hx (fun i _ _ => by have := rkP_le ps n i; omega)

end Go.Proofs.Ytbgkalkipalndaa

/-! CountGradientWays: the model's doors. -/
namespace Go.Proofs.Ytbgkalkipalndaa
open Go.RowKit

noncomputable def code2R (V : Int) (fs : List Int) (n : Nat) (ps : List Int) (a b : Int) : Int := if pcodeR V fs n ps = 0 then (if a ∈ fs ∧ b ∈ fs then 0 else 2) else pcodeR V fs n ps
noncomputable def countWaysR (V : Int) (fs : List Int) (n : Nat) (ps : List Int) (a b : Int) : Int × Int := if code2R V fs n ps a b = 0 then (if acyB ps n then (wrap64 (gw ps n b a), 0) else (0, 5)) else (0, code2R V fs n ps a b)

set_option maxRecDepth 1000000 in
set_option maxHeartbeats 2000000 in
theorem code2_spec (V : Int) (a0 : Option Addr) (cap : Nat) (fs : List Int) (a1 : Option Addr) (n cap1 : Nat) (ps : List Int) (a b : Int) (bf : Nat) (w : World) (hx : SlI w w.heap.size a0 fs) (hx1 : SlI w w.heap.size a1 ps) (hl : fs.length ≤ 1048576) (hp : ps.length = 2 * n) (hn : n ≤ 1048576)
    (hbf : bf < w.heap.size) (hcf : w.cell? ⟨bf, 0, none⟩ = some (.int .i64 a)) (hcg : w.cell? ⟨bf, 1, none⟩ = some (.int .i64 b)) :
    Calls Try.prog 50 #[.agg #[.int .i64 V, .slice a0 fs.length cap], .slice a1 n cap1, .slice (some ⟨bf, 0, none⟩) 2 2] w fun e w' => e = .returned (.int .i64 (code2R V fs n ps a b)) ∧ Below w.heap.size w w' := by
  have hB0 : Below w.heap.size w (w.alloc (.cells #[.int .i64 V, .slice a0 fs.length cap] 30)) := (Below.refl _ w).alloc (Nat.le_refl _) _
  have Hx := hid (hx.later hB0 hB0.size)
  have Hx0 := hid hx
  have Hy := hid hx1
  clear hx hx1
  obtain ⟨E, hE⟩ : ∃ E, E = code2R V fs n ps a b := ⟨_, rfl⟩
  rw [← hE]
  rcases pcode_cases V fs n ps with ⟨hC, _, h0, _, h1⟩ | ⟨hC, _, h0, _, h1⟩ | ⟨hC, h0, _⟩
  · have HC := hid hC
    have hE1 : E = if a ∈ fs ∧ b ∈ fs then 0 else 2 := by rw [hE, code2R, if_pos h0]
    clear hC h0 hE
    go_enter Try.func50, Try.ntmps50
    go_wp2_with fail
    refine (is_yes V a0 cap fs _ Hx.out hl HC.out).mono ?_
    rintro e w1 ⟨rfl, hB1⟩
    have HB1 := hid (hB0.trans (hB1.mono (by simp)))
    have k0 : w1.cell? ⟨w.heap.size, 0, none⟩ = some (.int .i64 V) := (hB1.cell (p := ⟨w.heap.size, 0, none⟩) (by simp)).trans (by simp [go_sem])
    have k1 : w1.cell? ⟨w.heap.size, 1, none⟩ = some (.slice a0 fs.length cap) := (hB1.cell (p := ⟨w.heap.size, 1, none⟩) (by simp)).trans (by simp [go_sem])
    have hs1 : w.heap.size < w1.heap.size := by have := hB1.size; simp at this; omega
    have HI := hid (pis_any V a0 cap fs a1 n cap1 ps w1 (Hx0.out.later HB1.out HB1.out.size) (Hy.out.later HB1.out HB1.out.size) hl HC.out.range63 hp hn)
    rw [h1] at HI
    clear hB0 hB1 h1 hp
    go_wp2_with fail
    refine HI.out.mono ?_
    rintro e w2 ⟨rfl, hB2⟩
    have n0 : w2.cell? ⟨w.heap.size, 0, none⟩ = some (.int .i64 V) := (hB2.cell (p := ⟨w.heap.size, 0, none⟩) hs1).trans k0
    have n1 : w2.cell? ⟨w.heap.size, 1, none⟩ = some (.slice a0 fs.length cap) := (hB2.cell (p := ⟨w.heap.size, 1, none⟩) hs1).trans k1
    have HB2 := hid (HB1.out.trans (hB2.mono HB1.out.size))
    have n2 : w2.cell? ⟨bf, 0, none⟩ = some (.int .i64 a) := (HB2.out.cell (p := ⟨bf, 0, none⟩) hbf).trans hcf
    have n3 : w2.cell? ⟨bf, 1, none⟩ = some (.int .i64 b) := (HB2.out.cell (p := ⟨bf, 1, none⟩) hbf).trans hcg
    have hs2 : w.heap.size < w2.heap.size := Nat.lt_of_lt_of_le hs1 hB2.size
    have HB2d : Hid (Below w.heap.size w w2.drew) := hid (HB2.out.trans ⟨rfl, rfl, rfl, Nat.le_refl _, fun _ _ => rfl⟩)
    clear hB2 k0 k1 hcf hcg
    have hbf2 := hbf
    by_cases ha : a ∈ fs
    · have HA := hid (has_yes V a a0 cap fs w2.drew (Hx0.out.later HB2d.out HB2d.out.size) hl ha)
      by_cases hb : b ∈ fs
      · have He : Hid (E = 0) := hid (by rw [hE1, if_pos ⟨ha, hb⟩])
        have HBb := hid (fun w' (h : Below w.heap.size w w') => has_yes V b a0 cap fs w' (Hx0.out.later h h.size) hl hb)
        clear hE1 ha hb
        go_wp2_with fail
        refine wp_loop_rounds 3 ?_
        rw [rounds_succ]
        go_wp2_with fail
        go_region_held3 (fun w' => w'.cell? ⟨w.heap.size, 0, none⟩ = some (.int .i64 V) ∧ w'.cell? ⟨w.heap.size, 1, none⟩ = some (.slice a0 fs.length cap) ∧ w'.cell? ⟨bf, 0, none⟩ = some (.int .i64 a) ∧ w'.cell? ⟨bf, 1, none⟩ = some (.int .i64 b)) (go_keep) (first
          | (go_at_call 76; refine HA.out.mono ?_; rintro e w3 ⟨rfl, hBw3⟩; have mw30 := (hBw3.cell (p := ⟨w.heap.size, 0, none⟩) hs2).trans n0; have mw31 := (hBw3.cell (p := ⟨w.heap.size, 1, none⟩) hs2).trans n1; have mw32 := (hBw3.cell (p := ⟨bf, 0, none⟩) (Nat.lt_trans hbf2 hs2)).trans n2; have mw33 := (hBw3.cell (p := ⟨bf, 1, none⟩) (Nat.lt_trans hbf2 hs2)).trans n3; have HBw3 := hid hBw3; clear hBw3))
        all_goals
          have HB4 := hid (HB2d.out.trans (HBw3.out.mono HB2d.out.size))
          have HA4 := hid (HBb.out w3.drew (HB4.out.trans ⟨rfl, rfl, rfl, Nat.le_refl _, fun _ _ => rfl⟩))
          have HB4d : Hid (Below w.heap.size w w3.drew) := hid (HB4.out.trans ⟨rfl, rfl, rfl, Nat.le_refl _, fun _ _ => rfl⟩)
          have hs3 : w.heap.size < w3.heap.size := Nat.lt_of_lt_of_le hs2 HBw3.out.size
          clear HBw3 HBb HA
          go_wp2_with fail
          rw [rounds_succ]
          go_wp2_with fail
          go_region_held3 (fun w' => w'.cell? ⟨w.heap.size, 0, none⟩ = some (.int .i64 V) ∧ w'.cell? ⟨w.heap.size, 1, none⟩ = some (.slice a0 fs.length cap) ∧ w'.cell? ⟨bf, 0, none⟩ = some (.int .i64 a) ∧ w'.cell? ⟨bf, 1, none⟩ = some (.int .i64 b)) (go_keep) (first
            | (go_at_call 76; refine HA4.out.mono ?_; rintro e w4 ⟨rfl, hBw4⟩; have mw40 := (hBw4.cell (p := ⟨w.heap.size, 0, none⟩) hs3).trans mw30; have mw41 := (hBw4.cell (p := ⟨w.heap.size, 1, none⟩) hs3).trans mw31; have mw42 := (hBw4.cell (p := ⟨bf, 0, none⟩) (Nat.lt_trans hbf2 hs3)).trans mw32; have mw43 := (hBw4.cell (p := ⟨bf, 1, none⟩) (Nat.lt_trans hbf2 hs3)).trans mw33; have HBw4 := hid hBw4; clear hBw4))
          all_goals
            have HB5 := hid (HB4d.out.trans (HBw4.out.mono HB4d.out.size))
            go_wp2_with fail
            rw [rounds_succ]
            go_wp2_with fail
            go_ret
            exact ⟨ret_int (by rw [He.out]), HB5.out⟩
      · have He : Hid (E = 2) := hid (by rw [hE1, if_neg (fun h => hb h.2)])
        have HBb := hid (fun w' (h : Below w.heap.size w w') => has_no V b a0 cap fs w' (Hx0.out.later h h.size) hl hb)
        clear hE1 ha hb
        go_wp2_with fail
        refine wp_loop_rounds 3 ?_
        rw [rounds_succ]
        go_wp2_with fail
        go_region_held3 (fun w' => w'.cell? ⟨w.heap.size, 0, none⟩ = some (.int .i64 V) ∧ w'.cell? ⟨w.heap.size, 1, none⟩ = some (.slice a0 fs.length cap) ∧ w'.cell? ⟨bf, 0, none⟩ = some (.int .i64 a) ∧ w'.cell? ⟨bf, 1, none⟩ = some (.int .i64 b)) (go_keep) (first
          | (go_at_call 76; refine HA.out.mono ?_; rintro e w3 ⟨rfl, hBw3⟩; have mw30 := (hBw3.cell (p := ⟨w.heap.size, 0, none⟩) hs2).trans n0; have mw31 := (hBw3.cell (p := ⟨w.heap.size, 1, none⟩) hs2).trans n1; have mw32 := (hBw3.cell (p := ⟨bf, 0, none⟩) (Nat.lt_trans hbf2 hs2)).trans n2; have mw33 := (hBw3.cell (p := ⟨bf, 1, none⟩) (Nat.lt_trans hbf2 hs2)).trans n3; have HBw3 := hid hBw3; clear hBw3))
        all_goals
          have HB4 := hid (HB2d.out.trans (HBw3.out.mono HB2d.out.size))
          have HA4 := hid (HBb.out w3.drew (HB4.out.trans ⟨rfl, rfl, rfl, Nat.le_refl _, fun _ _ => rfl⟩))
          have HB4d : Hid (Below w.heap.size w w3.drew) := hid (HB4.out.trans ⟨rfl, rfl, rfl, Nat.le_refl _, fun _ _ => rfl⟩)
          have hs3 : w.heap.size < w3.heap.size := Nat.lt_of_lt_of_le hs2 HBw3.out.size
          clear HBw3 HBb HA
          go_wp2_with fail
          rw [rounds_succ]
          go_wp2_with fail
          go_region_held3 (fun w' => w'.cell? ⟨w.heap.size, 0, none⟩ = some (.int .i64 V) ∧ w'.cell? ⟨w.heap.size, 1, none⟩ = some (.slice a0 fs.length cap) ∧ w'.cell? ⟨bf, 0, none⟩ = some (.int .i64 a) ∧ w'.cell? ⟨bf, 1, none⟩ = some (.int .i64 b)) (go_keep) (first
            | (go_at_call 76; refine HA4.out.mono ?_; rintro e w4 ⟨rfl, hBw4⟩; have mw40 := (hBw4.cell (p := ⟨w.heap.size, 0, none⟩) hs3).trans mw30; have mw41 := (hBw4.cell (p := ⟨w.heap.size, 1, none⟩) hs3).trans mw31; have mw42 := (hBw4.cell (p := ⟨bf, 0, none⟩) (Nat.lt_trans hbf2 hs3)).trans mw32; have mw43 := (hBw4.cell (p := ⟨bf, 1, none⟩) (Nat.lt_trans hbf2 hs3)).trans mw33; have HBw4 := hid hBw4; clear hBw4))
          all_goals
            have HB5 := hid (HB4d.out.trans (HBw4.out.mono HB4d.out.size))
            go_wp2_with fail
            go_ret
            exact ⟨ret_int (by rw [He.out]), HB5.out⟩
    · have He : Hid (E = 2) := hid (by rw [hE1, if_neg (fun h => ha h.1)])
      have HA := hid (has_no V a a0 cap fs w2.drew (Hx0.out.later HB2d.out HB2d.out.size) hl ha)
      clear hE1 ha
      go_wp2_with fail
      refine wp_loop_rounds 3 ?_
      rw [rounds_succ]
      go_wp2_with fail
      go_region_held3 (fun w' => w'.cell? ⟨w.heap.size, 0, none⟩ = some (.int .i64 V) ∧ w'.cell? ⟨w.heap.size, 1, none⟩ = some (.slice a0 fs.length cap) ∧ w'.cell? ⟨bf, 0, none⟩ = some (.int .i64 a) ∧ w'.cell? ⟨bf, 1, none⟩ = some (.int .i64 b)) (go_keep) (first
        | (go_at_call 76; refine HA.out.mono ?_; rintro e w3 ⟨rfl, hBw3⟩; have mw30 := (hBw3.cell (p := ⟨w.heap.size, 0, none⟩) hs2).trans n0; have mw31 := (hBw3.cell (p := ⟨w.heap.size, 1, none⟩) hs2).trans n1; have mw32 := (hBw3.cell (p := ⟨bf, 0, none⟩) (Nat.lt_trans hbf2 hs2)).trans n2; have mw33 := (hBw3.cell (p := ⟨bf, 1, none⟩) (Nat.lt_trans hbf2 hs2)).trans n3; have HBw3 := hid hBw3; clear hBw3))
      all_goals
        have HB4 := hid (HB2d.out.trans (HBw3.out.mono HB2d.out.size))
        go_wp2_with fail
        go_ret
        exact ⟨ret_int (by rw [He.out]), HB4.out⟩
  · have He : Hid (E = 2) := hid (by rw [hE, code2R, if_neg (by rw [h0]; decide), h0])
    have HC := hid hC
    clear hC h0 hE
    go_enter Try.func50, Try.ntmps50
    go_wp2_with fail
    refine (is_yes V a0 cap fs _ Hx.out hl HC.out).mono ?_
    rintro e w1 ⟨rfl, hB1⟩
    have HB1 := hid (hB0.trans (hB1.mono (by simp)))
    have k0 : w1.cell? ⟨w.heap.size, 0, none⟩ = some (.int .i64 V) := (hB1.cell (p := ⟨w.heap.size, 0, none⟩) (by simp)).trans (by simp [go_sem])
    have k1 : w1.cell? ⟨w.heap.size, 1, none⟩ = some (.slice a0 fs.length cap) := (hB1.cell (p := ⟨w.heap.size, 1, none⟩) (by simp)).trans (by simp [go_sem])
    have HI := hid (pis_any V a0 cap fs a1 n cap1 ps w1 (Hx0.out.later HB1.out HB1.out.size) (Hy.out.later HB1.out HB1.out.size) hl HC.out.range63 hp hn)
    rw [h1] at HI
    clear hB0 hB1 h1 hp
    go_wp2_with fail
    refine HI.out.mono ?_
    rintro e w2 ⟨rfl, hB2⟩
    go_wp2_with fail
    go_ret
    exact ⟨ret_int (by rw [He.out]), HB1.out.trans (hB2.mono HB1.out.size)⟩
  · have He : Hid (E = 1) := hid (by rw [hE, code2R, if_neg (by rw [h0]; decide), h0])
    clear h0 hE
    go_enter Try.func50, Try.ntmps50
    go_wp2_with fail
    refine (is_no V a0 cap fs _ Hx.out hl hC).mono ?_
    rintro e w1 ⟨rfl, hB1⟩
    go_wp2_with fail
    go_ret
    exact ⟨ret_int (by rw [He.out]), hB0.trans (hB1.mono (by simp))⟩

theorem num_mono3 {fn : FuncId} {args : Array Value} {w : World} {B : Nat} {P : Program} {R : Int × Int} {b c : Int} (hR : R = (b, c))
    (h : Calls P fn args w fun e w' => e = .returned (.tuple #[.int .i64 b, .int .i64 c]) ∧ Below B w w') :
    Calls P fn args w fun e w' => e = .returned (.tuple #[.int .i64 R.1, .int .i64 R.2]) ∧ Below B w w' := by
  rw [hR]; exact h


end Go.Proofs.Ytbgkalkipalndaa

/-! WaysBetween, the model's. -/
namespace Go.Proofs.Ytbgkalkipalndaa
open Go.RowKit

/-- The ways by the first k faces below b. -/
def wsPart (ps : List Int) (n b : Nat) (a : Int) (k : Nat) : Int := (((belowR b 63).take k).map (gw ps n a)).sum
theorem wsPart_succ {ps : List Int} {n b : Nat} {a : Int} {k : Nat} (hk : k < (belowR b 63).length) : wsPart ps n b a (k + 1) = wsPart ps n b a k + gw ps n a ((belowR b 63)[k]?.getD 0) := by
  unfold wsPart
  rw [List.take_add_one, List.getElem?_eq_getElem hk]
  simp only [Option.toList_some, List.map_append, List.map_cons, List.map_nil, List.sum_append, List.sum_cons, List.sum_nil, Option.getD_some, Int.add_zero]
theorem wsPart_all {ps : List Int} {n b : Nat} (hb : b < 64) (a : Int) : wsPart ps n b a (belowR b 63).length = wsum ps n (b : Int) a := by
  unfold wsPart wsum
  rw [List.take_length, Int.toNat_natCast]
  have e := sides_below ⟨b, hb⟩
  simp only at e
  have e2 : (sidesF b).map (fun s => gw ps n a (s.val : Int)) = ((belowR b 63).map (gw ps n a)).reverse := by
    rw [← List.map_reverse, ← e, List.map_map]
    rfl
  rw [e2, int_sum_reverse]

set_option maxRecDepth 1000000 in
set_option maxHeartbeats 2000000 in
theorem between_any (a1 : Option Addr) (n cap : Nat) (ps : List Int) (b : Nat) (a : Int) (w : World) (hx : SlI w w.heap.size a1 ps) (hp : ps.length = 2 * n) (hl : n ≤ 1048576) (hh : HighsB ps n) (hc : NoCycle ps n) (hb : b < 64) :
    Calls Try.prog 62 #[.slice a1 n cap, .int .i64 (b : Int), .int .i64 a] w fun e w' => e = .returned (.int .i64 (wrap64 (wsum ps n (b : Int) a))) ∧ Below w.heap.size w w' := by
  have HN := hid (below_any b w hb)
  have HH := hid (fun y w' (h : Below w.heap.size w w') => ways_any a1 n cap ps a y w' (hx.later h h.size) hp hl hh hc)
  obtain ⟨E, hE⟩ : ∃ E, E = wsum ps n (b : Int) a := ⟨_, rfl⟩
  rw [← hE]
  have HE := hid (hE.trans (wsPart_all (ps := ps) (n := n) hb a).symm)
  obtain ⟨m, hm⟩ : ∃ m, m = (belowR b 63).length := ⟨_, rfl⟩
  have hml : m ≤ 63 := by rw [hm]; exact belowR_len _ _
  have Hm := hid hm
  rw [← hm] at HN HE
  clear hx hp hh hc hE hm
  go_enter Try.func62, Try.ntmps62
  go_wp2_with fail
  refine HN.out.mono ?_
  rintro e w1 ⟨v, rfl, hR, hB1⟩
  obtain ⟨hgb, av, cv, rfl, hs⟩ := ownsRow_slI hR
  have HS := hid hs
  have HB1 := hid hB1
  rw [← Hm.out]
  clear hR hs hgb hB1
  go_wp2_with fail
  go_loopw [8, 9] (fun t i wr => ∃ k : Nat, k ≤ m ∧ i = .int .i64 k ∧ t = .int .i64 (wrap64 (wsPart ps n b a k)) ∧ Below w1.heap.size w1 wr) (fun _ i _ => m - (intOf i).toNat)
  case atStart => exact ⟨0, Nat.zero_le _, rfl, by simp [wsPart, wrap64], Below.refl _ _⟩
  case round =>
    obtain ⟨k, hk, rfl, rfl, hB⟩ := hrel
    by_cases hlt : k < m
    · obtain ⟨y, hy⟩ : ∃ y, y = (belowR b 63)[k]?.getD 0 := ⟨_, rfl⟩
      obtain ⟨g, off, hgb, rfl, hcl⟩ : ∃ g off, g < w1.heap.size ∧ av = some ⟨g, off, none⟩ ∧ ∀ i, i < (belowR b 63).length → w1.cell? ⟨g, off + i, none⟩ = some (.int .i64 ((belowR b 63)[i]?.getD 0)) := by
        rcases HS.out with h | h
        · have := Hm.out; rw [h] at this; simp at this; omega
        · exact h
      have hck : wr.cell? ⟨g, off + k, none⟩ = some (.int .i64 y) := by rw [hy]; exact (hB.cell (p := ⟨g, off + k, none⟩) hgb).trans (hcl k (by have := Hm.out; omega))
      have HC := hid (HH.out y wr (HB1.out.trans (hB.mono HB1.out.size)))
      have hsum : Hid (wrap64 (wrap64 (wsPart ps n b a k) + wrap64 (gw ps n a y)) = wrap64 (wsPart ps n b a (k + 1))) := hid (by rw [wrap64_add, wsPart_succ (by have := Hm.out; omega), ← hy])
      have hi0 : (0 : Int) ≤ (k : Int) := by omega
      have hi1 : (k : Int) < (m : Int) := by omega
      have HB := hid hB
      clear hy hcl hB
      go_wp2_with fail
      refine HC.out.mono ?_
      rintro e w2 ⟨rfl, hB2⟩
      have HB2 := hid (HB.out.trans (hB2.mono HB.out.size))
      clear hB2
      go_wp2_with fail
      go_roundw
      case rel => exact ⟨k + 1, by omega, by go_num, congrArg (Value.int .i64) hsum.out, HB2.out⟩
      case measure => simp [intOf]; omega
    · obtain rfl : k = m := by omega
      go_wp2_with fail
      go_ret
      exact ⟨ret_int (by rw [HE.out]), HB1.out.trans (hB.mono HB1.out.size)⟩

theorem mem_critL {fs ps : List Int} {x : Int} : x ∈ critL fs ps ↔ critB fs ps x = true := by
  unfold critL critB
  simp

set_option maxRecDepth 1000000 in
set_option maxHeartbeats 2000000 in
theorem crit6_any (V : Int) (a0 : Option Addr) (cap : Nat) (fs : List Int) (a1 : Option Addr) (n cap1 : Nat) (ps : List Int) (f : Int) (w : World) (hx : SlI w w.heap.size a0 fs) (hx1 : SlI w w.heap.size a1 ps) (hl : fs.length ≤ 1048576) (hp : ps.length = 2 * n) (hn : n ≤ 1048576) :
    Calls Try.prog 117 #[.agg #[.int .i64 V, .slice a0 fs.length cap], .slice a1 n cap1, .int .i64 f] w fun e w' => e = .returned (.bool (critB fs ps f)) ∧ Below w.heap.size w w' := by
  have hB0 : Below w.heap.size w (w.alloc (.cells #[.int .i64 V, .slice a0 fs.length cap] 30)) := (Below.refl _ w).alloc (Nat.le_refl _) _
  have HN := hid (critS_any V a0 cap fs a1 n cap1 ps _ (hx.later hB0 hB0.size) (hx1.later hB0 hB0.size) hl hp hn)
  obtain ⟨E, hE⟩ : ∃ E, E = critB fs ps f := ⟨_, rfl⟩
  rw [← hE]
  have HE := hid hE
  obtain ⟨C, hC⟩ : ∃ C, C = critL fs ps := ⟨_, rfl⟩
  have hml : C.length ≤ 1048576 := by rw [hC]; exact Nat.le_trans (List.length_filter_le _ _) hl
  have HMem : Hid (f ∈ C ↔ critB fs ps f = true) := hid (by rw [hC]; exact mem_critL)
  rw [← hC] at HN
  have HB0 := hid hB0
  clear hx hx1 hp hE hC hB0
  go_enter Try.func117, Try.ntmps117
  go_wp2_with fail
  refine HN.out.mono ?_
  rintro e w1 ⟨v, rfl, hR⟩
  obtain ⟨_, av, cv, rfl, hs⟩ := ownsRow_slI hR.1
  have HS := hid hs
  have HB1 := hid (HB0.out.trans (hR.2.mono HB0.out.size))
  clear hR hs
  go_wp2_with fail
  go_loopw [8] (fun i wr => ∃ k : Nat, k ≤ C.length ∧ i = .int .i64 k ∧ Hid (f ∉ C.take k) ∧ wr = w1) (fun i _ => C.length - (intOf i).toNat)
  case atStart => exact ⟨0, Nat.zero_le _, rfl, hid (by simp), rfl⟩
  case round =>
    obtain ⟨k, hk, rfl, Hk, rfl⟩ := hrel
    by_cases hlt : k < C.length
    · obtain ⟨y, hy⟩ : ∃ y, y = C[k]?.getD 0 := ⟨_, rfl⟩
      obtain ⟨g, off, hgb, rfl, hcl⟩ : ∃ g off, g < wr.heap.size ∧ av = some ⟨g, off, none⟩ ∧ ∀ i, i < C.length → wr.cell? ⟨g, off + i, none⟩ = some (.int .i64 (C[i]?.getD 0)) := by
        rcases HS.out with h | h
        · rw [h] at hlt; simp at hlt
        · exact h
      have hck : wr.cell? ⟨g, off + k, none⟩ = some (.int .i64 y) := by rw [hy]; exact hcl k hlt
      have hi0 : (0 : Int) ≤ (k : Int) := by omega
      have hi1 : (k : Int) < (C.length : Int) := by omega
      have Hy := hid hy
      clear hcl hy
      by_cases hyf : y = f
      · have hd : (y == f) = true := by simp [hyf]
        have He : Hid (E = true) := hid (by rw [HE.out]; exact HMem.out.1 (by rw [← hyf, Hy.out]; exact getD_mem hlt))
        clear hyf
        go_wp2_with fail
        go_ret
        exact ⟨ret_bool (by rw [He.out]), HB1.out⟩
      · have hd : (y == f) = false := by simp [hyf]
        have He : Hid (f ∉ C.take (k + 1)) := hid (by
          rw [take_snoc hlt, ← Hy.out]
          intro h
          rcases List.mem_append.1 h with h | h
          · exact Hk.out h
          · simp at h; exact hyf h.symm)
        clear hyf
        go_wp2_with fail
        go_roundw
        case rel => exact ⟨k + 1, by omega, by go_num, He, by first | rfl | trivial⟩
        case measure => simp [intOf]; omega
    · have He : Hid (E = false) := hid (by
        have h2 := Hk.out
        rw [List.take_of_length_le (by omega)] at h2
        rw [HE.out]
        cases h3 : critB fs ps f
        · rfl
        · exact absurd (HMem.out.2 h3) h2)
      go_wp2_with fail
      go_ret
      exact ⟨ret_bool (by rw [He.out]), HB1.out⟩

/-- b and a are critical faces, b of one dimension more. -/
def suchB (fs ps : List Int) (b a : Int) : Bool := critB fs ps b && (critB fs ps a && decide (ones b.toNat = ones a.toNat + 1))
noncomputable def givenR (V : Int) (fs : List Int) (n : Nat) (ps : List Int) (b a : Int) : Int := if pcodeR V fs n ps = 0 then (if suchB fs ps b a then (if acyB ps n then 0 else 5) else 2) else pcodeR V fs n ps
noncomputable def waysBR (V : Int) (fs : List Int) (n : Nat) (ps : List Int) (b a : Int) : Int × Int := if givenR V fs n ps b a = 0 then (wrap64 (wsum ps n b a), 0) else (0, givenR V fs n ps b a)

set_option maxRecDepth 1000000 in
set_option maxHeartbeats 4000000 in
theorem given_any (V : Int) (a0 : Option Addr) (cap : Nat) (fs : List Int) (a1 : Option Addr) (n cap1 : Nat) (ps : List Int) (b a : Int) (w : World) (hx : SlI w w.heap.size a0 fs) (hx1 : SlI w w.heap.size a1 ps) (hl : fs.length ≤ 1048576) (hp : ps.length = 2 * n) (hn : n ≤ 1048576) :
    Calls Try.prog 61 #[.agg #[.int .i64 V, .slice a0 fs.length cap], .slice a1 n cap1, .int .i64 b, .int .i64 a] w fun e w' => e = .returned (.int .i64 (givenR V fs n ps b a)) ∧ Below w.heap.size w w' := by
  have hB0 : Below w.heap.size w (w.alloc (.cells #[.int .i64 V, .slice a0 fs.length cap] 30)) := (Below.refl _ w).alloc (Nat.le_refl _) _
  have HK := hid (pcode_spec V a0 cap fs a1 n cap1 ps _ (hx.later hB0 hB0.size) (hx1.later hB0 hB0.size) hl hp hn)
  have HB0 := hid hB0
  obtain ⟨E, hE⟩ : ∃ E, E = givenR V fs n ps b a := ⟨_, rfl⟩
  rw [← hE]
  by_cases hpc : pcodeR V fs n ps = 0
  · have hCO : IsC V fs ∧ OkTo fs ps n := by
      rcases pcode_cases V fs n ps with ⟨hC, ho, _⟩ | ⟨_, _, h2, _⟩ | ⟨_, h2, _⟩
      · exact ⟨hC, ho⟩
      · rw [h2] at hpc; cases hpc
      · rw [h2] at hpc; cases hpc
    have hE1 : E = if suchB fs ps b a then (if acyB ps n then 0 else 5) else 2 := by rw [hE, givenR, if_pos hpc]
    rw [hpc] at HK
    have HCb := hid (fun w1 (h : Below w.heap.size w w1) => crit6_any V a0 cap fs a1 n cap1 ps b w1 (hx.later h h.size) (hx1.later h h.size) hl hp hn)
    have HCa := hid (fun w1 (h : Below w.heap.size w w1) => crit6_any V a0 cap fs a1 n cap1 ps a w1 (hx.later h h.size) (hx1.later h h.size) hl hp hn)
    have HA := hid (fun w1 (h : Below w.heap.size w w1) => acyclicS_any a1 n cap1 ps w1 (hx1.later h h.size) hp hn (okTo_highs hCO.1 hCO.2) (okTo_lows hCO.1 hCO.2))
    have Hr := hid hCO.1.range63
    clear hx hx1 hp hpc hCO hE hB0
    have Hm := hid (fun f (h : critB fs ps f = true) => (show f ∈ fs by unfold critB at h; simp at h; exact h.1))
    cases hcb : critB fs ps b
    · have He : Hid (E = 2) := hid (by rw [hE1, if_neg (by unfold suchB; rw [hcb]; simp)])
      rw [hcb] at HCb
      clear hE1 hcb
      go_enter Try.func61, Try.ntmps61
      go_wp2_with (first
        | (go_at_call 50; refine HK.out.mono ?_; rintro e w1 ⟨rfl, hB1⟩; have HB1 := hid (HB0.out.trans (hB1.mono (by simp))); have k0 : w1.cell? ⟨w.heap.size, 0, none⟩ = some (.int .i64 V) := (hB1.cell (p := ⟨w.heap.size, 0, none⟩) (by simp)).trans (by simp [go_sem]); have k1 : w1.cell? ⟨w.heap.size, 1, none⟩ = some (.slice a0 fs.length cap) := (hB1.cell (p := ⟨w.heap.size, 1, none⟩) (by simp)).trans (by simp [go_sem]); have hs1 : w.heap.size < w1.heap.size := (by have := hB1.size; simp at this; omega); have HCb1 := hid (HCb.out w1 HB1.out); clear hB1)
        | (go_at_call 117; refine HCb1.out.mono ?_; rintro e w2 ⟨rfl, hB2⟩; have m0 := (hB2.cell (p := ⟨w.heap.size, 0, none⟩) hs1).trans k0; have m1 := (hB2.cell (p := ⟨w.heap.size, 1, none⟩) hs1).trans k1; have HB2 := hid (HB1.out.trans (hB2.mono HB1.out.size)); have HCa2 := hid (HCa.out w2 HB2.out); clear hB2 k0 k1 HCb1))
      go_ret
      exact ⟨ret_int (by rw [He.out]), HB2.out⟩
    · cases hca : critB fs ps a
      · have He : Hid (E = 2) := hid (by rw [hE1, if_neg (by unfold suchB; rw [hca]; simp)])
        rw [hcb] at HCb
        rw [hca] at HCa
        clear hE1 hcb hca
        go_enter Try.func61, Try.ntmps61
        go_wp2_with (first
          | (go_at_call 50; refine HK.out.mono ?_; rintro e w1 ⟨rfl, hB1⟩; have HB1 := hid (HB0.out.trans (hB1.mono (by simp))); have k0 : w1.cell? ⟨w.heap.size, 0, none⟩ = some (.int .i64 V) := (hB1.cell (p := ⟨w.heap.size, 0, none⟩) (by simp)).trans (by simp [go_sem]); have k1 : w1.cell? ⟨w.heap.size, 1, none⟩ = some (.slice a0 fs.length cap) := (hB1.cell (p := ⟨w.heap.size, 1, none⟩) (by simp)).trans (by simp [go_sem]); have hs1 : w.heap.size < w1.heap.size := (by have := hB1.size; simp at this; omega); have HCb1 := hid (HCb.out w1 HB1.out); clear hB1)
          | (go_at_call 117; refine HCa2.out.mono ?_; rintro e w3 ⟨rfl, hB3⟩; have HB3 := hid (HB2.out.trans (hB3.mono HB2.out.size)); have HA3 := hid (HA.out w3 HB3.out); clear hB3 m0 m1 HCa2) | (go_at_call 117; refine HCb1.out.mono ?_; rintro e w2 ⟨rfl, hB2⟩; have m0 := (hB2.cell (p := ⟨w.heap.size, 0, none⟩) hs1).trans k0; have m1 := (hB2.cell (p := ⟨w.heap.size, 1, none⟩) hs1).trans k1; have HB2 := hid (HB1.out.trans (hB2.mono HB1.out.size)); have HCa2 := hid (HCa.out w2 HB2.out); clear hB2 k0 k1 HCb1))
        go_ret
        exact ⟨ret_int (by rw [He.out]), HB3.out⟩
      · obtain ⟨bn, rfl⟩ : ∃ bn : Nat, b = (bn : Int) := ⟨b.toNat, by have := Hr.out b (Hm.out b hcb); omega⟩
        obtain ⟨an, rfl⟩ : ∃ an : Nat, a = (an : Int) := ⟨a.toNat, by have := Hr.out a (Hm.out a hca); omega⟩
        have hbn : bn < 64 := by have := Hr.out _ (Hm.out _ hcb); omega
        have han : an < 64 := by have := Hr.out _ (Hm.out _ hca); omega
        have hob := ones_le bn
        have hoa := ones_le an
        by_cases hones : ones bn = ones an + 1
        · have hs : suchB fs ps (bn : Int) (an : Int) = true := by unfold suchB; rw [hcb, hca]; simp [hones]
          rw [hcb] at HCb
          rw [hca] at HCa
          rw [if_pos hs] at hE1
          have hon : ((ones bn : Int) != (ones an : Int) + 1) = false := by simp; omega
          cases hac : acyB ps n
          · have He : Hid (E = 5) := hid (by rw [hE1, hac]; simp)
            rw [hac] at HA
            clear hE1 hcb hca hs hones hac
            go_enter Try.func61, Try.ntmps61
            go_wp2_with (first
              | (go_at_call 50; refine HK.out.mono ?_; rintro e w1 ⟨rfl, hB1⟩; have HB1 := hid (HB0.out.trans (hB1.mono (by simp))); have k0 : w1.cell? ⟨w.heap.size, 0, none⟩ = some (.int .i64 V) := (hB1.cell (p := ⟨w.heap.size, 0, none⟩) (by simp)).trans (by simp [go_sem]); have k1 : w1.cell? ⟨w.heap.size, 1, none⟩ = some (.slice a0 fs.length cap) := (hB1.cell (p := ⟨w.heap.size, 1, none⟩) (by simp)).trans (by simp [go_sem]); have hs1 : w.heap.size < w1.heap.size := (by have := hB1.size; simp at this; omega); have HCb1 := hid (HCb.out w1 HB1.out); clear hB1)
              | (go_at_call 117; refine HCa2.out.mono ?_; rintro e w3 ⟨rfl, hB3⟩; have HB3 := hid (HB2.out.trans (hB3.mono HB2.out.size)); have HA3 := hid (HA.out w3 HB3.out); clear hB3 m0 m1 HCa2) | (go_at_call 117; refine HCb1.out.mono ?_; rintro e w2 ⟨rfl, hB2⟩; have m0 := (hB2.cell (p := ⟨w.heap.size, 0, none⟩) hs1).trans k0; have m1 := (hB2.cell (p := ⟨w.heap.size, 1, none⟩) hs1).trans k1; have HB2 := hid (HB1.out.trans (hB2.mono HB1.out.size)); have HCa2 := hid (HCa.out w2 HB2.out); clear hB2 k0 k1 HCb1)
              | (go_at_call 118; refine (ones_any _ _ (by assumption)).mono ?_; rintro e w' ⟨rfl, rfl⟩)
              | (go_at_call 52; refine HA3.out.mono ?_; rintro e w4 ⟨rfl, hB4⟩; have HB4 := hid (HB3.out.trans (hB4.mono HB3.out.size)); clear hB4))
            go_ret
            exact ⟨ret_int (by rw [He.out]), HB4.out⟩
          · have He : Hid (E = 0) := hid (by rw [hE1, hac]; simp)
            rw [hac] at HA
            clear hE1 hcb hca hs hones hac
            go_enter Try.func61, Try.ntmps61
            go_wp2_with (first
              | (go_at_call 50; refine HK.out.mono ?_; rintro e w1 ⟨rfl, hB1⟩; have HB1 := hid (HB0.out.trans (hB1.mono (by simp))); have k0 : w1.cell? ⟨w.heap.size, 0, none⟩ = some (.int .i64 V) := (hB1.cell (p := ⟨w.heap.size, 0, none⟩) (by simp)).trans (by simp [go_sem]); have k1 : w1.cell? ⟨w.heap.size, 1, none⟩ = some (.slice a0 fs.length cap) := (hB1.cell (p := ⟨w.heap.size, 1, none⟩) (by simp)).trans (by simp [go_sem]); have hs1 : w.heap.size < w1.heap.size := (by have := hB1.size; simp at this; omega); have HCb1 := hid (HCb.out w1 HB1.out); clear hB1)
              | (go_at_call 117; refine HCa2.out.mono ?_; rintro e w3 ⟨rfl, hB3⟩; have HB3 := hid (HB2.out.trans (hB3.mono HB2.out.size)); have HA3 := hid (HA.out w3 HB3.out); clear hB3 m0 m1 HCa2) | (go_at_call 117; refine HCb1.out.mono ?_; rintro e w2 ⟨rfl, hB2⟩; have m0 := (hB2.cell (p := ⟨w.heap.size, 0, none⟩) hs1).trans k0; have m1 := (hB2.cell (p := ⟨w.heap.size, 1, none⟩) hs1).trans k1; have HB2 := hid (HB1.out.trans (hB2.mono HB1.out.size)); have HCa2 := hid (HCa.out w2 HB2.out); clear hB2 k0 k1 HCb1)
              | (go_at_call 118; refine (ones_any _ _ (by assumption)).mono ?_; rintro e w' ⟨rfl, rfl⟩)
              | (go_at_call 52; refine HA3.out.mono ?_; rintro e w4 ⟨rfl, hB4⟩; have HB4 := hid (HB3.out.trans (hB4.mono HB3.out.size)); clear hB4))
            go_ret
            exact ⟨ret_int (by rw [He.out]), HB4.out⟩
        · have He : Hid (E = 2) := hid (by rw [hE1, if_neg (by unfold suchB; simp [hones])])
          rw [hcb] at HCb
          rw [hca] at HCa
          have hon : ((ones bn : Int) != (ones an : Int) + 1) = true := by simp; omega
          clear hE1 hcb hca hones
          go_enter Try.func61, Try.ntmps61
          go_wp2_with (first
            | (go_at_call 50; refine HK.out.mono ?_; rintro e w1 ⟨rfl, hB1⟩; have HB1 := hid (HB0.out.trans (hB1.mono (by simp))); have k0 : w1.cell? ⟨w.heap.size, 0, none⟩ = some (.int .i64 V) := (hB1.cell (p := ⟨w.heap.size, 0, none⟩) (by simp)).trans (by simp [go_sem]); have k1 : w1.cell? ⟨w.heap.size, 1, none⟩ = some (.slice a0 fs.length cap) := (hB1.cell (p := ⟨w.heap.size, 1, none⟩) (by simp)).trans (by simp [go_sem]); have hs1 : w.heap.size < w1.heap.size := (by have := hB1.size; simp at this; omega); have HCb1 := hid (HCb.out w1 HB1.out); clear hB1)
            | (go_at_call 117; refine HCa2.out.mono ?_; rintro e w3 ⟨rfl, hB3⟩; have HB3 := hid (HB2.out.trans (hB3.mono HB2.out.size)); have HA3 := hid (HA.out w3 HB3.out); clear hB3 m0 m1 HCa2) | (go_at_call 117; refine HCb1.out.mono ?_; rintro e w2 ⟨rfl, hB2⟩; have m0 := (hB2.cell (p := ⟨w.heap.size, 0, none⟩) hs1).trans k0; have m1 := (hB2.cell (p := ⟨w.heap.size, 1, none⟩) hs1).trans k1; have HB2 := hid (HB1.out.trans (hB2.mono HB1.out.size)); have HCa2 := hid (HCa.out w2 HB2.out); clear hB2 k0 k1 HCb1)
            | (go_at_call 118; refine (ones_any _ _ (by assumption)).mono ?_; rintro e w' ⟨rfl, rfl⟩))
          go_ret
          exact ⟨ret_int (by rw [He.out]), HB3.out⟩
  · have hE1 : E = pcodeR V fs n ps := by rw [hE, givenR, if_neg hpc]
    rw [← hE1] at hpc HK
    have hcn : (E == 0) = false := by simpa using hpc
    clear hx hx1 hp hpc hE hE1 hB0
    go_enter Try.func61, Try.ntmps61
    go_wp2_with fail
    refine HK.out.mono ?_
    rintro e w1 ⟨rfl, hB1⟩
    go_wp2_with fail
    go_ret
    exact ⟨rfl, HB0.out.trans (hB1.mono (by simp))⟩

theorem given_zero {V : Int} {fs : List Int} {n : Nat} {ps : List Int} {b a : Int} (h : givenR V fs n ps b a = 0) : pcodeR V fs n ps = 0 ∧ suchB fs ps b a = true ∧ NoCycle ps n := by
  unfold givenR at h
  split at h
  · rename_i hp
    split at h
    · rename_i hs
      split at h
      · rename_i ha
        refine ⟨hp, hs, Classical.byContradiction fun hn => ?_⟩
        rw [acyB_false hn] at ha
        cases ha
      · cases h
    · cases h
  · rename_i hp
    exact absurd h hp
theorem such_lt {fs ps : List Int} {b a : Int} (hr : ∀ x ∈ fs, 1 ≤ x ∧ x ≤ 63) (h : suchB fs ps b a = true) : (∃ bn : Nat, b = (bn : Int) ∧ bn < 64) ∧ (0 ≤ a ∧ a < 64) := by
  unfold suchB critB at h
  simp at h
  have h1 := hr _ h.1.1
  have h2 := hr _ h.2.1.1
  exact ⟨⟨b.toNat, by omega, by omega⟩, by omega, by omega⟩


end Go.Proofs.Ytbgkalkipalndaa
