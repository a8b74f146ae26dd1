import Derived.Test.YtojnpacklcajpaaFreeQ
import Derived.Test.YtojnpacklcajpaaColM
import Derived.Test.YtojnpacklcajpaaContains
/-! The program's firstFreePair. -/
namespace Go.Proofs.Ytojnpacklcajpaa
open Go.RowKit Go.Conc

/-- A pair, or the zero one. -/
def prO (o : Option (Int × Int)) : Int × Int := o.getD (0, 0)

theorem firstP_pre {fs ls : List Int} {pre R : List (Int × Int)} (hL : freeP fs fs = pre ++ R) (hpre : ∀ p ∈ pre, p.1 ∈ ls) : firstP fs ls = R.find? fun p => decide (p.1 ∉ ls) := by
  unfold firstP
  rw [hL, List.find?_append]
  have : pre.find? (fun p => decide (p.1 ∉ ls)) = none := List.find?_eq_none.2 (fun p hp => by simpa using hpre p hp)
  rw [this]
  rfl

set_option maxRecDepth 100000 in
set_option maxHeartbeats 4000000 in
theorem first_any (V : Int) (a0 : Option Addr) (cap : Nat) (fs : List Int) (V1 : Int) (a1 : Option Addr) (cap1 : Nat) (ls : List Int) (w : World) (hx : SlI w w.heap.size a0 fs) (hx1 : SlI w w.heap.size a1 ls) (hl : fs.length ≤ 1048576) (hl1 : ls.length ≤ 1048576) (hf : ∀ x ∈ fs, 1 ≤ x ∧ x ≤ 63) :
    Calls Try.prog 98 #[.agg #[.int .i64 V, .slice a0 fs.length cap], .agg #[.int .i64 V1, .slice a1 ls.length cap1]] w fun e w' => e = .returned (.agg #[.int .i64 (prO (firstP fs ls)).1, .int .i64 (prO (firstP fs ls)).2]) ∧ Below w.heap.size w w' := by
  have hB0 : Below w.heap.size w (((w.alloc (.cells #[.int .i64 V, .slice a0 fs.length cap] 29)).alloc (.cells #[.int .i64 V1, .slice a1 ls.length cap1] 29)).alloc (.cells #[.int .i64 0, .int .i64 0] 63)) := (((Below.refl _ w).alloc (Nat.le_refl _) _).alloc (by simp) _).alloc (by simp <;> omega) _
  obtain ⟨W, hW⟩ : ∃ W, W = ((w.alloc (.cells #[.int .i64 V, .slice a0 fs.length cap] 29)).alloc (.cells #[.int .i64 V1, .slice a1 ls.length cap1] 29)).alloc (.cells #[.int .i64 0, .int .i64 0] 63) := ⟨_, rfl⟩
  have k0 : W.cell? ⟨w.heap.size, 0, none⟩ = some (.int .i64 V) := by rw [hW]; simp [go_sem]
  have k1 : W.cell? ⟨w.heap.size, 1, none⟩ = some (.slice a0 fs.length cap) := by rw [hW]; simp [go_sem]
  have q1 : W.heap[w.heap.size + 1]? = some (.cells #[.int .i64 V1, .slice a1 ls.length cap1] 29 (0, 0)) := by rw [hW, Below.heap_alloc _ _ _ (by simp)]; exact new2 _ _ _
  have r1 : W.heap[w.heap.size + 1 + 1]? = some (.cells #[.int .i64 0, .int .i64 0] 63 (0, 0)) := by rw [hW]; exact new3 _ _ _ _
  have HBW : Hid (Below w.heap.size w W) := hid (by rw [hW]; exact hB0)
  have Q1 := hid q1
  have R1 := hid r1
  have HW := hid hW
  have Hx0 := hid hx
  have Hx1 := hid hx1
  have Hf := hid hf
  have Hlen := hid (freeP_len fs fs)
  obtain ⟨L, hL⟩ : ∃ L, L = freeP fs fs := ⟨_, rfl⟩
  have HL := hid hL
  obtain ⟨F, hF⟩ : ∃ F, F = prO (firstP fs ls) := ⟨_, rfl⟩
  have HF := hid hF
  rw [← hL] at Hlen
  rw [← hF]
  clear hL hF hf hx hx1 hB0 q1 r1 hW
  go_enter Try.func98, Try.ntmps98
  go_wp2_with fail
  rw [← HW.out]
  refine (freeF_any V a0 cap fs _ (Hx0.out.later HBW.out HBW.out.size) hl Hf.out).mono ?_
  rintro e w2 ⟨c, rfl, hcs, hch, hB2⟩
  have HB2 := hid (HBW.out.trans (hB2.mono HBW.out.size))
  have Hcs := hid (Nat.le_trans HBW.out.size hcs)
  have Hne := hid (show w.heap.size + 1 + 1 < c by have := lt_get R1.out; omega)
  have R2 := hid ((hB2.block _ (lt_get R1.out)).trans R1.out)
  have Q2 := hid ((hB2.block _ (lt_get Q1.out)).trans Q1.out)
  rw [← HL.out] at hch
  have Hch := hid hch
  clear hB2 hch hcs k0 k1 R1 Q1
  go_wp2_with fail
  go_loopg [] L.length (fun gg wr => ∃ pre R : List (Int × Int), L = pre ++ R ∧ R.length = gg ∧ Hid (∀ p ∈ pre, p.1 ∈ ls) ∧ ChanP wr c R fs.length true ∧ wr.heap[w.heap.size + 1]? = some (.cells #[.int .i64 V1, .slice a1 ls.length cap1] 29 (0, 0)) ∧ wr.heap[w.heap.size + 1 + 1]? = some (.cells #[.int .i64 0, .int .i64 0] 63 (0, 0)) ∧ Below w.heap.size w wr)
  case atStart => exact ⟨[], L, rfl, rfl, hid (by simp), Hch.out, Q2.out, R2.out, HB2.out⟩
  case round =>
    obtain ⟨pre, R, hLR, hR, Hpre, ⟨s, r, hch⟩, hbox, hres, hB⟩ := hrel
    have HR := hid hres
    have HQ := hid hbox
    clear hres hbox
    cases gk with
    | zero =>
      obtain rfl : R = [] := by cases R with | nil => rfl | cons _ _ => simp at hR
      have Hz : Hid (F = (0, 0)) := hid (by rw [HF.out, firstP_pre (pre := pre) (R := []) (by rw [← HL.out, hLR]) Hpre.out]; rfl)
      iterate 1 (first | go_values | go_skip | go_guarded | go_step | go_upon | go_back)
      have hz := zero_pair wr
      have hu := Try.underlying65
      refine region_to ?_
      refine opsTo_shut (i := 0) (o := _) (c := c) (z := .agg #[.int .i64 0, .int .i64 0]) (ok := true) rfl rfl (by simp [go_sem, rcase, execOp, Act.eval, hz, run_underlying hu]) hch ?_
      refine opsTo_val (i := 1) (o := _) (v := .bool false) (w' := wr) rfl rfl rfl ?_
      refine opsTo_nil ?_
      simp only [got]
      clear hch hz hu hLR hR
      obtain ⟨c0, c1, f0, f1⟩ := two_of HR.out
      go_simp
      go_wp2
      (try simp only [Exit.inBlock, Exit.then])
      have R3 := two_of (two_set HR.out (.int .i64 0) (.int .i64 0))
      refine done_pr1 (p := 4) (by kernel_rfl) rfl rfl R3.1 R3.2.1 ⟨by rw [Hz.out], ?_⟩
      exact (hB.setCell (p := ⟨w.heap.size + 1 + 1, 0, none⟩) (by show w.heap.size ≤ w.heap.size + 1 + 1; omega) _).setCell (p := ⟨w.heap.size + 1 + 1, 1, none⟩) (by show w.heap.size ≤ w.heap.size + 1 + 1; omega) _
    | succ g =>
      obtain ⟨x, y, M, rfl⟩ : ∃ x y M, R = (x, y) :: M := by
        cases R with
        | nil => simp at hR
        | cons p M => exact ⟨p.1, p.2, M, rfl⟩
      iterate 1 (first | go_values | go_skip | go_guarded | go_step | go_upon | go_back)
      have hz := zero_pair wr
      have hu := Try.underlying65
      refine region_to ?_
      refine opsTo_recv (i := 0) (o := _) (c := c) (z := .agg #[.int .i64 0, .int .i64 0]) (ok := true) rfl rfl (by simp [go_sem, rcase, execOp, Act.eval, hz, run_underlying hu]) hch (by simp) ?_
      rw [chan_get]
      obtain ⟨wz, hwz, hch2, hB2, hkeep⟩ := chan_some hch Hcs.out hB
      have HR2 := hid (hkeep _ _ (by have := Hne.out; omega) HR.out)
      have HQ2 := hid (hkeep _ _ (by have := Hne.out; omega) HQ.out)
      rw [← hwz]
      refine opsTo_val (i := 1) (o := _) (v := .bool true) (w' := wz) rfl rfl rfl ?_
      refine opsTo_nil ?_
      simp only [got, pairV]
      have Hch2 := hid hch2
      have HB3 := hid hB2
      have hsz := hB2.size
      have hzl : w.heap.size + 1 + 1 < wz.heap.size := lt_get HR2.out
      have HLR := hid hLR
      have HRM : Hid (M.length = g) := hid (by simpa using hR)
      have HR3 := hid ((Below.heap_alloc wz (.cells #[.int .i64 x, .int .i64 y] 63) _ (lt_get HR2.out)).trans HR2.out)
      obtain ⟨c0, c1, f0, f1⟩ := two_of HR3.out
      obtain ⟨d0, d1, _, _⟩ := two_of ((Below.heap_alloc wz (.cells #[.int .i64 x, .int .i64 y] 63) _ (lt_get HQ2.out)).trans HQ2.out)
      have HBz := hid (HB3.out.alloc hsz (.cells #[.int .i64 x, .int .i64 y] 63))
      have HC := hid (contains_any a1 cap1 ls x (wz.alloc (.cells #[.int .i64 x, .int .i64 y] 63)) (Hx1.out.later HBz.out HBz.out.size) hl1)
      clear hch hz hu hwz hB hch2 hB2 hLR hR hkeep
      go_simp
      by_cases hxl : x ∈ ls
      · have HC2 := hid (by have := HC.out; rw [decide_eq_true hxl] at this; exact this)
        have Hxl := hid hxl
        clear hxl HC
        go_wp2_with (go_at_call 94; refine HC2.out.mono ?_; rintro e u ⟨rfl, rfl⟩)
        go_roundg g
        case measure => omega
        case rel =>
          refine ⟨pre ++ [(x, y)], M, by rw [HLR.out]; simp, by have := HRM.out; omega, hid ?_, Hch2.out.alloc _, (Below.heap_alloc wz _ _ (lt_get HQ2.out)).trans HQ2.out, HR3.out, HBz.out⟩
          intro p hp
          rcases List.mem_append.1 hp with h | h
          · exact Hpre.out p h
          · simp at h; subst h; exact Hxl.out
      · have HC2 := hid (by have := HC.out; rw [decide_eq_false hxl] at this; exact this)
        have Hz : Hid (F = (x, y)) := hid (by
          rw [HF.out, firstP_pre (pre := pre) (R := (x, y) :: M) (by rw [← HL.out, HLR.out]) Hpre.out, List.find?_cons]
          simp [hxl, prO])
        clear hxl HC
        obtain ⟨_, _, g0, g1⟩ := two_of ((Below.heap_alloc (wz.setCell ⟨w.heap.size + 1 + 1, 0, none⟩ (.int .i64 x)) (.cells #[.int .i64 x, .int .i64 y] 63) (w.heap.size + 1 + 1) (by simp [World.setCell]; omega)).trans (two_set1 HR2.out (.int .i64 x)))
        go_wp2_with (go_at_call 94; refine HC2.out.mono ?_; rintro e u ⟨rfl, rfl⟩)
        (try simp only [Exit.inBlock, Exit.then])
        have R3 := two_of ((Below.heap_alloc ((wz.setCell ⟨w.heap.size + 1 + 1, 0, none⟩ (.int .i64 x)).setCell ⟨w.heap.size + 1 + 1, 1, none⟩ (.int .i64 y)) (.cells #[.int .i64 x, .int .i64 y] 63) (w.heap.size + 1 + 1) (by simp [World.setCell]; omega)).trans (two_set HR2.out (.int .i64 x) (.int .i64 y)))
        refine done_pr1 (p := 4) (by kernel_rfl) rfl rfl R3.1 R3.2.1 ⟨by rw [Hz.out], ?_⟩
        exact ((HB3.out.setCell (p := ⟨w.heap.size + 1 + 1, 0, none⟩) (by show w.heap.size ≤ w.heap.size + 1 + 1; omega) _).setCell (p := ⟨w.heap.size + 1 + 1, 1, none⟩) (by show w.heap.size ≤ w.heap.size + 1 + 1; omega) _).alloc (by simp [World.setCell]; omega) _

end Go.Proofs.Ytojnpacklcajpaa
