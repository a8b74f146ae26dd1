import Derived.Test.YtojnpacklcajpaaFreeI
import Derived.Test.YtojnpacklcajpaaPairsOf
import Derived.Test.YtojnpacklcajpaaBookP
/-! FreePairs, the program's. -/
namespace Go.Proofs.Ytojnpacklcajpaa
open Go.RowKit Go.Conc

/-- What FreePairs hands back. -/
noncomputable def freePairsR (V : Int) (fs : List Int) : List (Int × Int) × Int := if isCB V fs then (freeP fs fs, 0) else ([], 1)

theorem freePairsR_len (V : Int) (fs : List Int) (h : fs.length ≤ 1048576) : (freePairsR V fs).1.length ≤ 1048576 := by
  unfold freePairsR
  split
  · exact Nat.le_trans (freeP_len _ _) h
  · simp

theorem chan_get (x y : Int) (M : List (Int × Int)) : (((x, y) :: M).map fun p => pairV p.1 p.2).toArray.getD 0 undef = pairV x y := by simp
theorem chan_rest (x y : Int) (M : List (Int × Int)) : (((x, y) :: M).map fun p => pairV p.1 p.2).toArray.extract 1 (((x, y) :: M).map fun p => pairV p.1 p.2).toArray.size = (M.map fun p => pairV p.1 p.2).toArray := by
  simp
  exact List.take_of_length_le (by simp)

theorem pairs_mono {P : Program} {f : FuncId} {args : Array Value} {w : World} {r : List (Int × Int) × Int} {xs : List (Int × Int)} {c : Int} (hr : r = (xs, c))
    (h : Calls P f args w fun e w' => ∃ v, e = .returned (.tuple #[v, .int .i64 c]) ∧ ResP w w' v xs) : Calls P f args w fun e w' => ∃ v, e = .returned (.tuple #[v, .int .i64 r.2]) ∧ ResP w w' v r.1 := by
  subst hr; exact h

set_option maxRecDepth 100000 in
set_option maxHeartbeats 4000000 in
theorem implFreePairs (V : Int) (a0 : Option Addr) (cap : Nat) (fs : List Int) (w : World) (hx : SlI w w.heap.size a0 fs) (hl : fs.length ≤ 1048576) :
    Calls Try.prog 18 #[.agg #[.int .i64 V, .slice a0 fs.length cap]] w fun e w' => ∃ v, e = .returned (.tuple #[v, .int .i64 (freePairsR V fs).2]) ∧ ResP w w' v (freePairsR V fs).1 := by
  have hB0 : Below w.heap.size w (w.alloc (.cells #[.int .i64 V, .slice a0 fs.length cap] 29)) := (Below.refl _ w).alloc (Nat.le_refl _) _
  have Hx := hid (hx.later hB0 hB0.size)
  by_cases hC : IsC V fs
  · refine pairs_mono (show freePairsR V fs = (freeP fs fs, 0) by unfold freePairsR; rw [isCB_true hC, if_pos rfl]) ?_
    have HC := hid hC
    have Hf := hid hC.range63
    have Hlen := hid (freeP_len fs fs)
    obtain ⟨L, hL⟩ : ∃ L, L = freeP fs fs := ⟨_, rfl⟩
    rw [← hL] at Hlen ⊢
    have HL := hid hL
    clear hC hL
    go_enter Try.func18, Try.ntmps18
    go_wp2_with fail
    refine (isc_yes V a0 cap fs _ Hx.out hl HC.out).mono ?_
    rintro e w1 ⟨rfl, hB1⟩
    have k0 : w1.cell? ⟨w.heap.size, 0, none⟩ = some (.int .i64 V) := (hB1.cell (p := ⟨w.heap.size, 0, none⟩) (by simp)).trans (by simp [go_sem])
    have k1 : w1.cell? ⟨w.heap.size, 1, none⟩ = some (.slice a0 fs.length cap) := (hB1.cell (p := ⟨w.heap.size, 1, none⟩) (by simp)).trans (by simp [go_sem])
    have hB01 := hB0.trans (hB1.mono (by simp))
    have HB01 := hid hB01
    have hx1 := hid (hx.later hB01 hB01.size)
    clear hB0 hB01 hB1
    go_wp2_with fail
    refine (freeF_any V a0 cap fs _ hx1.out hl Hf.out).mono ?_
    rintro e w2 ⟨c, rfl, hcs, hch, hB2⟩
    have HB2 := hid (HB01.out.trans (hB2.mono HB01.out.size))
    have Hcs := hid (Nat.le_trans HB01.out.size hcs)
    rw [← HL.out] at hch
    have Hch := hid hch
    clear hB2 hch hcs k0 k1
    go_wp2_with fail
    go_loopg [4] L.length (fun gg v wr => ∃ pre R : List (Int × Int), L = pre ++ R ∧ R.length = gg ∧ ChanP wr c R fs.length true ∧ wr.ownsRow w.heap.size 63 2 v pre.length ((flatP pre).map (Value.int .i64)) ∧ Below w.heap.size w wr)
    case atStart => exact ⟨[], L, rfl, rfl, Hch.out, World.ownsRow_nil _ _ _ _, HB2.out⟩
    case round =>
      obtain ⟨pre, R, hLR, hR, ⟨s, r, hch⟩, hown, hB⟩ := hrel
      cases gk with
      | zero =>
        obtain rfl : R = [] := by cases R with | nil => rfl | cons _ _ => simp at hR
        iterate 1 (first | go_values | go_skip | go_guarded | go_step | go_upon | go_back)
        have hz := zero_pair wr
        have hu := Try.underlying65
        refine region_to ?_
        refine opsTo_shut (i := 0) (o := _) (c := c) (z := .agg #[.int .i64 0, .int .i64 0]) (ok := true) rfl rfl (by simp [go_sem, rcase, execOp, Act.eval, hz, run_underlying hu]) hch ?_
        refine opsTo_val (i := 1) (o := _) (v := .bool false) (w' := wr) rfl rfl rfl ?_
        refine opsTo_nil ?_
        simp only [got]
        clear hch hz hu
        go_simp
        go_wp2
        go_ret2
        rw [List.append_nil] at hLR
        subst hLR
        exact ⟨_, rfl, hown, hB⟩
      | succ g =>
        obtain ⟨x, y, M, rfl⟩ : ∃ x y M, R = (x, y) :: M := by
          cases R with
          | nil => simp at hR
          | cons p M => exact ⟨p.1, p.2, M, rfl⟩
        iterate 1 (first | go_values | go_skip | go_guarded | go_step | go_upon | go_back)
        have hz := zero_pair wr
        have hu := Try.underlying65
        refine region_to ?_
        refine opsTo_recv (i := 0) (o := _) (c := c) (z := .agg #[.int .i64 0, .int .i64 0]) (ok := true) rfl rfl (by simp [go_sem, rcase, execOp, Act.eval, hz, run_underlying hu]) hch (by simp) ?_
        rw [chan_get, chan_rest]
        obtain ⟨wz, hwz⟩ : ∃ wz, wz = wr.setChan c fs.length (M.map fun p => pairV p.1 p.2).toArray true s (r + 1) false := ⟨_, rfl⟩
        have hown2 := ownsRow_chan (cap' := fs.length) (s' := s) (r' := r + 1) (buf' := (M.map fun p => pairV p.1 p.2).toArray) (cl' := true) (tm' := false) hown hch
        rw [← hwz] at hown2
        have hch2 : ChanP wz c M fs.length true := ⟨s, r + 1, by rw [hwz]; exact heap_setChan wr c _ _ _ _ _ _ (lt_get hch)⟩
        have hB2 : Below w.heap.size w wz := by rw [hwz]; exact below_setChan hB Hcs.out _ _ _ _ _ _
        rw [← hwz]
        refine opsTo_val (i := 1) (o := _) (v := .bool true) (w' := wz) rfl rfl rfl ?_
        refine opsTo_nil ?_
        simp only [got, pairV]
        have Hch2 := hid hch2
        have HB3 := hid hB2
        have hsz := hB2.size
        have hpl : pre.length ≤ 1048576 := by have := Hlen.out; have := congrArg List.length hLR; simp at this; omega
        have HLR := hid hLR
        have hRM : Hid (M.length = g) := hid (by simpa using hR)
        clear hch hz hu hwz hown hB hch2 hB2 hLR hR
        go_simp
        go_wp2_with (at_builtin; refine append_pair rfl rfl (hown2.alloc _) (by simp; omega) (by omega) rfl (by rw [World.size_alloc]; rfl) ?_; intro v' w3 hown3 hgrow3 hB3)
        go_roundg g
        case measure => omega
        case rel =>
          have hs3 : w.heap.size ≤ (wz.alloc (.cells #[.int .i64 x, .int .i64 y] 63)).heap.size := by simp; omega
          obtain ⟨s2, r2, hc2⟩ := Hch2.out
          have hc3 := (Below.heap_alloc wz (.cells #[.int .i64 x, .int .i64 y] 63) c (lt_get hc2)).trans hc2
          refine ⟨pre ++ [(x, y)], M, by rw [HLR.out]; simp, by have := hRM.out; omega, ⟨s2, r2, ?_⟩, hown3, (HB3.out.alloc hsz _).trans hB3⟩
          exact (hgrow3.block c (lt_get hc3) (row_ne_chan (hown2.alloc _) hc3)).trans hc3
  · refine pairs_mono (show freePairsR V fs = ([], 1) by unfold freePairsR; rw [isCB_false hC, if_neg (by simp)]) ?_
    go_enter Try.func18, Try.ntmps18
    go_wp2_with fail
    refine (isc_no V a0 cap fs _ Hx.out hl hC).mono ?_
    rintro e w1 ⟨rfl, hB1⟩
    go_wp2_with fail
    go_ret2
    exact ⟨_, rfl, World.ownsRow_nil _ _ _ _, hB0.trans (hB1.mono (by simp))⟩

end Go.Proofs.Ytojnpacklcajpaa
