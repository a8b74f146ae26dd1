import Derived.Deep.LoopGhost
import Derived.Deep.RegionWith
import Derived.Lib.SliceRun
import Derived.Lib.Walk
import Derived.Deep.RegionHeld3
import Derived.Maps.AppendAt
import Derived.Deep.CutRange
import Derived.Test.YtojnpacklcajpaaMRed1
import Derived.Test.YtojnpacklcajpaaMRed2
/-! FreePairs, the program's. -/
namespace Go.Proofs.Ytojnpacklcajpaa
open Go.RowKit Go.Conc

/-- What FreePairs hands back. -/
noncomputable def freePairsR (V : Int) (fs : List Int) : List (Int × Int) × Int := if isCB V fs then (freeP fs fs, 0) else ([], 1)

theorem freePairsR_len (V : Int) (fs : List Int) (h : fs.length ≤ 1048576) : (freePairsR V fs).1.length ≤ 1048576 := by
  unfold freePairsR
  split
  · exact Nat.le_trans (freeP_len _ _) h
  · simp

theorem chan_get (x y : Int) (M : List (Int × Int)) : (((x, y) :: M).map fun p => pairV p.1 p.2).toArray.getD 0 undef = pairV x y := by simp
theorem chan_rest (x y : Int) (M : List (Int × Int)) : (((x, y) :: M).map fun p => pairV p.1 p.2).toArray.extract 1 (((x, y) :: M).map fun p => pairV p.1 p.2).toArray.size = (M.map fun p => pairV p.1 p.2).toArray := by
  simp
  exact List.take_of_length_le (by simp)

theorem pairs_mono {P : Program} {f : FuncId} {args : Array Value} {w : World} {r : List (Int × Int) × Int} {xs : List (Int × Int)} {c : Int} (hr : r = (xs, c))
    (h : Calls P f args w fun e w' => ∃ v, e = .returned (.tuple #[v, .int .i64 c]) ∧ ResP w w' v xs) : Calls P f args w fun e w' => ∃ v, e = .returned (.tuple #[v, .int .i64 r.2]) ∧ ResP w w' v r.1 := by
  subst hr; exact h

set_option maxRecDepth 100000 in
set_option maxHeartbeats 4000000 in
theorem implFreePairs (V : Int) (a0 : Option Addr) (cap : Nat) (fs : List Int) (w : World) (hx : SlI w w.heap.size a0 fs) (hl : fs.length ≤ 1048576) :
    Calls Try.prog 18 #[.agg #[.int .i64 V, .slice a0 fs.length cap]] w fun e w' => ∃ v, e = .returned (.tuple #[v, .int .i64 (freePairsR V fs).2]) ∧ ResP w w' v (freePairsR V fs).1 := by
  have hB0 : Below w.heap.size w (w.alloc (.cells #[.int .i64 V, .slice a0 fs.length cap] 29)) := (Below.refl _ w).alloc (Nat.le_refl _) _
  have Hx := hid (hx.later hB0 hB0.size)
  by_cases hC : IsC V fs
  · refine pairs_mono (show freePairsR V fs = (freeP fs fs, 0) by unfold freePairsR; rw [isCB_true hC, if_pos rfl]) ?_
    have HC := hid hC
    have Hf := hid hC.range63
    have Hlen := hid (freeP_len fs fs)
    obtain ⟨L, hL⟩ : ∃ L, L = freeP fs fs := ⟨_, rfl⟩
    rw [← hL] at Hlen ⊢
    have HL := hid hL
    clear hC hL
    go_enter Try.func18, Try.ntmps18
    go_wp2_with fail
    refine (isc_yes V a0 cap fs _ Hx.out hl HC.out).mono ?_
    rintro e w1 ⟨rfl, hB1⟩
    have k0 : w1.cell? ⟨w.heap.size, 0, none⟩ = some (.int .i64 V) := (hB1.cell (p := ⟨w.heap.size, 0, none⟩) (by simp)).trans (by simp [go_sem])
    have k1 : w1.cell? ⟨w.heap.size, 1, none⟩ = some (.slice a0 fs.length cap) := (hB1.cell (p := ⟨w.heap.size, 1, none⟩) (by simp)).trans (by simp [go_sem])
    have hB01 := hB0.trans (hB1.mono (by simp))
    have HB01 := hid hB01
    have hx1 := hid (hx.later hB01 hB01.size)
    clear hB0 hB01 hB1
    go_wp2_with fail
    refine (freeF_any V a0 cap fs _ hx1.out hl Hf.out).mono ?_
    rintro e w2 ⟨c, rfl, hcs, hch, hB2⟩
    have HB2 := hid (HB01.out.trans (hB2.mono HB01.out.size))
    have Hcs := hid (Nat.le_trans HB01.out.size hcs)
    rw [← HL.out] at hch
    have Hch := hid hch
    clear hB2 hch hcs k0 k1
    go_wp2_with fail
    go_loopg [4] L.length (fun gg v wr => ∃ pre R : List (Int × Int), L = pre ++ R ∧ R.length = gg ∧ ChanP wr c R fs.length true ∧ wr.ownsRow w.heap.size 63 2 v pre.length ((flatP pre).map (Value.int .i64)) ∧ Below w.heap.size w wr)
    case atStart => exact ⟨[], L, rfl, rfl, Hch.out, World.ownsRow_nil _ _ _ _, HB2.out⟩
    case round =>
      obtain ⟨pre, R, hLR, hR, ⟨s, r, hch⟩, hown, hB⟩ := hrel
      cases gk with
      | zero =>
        obtain rfl : R = [] := by cases R with | nil => rfl | cons _ _ => simp at hR
        iterate 1 (first | go_values | go_skip | go_guarded | go_step | go_upon | go_back)
        have hz := zero_pair wr
        have hu := Try.underlying65
        refine region_to ?_
        refine opsTo_shut (i := 0) (o := _) (c := c) (z := .agg #[.int .i64 0, .int .i64 0]) (ok := true) rfl rfl (by simp [go_sem, rcase, execOp, Act.eval, hz, run_underlying hu]) hch ?_
        refine opsTo_val (i := 1) (o := _) (v := .bool false) (w' := wr) rfl rfl rfl ?_
        refine opsTo_nil ?_
        simp only [got]
        clear hch hz hu
        go_simp
        go_wp2
        go_ret2
        rw [List.append_nil] at hLR
        subst hLR
        exact ⟨_, rfl, hown, hB⟩
      | succ g =>
        obtain ⟨x, y, M, rfl⟩ : ∃ x y M, R = (x, y) :: M := by
          cases R with
          | nil => simp at hR
          | cons p M => exact ⟨p.1, p.2, M, rfl⟩
        iterate 1 (first | go_values | go_skip | go_guarded | go_step | go_upon | go_back)
        have hz := zero_pair wr
        have hu := Try.underlying65
        refine region_to ?_
        refine opsTo_recv (i := 0) (o := _) (c := c) (z := .agg #[.int .i64 0, .int .i64 0]) (ok := true) rfl rfl (by simp [go_sem, rcase, execOp, Act.eval, hz, run_underlying hu]) hch (by simp) ?_
        rw [chan_get, chan_rest]
        obtain ⟨wz, hwz⟩ : ∃ wz, wz = wr.setChan c fs.length (M.map fun p => pairV p.1 p.2).toArray true s (r + 1) false := ⟨_, rfl⟩
        have hown2 := ownsRow_chan (cap' := fs.length) (s' := s) (r' := r + 1) (buf' := (M.map fun p => pairV p.1 p.2).toArray) (cl' := true) (tm' := false) hown hch
        rw [← hwz] at hown2
        have hch2 : ChanP wz c M fs.length true := ⟨s, r + 1, by rw [hwz]; exact heap_setChan wr c _ _ _ _ _ _ (lt_get hch)⟩
        have hB2 : Below w.heap.size w wz := by rw [hwz]; exact below_setChan hB Hcs.out _ _ _ _ _ _
        rw [← hwz]
        refine opsTo_val (i := 1) (o := _) (v := .bool true) (w' := wz) rfl rfl rfl ?_
        refine opsTo_nil ?_
        simp only [got, pairV]
        have Hch2 := hid hch2
        have HB3 := hid hB2
        have hsz := hB2.size
        have hpl : pre.length ≤ 1048576 := by have := Hlen.out; have := congrArg List.length hLR; simp at this; omega
        have HLR := hid hLR
        have hRM : Hid (M.length = g) := hid (by simpa using hR)
        clear hch hz hu hwz hown hB hch2 hB2 hLR hR
        go_simp
        go_wp2_with (at_builtin; refine append_pair rfl rfl (hown2.alloc _) (by simp; omega) (by omega) rfl (by rw [World.size_alloc]; rfl) ?_; intro v' w3 hown3 hgrow3 hB3)
        go_roundg g
        case measure => omega
        case rel =>
          have hs3 : w.heap.size ≤ (wz.alloc (.cells #[.int .i64 x, .int .i64 y] 63)).heap.size := by simp; omega
          obtain ⟨s2, r2, hc2⟩ := Hch2.out
          have hc3 := (Below.heap_alloc wz (.cells #[.int .i64 x, .int .i64 y] 63) c (lt_get hc2)).trans hc2
          refine ⟨pre ++ [(x, y)], M, by rw [HLR.out]; simp, by have := hRM.out; omega, ⟨s2, r2, ?_⟩, hown3, (HB3.out.alloc hsz _).trans hB3⟩
          exact (hgrow3.block c (lt_get hc3) (row_ne_chan (hown2.alloc _) hc3)).trans hc3
  · refine pairs_mono (show freePairsR V fs = ([], 1) by unfold freePairsR; rw [isCB_false hC, if_neg (by simp)]) ?_
    go_enter Try.func18, Try.ntmps18
    go_wp2_with fail
    refine (isc_no V a0 cap fs _ Hx.out hl hC).mono ?_
    rintro e w1 ⟨rfl, hB1⟩
    go_wp2_with fail
    go_ret2
    exact ⟨_, rfl, World.ownsRow_nil _ _ _ _, hB0.trans (hB1.mono (by simp))⟩

end Go.Proofs.Ytojnpacklcajpaa

/-! The program's freePairOf. -/
namespace Go.Proofs.Ytojnpacklcajpaa
open Go.RowKit Go.Conc

set_option maxRecDepth 100000 in
theorem load_pr {w : World} {b o : Nat} {x y : Value} (h0 : w.cell? ⟨b, o, none⟩ = some x) (h1 : w.cell? ⟨b, o + 1, none⟩ = some y) :
    (loadVar 63 ⟨b, o, none⟩).run Try.prog w = .ok (.agg #[x, y]) w := by
  go_simp

set_option maxRecDepth 100000 in
theorem done_pr {fn : Func} {R : Ending → World → Prop} {a : Act} {w : World} {p u : Tmp} (hr : fn.results = #[.cell p 63, .tmp u]) (hd : a.defers = []) {b o : Nat} {x y c : Value}
    (hp : a.tmps.getD p undef = .pointer (some ⟨b, o, none⟩)) (h0 : w.cell? ⟨b, o, none⟩ = some x) (h1 : w.cell? ⟨b, o + 1, none⟩ = some y) (hu : a.tmps.getD u undef = c) (hR : R (.returned (.tuple #[.agg #[x, y], c])) w) : bodyPost Try.prog fn R .ret a w := by
  refine bodyPost_ret (v := .tuple #[.agg #[x, y], c]) ?_ hd hR
  rw [results_cell_tmp hr, hp, hu]
  show ((loadVar 63 ⟨b, o, none⟩).run Try.prog w).andThen _ = _
  rw [load_pr h0 h1]
  rfl

set_option maxRecDepth 100000 in
theorem done_pr1 {fn : Func} {R : Ending → World → Prop} {a : Act} {w : World} {p : Tmp} (hr : fn.results = #[.cell p 63]) (hd : a.defers = []) {b o : Nat} {x y : Value}
    (hp : a.tmps.getD p undef = .pointer (some ⟨b, o, none⟩)) (h0 : w.cell? ⟨b, o, none⟩ = some x) (h1 : w.cell? ⟨b, o + 1, none⟩ = some y) (hR : R (.returned (.agg #[x, y])) w) : bodyPost Try.prog fn R .ret a w := by
  refine bodyPost_ret (v := .agg #[x, y]) ?_ hd hR
  have hp' : a.tmps[p]?.getD undef = .pointer (some ⟨b, o, none⟩) := by simpa using hp
  simp [results, hr, hp', asAddr, load_pr h0 h1]

theorem two_set1 {W : World} {b : Nat} {x y : Value} {t : Nat} (h : W.heap[b]? = some (.cells #[x, y] t (0, 0))) (u : Value) : (W.setCell ⟨b, 0, none⟩ u).heap[b]? = some (.cells #[u, y] t (0, 0)) := by
  simp only [World.setCell, Array.getElem?_modify, h]
  simp

/-- What freePairOf hands back for a face. -/
def fpOf (fs : List Int) (f : Int) : Int × Int := if freeG fs f.toNat = 0 then (0, 0) else (f, freeG fs f.toNat)

/-- A receive from a channel of pairs that is closed: what the walk goes on with. -/
theorem chan_some {w wr : World} {c : Nat} {x y : Int} {M : List (Int × Int)} {n s r : Nat} (hch : wr.heap[c]? = some (.chan n (((x, y) :: M).map fun p => pairV p.1 p.2).toArray true s r false)) (hcs : w.heap.size ≤ c) (hB : Below w.heap.size w wr) :
    ∃ wz, wz = wr.setChan c n ((((x, y) :: M).map fun p => pairV p.1 p.2).toArray.extract 1 (((x, y) :: M).map fun p => pairV p.1 p.2).toArray.size) true s (r + 1) false ∧ ChanP wz c M n true ∧ Below w.heap.size w wz ∧ (∀ b o, b ≠ c → wr.heap[b]? = some o → wz.heap[b]? = some o) := by
  rw [chan_rest]
  refine ⟨_, rfl, ⟨s, r + 1, heap_setChan wr c _ _ _ _ _ _ (lt_get hch)⟩, below_setChan hB hcs _ _ _ _ _ _, fun b o hb ho => ?_⟩
  simp only [World.setChan]
  rw [Array.getElem?_setIfInBounds_ne (by omega)]
  exact ho

theorem ChanP.alloc {w : World} {c : Nat} {L : List (Int × Int)} {n : Nat} {cl : Bool} (h : ChanP w c L n cl) (o : Obj) : ChanP (w.alloc o) c L n cl := by
  obtain ⟨s, r, hc⟩ := h
  exact ⟨s, r, (Below.heap_alloc w o c (lt_get hc)).trans hc⟩

set_option maxRecDepth 100000 in
set_option maxHeartbeats 4000000 in
theorem fpo_yes (V : Int) (a0 : Option Addr) (cap : Nat) (fs : List Int) (f : Int) (w : World) (hx : SlI w w.heap.size a0 fs) (hl : fs.length ≤ 1048576) (hC : IsC V fs) (hm : f ∈ fs) :
    Calls Try.prog 61 #[.agg #[.int .i64 V, .slice a0 fs.length cap], .int .i64 f] w fun e w' => e = .returned (.tuple #[.agg #[.int .i64 (fpOf fs f).1, .int .i64 (fpOf fs f).2], .int .i64 0]) ∧ Below w.heap.size w w' := by
  have hB0 : Below w.heap.size w ((w.alloc (.cells #[.int .i64 V, .slice a0 fs.length cap] 29)).alloc (.cells #[.int .i64 0, .int .i64 0] 63)) := ((Below.refl _ w).alloc (Nat.le_refl _) _).alloc (by simp) _
  have Hx := hid (hx.later hB0 hB0.size)
  have HC := hid hC
  have Hf := hid hC.range63
  have Hm := hid hm
  have Hlen := hid (freeP_len fs fs)
  obtain ⟨L, hL⟩ : ∃ L, L = freeP fs fs := ⟨_, rfl⟩
  have HL := hid hL
  obtain ⟨F, hF⟩ : ∃ F, F = fpOf fs f := ⟨_, rfl⟩
  have HF := hid hF
  rw [← hL] at Hlen
  rw [← hF]
  clear hC hL hF hm
  go_enter Try.func61, Try.ntmps61
  go_wp2_with fail
  refine (fh_yes V a0 cap fs _ _ Hx.out hl HC.out Hm.out).mono ?_
  rintro e w1 ⟨b, rfl, _, _, hB1⟩
  have q0 : w1.heap[w.heap.size]? = some (.cells #[.int .i64 V, .slice a0 fs.length cap] 29 (0, 0)) := (hB1.block _ (by simp <;> omega)).trans ((Below.heap_alloc _ _ _ (by simp)).trans (heap_alloc_new _ _))
  have r1 : w1.heap[w.heap.size + 1]? = some (.cells #[.int .i64 0, .int .i64 0] 63 (0, 0)) := (hB1.block _ (by simp <;> omega)).trans (new2 _ _ _)
  have hB01 := hB0.trans (hB1.mono (by simp <;> omega))
  have HB01 := hid hB01
  have hx1 := hid (hx.later hB01 hB01.size)
  obtain ⟨k0, k1, _, _⟩ := two_of q0
  have R1 := hid r1
  clear hB0 hB01 hB1 q0 r1
  go_wp2_with fail
  refine (freeF_any V a0 cap fs _ hx1.out hl Hf.out).mono ?_
  rintro e w2 ⟨c, rfl, hcs, hch, hB2⟩
  have HB2 := hid (HB01.out.trans (hB2.mono HB01.out.size))
  have Hcs := hid (Nat.le_trans HB01.out.size hcs)
  have Hne := hid (show w.heap.size + 1 ≠ c by have := lt_get R1.out; omega)
  have R2 := hid ((hB2.block _ (lt_get R1.out)).trans R1.out)
  rw [← HL.out] at hch
  have Hch := hid hch
  clear hB2 hch hcs k0 k1 R1
  go_wp2_with fail
  go_loopg [] L.length (fun gg wr => ∃ pre R : List (Int × Int), L = pre ++ R ∧ R.length = gg ∧ Hid (∀ p ∈ pre, p.1 ≠ f) ∧ ChanP wr c R fs.length true ∧ wr.heap[w.heap.size + 1]? = some (.cells #[.int .i64 0, .int .i64 0] 63 (0, 0)) ∧ Below w.heap.size w wr)
  case atStart => exact ⟨[], L, rfl, rfl, hid (by simp), Hch.out, R2.out, HB2.out⟩
  case round =>
    obtain ⟨pre, R, hLR, hR, Hpre, ⟨s, r, hch⟩, hres, hB⟩ := hrel
    have HR := hid hres
    clear hres
    cases gk with
    | zero =>
      obtain rfl : R = [] := by cases R with | nil => rfl | cons _ _ => simp at hR
      have Hz : Hid (F = (0, 0)) := hid (by
        rw [HF.out]
        unfold fpOf
        by_cases h0 : freeG fs f.toNat = 0
        · rw [if_pos h0]
        · have : (f, freeG fs f.toNat) ∈ freeP fs fs := mem_freeP.2 ⟨Hm.out, h0, rfl⟩
          rw [← HL.out, hLR, List.append_nil] at this
          exact absurd rfl (Hpre.out _ this))
      iterate 1 (first | go_values | go_skip | go_guarded | go_step | go_upon | go_back)
      have hz := zero_pair wr
      have hu := Try.underlying65
      refine region_to ?_
      refine opsTo_shut (i := 0) (o := _) (c := c) (z := .agg #[.int .i64 0, .int .i64 0]) (ok := true) rfl rfl (by simp [go_sem, rcase, execOp, Act.eval, hz, run_underlying hu]) hch ?_
      refine opsTo_val (i := 1) (o := _) (v := .bool false) (w' := wr) rfl rfl rfl ?_
      refine opsTo_nil ?_
      simp only [got]
      clear hch hz hu hLR hR
      obtain ⟨c0, c1, f0, f1⟩ := two_of HR.out
      go_simp
      go_wp2
      (try simp only [Exit.inBlock, Exit.then])
      have R3 := two_of (two_set HR.out (.int .i64 0) (.int .i64 0))
      refine done_pr (p := 4) (u := 5) (c := .int .i64 0) (by kernel_rfl) rfl rfl R3.1 R3.2.1 rfl ⟨by rw [Hz.out], ?_⟩
      exact (hB.setCell (p := ⟨w.heap.size + 1, 0, none⟩) (by show w.heap.size ≤ w.heap.size + 1; omega) _).setCell (p := ⟨w.heap.size + 1, 1, none⟩) (by show w.heap.size ≤ w.heap.size + 1; omega) _
    | succ g =>
      obtain ⟨x, y, M, rfl⟩ : ∃ x y M, R = (x, y) :: M := by
        cases R with
        | nil => simp at hR
        | cons p M => exact ⟨p.1, p.2, M, rfl⟩
      iterate 1 (first | go_values | go_skip | go_guarded | go_step | go_upon | go_back)
      have hz := zero_pair wr
      have hu := Try.underlying65
      refine region_to ?_
      refine opsTo_recv (i := 0) (o := _) (c := c) (z := .agg #[.int .i64 0, .int .i64 0]) (ok := true) rfl rfl (by simp [go_sem, rcase, execOp, Act.eval, hz, run_underlying hu]) hch (by simp) ?_
      rw [chan_get]
      obtain ⟨wz, hwz, hch2, hB2, hkeep⟩ := chan_some hch Hcs.out hB
      have HR2 := hid (hkeep _ _ Hne.out HR.out)
      rw [← hwz]
      refine opsTo_val (i := 1) (o := _) (v := .bool true) (w' := wz) rfl rfl rfl ?_
      refine opsTo_nil ?_
      simp only [got, pairV]
      have Hch2 := hid hch2
      have HB3 := hid hB2
      have hsz := hB2.size
      have hzl : w.heap.size + 1 < wz.heap.size := lt_get HR2.out
      have HLR := hid hLR
      have HRM : Hid (M.length = g) := hid (by simpa using hR)
      obtain ⟨c0, c1, f0, f1⟩ := two_of ((Below.heap_alloc wz (.cells #[.int .i64 x, .int .i64 y] 63) _ (lt_get HR2.out)).trans HR2.out)
      clear hch hz hu hwz hB hch2 hB2 hLR hR hkeep
      go_simp
      by_cases hxf : x = f
      · subst hxf
        have hd : (x == x) = true := by simp
        have Hz : Hid (F = (x, y)) := hid (by
          have hmem : ((x, y) : Int × Int) ∈ freeP fs fs := by rw [← HL.out, HLR.out]; simp
          have := mem_freeP.1 hmem
          rw [HF.out]
          unfold fpOf
          have h3 : y = freeG fs x.toNat := this.2.2
          rw [if_neg this.2.1, ← h3])
        obtain ⟨_, _, g0, g1⟩ := two_of ((Below.heap_alloc (wz.setCell ⟨w.heap.size + 1, 0, none⟩ (.int .i64 x)) (.cells #[.int .i64 x, .int .i64 y] 63) (w.heap.size + 1) (by simp [World.setCell]; omega)).trans (two_set1 HR2.out (.int .i64 x)))
        go_wp2
        (try simp only [Exit.inBlock, Exit.then])
        have R3 := two_of ((Below.heap_alloc ((wz.setCell ⟨w.heap.size + 1, 0, none⟩ (.int .i64 x)).setCell ⟨w.heap.size + 1, 1, none⟩ (.int .i64 y)) (.cells #[.int .i64 x, .int .i64 y] 63) (w.heap.size + 1) (by simp [World.setCell]; omega)).trans (two_set HR2.out (.int .i64 x) (.int .i64 y)))
        refine done_pr (p := 4) (u := 5) (c := .int .i64 0) (by kernel_rfl) rfl rfl R3.1 R3.2.1 rfl ⟨by rw [Hz.out], ?_⟩
        exact ((HB3.out.setCell (p := ⟨w.heap.size + 1, 0, none⟩) (by show w.heap.size ≤ w.heap.size + 1; omega) _).setCell (p := ⟨w.heap.size + 1, 1, none⟩) (by show w.heap.size ≤ w.heap.size + 1; omega) _).alloc (by simp [World.setCell]; omega) _
      · have hd : (x == f) = false := by simpa using hxf
        have Hxf := hid hxf
        clear hxf
        go_wp2
        go_roundg g
        case measure => omega
        case rel =>
          refine ⟨pre ++ [(x, y)], M, by rw [HLR.out]; simp, by have := HRM.out; omega, hid ?_, Hch2.out.alloc _, (Below.heap_alloc wz _ _ (lt_get HR2.out)).trans HR2.out, HB3.out.alloc hsz _⟩
          intro p hp
          rcases List.mem_append.1 hp with h | h
          · exact Hpre.out p h
          · simp at h; subst h; exact Hxf.out

set_option maxRecDepth 100000 in
set_option maxHeartbeats 2000000 in
theorem fpo_no (V : Int) (a0 : Option Addr) (cap : Nat) (fs : List Int) (f : Int) (w : World) (hx : SlI w w.heap.size a0 fs) (hl : fs.length ≤ 1048576) (hC : IsC V fs) (wd : (Lit.int .i64 f).wf = true) (hm : f ∉ fs) :
    Calls Try.prog 61 #[.agg #[.int .i64 V, .slice a0 fs.length cap], .int .i64 f] w fun e w' => e = .returned (.tuple #[.agg #[.int .i64 0, .int .i64 0], .int .i64 2]) ∧ Below w.heap.size w w' := by
  have hB0 : Below w.heap.size w ((w.alloc (.cells #[.int .i64 V, .slice a0 fs.length cap] 29)).alloc (.cells #[.int .i64 0, .int .i64 0] 63)) := ((Below.refl _ w).alloc (Nat.le_refl _) _).alloc (by simp) _
  have Hx := hid (hx.later hB0 hB0.size)
  go_enter Try.func61, Try.ntmps61
  go_wp2_with fail
  refine (fh_no V a0 cap fs _ _ Hx.out hl hC wd hm).mono ?_
  rintro e w1 ⟨rfl, hB1⟩
  have r1 : w1.heap[w.heap.size + 1]? = some (.cells #[.int .i64 0, .int .i64 0] 63 (0, 0)) := (hB1.block _ (by simp <;> omega)).trans (new2 _ _ _)
  have hB01 := hB0.trans (hB1.mono (by simp <;> omega))
  obtain ⟨c0, c1, f0, f1⟩ := two_of r1
  have R1 := hid r1
  clear r1
  go_wp2_with fail
  (try simp only [Exit.inBlock, Exit.then])
  have R3 := two_of (two_set R1.out (.int .i64 0) (.int .i64 0))
  refine done_pr (p := 4) (u := 5) (c := .int .i64 2) (by kernel_rfl) rfl rfl R3.1 R3.2.1 rfl ⟨rfl, ?_⟩
  exact (hB01.setCell (p := ⟨w.heap.size + 1, 0, none⟩) (by show w.heap.size ≤ w.heap.size + 1; omega) _).setCell (p := ⟨w.heap.size + 1, 1, none⟩) (by show w.heap.size ≤ w.heap.size + 1; omega) _

set_option maxRecDepth 100000 in
set_option maxHeartbeats 2000000 in
theorem fpo_bad (V : Int) (a0 : Option Addr) (cap : Nat) (fs : List Int) (f : Int) (w : World) (hx : SlI w w.heap.size a0 fs) (hl : fs.length ≤ 1048576) (hC : ¬ IsC V fs) :
    Calls Try.prog 61 #[.agg #[.int .i64 V, .slice a0 fs.length cap], .int .i64 f] w fun e w' => e = .returned (.tuple #[.agg #[.int .i64 0, .int .i64 0], .int .i64 1]) ∧ Below w.heap.size w w' := by
  have hB0 : Below w.heap.size w ((w.alloc (.cells #[.int .i64 V, .slice a0 fs.length cap] 29)).alloc (.cells #[.int .i64 0, .int .i64 0] 63)) := ((Below.refl _ w).alloc (Nat.le_refl _) _).alloc (by simp) _
  have Hx := hid (hx.later hB0 hB0.size)
  go_enter Try.func61, Try.ntmps61
  go_wp2_with fail
  refine (fh_bad V a0 cap fs _ _ Hx.out hl hC).mono ?_
  rintro e w1 ⟨rfl, hB1⟩
  have r1 : w1.heap[w.heap.size + 1]? = some (.cells #[.int .i64 0, .int .i64 0] 63 (0, 0)) := (hB1.block _ (by simp <;> omega)).trans (new2 _ _ _)
  have hB01 := hB0.trans (hB1.mono (by simp <;> omega))
  obtain ⟨c0, c1, f0, f1⟩ := two_of r1
  have R1 := hid r1
  clear r1
  go_wp2_with fail
  (try simp only [Exit.inBlock, Exit.then])
  have R3 := two_of (two_set R1.out (.int .i64 0) (.int .i64 0))
  refine done_pr (p := 4) (u := 5) (c := .int .i64 1) (by kernel_rfl) rfl rfl R3.1 R3.2.1 rfl ⟨rfl, ?_⟩
  exact (hB01.setCell (p := ⟨w.heap.size + 1, 0, none⟩) (by show w.heap.size ≤ w.heap.size + 1; omega) _).setCell (p := ⟨w.heap.size + 1, 1, none⟩) (by show w.heap.size ≤ w.heap.size + 1; omega) _

end Go.Proofs.Ytojnpacklcajpaa

/-! Collapses: mathematics. -/
namespace Go.Proofs.Ytojnpacklcajpaa
open Go.RowKit

/-- The first free pair whose low face is in no list. -/
def firstP (fs ls : List Int) : Option (Int × Int) := (freeP fs fs).find? fun p => decide (p.1 ∉ ls)
/-- One collapse. -/
def colStep (ls : List Int) (s : List Int × List (Int × Int)) : List Int × List (Int × Int) := match firstP s.1 ls with
  | none => s
  | some p => (takeL s.1 p.1, s.2 ++ [p])
def colN (ls : List Int) : Nat → List Int × List (Int × Int) → List Int × List (Int × Int)
  | 0, s => s
  | n + 1, s => colStep ls (colN ls n s)
/-- What the collapse leads to, and its pairs. -/
def colE (ls fs : List Int) : List Int × List (Int × Int) := colN ls fs.length (fs, [])

theorem firstP_some {fs ls : List Int} {p : Int × Int} (h : firstP fs ls = some p) : p.1 ∈ fs ∧ freeG fs p.1.toNat ≠ 0 ∧ p.2 = freeG fs p.1.toNat ∧ p.1 ∉ ls := by
  have h1 := List.mem_of_find?_eq_some h
  have h2 := List.find?_some h
  have h3 := mem_freeP.1 h1
  exact ⟨h3.1, h3.2.1, h3.2.2, by simpa using h2⟩

theorem take_free {fs : List Int} {p : Int × Int} (hr : ∀ x ∈ fs, 1 ≤ x ∧ x ≤ 63) (h1 : p.1 ∈ fs) (h2 : freeG fs p.1.toNat ≠ 0) (h3 : p.2 = freeG fs p.1.toNat) : takeL fs p.1 = fs.filter fun x => decide (x ∉ [p.1, p.2]) := by
  have hu := freeG_mem h2
  rw [← h3] at hu
  unfold takeL
  refine List.filter_congr fun x hx => ?_
  rw [decide_eq_decide]
  have hxr := hr x hx
  have hpr := hr _ h1
  constructor
  · intro h hm
    simp at hm
    rcases hm with e | e
    · exact h (by rw [e]; exact Nat.and_self _)
    · have : x ∈ upF fs p.1.toNat := by rw [hu, e]; simp
      exact h (upF_mem this).2.1
  · intro h hx2
    simp at h
    have hxu : x ∈ upF fs p.1.toNat := by
      unfold upF
      refine List.mem_filter.2 ⟨hx, ?_⟩
      simp only [decide_eq_true_eq]
      exact ⟨hx2, fun e => h.1 (by omega)⟩
    rw [hu] at hxu
    simp at hxu
    exact h.2 hxu

theorem take_lt {fs : List Int} {x : Int} (hx : x ∈ fs) : (takeL fs x).length < fs.length := by
  unfold takeL
  refine List.length_filter_lt_length_iff_exists.2 ⟨x, hx, ?_⟩
  simp

theorem colStep_none {ls : List Int} {s : List Int × List (Int × Int)} (h : firstP s.1 ls = none) : colStep ls s = s := by unfold colStep; rw [h]
theorem colStep_some {ls : List Int} {s : List Int × List (Int × Int)} {p : Int × Int} (h : firstP s.1 ls = some p) : colStep ls s = (takeL s.1 p.1, s.2 ++ [p]) := by unfold colStep; rw [h]
theorem colN_stop {ls : List Int} {s : List Int × List (Int × Int)} {n : Nat} (h : firstP (colN ls n s).1 ls = none) : ∀ m, n ≤ m → colN ls m s = colN ls n s := by
  intro m hm
  induction m with
  | zero => have : n = 0 := by omega
            subst this; rfl
  | succ m ih =>
    by_cases hn : n = m + 1
    · rw [hn]
    · have := ih (by omega)
      show colStep ls (colN ls m s) = _
      rw [this, colStep_none h]

/-- A collapse under way. -/
structure ColAt (ls fs : List Int) (n : Nat) (cur : List Int) (P : List (Int × Int)) : Prop where
  eq : colN ls n (fs, []) = (cur, P)
  len : n + cur.length ≤ fs.length
  plen : P.length ≤ n
  sub : cur.Sublist fs

theorem ColAt.start (ls fs : List Int) : ColAt ls fs 0 fs [] := ⟨rfl, by omega, by simp, List.Sublist.refl _⟩
theorem ColAt.step {ls fs : List Int} {n : Nat} {cur : List Int} {P : List (Int × Int)} {p : Int × Int} (h : ColAt ls fs n cur P) (hp : firstP cur ls = some p) : ColAt ls fs (n + 1) (takeL cur p.1) (P ++ [p]) := by
  have hl := take_lt (firstP_some hp).1
  have h1 := h.len
  have h2 := h.plen
  refine ⟨?_, by omega, by simp; omega, List.Sublist.trans (by unfold takeL; exact List.filter_sublist) h.sub⟩
  show colStep ls (colN ls n (fs, [])) = _
  rw [h.eq]
  exact colStep_some hp
theorem ColAt.stop {ls fs : List Int} {n : Nat} {cur : List Int} {P : List (Int × Int)} (h : ColAt ls fs n cur P) (hp : firstP cur ls = none) : colE ls fs = (cur, P) := by
  unfold colE
  rw [colN_stop (n := n) (by rw [h.eq]; exact hp) fs.length (by have := h.len; omega)]
  exact h.eq

theorem colE_len (ls fs : List Int) : (colE ls fs).1.length ≤ fs.length ∧ (colE ls fs).2.length ≤ fs.length ∧ (colE ls fs).1.Sublist fs := by
  have key : ∀ n, n ≤ fs.length → ((colN ls n (fs, [])).1.length ≤ fs.length ∧ (colN ls n (fs, [])).2.length ≤ n ∧ (colN ls n (fs, [])).1.Sublist fs) := by
    intro n
    induction n with
    | zero => intro _; exact ⟨Nat.le_refl _, by simp [colN], List.Sublist.refl _⟩
    | succ n ih =>
      intro hn
      obtain ⟨h1, h2, h3⟩ := ih (by omega)
      show (colStep ls (colN ls n (fs, []))).1.length ≤ _ ∧ (colStep ls (colN ls n (fs, []))).2.length ≤ _ ∧ (colStep ls (colN ls n (fs, []))).1.Sublist _
      cases hp : firstP (colN ls n (fs, [])).1 ls with
      | none => rw [colStep_none hp]; exact ⟨h1, by omega, h3⟩
      | some p =>
        rw [colStep_some hp]
        have hs : (takeL (colN ls n (fs, [])).1 p.1).Sublist fs := List.Sublist.trans (by unfold takeL; exact List.filter_sublist) h3
        exact ⟨hs.length_le, by simp; omega, hs⟩
  have := key fs.length (Nat.le_refl _)
  exact ⟨this.1, this.2.1, this.2.2⟩

/-- Lists in which the low face of a free pair lies if its high one does. -/
def LowIn (fs ls : List Int) : Prop := ∀ p ∈ freeP fs fs, p.2 ∈ ls → p.1 ∈ ls
theorem lowIn_nil (fs : List Int) : LowIn fs [] := fun _ _ h => by simp at h
theorem lowIn_of {V : Int} {fs ls : List Int} (hr : ∀ x ∈ fs, 1 ≤ x ∧ x ≤ 63) (hC : IsC V ls) : LowIn fs ls := by
  intro p hp h2
  have h := mem_freeP.1 hp
  have hu := freeG_mem h.2.1
  have hm : p.2 ∈ upF fs p.1.toNat := by rw [hu, h.2.2]; simp
  have hb := (upF_mem hm).2.1
  have hpr := hr _ h.1
  have := hC.closed p.2 h2 p.1.toNat (by omega) (by rw [Nat.and_comm]; exact hb)
  rwa [show ((p.1.toNat : Nat) : Int) = p.1 by omega] at this
/-- With such lists it is one whether both faces or the low one alone are asked for. -/
theorem firstP_both {fs ls : List Int} (h : LowIn fs ls) : (freeP fs fs).find? (fun p => decide (p.1 ∉ ls) && decide (p.2 ∉ ls)) = firstP fs ls := by
  unfold firstP
  have key : ∀ L : List (Int × Int), (∀ p ∈ L, p.2 ∈ ls → p.1 ∈ ls) → L.find? (fun p => decide (p.1 ∉ ls) && decide (p.2 ∉ ls)) = L.find? fun p => decide (p.1 ∉ ls) := by
    intro L
    induction L with
    | nil => intro _; rfl
    | cons q L ih =>
      intro hL
      rw [List.find?_cons, List.find?_cons, ih (fun p hp => hL p (by simp [hp]))]
      have hq := hL q (by simp)
      by_cases h1 : q.1 ∈ ls
      · simp [h1]
      · have h2 : q.2 ∉ ls := fun e => h1 (hq e)
        simp [h1, h2]
  exact key _ h

end Go.Proofs.Ytojnpacklcajpaa

/-! The program's firstFreePair. -/
namespace Go.Proofs.Ytojnpacklcajpaa
open Go.RowKit Go.Conc

/-- A pair, or the zero one. -/
def prO (o : Option (Int × Int)) : Int × Int := o.getD (0, 0)

theorem firstP_pre {fs ls : List Int} {pre R : List (Int × Int)} (hL : freeP fs fs = pre ++ R) (hpre : ∀ p ∈ pre, p.1 ∈ ls) : firstP fs ls = R.find? fun p => decide (p.1 ∉ ls) := by
  unfold firstP
  rw [hL, List.find?_append]
  have : pre.find? (fun p => decide (p.1 ∉ ls)) = none := List.find?_eq_none.2 (fun p hp => by simpa using hpre p hp)
  rw [this]
  rfl

set_option maxRecDepth 100000 in
set_option maxHeartbeats 4000000 in
theorem first_any (V : Int) (a0 : Option Addr) (cap : Nat) (fs : List Int) (V1 : Int) (a1 : Option Addr) (cap1 : Nat) (ls : List Int) (w : World) (hx : SlI w w.heap.size a0 fs) (hx1 : SlI w w.heap.size a1 ls) (hl : fs.length ≤ 1048576) (hl1 : ls.length ≤ 1048576) (hf : ∀ x ∈ fs, 1 ≤ x ∧ x ≤ 63) :
    Calls Try.prog 98 #[.agg #[.int .i64 V, .slice a0 fs.length cap], .agg #[.int .i64 V1, .slice a1 ls.length cap1]] w fun e w' => e = .returned (.agg #[.int .i64 (prO (firstP fs ls)).1, .int .i64 (prO (firstP fs ls)).2]) ∧ Below w.heap.size w w' := by
  have hB0 : Below w.heap.size w (((w.alloc (.cells #[.int .i64 V, .slice a0 fs.length cap] 29)).alloc (.cells #[.int .i64 V1, .slice a1 ls.length cap1] 29)).alloc (.cells #[.int .i64 0, .int .i64 0] 63)) := (((Below.refl _ w).alloc (Nat.le_refl _) _).alloc (by simp) _).alloc (by simp <;> omega) _
  obtain ⟨W, hW⟩ : ∃ W, W = ((w.alloc (.cells #[.int .i64 V, .slice a0 fs.length cap] 29)).alloc (.cells #[.int .i64 V1, .slice a1 ls.length cap1] 29)).alloc (.cells #[.int .i64 0, .int .i64 0] 63) := ⟨_, rfl⟩
  have k0 : W.cell? ⟨w.heap.size, 0, none⟩ = some (.int .i64 V) := by rw [hW]; simp [go_sem]
  have k1 : W.cell? ⟨w.heap.size, 1, none⟩ = some (.slice a0 fs.length cap) := by rw [hW]; simp [go_sem]
  have q1 : W.heap[w.heap.size + 1]? = some (.cells #[.int .i64 V1, .slice a1 ls.length cap1] 29 (0, 0)) := by rw [hW, Below.heap_alloc _ _ _ (by simp)]; exact new2 _ _ _
  have r1 : W.heap[w.heap.size + 1 + 1]? = some (.cells #[.int .i64 0, .int .i64 0] 63 (0, 0)) := by rw [hW]; exact new3 _ _ _ _
  have HBW : Hid (Below w.heap.size w W) := hid (by rw [hW]; exact hB0)
  have Q1 := hid q1
  have R1 := hid r1
  have HW := hid hW
  have Hx0 := hid hx
  have Hx1 := hid hx1
  have Hf := hid hf
  have Hlen := hid (freeP_len fs fs)
  obtain ⟨L, hL⟩ : ∃ L, L = freeP fs fs := ⟨_, rfl⟩
  have HL := hid hL
  obtain ⟨F, hF⟩ : ∃ F, F = prO (firstP fs ls) := ⟨_, rfl⟩
  have HF := hid hF
  rw [← hL] at Hlen
  rw [← hF]
  clear hL hF hf hx hx1 hB0 q1 r1 hW
  go_enter Try.func98, Try.ntmps98
  go_wp2_with fail
  rw [← HW.out]
  refine (freeF_any V a0 cap fs _ (Hx0.out.later HBW.out HBW.out.size) hl Hf.out).mono ?_
  rintro e w2 ⟨c, rfl, hcs, hch, hB2⟩
  have HB2 := hid (HBW.out.trans (hB2.mono HBW.out.size))
  have Hcs := hid (Nat.le_trans HBW.out.size hcs)
  have Hne := hid (show w.heap.size + 1 + 1 < c by have := lt_get R1.out; omega)
  have R2 := hid ((hB2.block _ (lt_get R1.out)).trans R1.out)
  have Q2 := hid ((hB2.block _ (lt_get Q1.out)).trans Q1.out)
  rw [← HL.out] at hch
  have Hch := hid hch
  clear hB2 hch hcs k0 k1 R1 Q1
  go_wp2_with fail
  go_loopg [] L.length (fun gg wr => ∃ pre R : List (Int × Int), L = pre ++ R ∧ R.length = gg ∧ Hid (∀ p ∈ pre, p.1 ∈ ls) ∧ ChanP wr c R fs.length true ∧ wr.heap[w.heap.size + 1]? = some (.cells #[.int .i64 V1, .slice a1 ls.length cap1] 29 (0, 0)) ∧ wr.heap[w.heap.size + 1 + 1]? = some (.cells #[.int .i64 0, .int .i64 0] 63 (0, 0)) ∧ Below w.heap.size w wr)
  case atStart => exact ⟨[], L, rfl, rfl, hid (by simp), Hch.out, Q2.out, R2.out, HB2.out⟩
  case round =>
    obtain ⟨pre, R, hLR, hR, Hpre, ⟨s, r, hch⟩, hbox, hres, hB⟩ := hrel
    have HR := hid hres
    have HQ := hid hbox
    clear hres hbox
    cases gk with
    | zero =>
      obtain rfl : R = [] := by cases R with | nil => rfl | cons _ _ => simp at hR
      have Hz : Hid (F = (0, 0)) := hid (by rw [HF.out, firstP_pre (pre := pre) (R := []) (by rw [← HL.out, hLR]) Hpre.out]; rfl)
      iterate 1 (first | go_values | go_skip | go_guarded | go_step | go_upon | go_back)
      have hz := zero_pair wr
      have hu := Try.underlying65
      refine region_to ?_
      refine opsTo_shut (i := 0) (o := _) (c := c) (z := .agg #[.int .i64 0, .int .i64 0]) (ok := true) rfl rfl (by simp [go_sem, rcase, execOp, Act.eval, hz, run_underlying hu]) hch ?_
      refine opsTo_val (i := 1) (o := _) (v := .bool false) (w' := wr) rfl rfl rfl ?_
      refine opsTo_nil ?_
      simp only [got]
      clear hch hz hu hLR hR
      obtain ⟨c0, c1, f0, f1⟩ := two_of HR.out
      go_simp
      go_wp2
      (try simp only [Exit.inBlock, Exit.then])
      have R3 := two_of (two_set HR.out (.int .i64 0) (.int .i64 0))
      refine done_pr1 (p := 4) (by kernel_rfl) rfl rfl R3.1 R3.2.1 ⟨by rw [Hz.out], ?_⟩
      exact (hB.setCell (p := ⟨w.heap.size + 1 + 1, 0, none⟩) (by show w.heap.size ≤ w.heap.size + 1 + 1; omega) _).setCell (p := ⟨w.heap.size + 1 + 1, 1, none⟩) (by show w.heap.size ≤ w.heap.size + 1 + 1; omega) _
    | succ g =>
      obtain ⟨x, y, M, rfl⟩ : ∃ x y M, R = (x, y) :: M := by
        cases R with
        | nil => simp at hR
        | cons p M => exact ⟨p.1, p.2, M, rfl⟩
      iterate 1 (first | go_values | go_skip | go_guarded | go_step | go_upon | go_back)
      have hz := zero_pair wr
      have hu := Try.underlying65
      refine region_to ?_
      refine opsTo_recv (i := 0) (o := _) (c := c) (z := .agg #[.int .i64 0, .int .i64 0]) (ok := true) rfl rfl (by simp [go_sem, rcase, execOp, Act.eval, hz, run_underlying hu]) hch (by simp) ?_
      rw [chan_get]
      obtain ⟨wz, hwz, hch2, hB2, hkeep⟩ := chan_some hch Hcs.out hB
      have HR2 := hid (hkeep _ _ (by have := Hne.out; omega) HR.out)
      have HQ2 := hid (hkeep _ _ (by have := Hne.out; omega) HQ.out)
      rw [← hwz]
      refine opsTo_val (i := 1) (o := _) (v := .bool true) (w' := wz) rfl rfl rfl ?_
      refine opsTo_nil ?_
      simp only [got, pairV]
      have Hch2 := hid hch2
      have HB3 := hid hB2
      have hsz := hB2.size
      have hzl : w.heap.size + 1 + 1 < wz.heap.size := lt_get HR2.out
      have HLR := hid hLR
      have HRM : Hid (M.length = g) := hid (by simpa using hR)
      have HR3 := hid ((Below.heap_alloc wz (.cells #[.int .i64 x, .int .i64 y] 63) _ (lt_get HR2.out)).trans HR2.out)
      obtain ⟨c0, c1, f0, f1⟩ := two_of HR3.out
      obtain ⟨d0, d1, _, _⟩ := two_of ((Below.heap_alloc wz (.cells #[.int .i64 x, .int .i64 y] 63) _ (lt_get HQ2.out)).trans HQ2.out)
      have HBz := hid (HB3.out.alloc hsz (.cells #[.int .i64 x, .int .i64 y] 63))
      have HC := hid (contains_any a1 cap1 ls x (wz.alloc (.cells #[.int .i64 x, .int .i64 y] 63)) (Hx1.out.later HBz.out HBz.out.size) hl1)
      clear hch hz hu hwz hB hch2 hB2 hLR hR hkeep
      go_simp
      by_cases hxl : x ∈ ls
      · have HC2 := hid (by have := HC.out; rw [decide_eq_true hxl] at this; exact this)
        have Hxl := hid hxl
        clear hxl HC
        go_wp2_with (go_at_call 94; refine HC2.out.mono ?_; rintro e u ⟨rfl, rfl⟩)
        go_roundg g
        case measure => omega
        case rel =>
          refine ⟨pre ++ [(x, y)], M, by rw [HLR.out]; simp, by have := HRM.out; omega, hid ?_, Hch2.out.alloc _, (Below.heap_alloc wz _ _ (lt_get HQ2.out)).trans HQ2.out, HR3.out, HBz.out⟩
          intro p hp
          rcases List.mem_append.1 hp with h | h
          · exact Hpre.out p h
          · simp at h; subst h; exact Hxl.out
      · have HC2 := hid (by have := HC.out; rw [decide_eq_false hxl] at this; exact this)
        have Hz : Hid (F = (x, y)) := hid (by
          rw [HF.out, firstP_pre (pre := pre) (R := (x, y) :: M) (by rw [← HL.out, HLR.out]) Hpre.out, List.find?_cons]
          simp [hxl, prO])
        clear hxl HC
        obtain ⟨_, _, g0, g1⟩ := two_of ((Below.heap_alloc (wz.setCell ⟨w.heap.size + 1 + 1, 0, none⟩ (.int .i64 x)) (.cells #[.int .i64 x, .int .i64 y] 63) (w.heap.size + 1 + 1) (by simp [World.setCell]; omega)).trans (two_set1 HR2.out (.int .i64 x)))
        go_wp2_with (go_at_call 94; refine HC2.out.mono ?_; rintro e u ⟨rfl, rfl⟩)
        (try simp only [Exit.inBlock, Exit.then])
        have R3 := two_of ((Below.heap_alloc ((wz.setCell ⟨w.heap.size + 1 + 1, 0, none⟩ (.int .i64 x)).setCell ⟨w.heap.size + 1 + 1, 1, none⟩ (.int .i64 y)) (.cells #[.int .i64 x, .int .i64 y] 63) (w.heap.size + 1 + 1) (by simp [World.setCell]; omega)).trans (two_set HR2.out (.int .i64 x) (.int .i64 y)))
        refine done_pr1 (p := 4) (by kernel_rfl) rfl rfl R3.1 R3.2.1 ⟨by rw [Hz.out], ?_⟩
        exact ((HB3.out.setCell (p := ⟨w.heap.size + 1 + 1, 0, none⟩) (by show w.heap.size ≤ w.heap.size + 1 + 1; omega) _).setCell (p := ⟨w.heap.size + 1 + 1, 1, none⟩) (by show w.heap.size ≤ w.heap.size + 1 + 1; omega) _).alloc (by simp [World.setCell]; omega) _

end Go.Proofs.Ytojnpacklcajpaa

/-! l05Free: the model's test whether a face is free. -/
namespace Go.Proofs.Ytojnpacklcajpaa
open Go.RowKit

theorem frOf_one {us : List Int} (h : us.length ≤ 1) : us.headD 0 = frOf us := by
  match us, h with
  | [], _ => rfl
  | [a], _ => rfl

set_option maxRecDepth 100000 in
set_option maxHeartbeats 4000000 in
theorem free_any (V : Int) (a0 : Option Addr) (cap : Nat) (fs : List Int) (f : Nat) (w : World) (hx : SlI w w.heap.size a0 fs) (hl : fs.length ≤ 1048576) (hf : ∀ x ∈ fs, 1 ≤ x ∧ x ≤ 63) (hf64 : f < 64) :
    Calls Try.prog 54 #[.agg #[.int .i64 V, .slice a0 fs.length cap], .int .i64 (f : Int)] w fun e w' => e = .returned (.int .i64 (freeG fs f)) ∧ Below w.heap.size w w' := by
  obtain ⟨W, hW⟩ : ∃ W, W = w.alloc (.cells #[.int .i64 V, .slice a0 fs.length cap] 29) := ⟨_, rfl⟩
  have hB0 : Below w.heap.size w W := by rw [hW]; exact (Below.refl _ w).alloc (Nat.le_refl _) _
  have q0 : W.heap[w.heap.size]? = some (.cells #[.int .i64 V, .slice a0 fs.length cap] 29 (0, 0)) := by rw [hW]; exact heap_alloc_new _ _
  obtain ⟨k0, k1, _, _⟩ := two_of q0
  have HW := hid hW
  have HB0 := hid hB0
  have Hx0 := hid hx
  have Hf := hid hf
  clear hW hB0 q0 hx hf
  go_enter Try.func54, Try.ntmps54
  go_wp2
  rw [← HW.out]
  go_loopg [5, 6] fs.length (fun g p i wx => ∃ j : Nat, j + g = fs.length ∧ p = .int .i64 ((upF (fs.take j) f).headD 0) ∧ i = .int .i64 j ∧ Hid ((upF (fs.take j) f).length ≤ 1) ∧ wx = W)
  case atStart => exact ⟨0, by omega, rfl, rfl, hid (by simp [upF]), rfl⟩
  case round =>
    obtain ⟨j, hjg, rfl, rfl, Hu, rfl⟩ := hrel
    cases gk with
    | zero =>
      obtain rfl : j = fs.length := by omega
      rw [List.take_of_length_le (Nat.le_refl _)] at Hu ⊢
      rw [frOf_one Hu.out]
      go_wp2
      go_ret
      exact ⟨rfl, HB0.out⟩
    | succ g =>
      have hjl : j < fs.length := by omega
      obtain ⟨b, off, hb, rfl, hc⟩ : ∃ b off, b < w.heap.size ∧ a0 = some ⟨b, off, none⟩ ∧ ∀ i, i < fs.length → w.cell? ⟨b, off + i, none⟩ = some (.int .i64 (fs[i]?.getD 0)) := by
        rcases Hx0.out with rfl | h
        · simp at hjl
        · exact h
      obtain ⟨y, hy⟩ : ∃ y : Nat, (y : Int) = fs[j]?.getD 0 := ⟨(fs[j]?.getD 0).toNat, by have := Hf.out _ (getD_mem hjl); omega⟩
      have hyr := Hf.out _ (getD_mem hjl)
      rw [← hy] at hyr
      have hy64 : y < 64 := by omega
      have hcj : wr.cell? ⟨b, off + j, none⟩ = some (.int .i64 (y : Int)) := by rw [hy]; exact (HB0.out.cell (p := ⟨b, off + j, none⟩) hb).trans (hc j hjl)
      have hj0 : (0 : Int) ≤ (j : Int) := by omega
      have hj1 : (j : Int) < (fs.length : Int) := by omega
      have Hs : Hid (∀ c, decide (y &&& f = f ∧ y ≠ f) = c → upF (fs.take (j + 1)) f = upF (fs.take j) f ++ (if c then [(y : Int)] else [])) := hid (fun c hc => by rw [hy]; exact upF_snoc hjl c (by rw [← hy, Int.toNat_natCast]; exact hc))
      have hand := and_int64 hy64 hf64
      have hr0 := Hf.out
      clear hc hy
      by_cases hyx : y &&& f = f
      · have hd2 : (((y &&& f : Nat) : Int) == (f : Int)) = true := by simp [hyx]
        by_cases hyf : y = f
        · subst hyf
          have hd : ((y : Int) != (y : Int)) = false := by simp
          have HS := hid (Hs.out false (by simp))
          clear hr0 hyx
          go_wp2
          go_roundg g
          case measure => omega
          case rel => exact ⟨j + 1, by omega, by rw [HS.out]; simp, by go_num, by rw [HS.out]; simpa using Hu, rfl⟩
        · have hd : ((y : Int) != (f : Int)) = true := by simp; omega
          have HS := hid (Hs.out true (by simp [hyx, hyf]))
          rcases hu : upF (fs.take j) f with _ | ⟨g0, _ | ⟨g1, l⟩⟩
          · rw [hu] at HS
            have hh : (([] : List Int).headD 0) = 0 := rfl
            clear hr0 hyx hyf hu
            simp only [List.headD]
            go_wp2
            go_roundg g
            case measure => omega
            case rel => exact ⟨j + 1, by omega, by rw [HS.out]; rfl, by go_num, by rw [HS.out]; exact hid (by simp), rfl⟩
          · have hgm := hr0 g0 (List.take_subset _ _ (upF_mem (f := f) (fs := fs.take j) (by rw [hu]; simp)).1)
            rw [hu] at HS
            have hg0 : (0 : Int) < g0 := by omega
            have Hz : Hid (freeG fs f = 0) := hid (freeG_two (j := j + 1) (by rw [HS.out]; simp))
            clear hr0 hyx hyf hu hgm
            simp only [List.headD]
            go_wp2
            go_ret
            exact ⟨ret_int Hz.out.symm, HB0.out⟩
          · have := Hu.out; rw [hu] at this; simp at this
      · have hd2 : (((y &&& f : Nat) : Int) == (f : Int)) = false := by simp; omega
        have HS := hid (Hs.out false (by simp [hyx]))
        clear hr0 hyx
        go_wp2
        go_roundg g
        case measure => omega
        case rel => exact ⟨j + 1, by omega, by rw [HS.out]; simp, by go_num, by rw [HS.out]; simpa using Hu, rfl⟩

end Go.Proofs.Ytojnpacklcajpaa

/-! The program's withoutFaces. -/
namespace Go.Proofs.Ytojnpacklcajpaa
open Go.RowKit

theorem woWanted (ts : List Int) (at0 : Option Addr) (ct : Nat) (bd : Nat) (x : Int) (w : World) (hd : w.cell? ⟨bd, 0, none⟩ = some (.slice at0 ts.length ct)) (hx : SlI w w.heap.size at0 ts) (hl : ts.length ≤ 1048576) :
    Calls Try.prog 93 #[.int .i64 x, .pointer (some ⟨bd, 0, none⟩)] w fun e w' => e = .returned (.bool (decide (x ∉ ts))) ∧ Below w.heap.size w w' := by
  have Hc := hid (contains_any at0 ct ts x w hx hl)
  clear hx
  go_enter Try.func93, Try.ntmps93
  go_wp2_with fail
  refine Hc.out.mono ?_
  rintro e w1 ⟨rfl, rfl⟩
  go_wp2_with fail
  go_ret
  exact ⟨ret_bool (by simp), Below.refl _ _⟩

set_option maxHeartbeats 1000000 in
theorem wo_any (V : Int) (a : Option Addr) (cap : Nat) (fs : List Int) (at0 : Option Addr) (ct : Nat) (ts : List Int) (w : World) (hx : SlI w w.heap.size a fs) (ht : SlI w w.heap.size at0 ts) (hl : fs.length ≤ 1048576) (hlt : ts.length ≤ 1048576) :
    Calls Try.prog 62 #[.agg #[.int .i64 V, .slice a fs.length cap], .slice at0 ts.length ct] w fun e w' => ∃ v, e = .returned (.agg #[.int .i64 V, v]) ∧ Res w w' v (fs.filter fun x => decide (x ∉ ts)) := by
  have hB0 : Below w.heap.size w (((w.alloc (.cells #[.int .i64 V, .slice a fs.length cap] 29)).alloc (.cells #[.slice at0 ts.length ct] 22)).alloc (.cells #[.int .i64 0, .slice none 0 0] 29)) := (((Below.refl _ w).alloc (Nat.le_refl _) _).alloc (by simp) _).alloc (by simp <;> omega) _
  have Hx := hid (hx.later hB0 (by simp <;> omega))
  have Ht := hid (ht.later hB0 (by simp <;> omega))
  obtain ⟨W, hW⟩ : ∃ W, W = ((w.alloc (.cells #[.int .i64 V, .slice a fs.length cap] 29)).alloc (.cells #[.slice at0 ts.length ct] 22)).alloc (.cells #[.int .i64 0, .slice none 0 0] 29) := ⟨_, rfl⟩
  have k0 : W.cell? ⟨w.heap.size, 0, none⟩ = some (.int .i64 V) := by rw [hW]; simp [go_sem]
  have k1 : W.cell? ⟨w.heap.size, 1, none⟩ = some (.slice a fs.length cap) := by rw [hW]; simp [go_sem]
  have k2 : W.cell? ⟨w.heap.size + 1, 0, none⟩ = some (.slice at0 ts.length ct) := by rw [hW]; simp [go_sem]
  have r1 : W.heap[w.heap.size + 1 + 1]? = some (.cells #[.int .i64 0, .slice none 0 0] 29 (0, 0)) := by rw [hW]; exact new3 _ _ _ _
  obtain ⟨ys, hys⟩ : ∃ ys, ys = fs.filter fun x => decide (x ∉ ts) := ⟨_, rfl⟩
  rw [← hys]
  have Hys := hid hys
  have hBW : Hid (Below w.heap.size w W) := hid (by rw [hW]; exact hB0)
  have R1 := hid r1
  have hWs : Hid (W.heap.size = w.heap.size + 3) := hid (by rw [hW]; simp)
  have HW := hid hW
  have HxW : Hid (SlI W W.heap.size a fs) := hid (by rw [HW.out]; exact Hx.out)
  have HtW : Hid (SlI W W.heap.size at0 ts) := hid (by rw [HW.out]; exact Ht.out)
  clear hB0 r1 hW hx ht hys
  go_enter Try.func62, Try.ntmps62
  go_wp2_with fail
  rw [← HW.out]
  refine (cw_any V a cap fs _ 93 _ ys ?_).mono ?_
  · intro W' hW1
    rw [Hys.out]
    refine fw_any V a cap fs W' 93 _ (fun x => decide (x ∉ ts)) (HxW.out.later hW1 hW1.size) hl (enters_of Try.func93 (by kernel_rfl) rfl) ?_
    intro W2 x hW2 hxm
    have hlt2 : w.heap.size + 1 < W.heap.size := by have := hWs.out; omega
    exact woWanted ts at0 ct _ x W2 ((hW2.cell (p := ⟨w.heap.size + 1, 0, none⟩) (Nat.lt_of_lt_of_le hlt2 hW1.size)).trans ((hW1.cell (p := ⟨w.heap.size + 1, 0, none⟩) hlt2).trans k2)) ((HtW.out.later hW1 hW1.size).later hW2 hW2.size) hlt
  rintro e w2 ⟨v, rfl, hr⟩
  obtain ⟨_, av, cv, rfl, _⟩ := ownsRow_slI hr.1
  have r2 := (hr.2.block _ (lt_get R1.out)).trans R1.out
  obtain ⟨c0, c1, f0, f1⟩ := two_of r2
  have R2 := hid r2
  clear r2
  go_wp2_with fail
  (try simp only [Exit.inBlock, Exit.then])
  have R3 := two_of (two_set R2.out (.int .i64 V) (.slice av ys.length cv))
  refine done_cx1 (p := 4) (by kernel_rfl) rfl rfl R3.1 R3.2.1 ⟨_, rfl, ?_⟩
  exact (hr.later hBW.out).set2 R2.out (by decide) (by omega) _ _

end Go.Proofs.Ytojnpacklcajpaa

/-! IsFreeFace and CollapsePair, the program's and the model's. -/
namespace Go.Proofs.Ytojnpacklcajpaa
open Go.RowKit

/-- What IsFreeFace hands back. -/
noncomputable def isFreeR (V : Int) (fs : List Int) (f : Int) : Bool × Int := if isCB V fs then (if f ∈ fs then (decide (freeG fs f.toNat ≠ 0), 0) else (false, 2)) else (false, 1)
/-- What CollapsePair hands back. -/
noncomputable def colPairR (V : Int) (fs : List Int) (f : Int) : Int × List Int × Int := if isCB V fs then (if f ∈ fs then (if freeG fs f.toNat = 0 then (0, [], 5) else (V, takeL fs f, 0)) else (0, [], 2)) else (0, [], 1)
theorem colPairR_len (V : Int) (fs : List Int) (f : Int) (h : fs.length ≤ 1048576) : (colPairR V fs f).2.1.length ≤ 1048576 := by
  unfold colPairR takeL
  split
  · split
    · split
      · simp
      · exact Nat.le_trans (List.length_filter_le _ _) h
    · simp
  · simp

theorem freeFace_mono {P : Program} {f : FuncId} {args : Array Value} {w : World} {r : Bool × Int} {b : Bool} {c : Int} (hr : r = (b, c))
    (h : Calls P f args w fun e w' => e = .returned (.tuple #[.bool b, .int .i64 c]) ∧ Below w.heap.size w w') : Calls P f args w fun e w' => e = .returned (.tuple #[.bool r.1, .int .i64 r.2]) ∧ Below w.heap.size w w' := by
  subst hr; exact h

set_option maxRecDepth 100000 in
set_option maxHeartbeats 2000000 in
theorem specIsFreeFace (V : Int) (a0 : Option Addr) (cap : Nat) (fs : List Int) (d : Int) (w : World) (hx : SlI w w.heap.size a0 fs) (hl : fs.length ≤ 1048576) (_wd : (Lit.int .i64 d).wf = true) :
    Calls Try.prog 44 #[.agg #[.int .i64 V, .slice a0 fs.length cap], .int .i64 d] w fun e w' => e = .returned (.tuple #[.bool (isFreeR V fs d).1, .int .i64 (isFreeR V fs d).2]) ∧ Below w.heap.size w w' := by
  have hB0 : Below w.heap.size w (w.alloc (.cells #[.int .i64 V, .slice a0 fs.length cap] 29)) := (Below.refl _ w).alloc (Nat.le_refl _) _
  have Hx := hid (hx.later hB0 hB0.size)
  by_cases hC : IsC V fs
  · by_cases hd : d ∈ fs
    · refine freeFace_mono (show isFreeR V fs d = (decide (freeG fs d.toNat ≠ 0), 0) by unfold isFreeR; rw [isCB_true hC, if_pos rfl, if_pos hd]) ?_
      have HC := hid hC
      have Hd := hid hd
      have Hf := hid hC.range63
      have hdr := hC.range63 d hd
      obtain ⟨f, rfl⟩ : ∃ f : Nat, d = f := ⟨d.toNat, by omega⟩
      have hf64 : f < 64 := by omega
      rw [Int.toNat_natCast]
      have hgr := freeG_rng (f := f) Hf.out
      clear hC hd
      go_enter Try.func44, Try.ntmps44
      go_wp2_with fail
      refine (face_yes V a0 cap fs _ _ Hx.out hl HC.out Hd.out).mono ?_
      rintro e w1 ⟨rfl, hB1⟩
      have k0 : w1.cell? ⟨w.heap.size, 0, none⟩ = some (.int .i64 V) := (hB1.cell (p := ⟨w.heap.size, 0, none⟩) (by simp <;> omega)).trans (by simp [go_sem])
      have k1 : w1.cell? ⟨w.heap.size, 1, none⟩ = some (.slice a0 fs.length cap) := (hB1.cell (p := ⟨w.heap.size, 1, none⟩) (by simp <;> omega)).trans (by simp [go_sem])
      have hB01 := hB0.trans (hB1.mono (by simp <;> omega))
      have hx1 := hid (hx.later hB01 hB01.size)
      go_wp2_with fail
      refine (free_any V a0 cap fs f _ hx1.out hl Hf.out hf64).mono ?_
      rintro e w2 ⟨rfl, hB2⟩
      have HB := hid (hB01.trans (hB2.mono hB01.size))
      have He : Hid (decide (0 < freeG fs f) = decide (freeG fs f ≠ 0)) := hid (by rw [decide_eq_decide]; omega)
      go_wp2_with fail
      go_ret2
      exact ⟨by rw [← He.out]; rfl, HB.out⟩
    · refine freeFace_mono (show isFreeR V fs d = (false, 2) by unfold isFreeR; rw [isCB_true hC, if_pos rfl, if_neg hd]) ?_
      go_enter Try.func44, Try.ntmps44
      go_wp2_with fail
      refine (face_no V a0 cap fs _ _ Hx.out hl hC hd).mono ?_
      rintro e w1 ⟨rfl, hB1⟩
      go_wp2_with fail
      go_ret2
      exact ⟨rfl, hB0.trans (hB1.mono (by simp <;> omega))⟩
  · refine freeFace_mono (show isFreeR V fs d = (false, 1) by unfold isFreeR; rw [isCB_false hC, if_neg (by simp)]) ?_
    go_enter Try.func44, Try.ntmps44
    go_wp2_with fail
    refine (face_bad V a0 cap fs _ _ Hx.out hl hC).mono ?_
    rintro e w1 ⟨rfl, hB1⟩
    go_wp2_with fail
    go_ret2
    exact ⟨rfl, hB0.trans (hB1.mono (by simp <;> omega))⟩

/-- freePairOf in one. -/
noncomputable def fpR (V : Int) (fs : List Int) (f : Int) : (Int × Int) × Int := if isCB V fs then (if f ∈ fs then (fpOf fs f, 0) else ((0, 0), 2)) else ((0, 0), 1)
theorem fpo_any (V : Int) (a0 : Option Addr) (cap : Nat) (fs : List Int) (f : Int) (w : World) (hx : SlI w w.heap.size a0 fs) (hl : fs.length ≤ 1048576) (wd : (Lit.int .i64 f).wf = true) :
    Calls Try.prog 61 #[.agg #[.int .i64 V, .slice a0 fs.length cap], .int .i64 f] w fun e w' => e = .returned (.tuple #[.agg #[.int .i64 (fpR V fs f).1.1, .int .i64 (fpR V fs f).1.2], .int .i64 (fpR V fs f).2]) ∧ Below w.heap.size w w' := by
  unfold fpR
  by_cases hC : IsC V fs
  · rw [isCB_true hC, if_pos rfl]
    by_cases hd : f ∈ fs
    · rw [if_pos hd]; exact fpo_yes V a0 cap fs f w hx hl hC hd
    · rw [if_neg hd]; exact fpo_no V a0 cap fs f w hx hl hC wd hd
  · rw [isCB_false hC, if_neg (by simp)]; exact fpo_bad V a0 cap fs f w hx hl hC

theorem fpR_free (V : Int) (fs : List Int) (f : Int) : isFreeR V fs f = ((!((fpR V fs f).1.1 == 0) || !((fpR V fs f).1.2 == 0)), (fpR V fs f).2) := by
  unfold isFreeR fpR
  by_cases hC : IsC V fs
  · rw [isCB_true hC, if_pos rfl, if_pos rfl]
    have hr := hC.range63
    by_cases hd : f ∈ fs
    · rw [if_pos hd, if_pos hd]
      have := hr f hd
      unfold fpOf
      by_cases h0 : freeG fs f.toNat = 0
      · rw [if_pos h0]; simp [h0]
      · rw [if_neg h0]; simp [h0]
    · rw [if_neg hd, if_neg hd]; simp
  · rw [isCB_false hC, if_neg (by simp), if_neg (by simp)]; simp

set_option maxRecDepth 100000 in
set_option maxHeartbeats 2000000 in
theorem implIsFreeFace (V : Int) (a0 : Option Addr) (cap : Nat) (fs : List Int) (d : Int) (w : World) (hx : SlI w w.heap.size a0 fs) (hl : fs.length ≤ 1048576) (wd : (Lit.int .i64 d).wf = true) :
    Calls Try.prog 45 #[.agg #[.int .i64 V, .slice a0 fs.length cap], .int .i64 d] w fun e w' => e = .returned (.tuple #[.bool (isFreeR V fs d).1, .int .i64 (isFreeR V fs d).2]) ∧ Below w.heap.size w w' := by
  have hB0 : Below w.heap.size w (w.alloc (.cells #[.int .i64 V, .slice a0 fs.length cap] 29)) := (Below.refl _ w).alloc (Nat.le_refl _) _
  have Hx := hid (hx.later hB0 hB0.size)
  refine freeFace_mono (fpR_free V fs d) ?_
  obtain ⟨R, hR⟩ : ∃ R, R = fpR V fs d := ⟨_, rfl⟩
  have Hc := fpo_any V a0 cap fs d _ Hx.out hl wd
  rw [← hR] at Hc ⊢
  obtain ⟨⟨x, y⟩, c⟩ := R
  simp only at Hc ⊢
  have HC := hid Hc
  clear Hc hR
  have Heq := eq_pairF
  go_enter Try.func45, Try.ntmps45
  go_wp2_with fail
  refine HC.out.mono ?_
  rintro e w1 ⟨rfl, hB1⟩
  have HB := hid (hB0.trans (hB1.mono hB0.size))
  go_wp2_with fail
  go_ret2
  exact ⟨rfl, HB.out.alloc HB.out.size _⟩

theorem cp_mono {P : Program} {f : FuncId} {args : Array Value} {w : World} {r : Int × List Int × Int} {U : Int} {xs : List Int} {c : Int} (hr : r = (U, xs, c))
    (h : Calls P f args w fun e w' => ∃ v, e = .returned (.tuple #[.agg #[.int .i64 U, v], .int .i64 c]) ∧ Res w w' v xs) : Calls P f args w fun e w' => ∃ v, e = .returned (.tuple #[.agg #[.int .i64 r.1, v], .int .i64 r.2.2]) ∧ Res w w' v r.2.1 := by
  subst hr; exact h

set_option maxRecDepth 100000 in
set_option maxHeartbeats 2000000 in
theorem specCollapsePair (V : Int) (a : Option Addr) (cap : Nat) (fs : List Int) (d : Int) (_wd : (Lit.int .i64 d).wf = true) (w : World) (hx : SlI w w.heap.size a fs) (hl : fs.length ≤ 1048576) :
    Calls Try.prog 24 #[.agg #[.int .i64 V, .slice a fs.length cap], .int .i64 d] w fun e w' => ∃ v, e = .returned (.tuple #[.agg #[.int .i64 (colPairR V fs d).1, v], .int .i64 (colPairR V fs d).2.2]) ∧ Res w w' v (colPairR V fs d).2.1 := by
  have hB0 : Below w.heap.size w ((w.alloc (.cells #[.int .i64 V, .slice a fs.length cap] 29)).alloc (.cells #[.int .i64 0, .slice none 0 0] 29)) := ((Below.refl _ w).alloc (Nat.le_refl _) _).alloc (by simp) _
  have Hx := hid (hx.later hB0 (by simp <;> omega))
  by_cases hC : IsC V fs
  · have Hf := hid hC.range63
    have HC := hid hC
    by_cases hd : d ∈ fs
    · have hdr := hC.range63 d hd
      obtain ⟨s, rfl⟩ : ∃ s : Nat, d = s := ⟨d.toNat, by omega⟩
      have hs : s < 64 := by omega
      have Hd := hid hd
      by_cases hg : freeG fs s = 0
      · refine cp_mono (show colPairR V fs (s : Int) = (0, [], 5) by unfold colPairR; rw [isCB_true hC, if_pos rfl, if_pos hd, Int.toNat_natCast, if_pos hg]) ?_
        clear hC hd
        go_enter Try.func24, Try.ntmps24
        go_wp2_with fail
        refine (face_yes V a cap fs _ _ Hx.out hl HC.out Hd.out).mono ?_
        rintro e w1 ⟨rfl, hB1⟩
        have k0 : w1.cell? ⟨w.heap.size, 0, none⟩ = some (.int .i64 V) := (hB1.cell (p := ⟨w.heap.size, 0, none⟩) (by simp <;> omega)).trans (by simp [go_sem])
        have k1 : w1.cell? ⟨w.heap.size, 1, none⟩ = some (.slice a fs.length cap) := (hB1.cell (p := ⟨w.heap.size, 1, none⟩) (by simp <;> omega)).trans (by simp [go_sem])
        have r1 : w1.heap[w.heap.size + 1]? = some (.cells #[.int .i64 0, .slice none 0 0] 29 (0, 0)) := (hB1.block _ (by simp <;> omega)).trans (new2 _ _ _)
        have hB01 := hB0.trans (hB1.mono (by simp <;> omega))
        have hx1 := hid (hx.later hB01 hB01.size)
        have R1 := hid r1
        clear r1
        go_wp2_with fail
        refine (free_any V a cap fs s _ hx1.out hl Hf.out hs).mono ?_
        rintro e w2 ⟨rfl, hB2⟩
        rw [hg]
        have r2 := (hB2.block _ (lt_get R1.out)).trans R1.out
        obtain ⟨c0, c1, f0, f1⟩ := two_of r2
        have R2 := hid r2
        clear r2
        go_wp2_with fail
        (try simp only [Exit.inBlock, Exit.then])
        have R3 := two_of (two_set R2.out (.int .i64 0) (.slice none 0 0))
        refine done_cx (p := 4) (u := 5) (by kernel_rfl) rfl rfl R3.1 R3.2.1 rfl ⟨_, rfl, ?_⟩
        exact (res_nil _ _ (hB01.trans (hB2.mono hB01.size))).set2 R2.out (by decide) (by omega) _ _
      · refine cp_mono (show colPairR V fs (s : Int) = (V, takeL fs s, 0) by unfold colPairR; rw [isCB_true hC, if_pos rfl, if_pos hd, Int.toNat_natCast, if_neg hg]) ?_
        have hg0 : (freeG fs s == 0) = false := by simpa using hg
        clear hC hd
        go_enter Try.func24, Try.ntmps24
        go_wp2_with fail
        refine (face_yes V a cap fs _ _ Hx.out hl HC.out Hd.out).mono ?_
        rintro e w1 ⟨rfl, hB1⟩
        have k0 : w1.cell? ⟨w.heap.size, 0, none⟩ = some (.int .i64 V) := (hB1.cell (p := ⟨w.heap.size, 0, none⟩) (by simp <;> omega)).trans (by simp [go_sem])
        have k1 : w1.cell? ⟨w.heap.size, 1, none⟩ = some (.slice a fs.length cap) := (hB1.cell (p := ⟨w.heap.size, 1, none⟩) (by simp <;> omega)).trans (by simp [go_sem])
        have r1 : w1.heap[w.heap.size + 1]? = some (.cells #[.int .i64 0, .slice none 0 0] 29 (0, 0)) := (hB1.block _ (by simp <;> omega)).trans (new2 _ _ _)
        have q1 : w1.heap[w.heap.size]? = some (.cells #[.int .i64 V, .slice a fs.length cap] 29 (0, 0)) := (hB1.block _ (by simp <;> omega)).trans ((Below.heap_alloc _ _ _ (by simp)).trans (heap_alloc_new _ _))
        have hB01 := hB0.trans (hB1.mono (by simp <;> omega))
        have hx1 := hid (hx.later hB01 hB01.size)
        have R1 := hid r1
        have Q1 := hid q1
        clear r1 q1
        go_wp2_with fail
        refine (free_any V a cap fs s _ hx1.out hl Hf.out hs).mono ?_
        rintro e w2 ⟨rfl, hB2⟩
        have r2 := (hB2.block _ (lt_get R1.out)).trans R1.out
        obtain ⟨c0, c1, f0, f1⟩ := two_of r2
        obtain ⟨j0, j1, _, _⟩ := two_of ((hB2.block _ (lt_get Q1.out)).trans Q1.out)
        have hB02 := hB01.trans (hB2.mono hB01.size)
        have hx2 := hid (hx.later hB02 hB02.size)
        have R2 := hid r2
        clear r2 k0 k1
        go_wp2_with fail
        refine (take_any V a cap fs s _ hx2.out hl Hf.out hs).mono ?_
        rintro e w3 ⟨v, rfl, hr⟩
        obtain ⟨_, av, cv, rfl, _⟩ := ownsRow_slI hr.1
        have r3 := (hr.2.block _ (lt_get R2.out)).trans R2.out
        obtain ⟨d0, d1, e0, e1⟩ := two_of r3
        have R3 := hid r3
        clear r3
        go_wp2_with fail
        (try simp only [Exit.inBlock, Exit.then])
        have R4 := two_of (two_set R3.out (.int .i64 V) (.slice av (takeL fs s).length cv))
        refine done_cx (p := 4) (u := 5) (by kernel_rfl) rfl rfl R4.1 R4.2.1 rfl ⟨_, rfl, ?_⟩
        exact (hr.later hB02).set2 R3.out (by decide) (by omega) _ _
    · refine cp_mono (show colPairR V fs d = (0, [], 2) by unfold colPairR; rw [isCB_true hC, if_pos rfl, if_neg hd]) ?_
      clear hC
      go_enter Try.func24, Try.ntmps24
      go_wp2_with fail
      refine (face_no V a cap fs _ _ Hx.out hl HC.out hd).mono ?_
      rintro e w1 ⟨rfl, hB1⟩
      have r1 : w1.heap[w.heap.size + 1]? = some (.cells #[.int .i64 0, .slice none 0 0] 29 (0, 0)) := (hB1.block _ (by simp <;> omega)).trans (new2 _ _ _)
      have hB01 := hB0.trans (hB1.mono (by simp <;> omega))
      obtain ⟨c0, c1, f0, f1⟩ := two_of r1
      have R1 := hid r1
      clear r1
      go_wp2_with fail
      (try simp only [Exit.inBlock, Exit.then])
      have R3 := two_of (two_set R1.out (.int .i64 0) (.slice none 0 0))
      refine done_cx (p := 4) (u := 5) (by kernel_rfl) rfl rfl R3.1 R3.2.1 rfl ⟨_, rfl, ?_⟩
      exact (res_nil _ _ hB01).set2 R1.out (by decide) (by omega) _ _
  · refine cp_mono (show colPairR V fs d = (0, [], 1) by unfold colPairR; rw [isCB_false hC, if_neg (by simp)]) ?_
    go_enter Try.func24, Try.ntmps24
    go_wp2_with fail
    refine (face_bad V a cap fs _ _ Hx.out hl hC).mono ?_
    rintro e w1 ⟨rfl, hB1⟩
    have r1 : w1.heap[w.heap.size + 1]? = some (.cells #[.int .i64 0, .slice none 0 0] 29 (0, 0)) := (hB1.block _ (by simp <;> omega)).trans (new2 _ _ _)
    have hB01 := hB0.trans (hB1.mono (by simp <;> omega))
    obtain ⟨c0, c1, f0, f1⟩ := two_of r1
    have R1 := hid r1
    clear r1
    go_wp2_with fail
    (try simp only [Exit.inBlock, Exit.then])
    have R3 := two_of (two_set R1.out (.int .i64 0) (.slice none 0 0))
    refine done_cx (p := 4) (u := 5) (by kernel_rfl) rfl rfl R3.1 R3.2.1 rfl ⟨_, rfl, ?_⟩
    exact (res_nil _ _ hB01).set2 R1.out (by decide) (by omega) _ _

end Go.Proofs.Ytojnpacklcajpaa

/-! CollapsePair, the program's. -/
namespace Go.Proofs.Ytojnpacklcajpaa
open Go.RowKit

/-- A pair in a block of its own, read as two integers. -/
theorem pair_slI {w : World} {b : Nat} {x y : Int} (h : w.heap[b]? = some (.cells #[.int .i64 x, .int .i64 y] 63 (0, 0))) : SlI w w.heap.size (some ⟨b, 0, none⟩) [x, y] := by
  refine .inr ⟨b, 0, lt_get h, rfl, fun i hi => ?_⟩
  have : i = 0 ∨ i = 1 := by simp at hi; omega
  rcases this with rfl | rfl <;> simp [World.cell?, h]

set_option maxRecDepth 100000 in
set_option maxHeartbeats 4000000 in
theorem implCollapsePair (V : Int) (a : Option Addr) (cap : Nat) (fs : List Int) (d : Int) (wd : (Lit.int .i64 d).wf = true) (w : World) (hx : SlI w w.heap.size a fs) (hl : fs.length ≤ 1048576) :
    Calls Try.prog 25 #[.agg #[.int .i64 V, .slice a fs.length cap], .int .i64 d] w fun e w' => ∃ v, e = .returned (.tuple #[.agg #[.int .i64 (colPairR V fs d).1, v], .int .i64 (colPairR V fs d).2.2]) ∧ Res w w' v (colPairR V fs d).2.1 := by
  have hB0 : Below w.heap.size w ((w.alloc (.cells #[.int .i64 V, .slice a fs.length cap] 29)).alloc (.cells #[.int .i64 0, .slice none 0 0] 29)) := ((Below.refl _ w).alloc (Nat.le_refl _) _).alloc (by simp) _
  have Hx := hid (hx.later hB0 (by simp <;> omega))
  have Heq := eq_pairF
  by_cases hC : IsC V fs
  · have Hf := hid hC.range63
    have HC := hid hC
    by_cases hd : d ∈ fs
    · have hdr := hC.range63 d hd
      have Hd := hid hd
      by_cases hg : freeG fs d.toNat = 0
      · refine cp_mono (show colPairR V fs d = (0, [], 5) by unfold colPairR; rw [isCB_true hC, if_pos rfl, if_pos hd, if_pos hg]) ?_
        have Hc := fpo_yes V a cap fs d _ Hx.out hl hC hd
        unfold fpOf at Hc
        rw [if_pos hg] at Hc
        have HCC := hid Hc
        clear hC hd Hc
        go_enter Try.func25, Try.ntmps25
        go_wp2_with fail
        refine HCC.out.mono ?_
        rintro e w1 ⟨rfl, hB1⟩
        have r1 : w1.heap[w.heap.size + 1]? = some (.cells #[.int .i64 0, .slice none 0 0] 29 (0, 0)) := (hB1.block _ (by simp <;> omega)).trans (new2 _ _ _)
        have hB01 := hB0.trans (hB1.mono (by simp <;> omega))
        have R1 := hid ((Below.heap_alloc w1 (.cells #[.int .i64 0, .int .i64 0] 63) _ (lt_get r1)).trans r1)
        obtain ⟨c0, c1, f0, f1⟩ := two_of R1.out
        clear r1
        go_wp2_with fail
        (try simp only [Exit.inBlock, Exit.then])
        have R3 := two_of (two_set R1.out (.int .i64 0) (.slice none 0 0))
        refine done_cx (p := 4) (u := 5) (by kernel_rfl) rfl rfl R3.1 R3.2.1 rfl ⟨_, rfl, ?_⟩
        exact (res_nil _ _ (hB01.alloc hB01.size _)).set2 R1.out (by decide) (by omega) _ _
      · refine cp_mono (show colPairR V fs d = (V, takeL fs d, 0) by unfold colPairR; rw [isCB_true hC, if_pos rfl, if_pos hd, if_neg hg]) ?_
        have Hc := fpo_yes V a cap fs d _ Hx.out hl hC hd
        unfold fpOf at Hc
        rw [if_neg hg] at Hc
        have HT := hid (take_free (p := (d, freeG fs d.toNat)) hC.range63 hd hg rfl)
        obtain ⟨G, hG⟩ : ∃ G, G = freeG fs d.toNat := ⟨_, rfl⟩
        obtain ⟨ys, hys⟩ : ∃ ys, ys = takeL fs d := ⟨_, rfl⟩
        rw [← hG] at Hc HT
        simp only at HT
        rw [← hys] at HT
        rw [← hys]
        have HCC := hid Hc
        have hd0 : (d == 0) = false := by simp; omega
        clear hC hd Hc hG hys hg
        go_enter Try.func25, Try.ntmps25
        go_wp2_with fail
        refine HCC.out.mono ?_
        rintro e w1 ⟨rfl, hB1⟩
        have q1 : w1.heap[w.heap.size]? = some (.cells #[.int .i64 V, .slice a fs.length cap] 29 (0, 0)) := (hB1.block _ (by simp <;> omega)).trans ((Below.heap_alloc _ _ _ (by simp)).trans (heap_alloc_new _ _))
        have r1 : w1.heap[w.heap.size + 1]? = some (.cells #[.int .i64 0, .slice none 0 0] 29 (0, 0)) := (hB1.block _ (by simp <;> omega)).trans (new2 _ _ _)
        have hB01 := hB0.trans (hB1.mono (by simp <;> omega))
        obtain ⟨w2, hw2⟩ : ∃ w2, w2 = w1.alloc (.cells #[.int .i64 d, .int .i64 G] 63) := ⟨_, rfl⟩
        have R1 := hid (show w2.heap[w.heap.size + 1]? = some (.cells #[.int .i64 0, .slice none 0 0] 29 (0, 0)) by rw [hw2]; exact (Below.heap_alloc w1 (.cells #[.int .i64 d, .int .i64 G] 63) _ (lt_get r1)).trans r1)
        have Q1 := hid (show w2.heap[w.heap.size]? = some (.cells #[.int .i64 V, .slice a fs.length cap] 29 (0, 0)) by rw [hw2]; exact (Below.heap_alloc w1 (.cells #[.int .i64 d, .int .i64 G] 63) _ (lt_get q1)).trans q1)
        have P1 := hid (show w2.heap[w1.heap.size]? = some (.cells #[.int .i64 d, .int .i64 G] 63 (0, 0)) by rw [hw2]; exact heap_alloc_new _ _)
        have HB2 := hid (show Below w.heap.size w w2 by rw [hw2]; exact hB01.alloc hB01.size _)
        obtain ⟨k0, k1, _, _⟩ := two_of Q1.out
        obtain ⟨p0, p1, _, _⟩ := two_of P1.out
        have HW2 := hid hw2
        clear r1 q1 hw2
        go_wp2_with fail
        rw [← HW2.out]
        have HxW := hid (hx.later HB2.out HB2.out.size)
        have HpW := hid (pair_slI P1.out)
        go_region_with (go_at_call 62; refine (wo_any V a cap fs _ 2 [d, G] w2.drew HxW.out HpW.out hl (by simp)).mono ?_; rintro e w3 ⟨v, rfl, hr⟩; rw [← HT.out] at hr; obtain ⟨_, av, cv, rfl, _⟩ := ownsRow_slI hr.1; have hrb : Below w2.heap.size w2 w3 := ⟨hr.2.os, hr.2.tape, hr.2.output, hr.2.size, hr.2.block⟩; have r3 := (hrb.block _ (lt_get R1.out)).trans R1.out; obtain ⟨c0, c1, f0, f1⟩ := two_of r3; have k03 := (hrb.cell (p := ⟨w.heap.size, 0, none⟩) (lt_get Q1.out)).trans k0; have k13 := (hrb.cell (p := ⟨w.heap.size, 1, none⟩) (lt_get Q1.out)).trans k1; have R3 := hid r3; clear r3 hrb)
        all_goals
          go_wp2_with fail
          (try simp only [Exit.inBlock, Exit.then])
          have R4 := two_of (two_set R3.out (.int .i64 V) (.slice av ys.length cv))
          refine done_cx (p := 4) (u := 5) (by kernel_rfl) rfl rfl R4.1 R4.2.1 rfl ⟨_, rfl, ?_⟩
          exact (Res.later hr ⟨HB2.out.os, HB2.out.tape, HB2.out.output, HB2.out.size, HB2.out.block⟩).set2 R3.out (by decide) (by omega) _ _
    · refine cp_mono (show colPairR V fs d = (0, [], 2) by unfold colPairR; rw [isCB_true hC, if_pos rfl, if_neg hd]) ?_
      have HCC := hid (fpo_no V a cap fs d _ Hx.out hl hC wd hd)
      clear hC
      go_enter Try.func25, Try.ntmps25
      go_wp2_with fail
      refine HCC.out.mono ?_
      rintro e w1 ⟨rfl, hB1⟩
      have r1 : w1.heap[w.heap.size + 1]? = some (.cells #[.int .i64 0, .slice none 0 0] 29 (0, 0)) := (hB1.block _ (by simp <;> omega)).trans (new2 _ _ _)
      have hB01 := hB0.trans (hB1.mono (by simp <;> omega))
      have R1 := hid ((Below.heap_alloc w1 (.cells #[.int .i64 0, .int .i64 0] 63) _ (lt_get r1)).trans r1)
      obtain ⟨c0, c1, f0, f1⟩ := two_of R1.out
      clear r1
      go_wp2_with fail
      (try simp only [Exit.inBlock, Exit.then])
      have R3 := two_of (two_set R1.out (.int .i64 0) (.slice none 0 0))
      refine done_cx (p := 4) (u := 5) (by kernel_rfl) rfl rfl R3.1 R3.2.1 rfl ⟨_, rfl, ?_⟩
      exact (res_nil _ _ (hB01.alloc hB01.size _)).set2 R1.out (by decide) (by omega) _ _
  · refine cp_mono (show colPairR V fs d = (0, [], 1) by unfold colPairR; rw [isCB_false hC, if_neg (by simp)]) ?_
    have HCC := hid (fpo_bad V a cap fs d _ Hx.out hl hC)
    go_enter Try.func25, Try.ntmps25
    go_wp2_with fail
    refine HCC.out.mono ?_
    rintro e w1 ⟨rfl, hB1⟩
    have r1 : w1.heap[w.heap.size + 1]? = some (.cells #[.int .i64 0, .slice none 0 0] 29 (0, 0)) := (hB1.block _ (by simp <;> omega)).trans (new2 _ _ _)
    have hB01 := hB0.trans (hB1.mono (by simp <;> omega))
    have R1 := hid ((Below.heap_alloc w1 (.cells #[.int .i64 0, .int .i64 0] 63) _ (lt_get r1)).trans r1)
    obtain ⟨c0, c1, f0, f1⟩ := two_of R1.out
    clear r1
    go_wp2_with fail
    (try simp only [Exit.inBlock, Exit.then])
    have R3 := two_of (two_set R1.out (.int .i64 0) (.slice none 0 0))
    refine done_cx (p := 4) (u := 5) (by kernel_rfl) rfl rfl R3.1 R3.2.1 rfl ⟨_, rfl, ?_⟩
    exact (res_nil _ _ (hB01.alloc hB01.size _)).set2 R1.out (by decide) (by omega) _ _

end Go.Proofs.Ytojnpacklcajpaa

/-! The program's collapse. -/
namespace Go.Proofs.Ytojnpacklcajpaa
open Go.RowKit

theorem row_ne_any {W : World} {base e t s : Nat} {v : Value} {n : Nat} {xs : List Value} {b : Nat} {cs : Array Value} {fz : Nat × Nat} (h : W.ownsRow base e s v n xs) (hb : W.heap[b]? = some (.cells cs t fz)) (hne : e ≠ t) : some b ≠ v.ownBlock := by
  intro he
  rcases h.2 with ⟨rfl, _⟩ | ⟨g, cap, cur, rfl, _, hg, _⟩
  · simp [Value.ownBlock] at he
  · simp [Value.ownBlock] at he
    subst he
    rw [hb] at hg
    simp at hg
    exact hne hg.2.1.symm

/-- The world of a collapse that is under way. -/
structure ColW (w W : World) (V1 : Int) (s1 : Value) (NL : Nat) (V : Int) (cur : List Int) (av : Option Addr) (cv : Nat) (P : List (Int × Int)) (q : Value) : Prop where
  lbox : W.heap[w.heap.size + 1]? = some (.cells #[.int .i64 V1, s1] 29 (0, 0))
  res : W.heap[w.heap.size + 1 + 1]? = some (.cells #[.int .i64 0, .slice none 0 0] 29 (0, 0))
  left : W.heap[NL]? = some (.cells #[.int .i64 V, .slice av cur.length cv] 29 (0, 0))
  row : W.ownsRow w.heap.size 2 1 (.slice av cur.length cv) cur.length (cur.map (Value.int .i64))
  prs : W.ownsRow w.heap.size 63 2 q P.length ((flatP P).map (Value.int .i64))
  below : Below w.heap.size w W
  nl : w.heap.size ≤ NL ∧ NL ≠ w.heap.size + 1 ∧ NL ≠ w.heap.size + 1 + 1

section
variable {w W W' : World} {V1 : Int} {s1 : Value} {NL : Nat} {V : Int} {cur : List Int} {av : Option Addr} {cv : Nat} {P : List (Int × Int)} {q : Value}

theorem ColW.keep (h : ColW w W V1 s1 NL V cur av cv P q) (hB : Below W.heap.size W W') : ColW w W' V1 s1 NL V cur av cv P q where
  lbox := (hB.block _ (lt_get h.lbox)).trans h.lbox
  res := (hB.block _ (lt_get h.res)).trans h.res
  left := (hB.block _ (lt_get h.left)).trans h.left
  row := ownsRow_below h.row hB (fun g hg => (h.row.lt g hg).2)
  prs := ownsRow_below h.prs hB (fun g hg => (h.prs.lt g hg).2)
  below := h.below.trans (hB.mono h.below.size)
  nl := h.nl

theorem ColW.push (h : ColW w W V1 s1 NL V cur av cv P q) (hg : W.grownBy W' q.ownBlock) {P' : List (Int × Int)} {q' : Value} (hown : W'.ownsRow w.heap.size 63 2 q' P'.length ((flatP P').map (Value.int .i64))) : ColW w W' V1 s1 NL V cur av cv P' q' where
  lbox := (hg.block _ (lt_get h.lbox) (row_ne_any h.prs h.lbox (by decide))).trans h.lbox
  res := (hg.block _ (lt_get h.res) (row_ne_any h.prs h.res (by decide))).trans h.res
  left := (hg.block _ (lt_get h.left) (row_ne_any h.prs h.left (by decide))).trans h.left
  row := h.row.kept hg (by
    cases hv : (Value.slice av cur.length cv).ownBlock with
    | none => exact .inl rfl
    | some g => exact .inr (fun e => apart_ty h.row h.prs (by decide) g hv e.symm))
  prs := hown
  below := h.below.grown hg h.below.size (fun k e => (h.prs.lt k e).1)
  nl := h.nl

theorem ColW.put (h : ColW w W V1 s1 NL V cur av cv P q) {ys : List Int} {a2 : Option Addr} {c2 : Nat} (hr : W.ownsRow w.heap.size 2 1 (.slice a2 ys.length c2) ys.length (ys.map (Value.int .i64))) :
    ColW w ((W.setCell ⟨NL, 0, none⟩ (.int .i64 V)).setCell ⟨NL, 1, none⟩ (.slice a2 ys.length c2)) V1 s1 NL V ys a2 c2 P q := by
  have hn := h.nl
  obtain ⟨n1, n2, n3⟩ := h.nl
  have e : ∀ k, k ≠ NL → ((W.setCell ⟨NL, 0, none⟩ (.int .i64 V)).setCell ⟨NL, 1, none⟩ (.slice a2 ys.length c2)).heap[k]? = W.heap[k]? := fun k hk => (Below.heap_setCell _ _ _ _ hk).trans (Below.heap_setCell _ _ _ _ hk)
  refine ⟨(e _ (by omega)).trans h.lbox, (e _ (by omega)).trans h.res, two_set h.left _ _, ?_, ?_, ?_, hn⟩
  · have hx := row_ne_any hr h.left (by decide)
    exact ownsRow_set (ownsRow_set hr (fun e => hx e.symm) _) (fun e => hx e.symm) _
  · have hx := row_ne_any h.prs h.left (by decide)
    exact ownsRow_set (ownsRow_set h.prs (fun e => hx e.symm) _) (fun e => hx e.symm) _
  · exact (h.below.setCell (p := ⟨NL, 0, none⟩) (by show w.heap.size ≤ NL; omega) _).setCell (p := ⟨NL, 1, none⟩) (by show w.heap.size ≤ NL; omega) _
end

set_option maxRecDepth 100000 in
set_option maxHeartbeats 8000000 in
theorem colI_any (V : Int) (a0 : Option Addr) (cap : Nat) (fs : List Int) (V1 : Int) (a1 : Option Addr) (cap1 : Nat) (ls : List Int) (w : World) (hx : SlI w w.heap.size a0 fs) (hx1 : SlI w w.heap.size a1 ls) (hl : fs.length ≤ 1048576) (hl1 : ls.length ≤ 1048576) (hf : ∀ x ∈ fs, 1 ≤ x ∧ x ≤ 63) :
    Calls Try.prog 66 #[.agg #[.int .i64 V, .slice a0 fs.length cap], .agg #[.int .i64 V1, .slice a1 ls.length cap1]] w fun e w' => ∃ v q, e = .returned (.tuple #[.agg #[.int .i64 V, v], q]) ∧ Res w w' v (colE ls fs).1 ∧ ResP w w' q (colE ls fs).2 ∧ Apart v q := by
  have hB0 : Below w.heap.size w (((w.alloc (.cells #[.int .i64 V, .slice a0 fs.length cap] 29)).alloc (.cells #[.int .i64 V1, .slice a1 ls.length cap1] 29)).alloc (.cells #[.int .i64 0, .slice none 0 0] 29)) := (((Below.refl _ w).alloc (Nat.le_refl _) _).alloc (by simp) _).alloc (by simp <;> omega) _
  obtain ⟨W, hW⟩ : ∃ W, W = ((w.alloc (.cells #[.int .i64 V, .slice a0 fs.length cap] 29)).alloc (.cells #[.int .i64 V1, .slice a1 ls.length cap1] 29)).alloc (.cells #[.int .i64 0, .slice none 0 0] 29) := ⟨_, rfl⟩
  have k0 : W.cell? ⟨w.heap.size, 0, none⟩ = some (.int .i64 V) := by rw [hW]; simp [go_sem]
  have k1 : W.cell? ⟨w.heap.size, 1, none⟩ = some (.slice a0 fs.length cap) := by rw [hW]; simp [go_sem]
  have Q1 := hid (show W.heap[w.heap.size + 1]? = some (.cells #[.int .i64 V1, .slice a1 ls.length cap1] 29 (0, 0)) by rw [hW, Below.heap_alloc _ _ _ (by simp)]; exact new2 _ _ _)
  have R1 := hid (show W.heap[w.heap.size + 1 + 1]? = some (.cells #[.int .i64 0, .slice none 0 0] 29 (0, 0)) by rw [hW]; exact new3 _ _ _ _)
  have HBW : Hid (Below w.heap.size w W) := hid (by rw [hW]; exact hB0)
  have HW := hid hW
  have Hx0 := hid hx
  have Hx1 := hid hx1
  have Hf := hid hf
  have hfilt : (fs.filter fun x => decide (x ∉ ([] : List Int))) = fs := by simp
  have hwo := wo_any V a0 cap fs none 0 [] W (Hx0.out.later HBW.out HBW.out.size) (.inl rfl) hl (by simp)
  rw [hfilt] at hwo
  have HWO := hid hwo
  clear hf hx hx1 hB0 hW hwo hfilt
  go_enter Try.func66, Try.ntmps66
  go_wp2_with fail
  rw [← HW.out]
  refine HWO.out.mono ?_
  rintro e w2 ⟨v2, rfl, hr2⟩
  obtain ⟨_, av2, cv2, rfl, _⟩ := ownsRow_slI hr2.1
  obtain ⟨NL, hNL⟩ : ∃ NL, NL = w2.heap.size := ⟨_, rfl⟩
  have H0 : Hid (ColW w (w2.alloc (.cells #[.int .i64 V, .slice av2 fs.length cv2] 29)) V1 (.slice a1 ls.length cap1) NL V fs av2 cv2 [] (.slice none 0 0)) := hid (by
    have hB := HBW.out.trans (hr2.2.mono HBW.out.size)
    have hs := lt_get R1.out
    have hs2 := hr2.2.size
    have al := fun k (hk : k < w2.heap.size) => Below.heap_alloc w2 (.cells #[.int .i64 V, .slice av2 fs.length cv2] 29) k hk
    refine ⟨(al _ (by omega)).trans ((hr2.2.block _ (lt_get Q1.out)).trans Q1.out), (al _ (by omega)).trans ((hr2.2.block _ hs).trans R1.out), by rw [hNL]; exact heap_alloc_new _ _, ?_, World.ownsRow_nil _ _ _ _, hB.alloc hB.size _, by omega, by omega, by omega⟩
    exact (ownsRow_base hr2.1 HBW.out.size).alloc _)
  clear hr2 k0 k1 Q1 R1 HWO
  go_wp2_with fail
  rw [← hNL]
  clear hNL
  go_loopg [7] fs.length (fun g p wr => ∃ (n : Nat) (cur : List Int) (P : List (Int × Int)) (av : Option Addr) (cv : Nat), Hid (cur.length ≤ g) ∧ Hid (ColAt ls fs n cur P) ∧ Hid (ColW w wr V1 (.slice a1 ls.length cap1) NL V cur av cv P p))
  case atStart => exact ⟨0, fs, [], av2, cv2, hid (Nat.le_refl _), hid (ColAt.start ls fs), H0⟩
  case round =>
    clear H0
    obtain ⟨n, cur, P, av, cv, Hg, HA, HC⟩ := hrel
    obtain ⟨k0, k1, _, _⟩ := two_of HC.out.left
    obtain ⟨l0, l1, _, _⟩ := two_of HC.out.lbox
    have hcl : cur.length ≤ 1048576 := Nat.le_trans HA.out.sub.length_le hl
    have Hcf := hid (fun x hx => Hf.out x (HA.out.sub.subset hx))
    have HFI := hid (first_any V av cv cur V1 a1 cap1 ls wr (owned_slI HC.out.row) (Hx1.out.later HC.out.below HC.out.below.size) hcl hl1 Hcf.out)
    have Heq := eq_pairF
    cases hfp : firstP cur ls with
    | none =>
      rw [hfp] at HFI
      simp only [prO, Option.getD_none] at HFI
      have HE := hid (HA.out.stop hfp)
      clear hfp
      go_wp2_with fail
      refine HFI.out.mono ?_
      rintro e w3 ⟨rfl, hB3⟩
      have HC3 := hid (HC.out.keep (hB3.alloc hB3.size (.cells #[.int .i64 0, .int .i64 0] 63)))
      obtain ⟨c0, c1, f0, f1⟩ := two_of HC3.out.res
      obtain ⟨j0, j1, _, _⟩ := two_of HC3.out.left
      clear k0 k1 l0 l1 hB3
      go_wp2_with fail
      (try simp only [Exit.inBlock, Exit.then])
      have R3 := two_of (two_set HC3.out.res (.int .i64 V) (.slice av cur.length cv))
      refine done_cx (p := 4) (u := 5) (by kernel_rfl) rfl rfl R3.1 R3.2.1 rfl ?_
      have hx := row_ne_any HC3.out.row HC3.out.res (by decide)
      have hy := row_ne_any HC3.out.prs HC3.out.res (by decide)
      have hBf := (HC3.out.below.setCell (p := ⟨w.heap.size + 1 + 1, 0, none⟩) (by show w.heap.size ≤ w.heap.size + 1 + 1; omega) (.int .i64 V)).setCell (p := ⟨w.heap.size + 1 + 1, 1, none⟩) (by show w.heap.size ≤ w.heap.size + 1 + 1; omega) (.slice av cur.length cv)
      have hr3 := ownsRow_set (ownsRow_set HC3.out.row (a := ⟨w.heap.size + 1 + 1, 0, none⟩) (fun e => hx e.symm) (.int .i64 V)) (a := ⟨w.heap.size + 1 + 1, 1, none⟩) (fun e => hx e.symm) (.slice av cur.length cv)
      have hp3 := ownsRow_set (ownsRow_set HC3.out.prs (a := ⟨w.heap.size + 1 + 1, 0, none⟩) (fun e => hy e.symm) (.int .i64 V)) (a := ⟨w.heap.size + 1 + 1, 1, none⟩) (fun e => hy e.symm) (.slice av cur.length cv)
      rw [HE.out]
      exact ⟨_, _, rfl, ⟨hr3, hBf⟩, ⟨hp3, hBf⟩, apart_ty hr3 hp3 (by decide)⟩
    | some p =>
      rw [hfp] at HFI
      obtain ⟨x, y⟩ := p
      simp only [prO, Option.getD_some] at HFI
      have hfs := firstP_some hfp
      have hxr := Hcf.out x hfs.1
      have HT := hid (take_free (p := (x, y)) Hcf.out hfs.1 hfs.2.1 hfs.2.2.1)
      have HA2 := hid (HA.out.step hfp)
      have Hlt := hid (take_lt hfs.1)
      have hx0 : (x == 0) = false := by simp; omega
      have hPl : P.length ≤ 1048576 := by have := HA.out.plen; have := HA.out.len; omega
      simp only at HT HA2 Hlt
      obtain ⟨ys, hys⟩ : ∃ ys, ys = takeL cur x := ⟨_, rfl⟩
      rw [← hys] at HT HA2 Hlt
      clear hfp hfs hys
      go_wp2_with fail
      refine HFI.out.mono ?_
      rintro e w3 ⟨rfl, hB3⟩
      obtain ⟨w4, hw4⟩ : ∃ w4, w4 = w3.alloc (.cells #[.int .i64 x, .int .i64 y] 63) := ⟨_, rfl⟩
      have HC4 := hid (show ColW w w4 V1 (.slice a1 ls.length cap1) NL V cur av cv P _ by rw [hw4]; exact HC.out.keep (hB3.alloc hB3.size (.cells #[.int .i64 x, .int .i64 y] 63)))
      have P4 := hid (show w4.heap[w3.heap.size]? = some (.cells #[.int .i64 x, .int .i64 y] 63 (0, 0)) by rw [hw4]; exact heap_alloc_new _ _)
      have HW4 := hid hw4
      obtain ⟨j0, j1, _, _⟩ := two_of HC4.out.left
      obtain ⟨p0, p1, _, _⟩ := two_of P4.out
      have hs3 := hB3.size
      clear k0 k1 l0 l1 hB3 hw4
      go_wp2_with fail
      rw [← HW4.out]
      have HpW := hid (pair_slI P4.out)
      have HrW := hid (owned_slI HC4.out.row)
      go_region_with (go_at_call 62; refine (wo_any V av cv cur _ 2 [x, y] w4.drew HrW.out HpW.out hcl (by simp)).mono ?_; rintro e w5 ⟨v, rfl, hr⟩; rw [← HT.out] at hr; obtain ⟨_, a5, c5, rfl, _⟩ := ownsRow_slI hr.1; have hrb : Below w4.heap.size w4 w5 := ⟨hr.2.os, hr.2.tape, hr.2.output, hr.2.size, hr.2.block⟩; have HC5 := hid (HC4.out.keep hrb); obtain ⟨i0, i1, g0, g1⟩ := two_of HC5.out.left; have hr5 := hid hr.1; have P5 := hid ((hrb.block _ (lt_get P4.out)).trans P4.out); clear hr hrb)
      all_goals
        obtain ⟨w6, hw6⟩ : ∃ w6, w6 = (w5.setCell ⟨NL, 0, none⟩ (.int .i64 V)).setCell ⟨NL, 1, none⟩ (.slice a5 ys.length c5) := ⟨_, rfl⟩
        have HC6 := hid (HC5.out.put (ownsRow_base hr5.out HC4.out.below.size))
        have hne : w3.heap.size ≠ NL := by
          intro e
          have h1 := P5.out
          rw [e, HC5.out.left] at h1
          simp at h1
        have P6 := hid (show w6.heap[w3.heap.size]? = some (.cells #[.int .i64 x, .int .i64 y] 63 (0, 0)) by rw [hw6]; exact (Below.heap_setCell _ _ _ _ hne).trans ((Below.heap_setCell _ _ _ _ hne).trans P5.out))
        rw [← hw6] at HC6
        rw [← hw6]
        obtain ⟨b0, b1, _, _⟩ := two_of P6.out
        have hown6 := HC6.out.prs
        have hs6 := HC6.out.below.size
        clear i0 i1 g0 g1 j0 j1 p0 p1 hw6 HC5 P5 hr5
        go_wp2_with (at_builtin; refine append_pair rfl rfl hown6 hs6 (by omega) rfl rfl ?_; intro v' w7 hown7 hgrow7 hB7)
        go_roundg ys.length
        case measure => have h1 := Hg.out; have h2 := Hlt.out; omega
        case rel => exact ⟨n + 1, ys, P ++ [(x, y)], a5, c5, hid (Nat.le_refl _), HA2, hid (HC6.out.push hgrow7 hown7)⟩

end Go.Proofs.Ytojnpacklcajpaa

/-! The model's l05First. -/
namespace Go.Proofs.Ytojnpacklcajpaa
open Go.RowKit

/-- The model's walk over the faces, told as the first of the free pairs. -/
theorem firstP_hit {fs ls : List Int} {k : Nat} {f : Int} (hlt : k < fs.length) (hf : fs[k]?.getD 0 = f) (hg : freeG fs f.toNat ≠ 0) (hl : f ∉ ls) (hpre : ∀ p ∈ freeP fs (fs.take k), p.1 ∈ ls) : firstP fs ls = some (f, freeG fs f.toNat) := by
  have e : freeP fs fs = freeP fs (fs.take k) ++ ((f, freeG fs f.toNat) :: freeP fs (fs.drop (k + 1))) := by
    have hs := split_at hlt
    rw [hf] at hs
    have h2 : ∀ a b : List Int, freeP fs (a ++ b) = freeP fs a ++ freeP fs b := fun a b => by simp [freeP]
    have h3 : freeP fs (f :: fs.drop (k + 1)) = (f, freeG fs f.toNat) :: freeP fs (fs.drop (k + 1)) := by simp [freeP, hg]
    have : freeP fs fs = freeP fs (fs.take k ++ f :: fs.drop (k + 1)) := congrArg (freeP fs) hs
    rw [this, h2, h3]
  rw [firstP_pre e hpre, List.find?_cons]
  simp [hl]
theorem firstP_end {fs ls : List Int} (hpre : ∀ p ∈ freeP fs fs, p.1 ∈ ls) : firstP fs ls = none := List.find?_eq_none.2 (fun p hp => by simpa using hpre p hp)

set_option maxRecDepth 100000 in
set_option maxHeartbeats 4000000 in
theorem firstS_any (V : Int) (a0 : Option Addr) (cap : Nat) (fs : List Int) (V1 : Int) (a1 : Option Addr) (cap1 : Nat) (ls : List Int) (w : World) (hx : SlI w w.heap.size a0 fs) (hx1 : SlI w w.heap.size a1 ls) (hl : fs.length ≤ 1048576) (hl1 : ls.length ≤ 1048576) (hf : ∀ x ∈ fs, 1 ≤ x ∧ x ≤ 63) (hL : LowIn fs ls) :
    Calls Try.prog 95 #[.agg #[.int .i64 V, .slice a0 fs.length cap], .agg #[.int .i64 V1, .slice a1 ls.length cap1]] w fun e w' => e = .returned (.tuple #[.agg #[.int .i64 (prO (firstP fs ls)).1, .int .i64 (prO (firstP fs ls)).2], .bool (firstP fs ls).isSome]) ∧ Below w.heap.size w w' := by
  have hB0 : Below w.heap.size w (((w.alloc (.cells #[.int .i64 V, .slice a0 fs.length cap] 29)).alloc (.cells #[.int .i64 V1, .slice a1 ls.length cap1] 29)).alloc (.cells #[.int .i64 0, .int .i64 0] 63)) := (((Below.refl _ w).alloc (Nat.le_refl _) _).alloc (by simp) _).alloc (by simp <;> omega) _
  obtain ⟨W, hW⟩ : ∃ W, W = ((w.alloc (.cells #[.int .i64 V, .slice a0 fs.length cap] 29)).alloc (.cells #[.int .i64 V1, .slice a1 ls.length cap1] 29)).alloc (.cells #[.int .i64 0, .int .i64 0] 63) := ⟨_, rfl⟩
  have Q0 := hid (show W.heap[w.heap.size]? = some (.cells #[.int .i64 V, .slice a0 fs.length cap] 29 (0, 0)) by rw [hW, Below.heap_alloc _ _ _ (by simp <;> omega), Below.heap_alloc _ _ _ (by simp)]; exact heap_alloc_new _ _)
  have Q1 := hid (show W.heap[w.heap.size + 1]? = some (.cells #[.int .i64 V1, .slice a1 ls.length cap1] 29 (0, 0)) by rw [hW, Below.heap_alloc _ _ _ (by simp)]; exact new2 _ _ _)
  have R1 := hid (show W.heap[w.heap.size + 1 + 1]? = some (.cells #[.int .i64 0, .int .i64 0] 63 (0, 0)) by rw [hW]; exact new3 _ _ _ _)
  have HBW : Hid (Below w.heap.size w W) := hid (by rw [hW]; exact hB0)
  have HWs : Hid (w.heap.size + 1 + 1 < W.heap.size) := hid (lt_get R1.out)
  have HW := hid hW
  have Hx0 := hid hx
  have Hx1 := hid hx1
  have Hf := hid hf
  have HL := hid hL
  obtain ⟨F, hF⟩ : ∃ F, F = firstP fs ls := ⟨_, rfl⟩
  rw [← hF]
  have HF := hid hF
  clear hf hx hx1 hB0 hW hL hF
  go_enter Try.func95, Try.ntmps95
  go_wp2_with fail
  rw [← HW.out]
  go_loopg [6] fs.length (fun g i wr => ∃ k : Nat, k + g = fs.length ∧ i = .int .i64 k ∧ Hid (∀ p ∈ freeP fs (fs.take k), p.1 ∈ ls) ∧ Below W.heap.size W wr)
  case atStart => exact ⟨0, by omega, rfl, hid (by simp [freeP]), Below.refl _ _⟩
  case round =>
    obtain ⟨k, hkg, rfl, Hpre, hB⟩ := hrel
    have hws := HWs.out
    obtain ⟨k0, k1, _, _⟩ := two_of ((hB.block _ (lt_get Q0.out)).trans Q0.out)
    have HR := hid ((hB.block _ (lt_get R1.out)).trans R1.out)
    have HQ := hid ((hB.block _ (lt_get Q1.out)).trans Q1.out)
    have HBw := hid (HBW.out.trans (hB.mono HBW.out.size))
    have hsz := hB.size
    cases gk with
    | zero =>
      obtain rfl : k = fs.length := by omega
      rw [List.take_of_length_le (Nat.le_refl _)] at Hpre
      have HE := hid (HF.out.trans (firstP_end Hpre.out))
      obtain ⟨c0, c1, f0, f1⟩ := two_of HR.out
      go_wp2_with fail
      (try simp only [Exit.inBlock, Exit.then])
      have R3 := two_of (two_set HR.out (.int .i64 0) (.int .i64 0))
      refine done_pr (p := 4) (u := 5) (c := .bool false) (by kernel_rfl) rfl rfl R3.1 R3.2.1 rfl ⟨by rw [HE.out]; rfl, ?_⟩
      exact (HBw.out.setCell (p := ⟨w.heap.size + 1 + 1, 0, none⟩) (by show w.heap.size ≤ w.heap.size + 1 + 1; omega) _).setCell (p := ⟨w.heap.size + 1 + 1, 1, none⟩) (by show w.heap.size ≤ w.heap.size + 1 + 1; omega) _
    | succ g =>
      have hlt : k < fs.length := by omega
      obtain ⟨b, off, hb, rfl, hc⟩ : ∃ b off, b < w.heap.size ∧ a0 = some ⟨b, off, none⟩ ∧ ∀ i, i < fs.length → w.cell? ⟨b, off + i, none⟩ = some (.int .i64 (fs[i]?.getD 0)) := by
        rcases Hx0.out with rfl | h
        · simp at hlt
        · exact h
      obtain ⟨f, hf⟩ : ∃ f : Nat, (f : Int) = fs[k]?.getD 0 := ⟨(fs[k]?.getD 0).toNat, by have := Hf.out _ (getD_mem hlt); omega⟩
      have hfr := Hf.out _ (getD_mem hlt)
      have hfm := getD_mem hlt
      rw [← hf] at hfr hfm
      have hf64 : f < 64 := by omega
      have hck : wr.cell? ⟨b, off + k, none⟩ = some (.int .i64 (f : Int)) := by rw [hf]; exact (HBw.out.cell (p := ⟨b, off + k, none⟩) hb).trans (hc k hlt)
      have hi0 : (0 : Int) ≤ (k : Int) := by omega
      have hi1 : (k : Int) < (fs.length : Int) := by omega
      have Hn : Hid (freeP fs (fs.take (k + 1)) = freeP fs (fs.take k) ++ (if freeG fs f = 0 then [] else [((f : Int), freeG fs f)])) := hid (by rw [take_snoc hlt, freeP_snoc, ← hf, Int.toNat_natCast])
      have hgr := freeG_rng (f := f) Hf.out
      have Hcf := hid (free_any V (some ⟨b, off, none⟩) cap fs f wr (Hx0.out.later HBw.out HBw.out.size) hl Hf.out hf64)
      have Hhit := hid (fun hg hl => firstP_hit (ls := ls) hlt hf.symm (by rw [Int.toNat_natCast]; exact hg) hl Hpre.out)
      have Hmem : Hid (freeG fs f ≠ 0 → ((f : Int), freeG fs f) ∈ freeP fs fs) := hid (fun hg => mem_freeP.2 ⟨hfm, by rw [Int.toNat_natCast]; exact hg, by simp⟩)
      rw [Int.toNat_natCast] at Hhit
      obtain ⟨G, hG⟩ : ∃ G, G = freeG fs f := ⟨_, rfl⟩
      rw [← hG] at Hn hgr Hcf Hhit Hmem
      clear hc hf hG hfm
      go_wp2_with fail
      refine Hcf.out.mono ?_
      rintro e w2 ⟨rfl, hB2⟩
      have hs2 := hB2.size
      have HB2 := hid (hB.trans (hB2.mono hsz))
      by_cases hG : G = 0
      · subst hG
        have HP : Hid (freeP fs (fs.take (k + 1)) = freeP fs (fs.take k)) := hid (Hn.out.trans (by simp))
        clear Hn k0 k1 hck hB hB2
        go_wp2_with fail
        go_roundg g
        case measure => omega
        case rel => exact ⟨k + 1, by omega, by go_num, by rw [HP.out]; exact Hpre, HB2.out⟩
      · have hG0 : 0 < G := by omega
        have HP : Hid (freeP fs (fs.take (k + 1)) = freeP fs (fs.take k) ++ [((f : Int), G)]) := hid (Hn.out.trans (by rw [if_neg hG]))
        have HQ2 := hid ((hB2.block _ (lt_get HQ.out)).trans HQ.out)
        have HR2 := hid ((hB2.block _ (lt_get HR.out)).trans HR.out)
        have HB02 := hid (HBw.out.trans (hB2.mono HBw.out.size))
        have Hmm := hid (Hmem.out hG)
        have HhG := hid (Hhit.out hG)
        obtain ⟨l0, l1, _, _⟩ := two_of HQ2.out
        clear Hn k0 k1 hck hB hB2 hG Hmem Hhit
        by_cases hfl : (f : Int) ∈ ls
        · have Hfl := hid hfl
          clear hfl
          go_wp2_with fail
          refine (has_yes V1 (f : Int) a1 cap1 ls _ (Hx1.out.later HB02.out HB02.out.size) hl1 Hfl.out).mono ?_
          rintro e w3 ⟨rfl, hB3⟩
          have HB3 := hid (HB2.out.trans (hB3.mono (by omega)))
          clear l0 l1 hB3
          go_wp2_with fail
          go_roundg g
          case measure => omega
          case rel =>
            refine ⟨k + 1, by omega, by go_num, hid ?_, HB3.out⟩
            intro p hp
            rw [HP.out] at hp
            rcases List.mem_append.1 hp with h | h
            · exact Hpre.out p h
            · simp at h; subst h; exact Hfl.out
        · have Hfl := hid hfl
          have HGl : Hid (G ∉ ls) := hid (fun e => hfl (HL.out _ Hmm.out e))
          have HE := hid (HF.out.trans (HhG.out hfl))
          clear hfl
          go_wp2_with fail
          refine (has_no V1 (f : Int) a1 cap1 ls _ (Hx1.out.later HB02.out HB02.out.size) hl1 Hfl.out).mono ?_
          rintro e w3 ⟨rfl, hB3⟩
          have hs3 := hB3.size
          have HB03 := hid (HB02.out.trans (hB3.mono HB02.out.size))
          have HQ3 := hid ((hB3.block _ (lt_get HQ2.out)).trans HQ2.out)
          have HR3 := hid ((hB3.block _ (lt_get HR2.out)).trans HR2.out)
          clear l0 l1 hB3
          obtain ⟨l0, l1, _, _⟩ := two_of HQ3.out
          go_wp2_with fail
          refine (has_no V1 G a1 cap1 ls _ (Hx1.out.later HB03.out HB03.out.size) hl1 HGl.out).mono ?_
          rintro e w4 ⟨rfl, hB4⟩
          have HB04 := hid (HB03.out.trans (hB4.mono HB03.out.size))
          have HR4 := hid ((hB4.block _ (lt_get HR3.out)).trans HR3.out)
          obtain ⟨c0, c1, f0, f1⟩ := two_of HR4.out
          clear l0 l1 hB4
          go_wp2_with fail
          (try simp only [Exit.inBlock, Exit.then])
          have R3 := two_of (two_set HR4.out (.int .i64 (f : Int)) (.int .i64 G))
          refine done_pr (p := 4) (u := 5) (c := .bool true) (by kernel_rfl) rfl rfl R3.1 R3.2.1 rfl ⟨by rw [HE.out]; rfl, ?_⟩
          exact (HB04.out.setCell (p := ⟨w.heap.size + 1 + 1, 0, none⟩) (by show w.heap.size ≤ w.heap.size + 1 + 1; omega) _).setCell (p := ⟨w.heap.size + 1 + 1, 1, none⟩) (by show w.heap.size ≤ w.heap.size + 1 + 1; omega) _

end Go.Proofs.Ytojnpacklcajpaa

/-! Joins: copies of lists. -/
namespace Go.Proofs.Ytojnpacklcajpaa
open Go.RowKit

/-- 'append([]int64{}, list...)' of a list that lies in memory. -/
theorem append_all {w : World} {ops : Array Oper} {rest : List Oper} {o : Oper} {a : Act} {Q : Exit → Act → World → Prop} (hgd : o.guard = none) {s y : Operand}
    (ho : o.op = .call { callee := .builtin .append, args := #[s, y], argTypes := #[22, 22] })
    {b off cap : Nat} {xs : List Int} (hl : xs.length ≤ 1048576) (hc : ∀ i, i < xs.length → w.cell? ⟨b, off + i, none⟩ = some (.int .i64 (xs[i]?.getD 0)))
    (hs : a.eval s = .slice (some ⟨w.heap.size, 0, none⟩) 0 0) (hy : a.eval y = .slice (some ⟨b, off, none⟩) xs.length cap)
    (hK : ∀ v' w', w'.ownsRow w.heap.size 2 1 v' xs.length (xs.map (Value.int .i64)) → Below w.heap.size w w' → (v' = .slice none 0 0 → False) → wpList Try.prog ops Q rest (a.put o.dst v') w') :
    wpList Try.prog ops Q (o :: rest) a (w.alloc (.cells #[] 2)) := by
  obtain ⟨i0, hi, hz0, hz1, hz2⟩ := info_parts info_i64
  refine wpList_append_own _ hgd s y 22 ho w.heap.size 2 i0 (.int .i64 0) 1 8 Try.underlying22 hi hz0 hz1 hz2 rfl (by decide) (.slice (some ⟨w.heap.size, 0, none⟩) 0 0) 0 [] hs (World.ownsRow_made w #[] 0 (Nat.le_refl _) (Nat.zero_le _) rfl) ⟨b, off, none⟩ xs.length cap (xs.map (Value.int .i64)) hy (by simp) ?_ (fun u hu => by obtain ⟨x, _, rfl⟩ := List.mem_map.1 hu; rfl) (by unfold maxLen; omega) (by omega) (by simp) ?_
  · intro j u hj
    have hjn : j < xs.length := by
      have := (List.getElem?_eq_some_iff.1 hj).1
      simpa using this
    rw [Addr.add_lit]
    refine (World.cell?_alloc_some w _ _ (show (w.cell? _).isSome = true by rw [hc j hjn]; rfl)).trans ?_
    rw [hc j hjn, ← hj]
    simp [List.getElem?_eq_getElem hjn]
  · intro v' w1 hown hgrow hnil
    refine hK v' w1 (by simpa using hown) (((Below.refl _ w).alloc (Nat.le_refl _) _).grown hgrow (by simp) (by intro k hk; simp [Value.ownBlock] at hk; omega)) (fun e => ?_)
    have := (hnil.1 e).1
    simp at this

theorem own_any (a0 : Option Addr) (cap : Nat) (xs : List Int) (w : World) (hx : SlI w w.heap.size a0 xs) (hl : xs.length ≤ 1048576) :
    Calls Try.prog 103 #[.slice a0 xs.length cap] w fun e w' => ∃ v, e = .returned v ∧ Res w w' v xs := by
  rcases hx with rfl | ⟨b, off, hb, rfl, hc⟩
  · have hr : Res w (w.alloc (.cells #[] 2)) (.slice (some ⟨w.heap.size, 0, none⟩) 0 0) [] := ⟨World.ownsRow_made w #[] 0 (Nat.le_refl _) (Nat.zero_le _) rfl, (Below.refl _ w).alloc (Nat.le_refl _) _⟩
    have Hr := hid hr
    clear hr
    cases a0 with
    | none =>
      go_enter Try.func103, Try.ntmps103
      go_wp2_with fail
      go_ret
      exact ⟨_, rfl, Hr.out⟩
    | some ad =>
      go_enter Try.func103, Try.ntmps103
      go_wp2_with fail
      go_ret
      exact ⟨_, rfl, Hr.out⟩
  · have Hc := hid hc
    clear hc
    go_enter Try.func103, Try.ntmps103
    go_wp2_with (at_builtin; refine append_all rfl rfl hl Hc.out rfl rfl ?_; intro v' w1 hown hB _)
    go_ret
    exact ⟨v', rfl, hown, hB⟩

/-- step_append_new in a plain region. -/
theorem plain_append_new {W : World} {H : Nat} {ops : Array Oper} {rest : List Oper} {o : Oper} {a : Act} {Q : Exit → Act → World → Prop} (hgd : o.guard = none) {s y : Operand}
    (ho : o.op = .call { callee := .builtin .append, args := #[s, y], argTypes := #[22, 22] })
    {base : Nat} {v : Value} {xs : List Int} {x : Int} (hown : W.ownsRow base 2 1 v xs.length (xs.map (Value.int .i64))) (hH : W.heap.size = H) (hbase : base ≤ H) (hl : xs.length ≤ 1099511627776)
    (hs : a.eval s = v) (hy : a.eval y = .slice (some ⟨H, 0, none⟩) 1 1)
    (hK : ∀ g cap w', w'.ownsRow base 2 1 (.slice (some ⟨g, 0, none⟩) (xs ++ [x]).length cap) (xs ++ [x]).length ((xs ++ [x]).map (Value.int .i64)) → (W.alloc (.cells #[.int .i64 x] 2)).grownBy w' v.ownBlock →
      wpList Try.prog ops Q rest (a.put o.dst (.slice (some ⟨g, 0, none⟩) (xs ++ [x]).length cap)) w') :
    wpList Try.prog ops Q (o :: rest) a (W.alloc (.cells #[.int .i64 x] 2)) := by
  subst hH
  obtain ⟨i0, hi, hz0, hz1, hz2⟩ := info_parts info_i64
  refine wpList_append_lies (W.alloc (.cells #[.int .i64 x] 2)) hgd s y 22 ho base 2 i0 (.int .i64 0) 1 8 Try.underlying22 hi hz0 hz1 hz2 rfl (by decide) v _ _ hs (hown.alloc _) ⟨W.heap.size, 0, none⟩ 1 1 [.int .i64 x] hy rfl (cell_one_new _ _ _) (by simp [Value.oneCell']) (by decide) (by unfold maxLen; omega) (by omega) (by simp; omega) _ rfl ?_
  intro g cap w1 hown1 hg _ _
  have e : (xs ++ [x]).length = xs.length + 1 := by simp
  have h := hK g cap w1 (by rw [e]; simpa using hown1) hg
  rw [e] at h
  exact h

end Go.Proofs.Ytojnpacklcajpaa

/-! l01Copy: the model's copy of a complex. -/
namespace Go.Proofs.Ytojnpacklcajpaa
open Go.RowKit

set_option maxRecDepth 100000 in
set_option maxHeartbeats 2000000 in
theorem copy_any (V : Int) (a0 : Option Addr) (cap : Nat) (fs : List Int) (w : World) (hx : SlI w w.heap.size a0 fs) (hl : fs.length ≤ 1048576) :
    Calls Try.prog 71 #[.agg #[.int .i64 V, .slice a0 fs.length cap]] w fun e w' => ∃ v, e = .returned (.agg #[.int .i64 V, v]) ∧ Res w w' v fs := by
  have hB0 : Below w.heap.size w ((w.alloc (.cells #[.int .i64 V, .slice a0 fs.length cap] 29)).alloc (.cells #[.int .i64 0, .slice none 0 0] 29)) := ((Below.refl _ w).alloc (Nat.le_refl _) _).alloc (by simp) _
  obtain ⟨W, hW⟩ : ∃ W, W = (w.alloc (.cells #[.int .i64 V, .slice a0 fs.length cap] 29)).alloc (.cells #[.int .i64 0, .slice none 0 0] 29) := ⟨_, rfl⟩
  have Q0 := hid (show W.heap[w.heap.size]? = some (.cells #[.int .i64 V, .slice a0 fs.length cap] 29 (0, 0)) by rw [hW, Below.heap_alloc _ _ _ (by simp)]; exact heap_alloc_new _ _)
  have R0 := hid (show W.heap[w.heap.size + 1]? = some (.cells #[.int .i64 0, .slice none 0 0] 29 (0, 0)) by rw [hW]; exact new2 _ _ _)
  have HBW : Hid (Below w.heap.size w W) := hid (by rw [hW]; exact hB0)
  have HxW := hid (hx.later HBW.out HBW.out.size)
  obtain ⟨k0, k1, _, _⟩ := two_of Q0.out
  have HW := hid hW
  clear hB0 hW hx
  go_enter Try.func71, Try.ntmps71
  go_wp2_with fail
  rw [← HW.out]
  go_region_with (go_at_call 103; refine (own_any a0 cap fs W.drew HxW.out hl).mono ?_; rintro e w1 ⟨v, rfl, hr⟩; obtain ⟨_, av, cv, rfl, _⟩ := ownsRow_slI hr.1; have hrb : Below W.heap.size W w1 := ⟨hr.2.os, hr.2.tape, hr.2.output, hr.2.size, hr.2.block⟩; have r1 := (hrb.block _ (lt_get R0.out)).trans R0.out; obtain ⟨c0, c1, f0, f1⟩ := two_of r1; have k01 := (hrb.cell (p := ⟨w.heap.size, 0, none⟩) (lt_get Q0.out)).trans k0; have k11 := (hrb.cell (p := ⟨w.heap.size, 1, none⟩) (lt_get Q0.out)).trans k1; have R1 := hid r1; clear r1 hrb)
  all_goals
    go_wp2_with fail
    (try simp only [Exit.inBlock, Exit.then])
    have R2 := two_of (two_set R1.out (.int .i64 V) (.slice av fs.length cv))
    refine done_cx1 (p := 2) (by kernel_rfl) rfl rfl R2.1 R2.2.1 ⟨_, rfl, ?_⟩
    exact (Res.later hr ⟨HBW.out.os, HBW.out.tape, HBW.out.output, HBW.out.size, HBW.out.block⟩).set2 R1.out (by decide) (by omega) _ _

end Go.Proofs.Ytojnpacklcajpaa

/-! The model's l05Collapse. -/
namespace Go.Proofs.Ytojnpacklcajpaa
open Go.RowKit

set_option maxRecDepth 100000 in
set_option maxHeartbeats 8000000 in
theorem colS_any (V : Int) (a0 : Option Addr) (cap : Nat) (fs : List Int) (V1 : Int) (a1 : Option Addr) (cap1 : Nat) (ls : List Int) (w : World) (hx : SlI w w.heap.size a0 fs) (hx1 : SlI w w.heap.size a1 ls) (hl : fs.length ≤ 1048576) (hl1 : ls.length ≤ 1048576) (hf : ∀ x ∈ fs, 1 ≤ x ∧ x ≤ 63) (hL : ∀ cur : List Int, cur.Sublist fs → LowIn cur ls) :
    Calls Try.prog 63 #[.agg #[.int .i64 V, .slice a0 fs.length cap], .agg #[.int .i64 V1, .slice a1 ls.length cap1]] w fun e w' => ∃ v q, e = .returned (.tuple #[.agg #[.int .i64 V, v], q]) ∧ Res w w' v (colE ls fs).1 ∧ ResP w w' q (colE ls fs).2 ∧ Apart v q := by
  have hB0 : Below w.heap.size w ((((w.alloc (.cells #[.int .i64 V, .slice a0 fs.length cap] 29)).alloc (.cells #[.int .i64 V1, .slice a1 ls.length cap1] 29)).alloc (.cells #[.int .i64 0, .slice none 0 0] 29)).alloc (.cells #[] 63)) := ((((Below.refl _ w).alloc (Nat.le_refl _) _).alloc (by simp) _).alloc (by simp <;> omega) _).alloc (by simp <;> omega) _
  obtain ⟨W, hW⟩ : ∃ W, W = (((w.alloc (.cells #[.int .i64 V, .slice a0 fs.length cap] 29)).alloc (.cells #[.int .i64 V1, .slice a1 ls.length cap1] 29)).alloc (.cells #[.int .i64 0, .slice none 0 0] 29)).alloc (.cells #[] 63) := ⟨_, rfl⟩
  have Q0 := hid (show W.heap[w.heap.size]? = some (.cells #[.int .i64 V, .slice a0 fs.length cap] 29 (0, 0)) by rw [hW, Below.heap_alloc _ _ _ (by simp <;> omega), Below.heap_alloc _ _ _ (by simp <;> omega), Below.heap_alloc _ _ _ (by simp)]; exact heap_alloc_new _ _)
  have Q1 := hid (show W.heap[w.heap.size + 1]? = some (.cells #[.int .i64 V1, .slice a1 ls.length cap1] 29 (0, 0)) by rw [hW, Below.heap_alloc _ _ _ (by simp <;> omega), Below.heap_alloc _ _ _ (by simp)]; exact new2 _ _ _)
  have R1 := hid (show W.heap[w.heap.size + 1 + 1]? = some (.cells #[.int .i64 0, .slice none 0 0] 29 (0, 0)) by rw [hW, Below.heap_alloc _ _ _ (by simp)]; exact new3 _ _ _ _)
  have hown0 := World.ownsRow_made (base := w.heap.size) (e := 63) (size := 2) (((w.alloc (.cells #[.int .i64 V, .slice a0 fs.length cap] 29)).alloc (.cells #[.int .i64 V1, .slice a1 ls.length cap1] 29)).alloc (.cells #[.int .i64 0, .slice none 0 0] 29)) #[] 0 (by simp <;> omega) (by simp [maxLen]) rfl
  rw [← hW] at hown0
  simp only [World.size_alloc] at hown0
  have Hown0 := hid hown0
  have HBW : Hid (Below w.heap.size w W) := hid (by rw [hW]; exact hB0)
  have HW := hid hW
  have Hx0 := hid hx
  have Hx1 := hid hx1
  have Hf := hid hf
  have HL := hid hL
  have HCP := hid (copy_any V a0 cap fs W (Hx0.out.later HBW.out HBW.out.size) hl)
  obtain ⟨k0, k1, z0, z1⟩ := two_of Q0.out
  clear hf hx hx1 hB0 hW hL hown0
  go_enter Try.func63, Try.ntmps63
  go_wp2_with fail
  rw [← HW.out]
  refine HCP.out.mono ?_
  rintro e w2 ⟨v2, rfl, hr2⟩
  obtain ⟨_, av2, cv2, rfl, _⟩ := ownsRow_slI hr2.1
  have Q02 := hid ((hr2.2.block _ (lt_get Q0.out)).trans Q0.out)
  obtain ⟨j0, j1, y0, y1⟩ := two_of Q02.out
  have H0 : Hid (ColW w ((w2.setCell ⟨w.heap.size, 0, none⟩ (.int .i64 V)).setCell ⟨w.heap.size, 1, none⟩ (.slice av2 fs.length cv2)) V1 (.slice a1 ls.length cap1) w.heap.size V fs av2 cv2 [] (.slice (some ⟨w.heap.size + 1 + 1 + 1, 0, none⟩) 0 0)) := hid (by
    have hB := HBW.out.trans (hr2.2.mono HBW.out.size)
    have e : ∀ k, k ≠ w.heap.size → ((w2.setCell ⟨w.heap.size, 0, none⟩ (.int .i64 V)).setCell ⟨w.heap.size, 1, none⟩ (.slice av2 fs.length cv2)).heap[k]? = w2.heap[k]? := fun k hk => (Below.heap_setCell _ _ _ _ hk).trans (Below.heap_setCell _ _ _ _ hk)
    have hp := ownsRow_below Hown0.out hr2.2 (fun g hg => (Hown0.out.lt g hg).2)
    have hx := row_ne_any hr2.1 Q02.out (by decide)
    have hy := row_ne_any hp Q02.out (by decide)
    refine ⟨(e _ (by omega)).trans ((hr2.2.block _ (lt_get Q1.out)).trans Q1.out), (e _ (by omega)).trans ((hr2.2.block _ (lt_get R1.out)).trans R1.out), two_set Q02.out _ _, ?_, ?_, ?_, by omega, by omega, by omega⟩
    · exact ownsRow_set (ownsRow_set (ownsRow_base hr2.1 HBW.out.size) (fun e => hx e.symm) _) (fun e => hx e.symm) _
    · exact ownsRow_set (ownsRow_set (by simpa [flatP] using hp) (fun e => hy e.symm) _) (fun e => hy e.symm) _
    · exact (hB.setCell (p := ⟨w.heap.size, 0, none⟩) (Nat.le_refl _) _).setCell (p := ⟨w.heap.size, 1, none⟩) (Nat.le_refl _) _)
  clear hr2 k0 k1 z0 z1 Q0 Q1 R1 HCP Hown0 Q02
  go_wp2_with fail
  clear j0 j1 y0 y1
  go_loopg [6] fs.length (fun g p wr => ∃ (n : Nat) (cur : List Int) (P : List (Int × Int)) (av : Option Addr) (cv : Nat), Hid (cur.length ≤ g) ∧ Hid (ColAt ls fs n cur P) ∧ Hid (ColW w wr V1 (.slice a1 ls.length cap1) w.heap.size V cur av cv P p))
  case atStart => exact ⟨0, fs, [], av2, cv2, hid (Nat.le_refl _), hid (ColAt.start ls fs), H0⟩
  case round =>
    clear H0
    obtain ⟨n, cur, P, av, cv, Hg, HA, HC⟩ := hrel
    obtain ⟨k0, k1, _, _⟩ := two_of HC.out.left
    obtain ⟨l0, l1, _, _⟩ := two_of HC.out.lbox
    have hcl : cur.length ≤ 1048576 := Nat.le_trans HA.out.sub.length_le hl
    have Hcf := hid (fun x hx => Hf.out x (HA.out.sub.subset hx))
    have HFI := hid (firstS_any V av cv cur V1 a1 cap1 ls wr (owned_slI HC.out.row) (Hx1.out.later HC.out.below HC.out.below.size) hcl hl1 Hcf.out (HL.out cur HA.out.sub))
    cases hfp : firstP cur ls with
    | none =>
      rw [hfp] at HFI
      simp only [prO, Option.getD_none, Option.isSome_none] at HFI
      have HE := hid (HA.out.stop hfp)
      clear hfp
      go_wp2_with fail
      refine HFI.out.mono ?_
      rintro e w3 ⟨rfl, hB3⟩
      have HC3 := hid (HC.out.keep (hB3.alloc hB3.size (.cells #[.int .i64 0, .int .i64 0] 63)))
      obtain ⟨c0, c1, f0, f1⟩ := two_of HC3.out.res
      obtain ⟨j0, j1, _, _⟩ := two_of HC3.out.left
      clear k0 k1 l0 l1 hB3
      go_wp2_with fail
      (try simp only [Exit.inBlock, Exit.then])
      have R3 := two_of (two_set HC3.out.res (.int .i64 V) (.slice av cur.length cv))
      refine done_cx (p := 4) (u := 5) (by kernel_rfl) rfl rfl R3.1 R3.2.1 rfl ?_
      have hx := row_ne_any HC3.out.row HC3.out.res (by decide)
      have hy := row_ne_any HC3.out.prs HC3.out.res (by decide)
      have hBf := (HC3.out.below.setCell (p := ⟨w.heap.size + 1 + 1, 0, none⟩) (by show w.heap.size ≤ w.heap.size + 1 + 1; omega) (.int .i64 V)).setCell (p := ⟨w.heap.size + 1 + 1, 1, none⟩) (by show w.heap.size ≤ w.heap.size + 1 + 1; omega) (.slice av cur.length cv)
      have hr3 := ownsRow_set (ownsRow_set HC3.out.row (a := ⟨w.heap.size + 1 + 1, 0, none⟩) (fun e => hx e.symm) (.int .i64 V)) (a := ⟨w.heap.size + 1 + 1, 1, none⟩) (fun e => hx e.symm) (.slice av cur.length cv)
      have hp3 := ownsRow_set (ownsRow_set HC3.out.prs (a := ⟨w.heap.size + 1 + 1, 0, none⟩) (fun e => hy e.symm) (.int .i64 V)) (a := ⟨w.heap.size + 1 + 1, 1, none⟩) (fun e => hy e.symm) (.slice av cur.length cv)
      rw [HE.out]
      exact ⟨_, _, rfl, ⟨hr3, hBf⟩, ⟨hp3, hBf⟩, apart_ty hr3 hp3 (by decide)⟩
    | some p =>
      rw [hfp] at HFI
      obtain ⟨x, y⟩ := p
      simp only [prO, Option.getD_some, Option.isSome_some] at HFI
      have hfs := firstP_some hfp
      have hxr := Hcf.out x hfs.1
      have HA2 := hid (HA.out.step hfp)
      have Hlt := hid (take_lt hfs.1)
      have hPl : P.length ≤ 1048576 := by have := HA.out.plen; have := HA.out.len; omega
      simp only at HA2 Hlt
      obtain ⟨xn, rfl⟩ : ∃ xn : Nat, x = xn := ⟨x.toNat, by omega⟩
      have hx64 : xn < 64 := by omega
      obtain ⟨ys, hys⟩ : ∃ ys, ys = takeL cur (xn : Int) := ⟨_, rfl⟩
      rw [← hys] at HA2 Hlt
      have Hys := hid hys
      clear hfp hfs hys
      go_wp2_with fail
      refine HFI.out.mono ?_
      rintro e w3 ⟨rfl, hB3⟩
      obtain ⟨w4, hw4⟩ : ∃ w4, w4 = w3.alloc (.cells #[.int .i64 (xn : Int), .int .i64 y] 63) := ⟨_, rfl⟩
      have HC4 := hid (show ColW w w4 V1 (.slice a1 ls.length cap1) w.heap.size V cur av cv P _ by rw [hw4]; exact HC.out.keep (hB3.alloc hB3.size (.cells #[.int .i64 (xn : Int), .int .i64 y] 63)))
      have P4 := hid (show w4.heap[w3.heap.size]? = some (.cells #[.int .i64 (xn : Int), .int .i64 y] 63 (0, 0)) by rw [hw4]; exact heap_alloc_new _ _)
      have HW4 := hid hw4
      obtain ⟨j0, j1, _, _⟩ := two_of HC4.out.left
      obtain ⟨p0, p1, _, _⟩ := two_of P4.out
      have hs3 := hB3.size
      rw [HW4.out] at j0 j1 p0 p1
      clear k0 k1 l0 l1 hB3 hw4
      go_wp2_with fail
      rw [← HW4.out]
      refine (take_any V av cv cur xn w4 (owned_slI HC4.out.row) hcl Hcf.out hx64).mono ?_
      rintro e w5 ⟨v, rfl, hr⟩
      rw [← Hys.out] at hr
      obtain ⟨_, a5, c5, rfl, _⟩ := ownsRow_slI hr.1
      have HC5 := hid (HC4.out.keep hr.2)
      obtain ⟨i0, i1, g0, g1⟩ := two_of HC5.out.left
      have P5 := hid ((hr.2.block _ (lt_get P4.out)).trans P4.out)
      obtain ⟨w6, hw6⟩ : ∃ w6, w6 = (w5.setCell ⟨w.heap.size, 0, none⟩ (.int .i64 V)).setCell ⟨w.heap.size, 1, none⟩ (.slice a5 ys.length c5) := ⟨_, rfl⟩
      have HC6 := hid (HC5.out.put (ownsRow_base hr.1 HC4.out.below.size))
      have hne : w3.heap.size ≠ w.heap.size := by
        intro e
        have h1 := P5.out
        rw [e, HC5.out.left] at h1
        simp at h1
      have P6 := hid (show w6.heap[w3.heap.size]? = some (.cells #[.int .i64 (xn : Int), .int .i64 y] 63 (0, 0)) by rw [hw6]; exact (Below.heap_setCell _ _ _ _ hne).trans ((Below.heap_setCell _ _ _ _ hne).trans P5.out))
      rw [← hw6] at HC6
      obtain ⟨b0, b1, _, _⟩ := two_of P6.out
      rw [hw6] at b0 b1
      have hown6 := HC6.out.prs
      rw [hw6] at hown6
      have hs6 := HC6.out.below.size
      rw [hw6] at hs6
      have hsz6 : ((w5.setCell ⟨w.heap.size, 0, none⟩ (.int .i64 V)).setCell ⟨w.heap.size, 1, none⟩ (.slice a5 ys.length c5)).heap.size = w5.heap.size := by simp [World.setCell]
      clear j0 j1 p0 p1 hr HC5 P5
      go_wp2_with (at_builtin; refine append_pair rfl rfl hown6 hs6 (by omega) rfl (by rw [hsz6]; rfl) ?_; intro v' w7 hown7 hgrow7 hB7)
      go_roundg ys.length
      case measure => have h1 := Hg.out; have h2 := Hlt.out; omega
      case rel => exact ⟨n + 1, ys, P ++ [((xn : Int), y)], a5, c5, hid (Nat.le_refl _), HA2, hid (HC6.out.push (by rw [hw6]; exact hgrow7) hown7)⟩

end Go.Proofs.Ytojnpacklcajpaa

/-! slices.ContainsFunc over a closure with one captured variable; the program's isPart. -/
namespace Go.Proofs.Ytojnpacklcajpaa
open Go.RowKit

set_option maxRecDepth 100000 in
set_option maxHeartbeats 2000000 in
theorem idxg_any (a : Option Addr) (cap : Nat) (xs : List Int) (w : World) (fid : Nat) (c1 : Value) (p : Int → Bool) (hx : SlI w w.heap.size a xs) (hl : xs.length ≤ 1048576)
    (hent : ∀ args w, (callFunc fid args).run Try.prog w = .ok (.enter fid args) w)
    (hcl : ∀ W' x, Below w.heap.size w W' → x ∈ xs → Calls Try.prog fid #[.int .i64 x, c1] W' fun e w' => e = .returned (.bool (p x)) ∧ Below W'.heap.size W' w') :
    Calls Try.prog 116 #[.slice a xs.length cap, .func (.func fid) #[] #[c1]] w fun e w' => ∃ i : Int, e = .returned (.int .i64 i) ∧ -1 ≤ i ∧ (0 ≤ i ↔ ∃ x ∈ xs, p x = true) ∧ Below w.heap.size w w' := by
  rcases hx with rfl | ⟨b, off, hb, rfl, hc⟩
  · clear hcl
    go_enter Try.func116, Try.ntmps116
    go_wp2
    refine wp_loop_rounds 1 ?_; rw [rounds_succ]
    go_wp2
    go_ret
    exact ⟨-1, rfl, by decide, by simp, Below.refl _ _⟩
  · have Hc := hid hc
    have Hcl := hid hcl
    clear hc hcl
    go_enter Try.func116, Try.ntmps116
    go_wp2
    go_loopw [8] (fun i wr => ∃ k : Nat, k ≤ xs.length ∧ i = .int .i64 k ∧ Hid (∀ x ∈ xs.take k, p x = false) ∧ Below w.heap.size w wr) (fun i _ => xs.length - (intOf i).toNat)
    case atStart => exact ⟨0, Nat.zero_le _, rfl, hid (by simp), Below.refl _ _⟩
    case round =>
      obtain ⟨k, hk, rfl, Hk, hB⟩ := hrel
      by_cases hlt : k < xs.length
      · obtain ⟨y, hy⟩ : ∃ y, y = xs[k]?.getD 0 := ⟨_, rfl⟩
        have hck : wr.cell? ⟨b, off + k, none⟩ = some (.int .i64 y) := by rw [hy]; exact (hB.cell (p := ⟨b, off + k, none⟩) hb).trans (Hc.out k hlt)
        have hym : y ∈ xs := by rw [hy]; exact getD_mem hlt
        have Hy := hid hy
        have hi0 : (0 : Int) ≤ (k : Int) := by omega
        have hi1 : (k : Int) < (xs.length : Int) := by omega
        have Hcall := hid (Hcl.out wr y hB hym)
        have hsz := hB.size
        clear hy
        go_wp2_with fail
        refine Hcall.out.mono ?_
        rintro e w1 ⟨rfl, hB1⟩
        have HB1 := hid (hB.trans (hB1.mono hsz))
        clear hck
        by_cases hpy : p y = true
        · have He : Hid (∃ x ∈ xs, p x = true) := hid ⟨y, hym, hpy⟩
          rw [hpy]
          go_wp2_with fail
          go_ret
          exact ⟨k, rfl, by omega, ⟨fun _ => He.out, fun _ => by omega⟩, HB1.out⟩
        · have hpf : p y = false := by simpa using hpy
          have He : Hid (∀ x ∈ xs.take (k + 1), p x = false) := hid (by
            rw [take_snoc hlt, ← Hy.out]
            intro x h
            rcases List.mem_append.1 h with h | h
            · exact Hk.out x h
            · simp at h; rw [h]; exact hpf)
          rw [hpf]
          clear hpy hpf
          go_wp2_with fail
          go_roundw
          case rel => exact ⟨k + 1, by omega, by go_num, He, HB1.out⟩
          case measure => simp [intOf]; omega
      · have He : Hid (¬ ∃ x ∈ xs, p x = true) := hid (by
          have := Hk.out
          rw [List.take_of_length_le (by omega)] at this
          rintro ⟨x, hx, hne⟩
          rw [this x hx] at hne
          cases hne)
        go_wp2
        go_ret
        exact ⟨-1, rfl, by decide, ⟨fun h => absurd h (by decide), fun h => absurd h He.out⟩, hB⟩

set_option maxRecDepth 100000 in
set_option maxHeartbeats 1000000 in
theorem containsg_any (a : Option Addr) (cap : Nat) (xs : List Int) (w : World) (fid : Nat) (c1 : Value) (p : Int → Bool) (hx : SlI w w.heap.size a xs) (hl : xs.length ≤ 1048576)
    (hent : ∀ args w, (callFunc fid args).run Try.prog w = .ok (.enter fid args) w)
    (hcl : ∀ W' x, Below w.heap.size w W' → x ∈ xs → Calls Try.prog fid #[.int .i64 x, c1] W' fun e w' => e = .returned (.bool (p x)) ∧ Below W'.heap.size W' w') :
    Calls Try.prog 96 #[.slice a xs.length cap, .func (.func fid) #[] #[c1]] w fun e w' => e = .returned (.bool (decide (∃ x ∈ xs, p x = true))) ∧ Below w.heap.size w w' := by
  have HI := hid (idxg_any a cap xs w fid c1 p hx hl hent hcl)
  obtain ⟨c, hc⟩ : ∃ c, c = decide (∃ x ∈ xs, p x = true) := ⟨_, rfl⟩
  have Hc := hid hc
  rw [← hc]
  clear hc hx hcl hent
  go_enter Try.func96, Try.ntmps96
  go_wp2_with fail
  refine HI.out.mono ?_
  rintro e w' ⟨i, rfl, h1, h2, hB⟩
  have Hi := hid h2
  have H1 := hid h1
  clear h1 h2
  by_cases h0 : 0 ≤ i
  · have He : Hid (c = true) := hid (by rw [Hc.out]; exact decide_eq_true (Hi.out.1 h0))
    go_wp2_with fail
    go_ret
    exact ⟨ret_bool (by rw [He.out]), hB⟩
  · have He : Hid (c = false) := hid (by rw [Hc.out]; exact decide_eq_false (fun h => h0 (Hi.out.2 h)))
    have hlt : i < 0 := by omega
    go_wp2_with fail
    go_ret
    exact ⟨ret_bool (by rw [He.out]; simp [hlt]), hB⟩

theorem partWanted (fs : List Int) (V : Int) (a0 : Option Addr) (cap : Nat) (bd : Nat) (x : Int) (w : World) (hd : w.heap[bd]? = some (.cells #[.int .i64 V, .slice a0 fs.length cap] 29 (0, 0))) (hx : SlI w w.heap.size a0 fs) (hl : fs.length ≤ 1048576) :
    Calls Try.prog 97 #[.int .i64 x, .pointer (some ⟨bd, 0, none⟩)] w fun e w' => e = .returned (.bool (decide (x ∉ fs))) ∧ Below w.heap.size w w' := by
  have Hc := hid (contains_any a0 cap fs x w hx hl)
  obtain ⟨k0, k1, _, _⟩ := two_of hd
  clear hx hd
  go_enter Try.func97, Try.ntmps97
  go_wp2_with fail
  refine Hc.out.mono ?_
  rintro e w1 ⟨rfl, rfl⟩
  go_wp2_with fail
  go_ret
  exact ⟨ret_bool (by simp), Below.refl _ _⟩

/-- Whether a complex is a part of another one. -/
def partB (V : Int) (fs : List Int) (V1 : Int) (ls : List Int) : Bool := decide (V = V1) && decide (∀ x ∈ ls, x ∈ fs)

set_option maxRecDepth 100000 in
set_option maxHeartbeats 1000000 in
theorem isPart_any (V : Int) (a0 : Option Addr) (cap : Nat) (fs : List Int) (V1 : Int) (a1 : Option Addr) (cap1 : Nat) (ls : List Int) (w : World) (hx : SlI w w.heap.size a0 fs) (hx1 : SlI w w.heap.size a1 ls) (hl : fs.length ≤ 1048576) (hl1 : ls.length ≤ 1048576) :
    Calls Try.prog 65 #[.agg #[.int .i64 V, .slice a0 fs.length cap], .agg #[.int .i64 V1, .slice a1 ls.length cap1]] w fun e w' => e = .returned (.bool (partB V fs V1 ls)) ∧ Below w.heap.size w w' := by
  have hB0 : Below w.heap.size w ((w.alloc (.cells #[.int .i64 V, .slice a0 fs.length cap] 29)).alloc (.cells #[.int .i64 V1, .slice a1 ls.length cap1] 29)) := ((Below.refl _ w).alloc (Nat.le_refl _) _).alloc (by simp) _
  obtain ⟨W, hW⟩ : ∃ W, W = (w.alloc (.cells #[.int .i64 V, .slice a0 fs.length cap] 29)).alloc (.cells #[.int .i64 V1, .slice a1 ls.length cap1] 29) := ⟨_, rfl⟩
  have Q0 := hid (show W.heap[w.heap.size]? = some (.cells #[.int .i64 V, .slice a0 fs.length cap] 29 (0, 0)) by rw [hW, Below.heap_alloc _ _ _ (by simp)]; exact heap_alloc_new _ _)
  have Q1 := hid (show W.heap[w.heap.size + 1]? = some (.cells #[.int .i64 V1, .slice a1 ls.length cap1] 29 (0, 0)) by rw [hW]; exact new2 _ _ _)
  have HBW : Hid (Below w.heap.size w W) := hid (by rw [hW]; exact hB0)
  have HxW := hid (hx.later HBW.out HBW.out.size)
  have Hx1W := hid (hx1.later HBW.out HBW.out.size)
  have HW := hid hW
  obtain ⟨P, hP⟩ : ∃ P, P = partB V fs V1 ls := ⟨_, rfl⟩
  rw [← hP]
  have HP := hid hP
  have HCF := hid (containsg_any a1 cap1 ls W 97 (.pointer (some ⟨w.heap.size, 0, none⟩)) (fun x => decide (x ∉ fs)) Hx1W.out hl1 (enters_of Try.func97 (by kernel_rfl) rfl) (fun W' x hW' _ => partWanted fs V a0 cap w.heap.size x W' ((hW'.block _ (lt_get Q0.out)).trans Q0.out) (HxW.out.later hW' hW'.size) hl))
  obtain ⟨k0, k1, _, _⟩ := two_of Q0.out
  obtain ⟨l0, l1, _, _⟩ := two_of Q1.out
  clear hB0 hW hx hx1 hP
  go_enter Try.func65, Try.ntmps65
  go_wp2_with fail
  rw [← HW.out]
  refine HCF.out.mono ?_
  rintro e w2 ⟨rfl, hB2⟩
  have k02 := (hB2.cell (p := ⟨w.heap.size, 0, none⟩) (lt_get Q0.out)).trans k0
  have l02 := (hB2.cell (p := ⟨w.heap.size + 1, 0, none⟩) (lt_get Q1.out)).trans l0
  have HB := hid (HBW.out.trans (hB2.mono HBW.out.size))
  clear k0 k1 l0 l1 hB2
  by_cases hV : V = V1
  · have hd : (V == V1) = true := by simp [hV]
    have He : Hid (P = !decide (∃ x ∈ ls, decide (x ∉ fs) = true)) := hid (by
      rw [HP.out]
      unfold partB
      rw [decide_eq_true hV, Bool.true_and]
      by_cases h : ∀ x ∈ ls, x ∈ fs
      · rw [decide_eq_true h, decide_eq_false (by rintro ⟨x, hx, hn⟩; simp at hn; exact hn (h x hx))]; rfl
      · rw [decide_eq_false h, decide_eq_true (by
          apply Classical.byContradiction
          intro hn
          apply h
          intro x hx
          apply Classical.byContradiction
          intro hxn
          exact hn ⟨x, hx, by simpa using hxn⟩)]; rfl)
    clear hV
    go_wp2_with fail
    go_ret
    exact ⟨ret_bool (by rw [He.out]; simp), HB.out⟩
  · have hd : (V == V1) = false := by simpa using hV
    have He : Hid (P = false) := hid (by rw [HP.out]; unfold partB; rw [decide_eq_false hV]; rfl)
    clear hV
    go_wp2_with fail
    go_ret
    exact ⟨ret_bool (by rw [He.out]), HB.out⟩

end Go.Proofs.Ytojnpacklcajpaa

/-! CollapseKeeping, CollapseOf, IsCollapsible. -/
namespace Go.Proofs.Ytojnpacklcajpaa
open Go.RowKit

set_option maxRecDepth 100000 in
theorem done_cx3 {fn : Func} {R : Ending → World → Prop} {a : Act} {w : World} {p u t : Tmp} (hr : fn.results = #[.cell p 29, .tmp u, .tmp t]) (hd : a.defers = []) {b o : Nat} {x y c d : Value}
    (hp : a.tmps.getD p undef = .pointer (some ⟨b, o, none⟩)) (h0 : w.cell? ⟨b, o, none⟩ = some x) (h1 : w.cell? ⟨b, o + 1, none⟩ = some y) (hu : a.tmps.getD u undef = c) (ht : a.tmps.getD t undef = d) (hR : R (.returned (.tuple #[.agg #[x, y], c, d])) w) : bodyPost Try.prog fn R .ret a w := by
  refine bodyPost_ret (v := .tuple #[.agg #[x, y], c, d]) ?_ hd hR
  have hp' : a.tmps[p]?.getD undef = .pointer (some ⟨b, o, none⟩) := by simpa using hp
  have hu' : a.tmps[u]?.getD undef = c := by simpa using hu
  have ht' : a.tmps[t]?.getD undef = d := by simpa using ht
  simp [results, hr, hp', hu', ht', asAddr, load_cx h0 h1]

/-- A complex and a list of pairs, in new memory, in rows of their own. -/
def Res2 (w w' : World) (v : Value) (xs : List Int) (q : Value) (L : List (Int × Int)) : Prop := Res w w' v xs ∧ ResP w w' q L ∧ Apart v q

theorem Res2.later {w0 w w' : World} {v q : Value} {xs : List Int} {L : List (Int × Int)} (h : Res2 w w' v xs q L) (h0 : Below w0.heap.size w0 w) : Res2 w0 w' v xs q L := ⟨h.1.later h0, h.2.1.later h0, h.2.2⟩
theorem res2_nil (w w' : World) (h : Below w.heap.size w w') : Res2 w w' (.slice none 0 0) [] (.slice none 0 0) [] := ⟨res_nil _ _ h, resP_nil _ _ h, fun g hg => by simp [Value.ownBlock] at hg⟩
theorem Res2.alloc {w w' : World} {v q : Value} {xs : List Int} {L : List (Int × Int)} (h : Res2 w w' v xs q L) (o : Obj) : Res2 w (w'.alloc o) v xs q L :=
  ⟨⟨h.1.1.alloc o, h.1.2.alloc h.1.2.size o⟩, ⟨h.2.1.1.alloc o, h.1.2.alloc h.1.2.size o⟩, h.2.2⟩
theorem Res2.set2 {w W : World} {sv q : Value} {xs : List Int} {L : List (Int × Int)} (h : Res2 w W sv xs q L) {b : Nat} {cs : Array Value} {fz : Nat × Nat} (hb : W.heap[b]? = some (.cells cs 29 fz)) (hw : w.heap.size ≤ b) (u v : Value) :
    Res2 w ((W.setCell ⟨b, 0, none⟩ u).setCell ⟨b, 1, none⟩ v) sv xs q L := by
  have hy := row_ne_any h.2.1.1 hb (by decide)
  exact ⟨h.1.set2 hb (by decide) hw u v, ⟨ownsRow_set (ownsRow_set h.2.1.1 (fun e => hy e.symm) _) (fun e => hy e.symm) _, (h.1.2.setCell (p := ⟨b, 0, none⟩) hw _).setCell (p := ⟨b, 1, none⟩) hw _⟩, h.2.2⟩

/-- What CollapseKeeping hands back. -/
noncomputable def colKR (V : Int) (fs : List Int) (V1 : Int) (ls : List Int) : Int × List Int × List (Int × Int) × Int :=
  if isCB V fs && isCB V1 ls then (if partB V fs V1 ls then (V, (colE ls fs).1, (colE ls fs).2, 0) else (0, [], [], 5)) else (0, [], [], 1)
theorem colKR_len (V : Int) (fs : List Int) (V1 : Int) (ls : List Int) (h : fs.length ≤ 1048576) : (colKR V fs V1 ls).2.1.length ≤ 1048576 ∧ (colKR V fs V1 ls).2.2.1.length ≤ 1048576 := by
  have := colE_len ls fs
  unfold colKR
  split
  · split
    · exact ⟨by simp only; omega, by simp only; omega⟩
    · simp
  · simp

theorem ck_mono {P : Program} {f : FuncId} {args : Array Value} {w : World} {r : Int × List Int × List (Int × Int) × Int} {U : Int} {xs : List Int} {L : List (Int × Int)} {c : Int} (hr : r = (U, xs, L, c))
    (h : Calls P f args w fun e w' => ∃ v q, e = .returned (.tuple #[.agg #[.int .i64 U, v], q, .int .i64 c]) ∧ Res2 w w' v xs q L) : Calls P f args w fun e w' => ∃ v q, e = .returned (.tuple #[.agg #[.int .i64 r.1, v], q, .int .i64 r.2.2.2]) ∧ Res2 w w' v r.2.1 q r.2.2.1 := by
  subst hr; exact h

set_option maxRecDepth 100000 in
set_option maxHeartbeats 4000000 in
theorem ckI_any (V : Int) (a0 : Option Addr) (cap : Nat) (fs : List Int) (V1 : Int) (a1 : Option Addr) (cap1 : Nat) (ls : List Int) (w : World) (hx : SlI w w.heap.size a0 fs) (hx1 : SlI w w.heap.size a1 ls) (hl : fs.length ≤ 1048576) (hl1 : ls.length ≤ 1048576) :
    Calls Try.prog 32 #[.agg #[.int .i64 V, .slice a0 fs.length cap], .agg #[.int .i64 V1, .slice a1 ls.length cap1]] w fun e w' => ∃ v q, e = .returned (.tuple #[.agg #[.int .i64 (colKR V fs V1 ls).1, v], q, .int .i64 (colKR V fs V1 ls).2.2.2]) ∧ Res2 w w' v (colKR V fs V1 ls).2.1 q (colKR V fs V1 ls).2.2.1 := by
  have hB0 : Below w.heap.size w (((w.alloc (.cells #[.int .i64 V, .slice a0 fs.length cap] 29)).alloc (.cells #[.int .i64 V1, .slice a1 ls.length cap1] 29)).alloc (.cells #[.int .i64 0, .slice none 0 0] 29)) := (((Below.refl _ w).alloc (Nat.le_refl _) _).alloc (by simp) _).alloc (by simp <;> omega) _
  obtain ⟨W, hW⟩ : ∃ W, W = ((w.alloc (.cells #[.int .i64 V, .slice a0 fs.length cap] 29)).alloc (.cells #[.int .i64 V1, .slice a1 ls.length cap1] 29)).alloc (.cells #[.int .i64 0, .slice none 0 0] 29) := ⟨_, rfl⟩
  have Q0 := hid (show W.heap[w.heap.size]? = some (.cells #[.int .i64 V, .slice a0 fs.length cap] 29 (0, 0)) by rw [hW, Below.heap_alloc _ _ _ (by simp <;> omega), Below.heap_alloc _ _ _ (by simp)]; exact heap_alloc_new _ _)
  have Q1 := hid (show W.heap[w.heap.size + 1]? = some (.cells #[.int .i64 V1, .slice a1 ls.length cap1] 29 (0, 0)) by rw [hW, Below.heap_alloc _ _ _ (by simp)]; exact new2 _ _ _)
  have R1 := hid (show W.heap[w.heap.size + 1 + 1]? = some (.cells #[.int .i64 0, .slice none 0 0] 29 (0, 0)) by rw [hW]; exact new3 _ _ _ _)
  have HBW : Hid (Below w.heap.size w W) := hid (by rw [hW]; exact hB0)
  have HW := hid hW
  have Hx0 := hid hx
  have Hx1 := hid hx1
  have Hxw := hid (Hx0.out.later HBW.out HBW.out.size)
  have Hx1w := hid (Hx1.out.later HBW.out HBW.out.size)
  clear hx hx1 hB0 hW
  by_cases hC : IsC V fs
  · have HC := hid hC
    have Hf := hid hC.range63
    by_cases hC1 : IsC V1 ls
    · have HC1 := hid hC1
      have HIP := hid (fun w' (h : Below w.heap.size w w') => isPart_any V a0 cap fs V1 a1 cap1 ls w' (Hx0.out.later h h.size) (Hx1.out.later h h.size) hl hl1)
      by_cases hp : partB V fs V1 ls = true
      · refine ck_mono (show colKR V fs V1 ls = (V, (colE ls fs).1, (colE ls fs).2, 0) by unfold colKR; rw [isCB_true hC, isCB_true hC1, hp]; rfl) ?_
        have HCO := hid (fun w' (h : Below w.heap.size w w') => colI_any V a0 cap fs V1 a1 cap1 ls w' (Hx0.out.later h h.size) (Hx1.out.later h h.size) hl hl1 Hf.out)
        rw [hp] at HIP
        clear hC hC1 hp
        obtain ⟨k0, k1, _, _⟩ := two_of Q0.out
        go_enter Try.func32, Try.ntmps32
        go_wp2_with fail
        rw [← HW.out]
        refine (isc_yes V a0 cap fs _ Hxw.out hl HC.out).mono ?_
        rintro e w1 ⟨rfl, hB1⟩
        have HB1 := hid (HBW.out.trans (hB1.mono HBW.out.size))
        have Q01 := hid ((hB1.block _ (lt_get Q0.out)).trans Q0.out)
        have Q11 := hid ((hB1.block _ (lt_get Q1.out)).trans Q1.out)
        have R11 := hid ((hB1.block _ (lt_get R1.out)).trans R1.out)
        clear k0 k1 hB1
        obtain ⟨l0, l1, _, _⟩ := two_of Q11.out
        go_wp2_with fail
        refine (isc_yes V1 a1 cap1 ls _ (Hx1.out.later HB1.out HB1.out.size) hl1 HC1.out).mono ?_
        rintro e w2 ⟨rfl, hB2⟩
        have HB2 := hid (HB1.out.trans (hB2.mono HB1.out.size))
        have Q02 := hid ((hB2.block _ (lt_get Q01.out)).trans Q01.out)
        have Q12 := hid ((hB2.block _ (lt_get Q11.out)).trans Q11.out)
        have R12 := hid ((hB2.block _ (lt_get R11.out)).trans R11.out)
        clear l0 l1 hB2
        obtain ⟨k0, k1, _, _⟩ := two_of Q02.out
        obtain ⟨l0, l1, _, _⟩ := two_of Q12.out
        go_wp2_with fail
        refine (HIP.out _ HB2.out).mono ?_
        rintro e w3 ⟨rfl, hB3⟩
        have HB3 := hid (HB2.out.trans (hB3.mono HB2.out.size))
        have Q03 := hid ((hB3.block _ (lt_get Q02.out)).trans Q02.out)
        have Q13 := hid ((hB3.block _ (lt_get Q12.out)).trans Q12.out)
        have R13 := hid ((hB3.block _ (lt_get R12.out)).trans R12.out)
        clear k0 k1 l0 l1 hB3
        obtain ⟨k0, k1, _, _⟩ := two_of Q03.out
        obtain ⟨l0, l1, _, _⟩ := two_of Q13.out
        go_wp2_with fail
        refine (HCO.out _ HB3.out).mono ?_
        rintro e w4 ⟨v, q, rfl, hr⟩
        obtain ⟨ys, hys⟩ : ∃ ys, ys = (colE ls fs).1 := ⟨_, rfl⟩
        have Hys := hid hys
        rw [← hys] at hr
        have hr' : Res2 w3 w4 v ys q (colE ls fs).2 := hr
        have HR := hid ((hr'.later HB3.out).alloc (.cells #[.int .i64 V, v] 29))
        have R14 := hid ((Below.heap_alloc w4 (.cells #[.int .i64 V, v] 29) _ (Nat.lt_of_lt_of_le (lt_get R13.out) hr'.1.2.size)).trans ((hr'.1.2.block _ (lt_get R13.out)).trans R13.out))
        obtain ⟨_, av, cv, rfl, _⟩ := ownsRow_slI hr'.1.1
        obtain ⟨c0, c1, f0, f1⟩ := two_of R14.out
        clear k0 k1 l0 l1 hr hr' hys
        go_wp2_with fail
        (try simp only [Exit.inBlock, Exit.then])
        have R3 := two_of (two_set R14.out (.int .i64 V) (.slice av ys.length cv))
        refine done_cx3 (p := 4) (u := 5) (t := 6) (by kernel_rfl) rfl rfl R3.1 R3.2.1 rfl rfl ⟨_, _, rfl, ?_⟩
        rw [← Hys.out]
        exact HR.out.set2 R14.out (by omega) _ _
      · refine ck_mono (show colKR V fs V1 ls = (0, [], [], 5) by unfold colKR; rw [isCB_true hC, isCB_true hC1, Bool.and_true, if_pos rfl, if_neg hp]) ?_
        have hpf : partB V fs V1 ls = false := by simpa using hp
        rw [hpf] at HIP
        clear hC hC1 hp hpf
        obtain ⟨k0, k1, _, _⟩ := two_of Q0.out
        go_enter Try.func32, Try.ntmps32
        go_wp2_with fail
        rw [← HW.out]
        refine (isc_yes V a0 cap fs _ Hxw.out hl HC.out).mono ?_
        rintro e w1 ⟨rfl, hB1⟩
        have HB1 := hid (HBW.out.trans (hB1.mono HBW.out.size))
        have Q01 := hid ((hB1.block _ (lt_get Q0.out)).trans Q0.out)
        have Q11 := hid ((hB1.block _ (lt_get Q1.out)).trans Q1.out)
        have R11 := hid ((hB1.block _ (lt_get R1.out)).trans R1.out)
        clear k0 k1 hB1
        obtain ⟨l0, l1, _, _⟩ := two_of Q11.out
        go_wp2_with fail
        refine (isc_yes V1 a1 cap1 ls _ (Hx1.out.later HB1.out HB1.out.size) hl1 HC1.out).mono ?_
        rintro e w2 ⟨rfl, hB2⟩
        have HB2 := hid (HB1.out.trans (hB2.mono HB1.out.size))
        have Q02 := hid ((hB2.block _ (lt_get Q01.out)).trans Q01.out)
        have Q12 := hid ((hB2.block _ (lt_get Q11.out)).trans Q11.out)
        have R12 := hid ((hB2.block _ (lt_get R11.out)).trans R11.out)
        clear l0 l1 hB2
        obtain ⟨k0, k1, _, _⟩ := two_of Q02.out
        obtain ⟨l0, l1, _, _⟩ := two_of Q12.out
        go_wp2_with fail
        refine (HIP.out _ HB2.out).mono ?_
        rintro e w3 ⟨rfl, hB3⟩
        have HB3 := hid (HB2.out.trans (hB3.mono HB2.out.size))
        have R13 := hid ((hB3.block _ (lt_get R12.out)).trans R12.out)
        clear k0 k1 l0 l1 hB3
        obtain ⟨c0, c1, f0, f1⟩ := two_of R13.out
        go_wp2_with fail
        (try simp only [Exit.inBlock, Exit.then])
        have R3 := two_of (two_set R13.out (.int .i64 0) (.slice none 0 0))
        refine done_cx3 (p := 4) (u := 5) (t := 6) (by kernel_rfl) rfl rfl R3.1 R3.2.1 rfl rfl ⟨_, _, rfl, ?_⟩
        exact (res2_nil _ _ HB3.out).set2 R13.out (by omega) _ _
    · refine ck_mono (show colKR V fs V1 ls = (0, [], [], 1) by unfold colKR; rw [isCB_true hC, isCB_false hC1, Bool.and_false, if_neg (by simp)]) ?_
      clear hC
      obtain ⟨k0, k1, _, _⟩ := two_of Q0.out
      go_enter Try.func32, Try.ntmps32
      go_wp2_with fail
      rw [← HW.out]
      refine (isc_yes V a0 cap fs _ Hxw.out hl HC.out).mono ?_
      rintro e w1 ⟨rfl, hB1⟩
      have HB1 := hid (HBW.out.trans (hB1.mono HBW.out.size))
      have Q11 := hid ((hB1.block _ (lt_get Q1.out)).trans Q1.out)
      have R11 := hid ((hB1.block _ (lt_get R1.out)).trans R1.out)
      clear k0 k1 hB1
      obtain ⟨l0, l1, _, _⟩ := two_of Q11.out
      go_wp2_with fail
      refine (isc_no V1 a1 cap1 ls _ (Hx1.out.later HB1.out HB1.out.size) hl1 hC1).mono ?_
      rintro e w2 ⟨rfl, hB2⟩
      have HB2 := hid (HB1.out.trans (hB2.mono HB1.out.size))
      have R12 := hid ((hB2.block _ (lt_get R11.out)).trans R11.out)
      clear l0 l1 hB2
      obtain ⟨c0, c1, f0, f1⟩ := two_of R12.out
      go_wp2_with fail
      (try simp only [Exit.inBlock, Exit.then])
      have R3 := two_of (two_set R12.out (.int .i64 0) (.slice none 0 0))
      refine done_cx3 (p := 4) (u := 5) (t := 6) (by kernel_rfl) rfl rfl R3.1 R3.2.1 rfl rfl ⟨_, _, rfl, ?_⟩
      exact (res2_nil _ _ HB2.out).set2 R12.out (by omega) _ _
  · refine ck_mono (show colKR V fs V1 ls = (0, [], [], 1) by unfold colKR; rw [isCB_false hC, Bool.false_and, if_neg (by simp)]) ?_
    obtain ⟨k0, k1, _, _⟩ := two_of Q0.out
    go_enter Try.func32, Try.ntmps32
    go_wp2_with fail
    rw [← HW.out]
    refine (isc_no V a0 cap fs _ Hxw.out hl hC).mono ?_
    rintro e w1 ⟨rfl, hB1⟩
    have HB1 := hid (HBW.out.trans (hB1.mono HBW.out.size))
    have R11 := hid ((hB1.block _ (lt_get R1.out)).trans R1.out)
    clear k0 k1 hB1
    obtain ⟨c0, c1, f0, f1⟩ := two_of R11.out
    go_wp2_with fail
    (try simp only [Exit.inBlock, Exit.then])
    have R3 := two_of (two_set R11.out (.int .i64 0) (.slice none 0 0))
    refine done_cx3 (p := 4) (u := 5) (t := 6) (by kernel_rfl) rfl rfl R3.1 R3.2.1 rfl rfl ⟨_, _, rfl, ?_⟩
    exact (res2_nil _ _ HB1.out).set2 R11.out (by omega) _ _

/-- What CollapseOf hands back. -/
noncomputable def colOR (V : Int) (fs : List Int) : Int × List Int × List (Int × Int) × Int := if isCB V fs then (V, (colE [] fs).1, (colE [] fs).2, 0) else (0, [], [], 1)
theorem colOR_len (V : Int) (fs : List Int) (h : fs.length ≤ 1048576) : (colOR V fs).2.1.length ≤ 1048576 ∧ (colOR V fs).2.2.1.length ≤ 1048576 := by
  have := colE_len [] fs
  unfold colOR
  split
  · exact ⟨by simp only; omega, by simp only; omega⟩
  · simp
theorem colKR_nil (V : Int) (fs : List Int) : colKR V fs V [] = colOR V fs := by
  unfold colKR colOR partB
  by_cases hC : IsC V fs
  · rw [isCB_true hC, isCB_true (isC_nil hC.lo hC.hi)]
    simp
  · rw [isCB_false hC]
    simp

set_option maxRecDepth 100000 in
set_option maxHeartbeats 2000000 in
theorem implCO (V : Int) (a0 : Option Addr) (cap : Nat) (fs : List Int) (w : World) (hx : SlI w w.heap.size a0 fs) (hl : fs.length ≤ 1048576) :
    Calls Try.prog 28 #[.agg #[.int .i64 V, .slice a0 fs.length cap]] w fun e w' => ∃ v q, e = .returned (.tuple #[.agg #[.int .i64 (colOR V fs).1, v], q, .int .i64 (colOR V fs).2.2.2]) ∧ Res2 w w' v (colOR V fs).2.1 q (colOR V fs).2.2.1 := by
  have hB0 : Below w.heap.size w ((w.alloc (.cells #[.int .i64 V, .slice a0 fs.length cap] 29)).alloc (.cells #[.int .i64 0, .slice none 0 0] 29)) := ((Below.refl _ w).alloc (Nat.le_refl _) _).alloc (by simp) _
  have Hx := hid (hx.later hB0 hB0.size)
  have HC := hid (ckI_any V a0 cap fs V none 0 [] _ Hx.out (.inl rfl) hl (by simp))
  rw [colKR_nil] at HC
  obtain ⟨R, hR⟩ : ∃ R, R = colOR V fs := ⟨_, rfl⟩
  rw [← hR] at HC
  rw [← hR]
  obtain ⟨U, ys, L, c⟩ := R
  simp only at HC
  simp only
  clear hR
  go_enter Try.func28, Try.ntmps28
  go_wp2_with fail
  refine HC.out.mono ?_
  rintro e w1 ⟨v, q, rfl, hr⟩
  have r1 : w1.heap[w.heap.size + 1]? = some (.cells #[.int .i64 0, .slice none 0 0] 29 (0, 0)) := (hr.1.2.block _ (by simp <;> omega)).trans (new2 _ _ _)
  have HR := hid (hr.later hB0)
  obtain ⟨_, av, cv, rfl, _⟩ := ownsRow_slI hr.1.1
  obtain ⟨c0, c1, f0, f1⟩ := two_of r1
  have R1 := hid r1
  clear r1 hr
  go_wp2_with fail
  (try simp only [Exit.inBlock, Exit.then])
  have R3 := two_of (two_set R1.out (.int .i64 U) (.slice av ys.length cv))
  refine done_cx3 (p := 2) (u := 3) (t := 4) (by kernel_rfl) rfl rfl R3.1 R3.2.1 rfl rfl ⟨_, _, rfl, ?_⟩
  exact HR.out.set2 R1.out (by omega) _ _

/-- What IsCollapsible hands back. -/
noncomputable def isColR (V : Int) (fs : List Int) : Bool × Int := if isCB V fs then (decide ((colE [] fs).1.length = 1), 0) else (false, 1)
theorem isColR_of (V : Int) (fs : List Int) : isColR V fs = (decide ((colOR V fs).2.1.length = 1), (colOR V fs).2.2.2) := by
  unfold isColR colOR
  split <;> simp

theorem ic_mono {P : Program} {f : FuncId} {args : Array Value} {w : World} {r : Bool × Int} {b : Bool} {c : Int} (hr : r = (b, c))
    (h : Calls P f args w fun e w' => e = .returned (.tuple #[.bool b, .int .i64 c]) ∧ Below w.heap.size w w') : Calls P f args w fun e w' => e = .returned (.tuple #[.bool r.1, .int .i64 r.2]) ∧ Below w.heap.size w w' := by
  subst hr; exact h

set_option maxRecDepth 100000 in
set_option maxHeartbeats 2000000 in
theorem implIsCollapsible (V : Int) (a0 : Option Addr) (cap : Nat) (fs : List Int) (w : World) (hx : SlI w w.heap.size a0 fs) (hl : fs.length ≤ 1048576) :
    Calls Try.prog 30 #[.agg #[.int .i64 V, .slice a0 fs.length cap]] w fun e w' => e = .returned (.tuple #[.bool (isColR V fs).1, .int .i64 (isColR V fs).2]) ∧ Below w.heap.size w w' := by
  have hB0 : Below w.heap.size w (w.alloc (.cells #[.int .i64 V, .slice a0 fs.length cap] 29)) := (Below.refl _ w).alloc (Nat.le_refl _) _
  have Hx := hid (hx.later hB0 hB0.size)
  refine ic_mono (isColR_of V fs) ?_
  have HC := hid (implCO V a0 cap fs _ Hx.out hl)
  obtain ⟨R, hR⟩ : ∃ R, R = colOR V fs := ⟨_, rfl⟩
  rw [← hR] at HC
  rw [← hR]
  obtain ⟨U, ys, L, c⟩ := R
  simp only at HC
  simp only
  clear hR
  go_enter Try.func30, Try.ntmps30
  go_wp2_with fail
  refine HC.out.mono ?_
  rintro e w1 ⟨v, q, rfl, hr⟩
  have HB := hid (hB0.trans (hr.1.2.mono hB0.size))
  obtain ⟨_, av, cv, rfl, _⟩ := ownsRow_slI hr.1.1
  have He : Hid (((ys.length : Int) == 1) = decide (ys.length = 1)) := hid (by rw [Bool.eq_iff_iff]; simp; omega)
  clear hr
  go_wp2_with fail
  go_ret2
  exact ⟨by rw [← He.out]; rfl, HB.out.alloc HB.out.size _⟩

end Go.Proofs.Ytojnpacklcajpaa

/-! Cores: mathematics, and the world of a strong collapse under way. -/
namespace Go.Proofs.Ytojnpacklcajpaa
open Go.RowKit

theorem isC_filter {V : Int} {fs : List Int} (h : IsC V fs) (p : Int → Bool) (hp : ∀ x ∈ fs, p x = true → ∀ q : Nat, q ≠ 0 → q &&& x.toNat = q → p (q : Int) = true) : IsC V (fs.filter p) where
  lo := h.lo
  hi := h.hi
  range := fun x hx => h.range x (List.mem_filter.1 hx).1
  asc := h.asc.filter p
  closed := fun x hx q hq0 hq => by
    have hx' := List.mem_filter.1 hx
    exact List.mem_filter.2 ⟨h.closed x hx'.1 q hq0 hq, hp x hx'.1 hx'.2 q hq0 hq⟩

theorem isC_take {V : Int} {fs : List Int} (h : IsC V fs) (s : Int) : IsC V (takeL fs s) := by
  unfold takeL
  refine isC_filter h _ (fun x hx hxs q hq0 hq => ?_)
  simp only [decide_eq_true_eq] at hxs ⊢
  rw [Int.toNat_natCast]
  intro hqs
  apply hxs
  have : x.toNat &&& s.toNat = x.toNat &&& (q &&& s.toNat) := by rw [hqs]
  rw [this, ← Nat.and_assoc, Nat.and_comm x.toNat q, hq, hqs]

/-- One strong collapse. -/
def corStep (V : Nat) (s : List Int × List Int) : List Int × List Int := match domL V s.1 V with
  | [] => s
  | v :: _ => (takeL s.1 (2 ^ v.toNat : Nat), s.2 ++ [v])
def corN (V : Nat) : Nat → List Int × List Int → List Int × List Int
  | 0, s => s
  | n + 1, s => corStep V (corN V n s)
/-- The core, and what was deleted. -/
def corE (V : Nat) (fs : List Int) : List Int × List Int := corN V fs.length (fs, [])

theorem corN_stop {V : Nat} {s : List Int × List Int} {n : Nat} (h : domL V (corN V n s).1 V = []) : ∀ m, n ≤ m → corN V m s = corN V n s := by
  intro m hm
  induction m with
  | zero => have : n = 0 := by omega
            subst this; rfl
  | succ m ih =>
    by_cases hn : n = m + 1
    · rw [hn]
    · have := ih (by omega)
      show corStep V (corN V m s) = _
      rw [this]
      unfold corStep
      rw [h]

structure CorAt (V : Nat) (fs : List Int) (n : Nat) (cur D : List Int) : Prop where
  eq : corN V n (fs, []) = (cur, D)
  len : n + cur.length ≤ fs.length
  dlen : D.length ≤ n
  isC : IsC (V : Int) cur

theorem CorAt.start {V : Nat} {fs : List Int} (h : IsC (V : Int) fs) : CorAt V fs 0 fs [] := ⟨rfl, by omega, by simp, h⟩
theorem CorAt.step {V : Nat} {fs : List Int} {n : Nat} {cur D : List Int} {v : Int} {rest : List Int} (h : CorAt V fs n cur D) (hd : domL V cur V = v :: rest) : CorAt V fs (n + 1) (takeL cur (2 ^ v.toNat : Nat)) (D ++ [v]) ∧ (takeL cur (2 ^ v.toNat : Nat)).length < cur.length ∧ ∃ k : Nat, v = k ∧ k < V := by
  obtain ⟨k, hk, hkV, hkd⟩ := domL_mem (V := V) (fs := cur) (m := V) (x := v) (by rw [hd]; simp)
  have hm : ((2 ^ k : Nat) : Int) ∈ cur := by
    unfold domB at hkd
    simp only [Bool.and_eq_true, decide_eq_true_eq] at hkd
    exact hkd.1
  subst hk
  rw [Int.toNat_natCast]
  have hl := take_lt hm
  have h1 := h.len
  have h2 := h.dlen
  refine ⟨⟨?_, by omega, by simp; omega, isC_take h.isC _⟩, hl, k, rfl, hkV⟩
  show corStep V (corN V n (fs, [])) = _
  rw [h.eq]
  unfold corStep
  simp only [hd]
  rw [Int.toNat_natCast]
theorem CorAt.stop {V : Nat} {fs : List Int} {n : Nat} {cur D : List Int} (h : CorAt V fs n cur D) (hd : domL V cur V = []) : corE V fs = (cur, D) := by
  unfold corE
  rw [corN_stop (n := n) (by rw [h.eq]; exact hd) fs.length (by have := h.len; omega)]
  exact h.eq

theorem corE_len (V : Nat) (fs : List Int) : (corE V fs).1.length ≤ fs.length ∧ (corE V fs).2.length ≤ fs.length := by
  have key : ∀ n, (corN V n (fs, [])).1.length ≤ fs.length ∧ (corN V n (fs, [])).2.length ≤ n := by
    intro n
    induction n with
    | zero => exact ⟨Nat.le_refl _, by simp [corN]⟩
    | succ n ih =>
      obtain ⟨h1, h2⟩ := ih
      show (corStep V (corN V n (fs, []))).1.length ≤ _ ∧ (corStep V (corN V n (fs, []))).2.length ≤ _
      unfold corStep
      split
      · exact ⟨h1, by omega⟩
      · refine ⟨Nat.le_trans ?_ h1, by simp; omega⟩
        unfold takeL
        exact List.length_filter_le _ _
  have := key fs.length
  exact ⟨this.1, this.2⟩

/-- What CoreOf hands back. -/
noncomputable def coreR (V : Int) (fs : List Int) : Int × List Int × List Int × Int := if isCB V fs then (V, (corE V.toNat fs).1, (corE V.toNat fs).2, 0) else (0, [], [], 1)
theorem coreR_len (V : Int) (fs : List Int) (h : fs.length ≤ 1048576) : (coreR V fs).2.1.length ≤ 1048576 ∧ (coreR V fs).2.2.1.length ≤ 1048576 := by
  have := corE_len V.toNat fs
  unfold coreR
  split
  · exact ⟨by simp only; omega, by simp only; omega⟩
  · simp

theorem co_mono {P : Program} {f : FuncId} {args : Array Value} {w : World} {r : Int × List Int × List Int × Int} {U : Int} {xs L : List Int} {c : Int} (hr : r = (U, xs, L, c))
    (h : Calls P f args w fun e w' => ∃ v q, e = .returned (.tuple #[.agg #[.int .i64 U, v], q, .int .i64 c]) ∧ Res w w' v xs ∧ Res w w' q L ∧ Apart v q) : Calls P f args w fun e w' => ∃ v q, e = .returned (.tuple #[.agg #[.int .i64 r.1, v], q, .int .i64 r.2.2.2]) ∧ Res w w' v r.2.1 ∧ Res w w' q r.2.2.1 ∧ Apart v q := by
  subst hr; exact h

/-- The world of a strong collapse that is under way. -/
structure CorW (w W : World) (NL : Nat) (V : Int) (cur : List Int) (av : Option Addr) (cv : Nat) (D : List Int) (q : Value) : Prop where
  res : W.heap[w.heap.size + 1]? = some (.cells #[.int .i64 0, .slice none 0 0] 29 (0, 0))
  left : W.heap[NL]? = some (.cells #[.int .i64 V, .slice av cur.length cv] 29 (0, 0))
  row : W.ownsRow w.heap.size 2 1 (.slice av cur.length cv) cur.length (cur.map (Value.int .i64))
  del : W.ownsRow w.heap.size 2 1 q D.length (D.map (Value.int .i64))
  ap : Apart (.slice av cur.length cv) q
  below : Below w.heap.size w W
  nl : w.heap.size ≤ NL ∧ NL ≠ w.heap.size + 1

section
variable {w W W' : World} {NL : Nat} {V : Int} {cur : List Int} {av : Option Addr} {cv : Nat} {D : List Int} {q : Value}

theorem CorW.keep (h : CorW w W NL V cur av cv D q) (hB : Below W.heap.size W W') : CorW w W' NL V cur av cv D q where
  res := (hB.block _ (lt_get h.res)).trans h.res
  left := (hB.block _ (lt_get h.left)).trans h.left
  row := ownsRow_below h.row hB (fun g hg => (h.row.lt g hg).2)
  del := ownsRow_below h.del hB (fun g hg => (h.del.lt g hg).2)
  ap := h.ap
  below := h.below.trans (hB.mono h.below.size)
  nl := h.nl

theorem CorW.push (h : CorW w W NL V cur av cv D q) (hg : W.grownBy W' q.ownBlock) {D' : List Int} {q' : Value} (hown : W'.ownsRow w.heap.size 2 1 q' D'.length (D'.map (Value.int .i64))) {m : Nat} (hm : W.heap.size ≤ m) (hat : q'.ownBlock = q.ownBlock ∨ q'.ownBlock = some m) : CorW w W' NL V cur av cv D' q' where
  res := (hg.block _ (lt_get h.res) (row_ne_any h.del h.res (by decide))).trans h.res
  left := (hg.block _ (lt_get h.left) (row_ne_any h.del h.left (by decide))).trans h.left
  row := h.row.kept hg (by
    cases hv : (Value.slice av cur.length cv).ownBlock with
    | none => exact .inl rfl
    | some g => exact .inr (fun e => h.ap g hv e.symm))
  del := hown
  ap := fun g hv e => by
    rcases hat with ha | ha
    · exact h.ap g hv (by rw [← ha]; exact e)
    · rw [ha] at e
      injection e with e
      have := (h.row.lt g hv).2
      omega
  below := h.below.grown hg h.below.size (fun k e => (h.del.lt k e).1)
  nl := h.nl

theorem CorW.put (h : CorW w W NL V cur av cv D q) {ys : List Int} {a2 : Option Addr} {c2 B : Nat} (hr : W.ownsRow B 2 1 (.slice a2 ys.length c2) ys.length (ys.map (Value.int .i64))) (hB : w.heap.size ≤ B) (hq : ∀ g, q.ownBlock = some g → g < B) :
    CorW w ((W.setCell ⟨NL, 0, none⟩ (.int .i64 V)).setCell ⟨NL, 1, none⟩ (.slice a2 ys.length c2)) NL V ys a2 c2 D q := by
  obtain ⟨n1, n2⟩ := h.nl
  have e : ∀ k, k ≠ NL → ((W.setCell ⟨NL, 0, none⟩ (.int .i64 V)).setCell ⟨NL, 1, none⟩ (.slice a2 ys.length c2)).heap[k]? = W.heap[k]? := fun k hk => (Below.heap_setCell _ _ _ _ hk).trans (Below.heap_setCell _ _ _ _ hk)
  refine ⟨(e _ (by omega)).trans h.res, two_set h.left _ _, ?_, ?_, ?_, ?_, h.nl⟩
  · have hx := row_ne_any hr h.left (by decide)
    exact ownsRow_base (ownsRow_set (ownsRow_set hr (fun e => hx e.symm) _) (fun e => hx e.symm) _) hB
  · have hx := row_ne_any h.del h.left (by decide)
    exact ownsRow_set (ownsRow_set h.del (fun e => hx e.symm) _) (fun e => hx e.symm) _
  · intro g hv e
    have h1 := (hr.lt g hv).1
    have h2 := hq g e
    omega
  · exact (h.below.setCell (p := ⟨NL, 0, none⟩) (by show w.heap.size ≤ NL; omega) _).setCell (p := ⟨NL, 1, none⟩) (by show w.heap.size ≤ NL; omega) _
end

/-- The first number of a row that is not empty. -/
theorem row_head {W : World} {b : Nat} {a : Option Addr} {c : Nat} {v : Int} {rest : List Int} (h : W.ownsRow b 2 1 (.slice a (v :: rest).length c) (v :: rest).length ((v :: rest).map (Value.int .i64))) :
    ∃ g, a = some ⟨g, 0, none⟩ ∧ g < W.heap.size ∧ W.cell? ⟨g, 0, none⟩ = some (.int .i64 v) ∧ ∀ k cs t fz, W.heap[k]? = some (.cells cs t fz) → 2 ≠ t → k ≠ g := by
  have hs := owned_slI h
  rcases h.2 with ⟨hv, hn⟩ | ⟨g, cp, cur, hv, _, hg, _⟩
  · simp at hn
  · cases hv
    refine ⟨g, rfl, lt_get hg, ?_, ?_⟩
    · rcases hs with hs | ⟨b', off, _, e, hc⟩
      · simp at hs
      · cases e
        have := hc 0 (by simp)
        simpa using this
    · intro k cs t fz hk hne e
      subst e
      rw [hg] at hk
      simp at hk
      exact hne hk.2.1

end Go.Proofs.Ytojnpacklcajpaa

/-! FacesOf, the model's and the program's. -/
namespace Go.Proofs.Ytojnpacklcajpaa
open Go.RowKit

/-- The faces of a dimension. -/
def ofDim (fs : List Int) (d : Int) : List Int := fs.filter fun x => decide ((ones x.toNat : Int) = d + 1)

set_option maxHeartbeats 1000000 in
theorem of_any (V : Int) (a : Option Addr) (cap : Nat) (fs : List Int) (d : Int) (w : World) (hx : SlI w w.heap.size a fs) (hl : fs.length ≤ 1048576) (hf : ∀ x ∈ fs, 1 ≤ x ∧ x ≤ 63) (hd0 : 0 ≤ d) (hd1 : d ≤ 5) :
    Calls Try.prog 72 #[.agg #[.int .i64 V, .slice a fs.length cap], .int .i64 d] w fun e w' => ∃ v, e = .returned v ∧ Res w w' v (ofDim fs d) := by
  have hB0 : Below w.heap.size w (w.alloc (.cells #[.int .i64 V, .slice a fs.length cap] 29)) := (Below.refl _ w).alloc (Nat.le_refl _) _
  have hB00 := (hB0.alloc (by simp) (.cells #[] 2))
  have hown0 := World.ownsRow_made (base := w.heap.size + 1) (e := 2) (size := 1) (w.alloc (.cells #[.int .i64 V, .slice a fs.length cap] 29)) #[] 0 (by simp) (by simp [maxLen]) rfl
  rw [World.size_alloc] at hown0
  rcases hx with rfl | ⟨b, off, hb, rfl, hc⟩
  · have Hown0 := hid hown0
    clear hown0
    go_enter Try.func72, Try.ntmps72
    go_wp2
    refine wp_loop_rounds 1 ?_; rw [rounds_succ]
    go_wp2
    go_ret
    exact ⟨_, rfl, ownsRow_base (by simpa [ofDim] using Hown0.out) (Nat.le_succ _), hB00⟩
  · have Hc := hid hc
    have Hf := hid hf
    have Hown0 := hid hown0
    clear hc hf hown0
    go_enter Try.func72, Try.ntmps72
    go_wp2
    go_loopw [5, 6] (fun v i wr => ∃ k : Nat, k ≤ fs.length ∧ i = .int .i64 k ∧ wr.ownsRow (w.heap.size + 1) 2 1 v (ofDim (fs.take k) d).length ((ofDim (fs.take k) d).map (Value.int .i64)) ∧
        Below (w.heap.size + 1) (w.alloc (.cells #[.int .i64 V, .slice (some ⟨b, off, none⟩) fs.length cap] 29)) wr) (fun _ i _ => fs.length - (intOf i).toNat)
    case atStart => exact ⟨0, Nat.zero_le _, rfl, Hown0.out, (Below.refl _ _).alloc (by simp) _⟩
    case round =>
      obtain ⟨k, hk, rfl, hown, hB⟩ := hrel
      have c0 : wr.cell? ⟨w.heap.size, 0, none⟩ = some (.int .i64 V) := (hB.cell (p := ⟨w.heap.size, 0, none⟩) (by simp)).trans (by simp [go_sem])
      have c1 : wr.cell? ⟨w.heap.size, 1, none⟩ = some (.slice (some ⟨b, off, none⟩) fs.length cap) := (hB.cell (p := ⟨w.heap.size, 1, none⟩) (by simp)).trans (by simp [go_sem])
      have hBW := hB0.trans (hB.mono (by simp))
      have hsz := hB.size
      simp only [World.size_alloc] at hsz
      by_cases hlt : k < fs.length
      · obtain ⟨x, hx⟩ : ∃ x : Nat, (x : Int) = fs[k]?.getD 0 := ⟨(fs[k]?.getD 0).toNat, by have := Hf.out _ (getD_mem hlt); omega⟩
        have hx64 : x < 64 := by have := Hf.out _ (getD_mem hlt); omega
        have hck : wr.cell? ⟨b, off + k, none⟩ = some (.int .i64 (x : Int)) := by rw [hx]; exact (hBW.cell (p := ⟨b, off + k, none⟩) hb).trans (Hc.out k hlt)
        have hi0 : (0 : Int) ≤ (k : Int) := by omega
        have hi1 : (k : Int) < (fs.length : Int) := by omega
        have hfl : (ofDim (fs.take k) d).length ≤ 1048576 := Nat.le_trans (List.length_filter_le _ _) (by simp; omega)
        have Hp : Hid (∀ c, decide ((ones x : Int) = d + 1) = c → ofDim (fs.take (k + 1)) d = ofDim (fs.take k) d ++ (if c then [(x : Int)] else [])) := hid (fun c hc => by
          unfold ofDim
          rw [take_snoc hlt, List.filter_append, ← hx]
          cases c <;> simp [hc])
        clear hx hB0 hB00
        have ho := ones_le x
        by_cases hpx : (ones x : Int) = d + 1
        · have hd : ((ones x : Int) == d + 1) = true := by simpa using hpx
          have HP := hid (Hp.out true (decide_eq_true hpx))
          clear hpx Hp
          go_wp2_with (first
            | (go_at_call 104; refine (ones_any x _ hx64).mono ?_; rintro e w' ⟨rfl, rfl⟩)
            | (at_builtin; refine append_int rfl rfl hown hsz (by omega) rfl rfl ?_; intro v' w2 hown2 hgrow2 hB2))
          go_roundw
          case rel => exact ⟨k + 1, by omega, by go_num, by rw [HP.out]; exact hown2, hB.trans hB2⟩
          case measure => simp [intOf]; omega
        · have hd : ((ones x : Int) == d + 1) = false := by simpa using hpx
          have HP := hid (Hp.out false (decide_eq_false hpx))
          clear hpx Hp
          go_wp2_with (first
            | (go_at_call 104; refine (ones_any x _ hx64).mono ?_; rintro e w' ⟨rfl, rfl⟩))
          go_roundw
          case rel => exact ⟨k + 1, by omega, by go_num, by rw [HP.out]; simpa using hown, hB⟩
          case measure => simp [intOf]; omega
      · go_wp2
        go_ret
        obtain rfl : k = fs.length := by omega
        rw [List.take_of_length_le (Nat.le_refl _)] at hown
        exact ⟨_, rfl, ownsRow_base hown (by omega), hBW⟩

/-- What FacesOf hands back. -/
noncomputable def facesOfR (V : Int) (fs : List Int) (d : Int) : List Int × Int := if isCB V fs then (if 0 ≤ d ∧ d ≤ 5 then (ofDim fs d, 0) else ([], 2)) else ([], 1)

theorem facesOfR_len (V : Int) (fs : List Int) (d : Int) (h : fs.length ≤ 1048576) : (facesOfR V fs d).1.length ≤ 1048576 := by
  unfold facesOfR
  split
  · split
    · exact Nat.le_trans (List.length_filter_le _ _) h
    · simp
  · simp

theorem pair_mono {P : Program} {f : FuncId} {args : Array Value} {w : World} {r : List Int × Int} {xs : List Int} {c : Int} (hr : r = (xs, c))
    (h : Calls P f args w fun e w' => ∃ v, e = .returned (.tuple #[v, .int .i64 c]) ∧ Res w w' v xs) : Calls P f args w fun e w' => ∃ v, e = .returned (.tuple #[v, .int .i64 r.2]) ∧ Res w w' v r.1 := by
  subst hr; exact h



end Go.Proofs.Ytojnpacklcajpaa

/-! The dimension of a complex, the model's and the program's. -/
namespace Go.Proofs.Ytojnpacklcajpaa
open Go.RowKit

/-- The greater number, as the model has it. -/
def more (m y : Int) : Int := if m < y then y else m

/-- The dimension of a list of faces. -/
def top (fs : List Int) : Int := fs.foldl (fun m x => more m ((ones x.toNat : Int) - 1)) (-1)

theorem top_snoc (pre : List Int) (x : Int) : top (pre ++ [x]) = more (top pre) ((ones x.toNat : Int) - 1) := by simp [top]

theorem top_from (fs : List Int) : ∀ m : Int, -1 ≤ m → m ≤ 5 → -1 ≤ fs.foldl (fun m x => more m ((ones x.toNat : Int) - 1)) m ∧ fs.foldl (fun m x => more m ((ones x.toNat : Int) - 1)) m ≤ 5 ∧ m ≤ fs.foldl (fun m x => more m ((ones x.toNat : Int) - 1)) m ∧ ∀ x ∈ fs, (ones x.toNat : Int) - 1 ≤ fs.foldl (fun m x => more m ((ones x.toNat : Int) - 1)) m := by
  induction fs with
  | nil => intro m h0 h1; exact ⟨h0, h1, Int.le_refl _, by simp⟩
  | cons x fs ih =>
    intro m h0 h1
    have ho := ones_le x.toNat
    have hm : -1 ≤ more m ((ones x.toNat : Int) - 1) ∧ more m ((ones x.toNat : Int) - 1) ≤ 5 ∧ m ≤ more m ((ones x.toNat : Int) - 1) ∧ (ones x.toNat : Int) - 1 ≤ more m ((ones x.toNat : Int) - 1) := by
      unfold more
      split <;> omega
    obtain ⟨a1, a2, a3, a4⟩ := ih _ hm.1 hm.2.1
    simp only [List.foldl_cons]
    refine ⟨a1, a2, by omega, ?_⟩
    intro y hy
    rcases List.mem_cons.1 hy with rfl | hy
    · omega
    · exact a4 y hy

theorem top_lo (fs : List Int) : -1 ≤ top fs := (top_from fs (-1) (by omega) (by omega)).1
theorem top_hi (fs : List Int) : top fs ≤ 5 := (top_from fs (-1) (by omega) (by omega)).2.1
theorem top_ge (fs : List Int) {x : Int} (hx : x ∈ fs) : (ones x.toNat : Int) - 1 ≤ top fs := (top_from fs (-1) (by omega) (by omega)).2.2.2 x hx

theorem cell_alloc0 {W : World} {p : Addr} {v : Value} (h : W.cell? p = some v) (o : Obj) : (W.alloc o).cell? p = some v :=
  (World.cell?_alloc_some W p o (show (W.cell? p).isSome = true by rw [h]; rfl)).trans h

set_option maxHeartbeats 1000000 in
theorem dimS_any (V : Int) (a0 : Option Addr) (cap : Nat) (fs : List Int) (w : World) (hx : SlI w w.heap.size a0 fs) (hl : fs.length ≤ 1048576) (hf : ∀ x ∈ fs, 1 ≤ x ∧ x ≤ 63) :
    Calls Try.prog 73 #[.agg #[.int .i64 V, .slice a0 fs.length cap]] w fun e w' => e = .returned (.int .i64 (top fs)) ∧ Below w.heap.size w w' := by
  have hB0 : Below w.heap.size w (w.alloc (.cells #[.int .i64 V, .slice a0 fs.length cap] 29)) := (Below.refl _ w).alloc (Nat.le_refl _) _
  have Hx0 := hid hx
  have Hf := hid hf
  clear hx hf
  go_enter Try.func73, Try.ntmps73
  go_wp2
  go_loopw [3, 4] (fun m i wr => ∃ k : Nat, k ≤ fs.length ∧ i = .int .i64 k ∧ m = .int .i64 (top (fs.take k)) ∧ wr = w.alloc (.cells #[.int .i64 V, .slice a0 fs.length cap] 29)) (fun _ i _ => fs.length - (intOf i).toNat)
  case atStart => exact ⟨0, Nat.zero_le _, rfl, by simp [top], rfl⟩
  case round =>
    obtain ⟨k, hk, rfl, rfl, rfl⟩ := hrel
    by_cases hlt : k < fs.length
    · obtain ⟨b, off, hb, rfl, hc⟩ : ∃ b off, b < w.heap.size ∧ a0 = some ⟨b, off, none⟩ ∧ ∀ i, i < fs.length → w.cell? ⟨b, off + i, none⟩ = some (.int .i64 (fs[i]?.getD 0)) := by
        rcases Hx0.out with rfl | h
        · simp at hlt
        · exact h
      obtain ⟨x, hx⟩ : ∃ x : Nat, (x : Int) = fs[k]?.getD 0 := ⟨(fs[k]?.getD 0).toNat, by have := Hf.out _ (getD_mem hlt); omega⟩
      have hx64 : x < 64 := by have := Hf.out _ (getD_mem hlt); omega
      have hck : ∀ o, (w.alloc o).cell? ⟨b, off + k, none⟩ = some (.int .i64 (x : Int)) := cell_alloc0 (by rw [hx]; exact hc k hlt)
      have hi0 : (0 : Int) ≤ (k : Int) := by omega
      have hi1 : (k : Int) < (fs.length : Int) := by omega
      have Ht : Hid (top (fs.take (k + 1)) = more (top (fs.take k)) ((ones x : Int) - 1)) := hid (by rw [take_snoc hlt, ← hx, top_snoc]; simp)
      have ht0 := top_lo (fs.take k)
      have ht1 := top_hi (fs.take k)
      obtain ⟨t, htt⟩ : ∃ t, t = top (fs.take k) := ⟨_, rfl⟩
      rw [← htt] at Ht ht0 ht1 ⊢
      have ho := ones_le x
      clear hx hc htt
      by_cases hm : t < (ones x : Int) - 1
      · have hmm : more t ((ones x : Int) - 1) = (ones x : Int) - 1 := by unfold more; rw [if_pos hm]
        rw [hmm] at Ht
        clear hmm
        go_wp2_with (go_at_call 104; refine (ones_any x _ hx64).mono ?_; rintro e w' ⟨rfl, rfl⟩)
        go_roundw
        case rel => exact ⟨k + 1, by omega, by go_num, by first | (rw [Ht.out]; done) | (rw [Ht.out]; congr 1; omega), trivial⟩
        case measure => simp [intOf]; omega
      · have hmm : more t ((ones x : Int) - 1) = t := by unfold more; rw [if_neg hm]
        rw [hmm] at Ht
        have hm' : (ones x : Int) - 1 ≤ t := by omega
        clear hmm
        go_wp2_with (go_at_call 104; refine (ones_any x _ hx64).mono ?_; rintro e w' ⟨rfl, rfl⟩)
        go_roundw
        case rel => exact ⟨k + 1, by omega, by go_num, by first | (rw [Ht.out]; done) | (rw [Ht.out]; congr 1; omega), trivial⟩
        case measure => simp [intOf]; omega
    · go_wp2
      go_ret
      obtain rfl : k = fs.length := by omega
      exact ⟨ret_int (by rw [List.take_of_length_le (Nat.le_refl _)]), hB0⟩

set_option maxHeartbeats 1000000 in
theorem dimI_any (V : Int) (a0 : Option Addr) (cap : Nat) (fs : List Int) (w : World) (hx : SlI w w.heap.size a0 fs) (hl : fs.length ≤ 1048576) (hf : ∀ x ∈ fs, 1 ≤ x ∧ x ≤ 63) :
    Calls Try.prog 76 #[.agg #[.int .i64 V, .slice a0 fs.length cap]] w fun e w' => e = .returned (.int .i64 (top fs)) ∧ Below w.heap.size w w' := by
  have hB0 : Below w.heap.size w (w.alloc (.cells #[.int .i64 V, .slice a0 fs.length cap] 29)) := (Below.refl _ w).alloc (Nat.le_refl _) _
  have Hx0 := hid hx
  have Hf := hid hf
  clear hx hf
  go_enter Try.func76, Try.ntmps76
  go_wp2
  go_loopw [3, 9] (fun m i wr => ∃ k : Nat, k ≤ fs.length ∧ i = .int .i64 k ∧ m = .int .i64 (top (fs.take k)) ∧ wr = w.alloc (.cells #[.int .i64 V, .slice a0 fs.length cap] 29)) (fun _ i _ => fs.length - (intOf i).toNat)
  case atStart => exact ⟨0, Nat.zero_le _, rfl, by simp [top], rfl⟩
  case round =>
    obtain ⟨k, hk, rfl, rfl, rfl⟩ := hrel
    by_cases hlt : k < fs.length
    · obtain ⟨b, off, hb, rfl, hc⟩ : ∃ b off, b < w.heap.size ∧ a0 = some ⟨b, off, none⟩ ∧ ∀ i, i < fs.length → w.cell? ⟨b, off + i, none⟩ = some (.int .i64 (fs[i]?.getD 0)) := by
        rcases Hx0.out with rfl | h
        · simp at hlt
        · exact h
      obtain ⟨x, hx⟩ : ∃ x : Nat, (x : Int) = fs[k]?.getD 0 := ⟨(fs[k]?.getD 0).toNat, by have := Hf.out _ (getD_mem hlt); omega⟩
      have hx64 : x < 64 := by have := Hf.out _ (getD_mem hlt); omega
      have hck : ∀ o, (w.alloc o).cell? ⟨b, off + k, none⟩ = some (.int .i64 (x : Int)) := cell_alloc0 (by rw [hx]; exact hc k hlt)
      have hi0 : (0 : Int) ≤ (k : Int) := by omega
      have hi1 : (k : Int) < (fs.length : Int) := by omega
      have Ht : Hid (top (fs.take (k + 1)) = more (top (fs.take k)) ((ones x : Int) - 1)) := hid (by rw [take_snoc hlt, ← hx, top_snoc]; simp)
      have ht0 := top_lo (fs.take k)
      have ht1 := top_hi (fs.take k)
      obtain ⟨t, htt⟩ : ∃ t, t = top (fs.take k) := ⟨_, rfl⟩
      rw [← htt] at Ht ht0 ht1 ⊢
      have ho := ones_le x
      clear hx hc htt
      by_cases hm : t < (ones x : Int) - 1
      · have hmm : more t ((ones x : Int) - 1) = (ones x : Int) - 1 := by unfold more; rw [if_pos hm]
        rw [hmm] at Ht
        clear hmm
        go_wp2_with (go_at_call 107; refine (dim_any x _ hx64).mono ?_; rintro e w' ⟨rfl, rfl⟩)
        go_roundw
        case rel => exact ⟨k + 1, by omega, by go_num, by first | (rw [Ht.out]; done) | (rw [Ht.out]; congr 1; omega), trivial⟩
        case measure => simp [intOf]; omega
      · have hmm : more t ((ones x : Int) - 1) = t := by unfold more; rw [if_neg hm]
        rw [hmm] at Ht
        have hm' : (ones x : Int) - 1 ≤ t := by omega
        clear hmm
        go_wp2_with (go_at_call 107; refine (dim_any x _ hx64).mono ?_; rintro e w' ⟨rfl, rfl⟩)
        go_roundw
        case rel => exact ⟨k + 1, by omega, by go_num, by first | (rw [Ht.out]; done) | (rw [Ht.out]; congr 1; omega), trivial⟩
        case measure => simp [intOf]; omega
    · go_wp2
      go_ret
      obtain rfl : k = fs.length := by omega
      exact ⟨ret_int (by rw [List.take_of_length_le (Nat.le_refl _)]), hB0⟩

end Go.Proofs.Ytojnpacklcajpaa

/-! Reductions: mathematics. -/
namespace Go.Proofs.Ytojnpacklcajpaa
open Go.RowKit

theorem other_vertex : ∀ g f : Fin 64, f.val ≠ 0 → g.val &&& f.val = f.val → g.val ≠ f.val → ∃ v : Fin 6, (2 ^ v.val) &&& g.val = 2 ^ v.val ∧ ¬ (2 ^ v.val) &&& f.val = f.val := by decide +kernel
theorem same_ones : ∀ x f : Fin 64, x.val &&& f.val = f.val → ones x.val ≤ ones f.val → x.val = f.val := by decide +kernel

/-- A collapse leaves something. -/
theorem take_ne {V : Int} {fs : List Int} (hC : IsC V fs) {p : Int × Int} (h1 : p.1 ∈ fs) (h2 : freeG fs p.1.toNat ≠ 0) : takeL fs p.1 ≠ [] := by
  have hu := freeG_mem h2
  have hm : freeG fs p.1.toNat ∈ upF fs p.1.toNat := by rw [hu]; simp
  obtain ⟨hg, hgf, hne⟩ := upF_mem hm
  have hr := hC.range63 _ h1
  have hgr := hC.range63 _ hg
  obtain ⟨v, hv1, hv2⟩ := other_vertex ⟨(freeG fs p.1.toNat).toNat, by omega⟩ ⟨p.1.toNat, by omega⟩ (by simp only; omega) hgf hne
  simp only at hv1 hv2
  have hp : (2 : Nat) ^ v.val ≠ 0 := Nat.ne_of_gt (Nat.pow_pos (by omega))
  have hm2 := hC.closed _ hg (2 ^ v.val) hp hv1
  intro e
  have : ((2 ^ v.val : Nat) : Int) ∈ takeL fs p.1 := by
    unfold takeL
    refine List.mem_filter.2 ⟨hm2, ?_⟩
    simp only [decide_eq_true_eq, Int.toNat_natCast]
    exact hv2
  rw [e] at this
  simp at this

theorem colN_isC {V : Int} {ls fs : List Int} (hC : IsC V fs) (hn : fs ≠ []) : ∀ n, IsC V (colN ls n (fs, [])).1 ∧ (colN ls n (fs, [])).1 ≠ [] := by
  intro n
  induction n with
  | zero => exact ⟨hC, hn⟩
  | succ n ih =>
    show IsC V (colStep ls (colN ls n (fs, []))).1 ∧ (colStep ls (colN ls n (fs, []))).1 ≠ []
    cases hp : firstP (colN ls n (fs, [])).1 ls with
    | none => rw [colStep_none hp]; exact ih
    | some p =>
      rw [colStep_some hp]
      have h := firstP_some hp
      exact ⟨isC_take ih.1 _, take_ne ih.1 h.1 h.2.1⟩
theorem colE_isC {V : Int} {ls fs : List Int} (hC : IsC V fs) (hn : fs ≠ []) : IsC V (colE ls fs).1 ∧ (colE ls fs).1 ≠ [] := colN_isC hC hn fs.length

/-- The faces of the greatest dimension. -/
def topL (fs : List Int) : List Int := ofDim fs (top fs)

theorem top_mem : ∀ {fs : List Int}, fs ≠ [] → (∀ x ∈ fs, 1 ≤ x ∧ x ≤ 63) → ∃ x ∈ fs, (ones x.toNat : Int) - 1 = top fs := by
  intro fs
  have key : ∀ n, n ≤ fs.length → 0 < n → (∀ x ∈ fs, 1 ≤ x ∧ x ≤ 63) → ∃ x ∈ fs.take n, (ones x.toNat : Int) - 1 = top (fs.take n) := by
    intro n
    induction n with
    | zero => intro _ h; omega
    | succ n ih =>
      intro hn _ hr
      have hlt : n < fs.length := by omega
      rw [take_snoc hlt, top_snoc]
      by_cases h : (ones (fs[n]?.getD 0).toNat : Int) - 1 ≤ top (fs.take n)
      · by_cases h0 : n = 0
        · subst h0
          refine ⟨_, List.mem_append_right _ (List.mem_singleton.2 rfl), ?_⟩
          have hlo := top_lo (fs.take 0)
          have : top (fs.take 0) = -1 := rfl
          rw [this] at h ⊢
          unfold more
          split <;> omega
        · obtain ⟨x, hx, he⟩ := ih (by omega) (by omega) hr
          refine ⟨x, List.mem_append_left _ hx, ?_⟩
          rw [he]
          unfold more
          split <;> omega
      · refine ⟨_, List.mem_append_right _ (List.mem_singleton.2 rfl), ?_⟩
        unfold more
        split <;> omega
  intro hne hr
  have hl : 0 < fs.length := List.length_pos_iff.2 hne
  have := key fs.length (Nat.le_refl _) hl hr
  rwa [List.take_of_length_le (Nat.le_refl _)] at this

theorem topL_ne {fs : List Int} (hne : fs ≠ []) (hr : ∀ x ∈ fs, 1 ≤ x ∧ x ≤ 63) : topL fs ≠ [] := by
  obtain ⟨x, hx, he⟩ := top_mem hne hr
  intro e
  have : x ∈ topL fs := by
    unfold topL ofDim
    refine List.mem_filter.2 ⟨hx, ?_⟩
    simp only [decide_eq_true_eq]
    omega
  rw [e] at this
  simp at this
theorem topL_mem {fs : List Int} {x : Int} (h : x ∈ topL fs) : x ∈ fs ∧ (ones x.toNat : Int) = top fs + 1 := by
  unfold topL ofDim at h
  have := List.mem_filter.1 h
  exact ⟨this.1, by simpa using this.2⟩

/-- The last number of a list that is not empty. -/
def lastI (xs : List Int) : Int := xs[xs.length - 1]?.getD 0
theorem lastI_mem {xs : List Int} (h : xs ≠ []) : lastI xs ∈ xs := getD_mem (by have := List.length_pos_iff.2 h; omega)

/-- Taking out a face of the greatest dimension takes out it alone. -/
theorem take_top {fs : List Int} (hr : ∀ x ∈ fs, 1 ≤ x ∧ x ≤ 63) {f : Int} (hf : f ∈ topL fs) : takeL fs f = fs.filter fun x => decide (x ∉ [f]) := by
  have hm := topL_mem hf
  unfold takeL
  refine List.filter_congr fun x hx => ?_
  rw [decide_eq_decide]
  have hxr := hr x hx
  have hfr := hr f hm.1
  constructor
  · intro h hxm
    simp at hxm
    exact h (by rw [hxm]; exact Nat.and_self _)
  · intro h hxf
    simp at h
    have h1 := top_ge fs hx
    have := same_ones ⟨x.toNat, by omega⟩ ⟨f.toNat, by omega⟩ hxf (by have := hm.2; simp only; omega)
    simp only at this
    omega

/-- One round of the reduction. -/
def redStep (s : List Int × List (Int × Int) × List Int) : List Int × List (Int × Int) × List Int :=
  if s.1 = [] then s else (takeL (colE [] s.1).1 (lastI (topL (colE [] s.1).1)), s.2.1 ++ (colE [] s.1).2, s.2.2 ++ [lastI (topL (colE [] s.1).1)])
def redN : Nat → List Int × List (Int × Int) × List Int → List Int × List (Int × Int) × List Int
  | 0, s => s
  | n + 1, s => redStep (redN n s)
/-- The pairs and the critical faces of the reduction. -/
def redE (fs : List Int) : List Int × List (Int × Int) × List Int := redN fs.length (fs, [], [])

theorem redN_stop {s : List Int × List (Int × Int) × List Int} {n : Nat} (h : (redN n s).1 = []) : ∀ m, n ≤ m → redN m s = redN n s := by
  intro m hm
  induction m with
  | zero => have : n = 0 := by omega
            subst this; rfl
  | succ m ih =>
    by_cases hn : n = m + 1
    · rw [hn]
    · have := ih (by omega)
      show redStep (redN m s) = _
      rw [this]
      unfold redStep
      rw [if_pos h]

structure RedAt (V : Int) (fs : List Int) (n : Nat) (cur : List Int) (P : List (Int × Int)) (C : List Int) : Prop where
  eq : redN n (fs, [], []) = (cur, P, C)
  len : n + cur.length ≤ fs.length
  plen : P.length + cur.length ≤ fs.length
  clen : C.length ≤ n
  isC : IsC V cur

theorem colE_tot (ls fs : List Int) : (colE ls fs).2.length + (colE ls fs).1.length ≤ fs.length := by
  have key : ∀ n, (colN ls n (fs, [])).2.length + (colN ls n (fs, [])).1.length ≤ fs.length := by
    intro n
    induction n with
    | zero => simp [colN]
    | succ n ih =>
      show (colStep ls (colN ls n (fs, []))).2.length + (colStep ls (colN ls n (fs, []))).1.length ≤ _
      cases hp : firstP (colN ls n (fs, [])).1 ls with
      | none => rw [colStep_none hp]; exact ih
      | some p =>
        rw [colStep_some hp]
        have := take_lt (firstP_some hp).1
        simp only [List.length_append, List.length_cons, List.length_nil]
        omega
  exact key fs.length

theorem RedAt.start {V : Int} {fs : List Int} (h : IsC V fs) : RedAt V fs 0 fs [] [] := ⟨rfl, by omega, by simp, by simp, h⟩
theorem RedAt.step {V : Int} {fs : List Int} {n : Nat} {cur : List Int} {P : List (Int × Int)} {C : List Int} (h : RedAt V fs n cur P C) (hne : cur ≠ []) :
    RedAt V fs (n + 1) (takeL (colE [] cur).1 (lastI (topL (colE [] cur).1))) (P ++ (colE [] cur).2) (C ++ [lastI (topL (colE [] cur).1)]) ∧ (takeL (colE [] cur).1 (lastI (topL (colE [] cur).1))).length < cur.length := by
  have hc := colE_isC (ls := []) h.isC hne
  have hm := lastI_mem (topL_ne hc.2 hc.1.range63)
  have hl := take_lt (topL_mem hm).1
  have ht := colE_tot [] cur
  have h1 := h.len
  have h2 := h.plen
  have h3 := h.clen
  refine ⟨⟨?_, by omega, by simp; omega, by simp; omega, isC_take hc.1 _⟩, by omega⟩
  show redStep (redN n (fs, [], [])) = _
  rw [h.eq]
  unfold redStep
  rw [if_neg hne]
theorem RedAt.stop {V : Int} {fs : List Int} {n : Nat} {P : List (Int × Int)} {C : List Int} (h : RedAt V fs n [] P C) : redE fs = ([], P, C) := by
  unfold redE
  rw [redN_stop (n := n) (by rw [h.eq]) fs.length (by have := h.len; omega)]
  exact h.eq

/-- What ReductionOf hands back. -/
noncomputable def redR (V : Int) (fs : List Int) : List (Int × Int) × List Int × Int := if isCB V fs then ((redE fs).2.1, (redE fs).2.2, 0) else ([], [], 1)
theorem redE_len {V : Int} {fs : List Int} (h : IsC V fs) : (redE fs).2.1.length ≤ fs.length ∧ (redE fs).2.2.length ≤ fs.length := by
  have key : ∀ n, ∃ cur P C, redN n (fs, [], []) = (cur, P, C) ∧ IsC V cur ∧ P.length + cur.length ≤ fs.length ∧ C.length ≤ n := by
    intro n
    induction n with
    | zero => exact ⟨fs, [], [], rfl, h, by simp, by simp⟩
    | succ n ih =>
      obtain ⟨cur, P, C, e, hc, hp, hC⟩ := ih
      by_cases hne : cur = []
      · refine ⟨cur, P, C, ?_, hc, hp, by omega⟩
        show redStep (redN n (fs, [], [])) = _
        rw [e]
        unfold redStep
        rw [if_pos hne]
      · have hc' := colE_isC (ls := []) hc hne
        have hm := lastI_mem (topL_ne hc'.2 hc'.1.range63)
        have hl := take_lt (topL_mem hm).1
        have ht := colE_tot [] cur
        refine ⟨takeL (colE [] cur).1 (lastI (topL (colE [] cur).1)), P ++ (colE [] cur).2, C ++ [lastI (topL (colE [] cur).1)], ?_, isC_take hc'.1 _, by rw [List.length_append]; omega, by rw [List.length_append, List.length_singleton]; omega⟩
        show redStep (redN n (fs, [], [])) = _
        rw [e]
        unfold redStep
        rw [if_neg hne]
  obtain ⟨cur, P, C, e, _, hp, hC⟩ := key fs.length
  unfold redE
  rw [e]
  exact ⟨by simp only; omega, hC⟩
theorem redR_len (V : Int) (fs : List Int) (h : fs.length ≤ 1048576) : (redR V fs).1.length ≤ 1048576 ∧ (redR V fs).2.1.length ≤ 1048576 := by
  unfold redR
  by_cases hC : IsC V fs
  · have := redE_len hC
    rw [isCB_true hC, if_pos rfl]
    exact ⟨Nat.le_trans this.1 h, Nat.le_trans this.2 h⟩
  · rw [isCB_false hC, if_neg (by simp)]
    simp

end Go.Proofs.Ytojnpacklcajpaa

/-! slices.Max of an ascending list; append of a list of pairs. -/
namespace Go.Proofs.Ytojnpacklcajpaa
open Go.RowKit

set_option maxRecDepth 100000 in
set_option maxHeartbeats 1000000 in
theorem max_any (a : Option Addr) (cap : Nat) (xs : List Int) (w : World) (hx : SlI w w.heap.size a xs) (hl : xs.length ≤ 1048576) (hne : xs ≠ []) (hasc : xs.Pairwise (· < ·)) :
    Calls Try.prog 74 #[.slice a xs.length cap] w fun e w' => e = .returned (.int .i64 (lastI xs)) ∧ w = w' := by
  have h0 : 0 < xs.length := List.length_pos_iff.2 hne
  obtain ⟨b, off, hb, rfl, hc⟩ : ∃ b off, b < w.heap.size ∧ a = some ⟨b, off, none⟩ ∧ ∀ i, i < xs.length → w.cell? ⟨b, off + i, none⟩ = some (.int .i64 (xs[i]?.getD 0)) := by
    rcases hx with rfl | h
    · simp at h0
    · exact h
  have Hc := hid hc
  have Hlt := hid (fun k (h : k + 1 < xs.length) => (by
    rw [List.pairwise_iff_getElem] at hasc
    have := hasc k (k + 1) (by omega) h (by omega)
    rw [List.getElem?_eq_getElem (by omega : k < xs.length), List.getElem?_eq_getElem h]
    exact this : xs[k]?.getD 0 < xs[k + 1]?.getD 0))
  have hc0 : w.cell? ⟨b, off, none⟩ = some (.int .i64 (xs[0]?.getD 0)) := hc 0 h0
  have hn1 : ¬ ((xs.length : Int) < 1) := by omega
  have hi00 : (0 : Int) < (xs.length : Int) := by omega
  obtain ⟨x0, hx0⟩ : ∃ x0, x0 = xs[0]?.getD 0 := ⟨_, rfl⟩
  rw [← hx0] at hc0
  have HX0 := hid hx0
  obtain ⟨r, hr⟩ : ∃ r, r = lastI xs := ⟨_, rfl⟩
  rw [← hr]
  have HR := hid hr
  clear hc hasc hne hx hx0 hr
  go_enter Try.func74, Try.ntmps74
  go_wp2
  go_loopg [3, 4] (xs.length - 1) (fun g m i wx => ∃ k : Nat, k + 1 + g = xs.length ∧ m = .int .i64 (xs[k]?.getD 0) ∧ i = .int .i64 ((k : Int) + 1) ∧ wx = w)
  case atStart => exact ⟨0, by omega, by rw [HX0.out], by simp, rfl⟩
  case round =>
    obtain ⟨k, hkg, rfl, rfl, rfl⟩ := hrel
    cases gk with
    | zero =>
      have hk : ¬ ((k : Int) + 1 < (xs.length : Int)) := by omega
      have he := hid (show r = xs[k]?.getD 0 by rw [HR.out]; unfold lastI; rw [show xs.length - 1 = k by omega])
      go_wp2
      go_ret
      exact ⟨ret_int he.out.symm, rfl⟩
    | succ g =>
      have hk : (k : Int) + 1 < (xs.length : Int) := by omega
      have hk0 : (0 : Int) ≤ (k : Int) + 1 := by omega
      have hck := Hc.out (k + 1) (by omega)
      have hlt := Hlt.out k (by omega)
      obtain ⟨y, hy⟩ : ∃ y, y = xs[k + 1]?.getD 0 := ⟨_, rfl⟩
      rw [← hy] at hck hlt
      have hHy := hid hy
      have hcast : ((k : Int) + 1).toNat = k + 1 := by omega
      clear hy
      go_wp2
      go_roundg g
      case measure => omega
      case rel => exact ⟨k + 1, by omega, by rw [← hHy.out, Int.max_eq_right (by omega)], by go_num, by trivial⟩

/-- 'append(a, b...)' of pairs. -/
theorem append_pairs {w : World} {ops : Array Oper} {rest : List Oper} {o : Oper} {a : Act} {Q : Exit → Act → World → Prop} (hgd : o.guard = none) {s y : Operand}
    (ho : o.op = .call { callee := .builtin .append, args := #[s, y], argTypes := #[26, 26] })
    {base : Nat} {v : Value} {P L : List (Int × Int)} {g c B : Nat} (hown : w.ownsRow base 63 2 v P.length ((flatP P).map (Value.int .i64))) (hbase : base ≤ w.heap.size) (hl : P.length ≤ 1048576) (hly : L.length ≤ 1048576)
    (hs : a.eval s = v) (hy : a.eval y = .slice (some ⟨g, 0, none⟩) L.length c) (hc : w.ownsRow B 63 2 (.slice (some ⟨g, 0, none⟩) L.length c) L.length ((flatP L).map (Value.int .i64)))
    (hK : ∀ v' w', w'.ownsRow base 63 2 v' (P ++ L).length ((flatP (P ++ L)).map (Value.int .i64)) → w.grownBy w' v.ownBlock → Below base w w' → wpList Try.prog ops Q rest (a.put o.dst v') w') :
    wpList Try.prog ops Q (o :: rest) a w := by
  obtain ⟨i0, hi, hz0, hz1, hz2⟩ := info_parts info_pair
  refine wpList_append_own_at w hgd s y 26 ho base 63 i0 (.agg #[.int .i64 0, .int .i64 0]) 2 16 Try.underlying26 hi hz0 hz1 hz2 rfl (by decide) v _ _ hs hown ⟨g, 0, none⟩ L.length c ((flatP L).map (Value.int .i64)) hy (by simp [flatP_len, Nat.mul_comm]) (fun j u hj => hc.cells rfl j u hj) (fun u hu => ?_) (by unfold maxLen; omega) (by omega) hbase ?_
  · obtain ⟨x, _, rfl⟩ := List.mem_map.1 hu
    rfl
  · intro v' w1 hown1 hgrow1 _ _
    refine hK v' w1 ?_ hgrow1 ((Below.refl base w).grown hgrow1 hbase (fun k hk => (hown.lt k hk).1))
    have e : flatP (P ++ L) = flatP P ++ flatP L := by simp [flatP]
    rw [e, List.length_append, List.map_append]
    exact hown1

/-- 'append(a, nil...)' of pairs: nothing happens. -/
theorem append_nil_run (w : World) (ty : TypeId) (ap : Option Addr) (n cap : Nat) (h : n ≤ cap) : (Builtin.append_ #[26, 26] ty #[.slice ap n cap, .slice none 0 0]).run Try.prog w = .ok (.slice ap n cap) w := by
  obtain ⟨i0, hi, hz0, hz1, hz2⟩ := info_parts info_pair
  cases ap with
  | none => simp [Builtin.append_, run_underlying Try.underlying26, sizeOf, typeInfo, hi, Builtin.lenOf, h, Builtin.firstCells]
  | some a => simp [Builtin.append_, run_underlying Try.underlying26, sizeOf, typeInfo, hi, Builtin.lenOf, h, Builtin.firstCells, storeCells]

theorem append_pairs_nil {w : World} {ops : Array Oper} {rest : List Oper} {o : Oper} {a : Act} {Q : Exit → Act → World → Prop} (hgd : o.guard = none) {s y : Operand}
    (ho : o.op = .call { callee := .builtin .append, args := #[s, y], argTypes := #[26, 26] })
    {ap : Option Addr} {n cap : Nat} (h : n ≤ cap) (hs : a.eval s = .slice ap n cap) (hy : a.eval y = .slice none 0 0)
    (hK : wpList Try.prog ops Q rest (a.put o.dst (.slice ap n cap)) w) : wpList Try.prog ops Q (o :: rest) a w := by
  refine wpList_plain hgd fun K hK' => ?_
  have hr := append_nil_run w o.type ap n cap h
  unfold Oper.wp execOp
  simp only [ho, resolve, invoke, builtin, Sem.run_bind, Sem.run_pure, Result.andThen_ok, List.map_toArray, List.map_cons, List.map_nil, hs, hy, hr]
  exact hK' _ _ hK


end Go.Proofs.Ytojnpacklcajpaa

/-! The faces of a dimension: the program's facesOfDimension. -/
namespace Go.Proofs.Ytojnpacklcajpaa
open Go.RowKit

theorem fodWanted (d : Int) (bd : Nat) (x : Int) (w : World) (hx0 : 1 ≤ x) (hx1 : x ≤ 63) (hd : w.cell? ⟨bd, 0, none⟩ = some (.int .i64 d)) :
    Calls Try.prog 106 #[.int .i64 x, .pointer (some ⟨bd, 0, none⟩)] w fun e w' => e = .returned (.bool (decide ((ones x.toNat : Int) = d + 1))) ∧ Below w.heap.size w w' := by
  obtain ⟨f, rfl⟩ : ∃ f : Nat, x = f := ⟨x.toNat, by omega⟩
  have hf : f < 64 := by omega
  rw [Int.toNat_natCast]
  have ho := ones_le f
  have He : Hid (((ones f : Int) - 1 == d) = decide ((ones f : Int) = d + 1)) := hid (by rw [Bool.eq_iff_iff]; simp; omega)
  go_enter Try.func106, Try.ntmps106
  go_wp2_with fail
  go_quiet ((go_at_call 107; exact quiet_of_eq (dim_any f _ hf)))
  go_wp2_with fail
  go_ret
  exact ⟨ret_bool He.out, ⟨rfl, rfl, rfl, Nat.le_refl _, fun _ _ => rfl⟩⟩

set_option maxRecDepth 100000 in
set_option maxHeartbeats 1000000 in
theorem fod_any (V : Int) (a : Option Addr) (cap : Nat) (fs : List Int) (d : Int) (w : World) (hx : SlI w w.heap.size a fs) (hl : fs.length ≤ 1048576) (hf : ∀ x ∈ fs, 1 ≤ x ∧ x ≤ 63) :
    Calls Try.prog 75 #[.agg #[.int .i64 V, .slice a fs.length cap], .int .i64 d] w fun e w' => ∃ v, e = .returned v ∧ Res w w' v (ofDim fs d) := by
  have hB0 : Below w.heap.size w ((w.alloc (.cells #[.int .i64 V, .slice a fs.length cap] 29)).alloc (.cells #[.int .i64 d] 2)) := ((Below.refl _ w).alloc (Nat.le_refl _) _).alloc (by simp) _
  have e1 : ((w.alloc (.cells #[.int .i64 V, .slice a fs.length cap] 29)).alloc (.cells #[.int .i64 d] 2)).heap[w.heap.size + 1]? = some (.cells #[.int .i64 d] 2 (0, 0)) := new2 _ _ _
  have HFW := hid (fw_any V a cap fs _ 106 (.pointer (some ⟨w.heap.size + 1, 0, none⟩)) (fun x => decide ((ones x.toNat : Int) = d + 1)) (hx.later hB0 hB0.size) hl (enters_of Try.func106 (by kernel_rfl) rfl) (fun W' x hW' hxm => fodWanted d _ x W' (hf x hxm).1 (hf x hxm).2 ((hW'.cell (p := ⟨w.heap.size + 1, 0, none⟩) (lt_of_get e1)).trans (box_cell e1).1)))
  clear hx hf e1
  go_enter Try.func75, Try.ntmps75
  go_wp2_with fail
  refine HFW.out.mono ?_
  rintro e w2 ⟨v, rfl, hr⟩
  go_wp2_with fail
  go_ret
  exact ⟨v, rfl, hr.later hB0⟩

end Go.Proofs.Ytojnpacklcajpaa

/-! ReductionOf, the program's. -/
namespace Go.Proofs.Ytojnpacklcajpaa
open Go.RowKit

theorem rd_mono {P : Program} {f : FuncId} {args : Array Value} {w : World} {r : List (Int × Int) × List Int × Int} {L : List (Int × Int)} {xs : List Int} {c : Int} (hr : r = (L, xs, c))
    (h : Calls P f args w fun e w' => ∃ v q, e = .returned (.tuple #[v, q, .int .i64 c]) ∧ ResP w w' v L ∧ Res w w' q xs ∧ Apart v q) : Calls P f args w fun e w' => ∃ v q, e = .returned (.tuple #[v, q, .int .i64 r.2.2]) ∧ ResP w w' v r.1 ∧ Res w w' q r.2.1 ∧ Apart v q := by
  subst hr; exact h

/-- The world of a reduction that is under way. -/
structure RedW (w W : World) (NL : Nat) (V : Int) (cur : List Int) (al : Option Addr) (cl : Nat) (P : List (Int × Int)) (q : Value) (C : List Int) (r : Value) : Prop where
  left : W.heap[NL]? = some (.cells #[.int .i64 V, .slice al cur.length cl] 29 (0, 0))
  sl : SlI W W.heap.size al cur
  prs : W.ownsRow w.heap.size 63 2 q P.length ((flatP P).map (Value.int .i64))
  cri : W.ownsRow w.heap.size 2 1 r C.length (C.map (Value.int .i64))
  below : Below w.heap.size w W
  nl : w.heap.size ≤ NL

theorem RedW.keep {w W W' : World} {NL : Nat} {V : Int} {cur : List Int} {al : Option Addr} {cl : Nat} {P : List (Int × Int)} {q : Value} {C : List Int} {r : Value} (h : RedW w W NL V cur al cl P q C r) (hB : Below W.heap.size W W') : RedW w W' NL V cur al cl P q C r where
  left := (hB.block _ (lt_get h.left)).trans h.left
  sl := h.sl.later hB hB.size
  prs := ownsRow_below h.prs hB (fun g hg => (h.prs.lt g hg).2)
  cri := ownsRow_below h.cri hB (fun g hg => (h.cri.lt g hg).2)
  below := h.below.trans (hB.mono h.below.size)
  nl := h.nl

/-- .. within a round, once the collapse is done. -/
structure MidW (w W : World) (B NL NR : Nat) (V : Int) (s : Value) (ys : List Int) (av : Option Addr) (cv : Nat) (P : List (Int × Int)) (q : Value) (C : List Int) (r : Value) : Prop where
  left : W.heap[NL]? = some (.cells #[.int .i64 V, s] 29 (0, 0))
  rbox : W.heap[NR]? = some (.cells #[.int .i64 V, .slice av ys.length cv] 29 (0, 0))
  rrow : W.ownsRow B 2 1 (.slice av ys.length cv) ys.length (ys.map (Value.int .i64))
  prs : W.ownsRow w.heap.size 63 2 q P.length ((flatP P).map (Value.int .i64))
  cri : W.ownsRow w.heap.size 2 1 r C.length (C.map (Value.int .i64))
  below : Below w.heap.size w W
  nl : w.heap.size ≤ NL

section
variable {w W W' : World} {B NL NR : Nat} {V : Int} {s : Value} {ys : List Int} {av : Option Addr} {cv : Nat} {P : List (Int × Int)} {q : Value} {C : List Int} {r : Value}

theorem MidW.keep (h : MidW w W B NL NR V s ys av cv P q C r) (hB : Below W.heap.size W W') : MidW w W' B NL NR V s ys av cv P q C r where
  left := (hB.block _ (lt_get h.left)).trans h.left
  rbox := (hB.block _ (lt_get h.rbox)).trans h.rbox
  rrow := ownsRow_below h.rrow hB (fun g hg => (h.rrow.lt g hg).2)
  prs := ownsRow_below h.prs hB (fun g hg => (h.prs.lt g hg).2)
  cri := ownsRow_below h.cri hB (fun g hg => (h.cri.lt g hg).2)
  below := h.below.trans (hB.mono h.below.size)
  nl := h.nl

theorem MidW.pushP (h : MidW w W B NL NR V s ys av cv P q C r) (hg : W.grownBy W' q.ownBlock) {P' : List (Int × Int)} {q' : Value} (hown : W'.ownsRow w.heap.size 63 2 q' P'.length ((flatP P').map (Value.int .i64))) : MidW w W' B NL NR V s ys av cv P' q' C r where
  left := (hg.block _ (lt_get h.left) (row_ne_any h.prs h.left (by decide))).trans h.left
  rbox := (hg.block _ (lt_get h.rbox) (row_ne_any h.prs h.rbox (by decide))).trans h.rbox
  rrow := h.rrow.kept hg (by
    cases hv : (Value.slice av ys.length cv).ownBlock with
    | none => exact .inl rfl
    | some g => exact .inr (fun e => apart_ty h.rrow h.prs (by decide) g hv e.symm))
  prs := hown
  cri := h.cri.kept hg (by
    cases hv : r.ownBlock with
    | none => exact .inl rfl
    | some g => exact .inr (fun e => apart_ty h.cri h.prs (by decide) g hv e.symm))
  below := h.below.grown hg h.below.size (fun k e => (h.prs.lt k e).1)
  nl := h.nl

theorem MidW.pushC (h : MidW w W B NL NR V s ys av cv P q C r) (hg : W.grownBy W' r.ownBlock) (hB : ∀ g, r.ownBlock = some g → g < B) {C' : List Int} {r' : Value} (hown : W'.ownsRow w.heap.size 2 1 r' C'.length (C'.map (Value.int .i64))) : MidW w W' B NL NR V s ys av cv P q C' r' where
  left := (hg.block _ (lt_get h.left) (row_ne_any h.cri h.left (by decide))).trans h.left
  rbox := (hg.block _ (lt_get h.rbox) (row_ne_any h.cri h.rbox (by decide))).trans h.rbox
  rrow := h.rrow.kept hg (by
    cases hv : (Value.slice av ys.length cv).ownBlock with
    | none => exact .inl rfl
    | some g => exact .inr (fun e => by have h1 := (h.rrow.lt g hv).1; have h2 := hB g e.symm; omega))
  prs := h.prs.kept hg (by
    cases hv : q.ownBlock with
    | none => exact .inl rfl
    | some g => exact .inr (fun e => apart_ty h.prs h.cri (by decide) g hv e.symm))
  cri := hown
  below := h.below.grown hg h.below.size (fun k e => (h.cri.lt k e).1)
  nl := h.nl

theorem MidW.put (h : MidW w W B NL NR V s ys av cv P q C r) {zs : List Int} {a2 : Option Addr} {c2 b2 : Nat} (hr : W.ownsRow b2 2 1 (.slice a2 zs.length c2) zs.length (zs.map (Value.int .i64))) :
    RedW w ((W.setCell ⟨NL, 0, none⟩ (.int .i64 V)).setCell ⟨NL, 1, none⟩ (.slice a2 zs.length c2)) NL V zs a2 c2 P q C r := by
  have hn := h.nl
  have hx := row_ne_any hr h.left (by decide)
  have hy := row_ne_any h.prs h.left (by decide)
  have hz := row_ne_any h.cri h.left (by decide)
  have hr2 := ownsRow_set (ownsRow_set hr (a := ⟨NL, 0, none⟩) (fun e => hx e.symm) (.int .i64 V)) (a := ⟨NL, 1, none⟩) (fun e => hx e.symm) (.slice a2 zs.length c2)
  exact ⟨two_set h.left _ _, owned_slI hr2, ownsRow_set (ownsRow_set h.prs (fun e => hy e.symm) _) (fun e => hy e.symm) _, ownsRow_set (ownsRow_set h.cri (fun e => hz e.symm) _) (fun e => hz e.symm) _,
    (h.below.setCell (p := ⟨NL, 0, none⟩) hn _).setCell (p := ⟨NL, 1, none⟩) hn _, hn⟩
end

theorem RedW.move {w W : World} {NL : Nat} {V : Int} {cur : List Int} {al : Option Addr} {cl : Nat} {P : List (Int × Int)} {q : Value} {C : List Int} {r : Value} (h : RedW w W NL V cur al cl P q C r) : RedW w (W.alloc (.cells #[.int .i64 V, .slice al cur.length cl] 29)) W.heap.size V cur al cl P q C r := by
  have hk := h.keep ((Below.refl _ W).alloc (Nat.le_refl _) (.cells #[.int .i64 V, .slice al cur.length cl] 29))
  exact ⟨heap_alloc_new _ _, hk.sl, hk.prs, hk.cri, hk.below, h.below.size⟩
theorem one_slI (W : World) (f : Int) : SlI (W.alloc (.cells #[.int .i64 f] 2)) (W.alloc (.cells #[.int .i64 f] 2)).heap.size (some ⟨W.heap.size, 0, none⟩) [f] := by
  refine .inr ⟨W.heap.size, 0, by simp, rfl, fun i hi => ?_⟩
  have : i = 0 := by simp at hi; omega
  subst this
  have h := cell_one_new W (.int .i64 f) 2 0 (.int .i64 f) rfl
  have e : (⟨W.heap.size, 0, none⟩ : Addr).add 0 = ⟨W.heap.size, 0 + 0, none⟩ := by unfold Addr.add; split <;> simp_all
  rw [e] at h
  exact h

theorem ascTop {V : Int} {cur : List Int} (h : IsC V cur) (d : Int) : (ofDim cur d).Pairwise (· < ·) := by unfold ofDim; exact h.asc.filter _

set_option maxRecDepth 100000 in
set_option maxHeartbeats 16000000 in
theorem implReductionOf (V : Int) (a0 : Option Addr) (cap : Nat) (fs : List Int) (w : World) (hx : SlI w w.heap.size a0 fs) (hl : fs.length ≤ 1048576) :
    Calls Try.prog 43 #[.agg #[.int .i64 V, .slice a0 fs.length cap]] w fun e w' => ∃ v q, e = .returned (.tuple #[v, q, .int .i64 (redR V fs).2.2]) ∧ ResP w w' v (redR V fs).1 ∧ Res w w' q (redR V fs).2.1 ∧ Apart v q := by
  have hB0 : Below w.heap.size w (w.alloc (.cells #[.int .i64 V, .slice a0 fs.length cap] 29)) := (Below.refl _ w).alloc (Nat.le_refl _) _
  have Hx := hid (hx.later hB0 hB0.size)
  by_cases hC : IsC V fs
  · refine rd_mono (show redR V fs = ((redE fs).2.1, (redE fs).2.2, 0) by unfold redR; rw [isCB_true hC, if_pos rfl]) ?_
    have HC := hid hC
    clear hC
    go_enter Try.func43, Try.ntmps43
    go_wp2_with fail
    refine (isc_yes V a0 cap fs _ Hx.out hl HC.out).mono ?_
    rintro e w1 ⟨rfl, hB1⟩
    have k0 : w1.cell? ⟨w.heap.size, 0, none⟩ = some (.int .i64 V) := (hB1.cell (p := ⟨w.heap.size, 0, none⟩) (by simp <;> omega)).trans (by simp [go_sem])
    have k1 : w1.cell? ⟨w.heap.size, 1, none⟩ = some (.slice a0 fs.length cap) := (hB1.cell (p := ⟨w.heap.size, 1, none⟩) (by simp <;> omega)).trans (by simp [go_sem])
    have HB01 := hid (hB0.trans (hB1.mono (by simp <;> omega)))
    have H0 : Hid (RedW w (w1.alloc (.cells #[.int .i64 V, .slice a0 fs.length cap] 29)) w1.heap.size V fs a0 cap [] (.slice none 0 0) [] (.slice none 0 0)) := hid
      ⟨heap_alloc_new _ _, hx.later (HB01.out.alloc HB01.out.size _) (HB01.out.alloc HB01.out.size _).size, World.ownsRow_nil _ _ _ _, World.ownsRow_nil _ _ _ _, HB01.out.alloc HB01.out.size _, HB01.out.size⟩
    clear hB1
    go_wp2_with fail
    clear k0 k1
    go_loopg [5, 6, 7] fs.length (fun g p c t wr => ∃ (n : Nat) (cur : List Int) (P : List (Int × Int)) (C : List Int) (NL : Nat) (al : Option Addr) (cl : Nat), t = .pointer (some ⟨NL, 0, none⟩) ∧ Hid (cur.length ≤ g) ∧ Hid (RedAt V fs n cur P C) ∧ Hid (RedW w wr NL V cur al cl P p C c))
    case atStart => exact ⟨0, fs, [], [], w1.heap.size, a0, cap, rfl, hid (Nat.le_refl _), hid (RedAt.start HC.out), H0⟩
    case round =>
      clear H0
      obtain ⟨n, cur, P, C, NL, al, cl, rfl, Hg, HA, HR⟩ := hrel
      obtain ⟨k0, k1, _, _⟩ := two_of HR.out.left
      have hcl : cur.length ≤ 1048576 := by have := HA.out.len; omega
      have hPl : P.length ≤ 1048576 := by have := HA.out.plen; omega
      have hCl : C.length ≤ 1048576 := by have := HA.out.clen; have := HA.out.len; omega
      by_cases hne : cur = []
      · subst hne
        have HE := hid HA.out.stop
        simp only [List.length_nil] at k1
        have hd : ¬ ((0 : Int) < 0) := by omega
        go_wp2_with fail
        go_ret3
        rw [HE.out]
        exact ⟨_, _, rfl, ⟨HR.out.prs, HR.out.below⟩, ⟨HR.out.cri, HR.out.below⟩, apart_ty HR.out.prs HR.out.cri (by decide)⟩
      · have hpos : (0 : Int) < (cur.length : Int) := by have := List.length_pos_iff.2 hne; omega
        obtain ⟨hA2, hlt⟩ := HA.out.step hne
        have hcE := colE_isC (ls := []) HA.out.isC hne
        have Hcf := hid HA.out.isC.range63
        have hel := colE_len [] cur
        have HCI := hid (colI_any V al cl cur 0 none 0 [] wr HR.out.sl (.inl rfl) hcl (by simp) Hcf.out)
        obtain ⟨E, hE⟩ : ∃ E, E = colE [] cur := ⟨_, rfl⟩
        rw [← hE] at hA2 hlt hcE hel HCI
        obtain ⟨ys, L⟩ := E
        simp only at hA2 hlt hcE hel HCI
        have Hyr := hid hcE.1.range63
        have Htn := hid (topL_ne hcE.2 Hyr.out)
        have Hasc := hid (ascTop hcE.1 (top ys))
        have HT := hid (take_top Hyr.out (lastI_mem Htn.out))
        have htl : (topL ys).length ≤ 1048576 := by
          have : (topL ys).length ≤ ys.length := by unfold topL ofDim; exact List.length_filter_le _ _
          omega
        obtain ⟨f, hf⟩ : ∃ f, f = lastI (topL ys) := ⟨_, rfl⟩
        rw [← hf] at hA2 hlt HT
        have Hf := hid hf
        obtain ⟨zs, hzs⟩ : ∃ zs, zs = takeL ys f := ⟨_, rfl⟩
        rw [← hzs] at hA2 hlt HT
        have HA2 := hid hA2
        have Hlt := hid hlt
        have hyl : ys.length ≤ 1048576 := by omega
        have hLl : L.length ≤ 1048576 := by omega
        clear hA2 hlt hcE hE hf hzs hne hel
        go_wp2_with fail
        refine HCI.out.mono ?_
        rintro e w2 ⟨v, q, rfl, hr⟩
        obtain ⟨_, av, cv, rfl, _⟩ := ownsRow_slI hr.1.1
        obtain ⟨_, aq, cq, rfl, _⟩ := pairs_form hr.2.1.1
        obtain ⟨NR, hNR⟩ : ∃ NR, NR = w2.heap.size := ⟨_, rfl⟩
        obtain ⟨w3, hw3⟩ : ∃ w3, w3 = w2.alloc (.cells #[.int .i64 V, .slice av ys.length cv] 29) := ⟨_, rfl⟩
        have HW3 := hid hw3
        have hb3 : Below wr.heap.size wr w3 := by rw [hw3]; exact hr.1.2.alloc hr.1.2.size _
        have HR3 := hid (HR.out.keep hb3)
        have Q3 := hid (show w3.heap[NR]? = some (.cells #[.int .i64 V, .slice av ys.length cv] 29 (0, 0)) by rw [hw3, hNR]; exact heap_alloc_new _ _)
        have Rr3 := hid (show w3.ownsRow wr.heap.size 2 1 (.slice av ys.length cv) ys.length (ys.map (Value.int .i64)) by rw [hw3]; exact hr.1.1.alloc _)
        have Mr3 := hid (show w3.ownsRow wr.heap.size 63 2 (.slice aq L.length cq) L.length ((flatP L).map (Value.int .i64)) by rw [hw3]; exact hr.2.1.1.alloc _)
        have HcL := hid (fun g hg => (HR.out.cri.lt g hg).2)
        have HpL := hid (fun g hg => (HR.out.prs.lt g hg).2)
        obtain ⟨b0, b1, _, _⟩ := two_of Q3.out
        have HrS := hid (owned_slI Rr3.out)
        clear k0 k1 hr hb3 hw3
        go_wp2_with fail
        rw [← HW3.out, ← hNR]
        clear hNR
        have M3 : Hid (MidW w w3 wr.heap.size NL NR V (.slice al cur.length cl) ys av cv P _ C _) := hid ⟨HR3.out.left, Q3.out, Rr3.out, HR3.out.prs, HR3.out.cri, HR3.out.below, HR3.out.nl⟩
        go_cut [10] from 25 to 29 (fun p wx => p = .int .i64 f ∧ Below w3.heap.size w3 wx)
        case first =>
          go_region_with (first
            | (go_at_call 76; refine (dimI_any V av cv ys w3.drew HrS.out hyl Hyr.out).mono ?_; rintro e w4 ⟨rfl, hB4⟩; have hb4 : Below w3.heap.size w3 w4 := ⟨hB4.os, hB4.tape, hB4.output, hB4.size, hB4.block⟩; have b04 := (hb4.cell (p := ⟨NR, 0, none⟩) (lt_get Q3.out)).trans b0; have b14 := (hb4.cell (p := ⟨NR, 1, none⟩) (lt_get Q3.out)).trans b1; have HS4 := hid (HrS.out.later hb4 hb4.size); have HB4 := hid hb4; clear hB4 hb4)
            | (go_at_call 75; refine (fod_any V av cv ys (top ys) w4 HS4.out hyl Hyr.out).mono ?_; rintro e w5 ⟨v5, rfl, hr5⟩; obtain ⟨_, a5, c5, rfl, _⟩ := ownsRow_slI hr5.1; have HB5 := hid (HB4.out.trans (hr5.2.mono HB4.out.size)); have HS5 := hid (owned_slI hr5.1); have b05 := (hr5.2.cell (p := ⟨NR, 0, none⟩) (Nat.lt_of_lt_of_le (lt_get Q3.out) HB4.out.size)).trans b04; have b15 := (hr5.2.cell (p := ⟨NR, 1, none⟩) (Nat.lt_of_lt_of_le (lt_get Q3.out) HB4.out.size)).trans b14; clear hr5)
            | (go_at_call 74; refine (max_any a5 c5 (topL ys) w5 HS5.out htl Htn.out Hasc.out).mono ?_; rintro e u ⟨rfl, rfl⟩; rw [← Hf.out]))
          all_goals
            go_wp2_with fail
            go_meet
            case rel => exact ⟨rfl, HB5.out⟩
        case rest =>
          obtain ⟨rfl, hb5⟩ := hcut
          have M5 := hid (M3.out.keep hb5)
          have Mr5 := hid (ownsRow_below Mr3.out hb5 (fun g hg => (Mr3.out.lt g hg).2))
          clear b0 b1 hb5 M3 Mr3 HR3 Q3 Rr3 HrS
          iterate 2 (first | go_values | go_skip | go_guarded | go_step | go_upon | go_back)
          go_cut [5] from 30 to 32 (fun p wx => Hid (MidW w wx wr.heap.size NL NR V (.slice al cur.length cl) ys av cv (P ++ L) p C u6))
          case first =>
            have hs5 := M5.out.below.size
            rcases Mr5.out.2 with ⟨hv, hn⟩ | ⟨g, cp, cu, hv, _⟩
            · have hL : L = [] := List.eq_nil_of_length_eq_zero hn
              subst hL
              injection hv with h1 h2 h3
              subst h1 h3
              obtain ⟨_, ap, cp', rfl, _⟩ := pairs_form M5.out.prs
              have hcp : P.length ≤ cp' := by
                rcases M5.out.prs.2 with ⟨_, hn⟩ | ⟨_, _, _, h, _, _, hle, _⟩
                · omega
                · injection h with _ _ h; omega
              clear hn h2
              go_wp2_with (at_builtin; refine append_pairs_nil rfl rfl hcp rfl rfl ?_)
              go_meet
              case rel => rw [List.append_nil]; exact M5
            · injection hv with h1 h2 h3
              subst h1 h3
              clear h2
              have hmr := Mr5.out
              have hprs := M5.out.prs
              go_wp2_with (at_builtin; refine append_pairs rfl rfl hprs hs5 hPl hLl rfl rfl hmr ?_; intro v' w7 hown7 hgrow7 hB7)
              go_meet
              case rel => exact hid (M5.out.pushP hgrow7 hown7)
          case rest =>
            have M6 := hcut
            clear hcut M5 Mr5
            have hcri := M6.out.cri
            have hs6 := M6.out.below.size
            go_wp2_with (first
              | (at_builtin; refine append_int_at rfl rfl hcri hs6 (by omega) rfl rfl ?_; intro v' w8 hown8 hgrow8 hat8 hB8; have M8 := hid (M6.out.pushC hgrow8 HcL.out hown8); obtain ⟨d0, d1, _, _⟩ := two_of M8.out.rbox; have N8 := hid (M8.out.keep ((Below.refl _ w8).alloc (Nat.le_refl _) (.cells #[.int .i64 f] 2))); clear hown8 hgrow8 hat8 hB8)
              | (go_at_call 62; refine (wo_any V av cv ys (some ⟨w8.heap.size, 0, none⟩) 1 [f] _ (owned_slI N8.out.rrow) (one_slI w8 f) hyl (by simp)).mono ?_; rintro e w10 ⟨v, rfl, hr10⟩; rw [← HT.out] at hr10; obtain ⟨_, a10, c10, rfl, _⟩ := ownsRow_slI hr10.1; have M10 := hid (N8.out.keep hr10.2); obtain ⟨i0, i1, g0, g1⟩ := two_of M10.out.left; have HR11 := hid (M10.out.put hr10.1); clear hr10))
            have hm := HR11.out.move
            have e : ((w10.setCell ⟨NL, 0, none⟩ (.int .i64 V)).setCell ⟨NL, 1, none⟩ (.slice a10 zs.length c10)).heap.size = w10.heap.size := by simp [World.setCell]
            rw [e] at hm
            go_roundg zs.length
            case measure => have h1 := Hg.out; have h2 := Hlt.out; omega
            case rel => exact ⟨n + 1, zs, P ++ L, C ++ [f], w10.heap.size, a10, c10, rfl, hid (Nat.le_refl _), HA2, hid hm⟩
  · refine rd_mono (show redR V fs = ([], [], 1) by unfold redR; rw [isCB_false hC, if_neg (by simp)]) ?_
    go_enter Try.func43, Try.ntmps43
    go_wp2_with fail
    refine (isc_no V a0 cap fs _ Hx.out hl hC).mono ?_
    rintro e w1 ⟨rfl, hB1⟩
    have HB01 := hid (hB0.trans (hB1.mono (by simp <;> omega)))
    go_wp2_with fail
    go_ret3
    exact ⟨_, _, rfl, resP_nil _ _ HB01.out, res_nil _ _ HB01.out, fun g hg => by simp [Value.ownBlock] at hg⟩

end Go.Proofs.Ytojnpacklcajpaa
