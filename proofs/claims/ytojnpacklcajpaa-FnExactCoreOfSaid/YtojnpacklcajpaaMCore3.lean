/- THE STATEMENT on CoreOf: for every argument that comes in (a complex-like value: any number, any slice of int64) the law returns true and leaves its argument as it was. No conditions. -/
import Derived.Deep.LoopGhost
import Derived.Deep.RegionWith
import Derived.Lib.SliceRun
import Derived.Lib.Walk
import Derived.Deep.CutRange
import Derived.Test.YtojnpacklcajpaaMCore1
import Derived.Test.YtojnpacklcajpaaMCore2
/-! FreePairs, the program's. -/
namespace Go.Proofs.Ytojnpacklcajpaa
open Go.RowKit Go.Conc

/-- What FreePairs hands back. -/
noncomputable def freePairsR (V : Int) (fs : List Int) : List (Int × Int) × Int := if isCB V fs then (freeP fs fs, 0) else ([], 1)

theorem freePairsR_len (V : Int) (fs : List Int) (h : fs.length ≤ 1048576) : (freePairsR V fs).1.length ≤ 1048576 := by
  unfold freePairsR
  split
  · exact Nat.le_trans (freeP_len _ _) h
  · simp

theorem chan_get (x y : Int) (M : List (Int × Int)) : (((x, y) :: M).map fun p => pairV p.1 p.2).toArray.getD 0 undef = pairV x y := by simp
theorem chan_rest (x y : Int) (M : List (Int × Int)) : (((x, y) :: M).map fun p => pairV p.1 p.2).toArray.extract 1 (((x, y) :: M).map fun p => pairV p.1 p.2).toArray.size = (M.map fun p => pairV p.1 p.2).toArray := by
  simp
  exact List.take_of_length_le (by simp)

theorem pairs_mono {P : Program} {f : FuncId} {args : Array Value} {w : World} {r : List (Int × Int) × Int} {xs : List (Int × Int)} {c : Int} (hr : r = (xs, c))
    (h : Calls P f args w fun e w' => ∃ v, e = .returned (.tuple #[v, .int .i64 c]) ∧ ResP w w' v xs) : Calls P f args w fun e w' => ∃ v, e = .returned (.tuple #[v, .int .i64 r.2]) ∧ ResP w w' v r.1 := by
  subst hr; exact h

set_option maxRecDepth 100000 in
set_option maxHeartbeats 4000000 in
theorem implFreePairs (V : Int) (a0 : Option Addr) (cap : Nat) (fs : List Int) (w : World) (hx : SlI w w.heap.size a0 fs) (hl : fs.length ≤ 1048576) :
    Calls Try.prog 18 #[.agg #[.int .i64 V, .slice a0 fs.length cap]] w fun e w' => ∃ v, e = .returned (.tuple #[v, .int .i64 (freePairsR V fs).2]) ∧ ResP w w' v (freePairsR V fs).1 := by
  have hB0 : Below w.heap.size w (w.alloc (.cells #[.int .i64 V, .slice a0 fs.length cap] 29)) := (Below.refl _ w).alloc (Nat.le_refl _) _
  have Hx := hid (hx.later hB0 hB0.size)
  by_cases hC : IsC V fs
  · refine pairs_mono (show freePairsR V fs = (freeP fs fs, 0) by unfold freePairsR; rw [isCB_true hC, if_pos rfl]) ?_
    have HC := hid hC
    have Hf := hid hC.range63
    have Hlen := hid (freeP_len fs fs)
    obtain ⟨L, hL⟩ : ∃ L, L = freeP fs fs := ⟨_, rfl⟩
    rw [← hL] at Hlen ⊢
    have HL := hid hL
    clear hC hL
    go_enter Try.func18, Try.ntmps18
    go_wp2_with fail
    refine (isc_yes V a0 cap fs _ Hx.out hl HC.out).mono ?_
    rintro e w1 ⟨rfl, hB1⟩
    have k0 : w1.cell? ⟨w.heap.size, 0, none⟩ = some (.int .i64 V) := (hB1.cell (p := ⟨w.heap.size, 0, none⟩) (by simp)).trans (by simp [go_sem])
    have k1 : w1.cell? ⟨w.heap.size, 1, none⟩ = some (.slice a0 fs.length cap) := (hB1.cell (p := ⟨w.heap.size, 1, none⟩) (by simp)).trans (by simp [go_sem])
    have hB01 := hB0.trans (hB1.mono (by simp))
    have HB01 := hid hB01
    have hx1 := hid (hx.later hB01 hB01.size)
    clear hB0 hB01 hB1
    go_wp2_with fail
    refine (freeF_any V a0 cap fs _ hx1.out hl Hf.out).mono ?_
    rintro e w2 ⟨c, rfl, hcs, hch, hB2⟩
    have HB2 := hid (HB01.out.trans (hB2.mono HB01.out.size))
    have Hcs := hid (Nat.le_trans HB01.out.size hcs)
    rw [← HL.out] at hch
    have Hch := hid hch
    clear hB2 hch hcs k0 k1
    go_wp2_with fail
    go_loopg [4] L.length (fun gg v wr => ∃ pre R : List (Int × Int), L = pre ++ R ∧ R.length = gg ∧ ChanP wr c R fs.length true ∧ wr.ownsRow w.heap.size 63 2 v pre.length ((flatP pre).map (Value.int .i64)) ∧ Below w.heap.size w wr)
    case atStart => exact ⟨[], L, rfl, rfl, Hch.out, World.ownsRow_nil _ _ _ _, HB2.out⟩
    case round =>
      obtain ⟨pre, R, hLR, hR, ⟨s, r, hch⟩, hown, hB⟩ := hrel
      cases gk with
      | zero =>
        obtain rfl : R = [] := by cases R with | nil => rfl | cons _ _ => simp at hR
        iterate 1 (first | go_values | go_skip | go_guarded | go_step | go_upon | go_back)
        have hz := zero_pair wr
        have hu := Try.underlying65
        refine region_to ?_
        refine opsTo_shut (i := 0) (o := _) (c := c) (z := .agg #[.int .i64 0, .int .i64 0]) (ok := true) rfl rfl (by simp [go_sem, rcase, execOp, Act.eval, hz, run_underlying hu]) hch ?_
        refine opsTo_val (i := 1) (o := _) (v := .bool false) (w' := wr) rfl rfl rfl ?_
        refine opsTo_nil ?_
        simp only [got]
        clear hch hz hu
        go_simp
        go_wp2
        go_ret2
        rw [List.append_nil] at hLR
        subst hLR
        exact ⟨_, rfl, hown, hB⟩
      | succ g =>
        obtain ⟨x, y, M, rfl⟩ : ∃ x y M, R = (x, y) :: M := by
          cases R with
          | nil => simp at hR
          | cons p M => exact ⟨p.1, p.2, M, rfl⟩
        iterate 1 (first | go_values | go_skip | go_guarded | go_step | go_upon | go_back)
        have hz := zero_pair wr
        have hu := Try.underlying65
        refine region_to ?_
        refine opsTo_recv (i := 0) (o := _) (c := c) (z := .agg #[.int .i64 0, .int .i64 0]) (ok := true) rfl rfl (by simp [go_sem, rcase, execOp, Act.eval, hz, run_underlying hu]) hch (by simp) ?_
        rw [chan_get, chan_rest]
        obtain ⟨wz, hwz⟩ : ∃ wz, wz = wr.setChan c fs.length (M.map fun p => pairV p.1 p.2).toArray true s (r + 1) false := ⟨_, rfl⟩
        have hown2 := ownsRow_chan (cap' := fs.length) (s' := s) (r' := r + 1) (buf' := (M.map fun p => pairV p.1 p.2).toArray) (cl' := true) (tm' := false) hown hch
        rw [← hwz] at hown2
        have hch2 : ChanP wz c M fs.length true := ⟨s, r + 1, by rw [hwz]; exact heap_setChan wr c _ _ _ _ _ _ (lt_get hch)⟩
        have hB2 : Below w.heap.size w wz := by rw [hwz]; exact below_setChan hB Hcs.out _ _ _ _ _ _
        rw [← hwz]
        refine opsTo_val (i := 1) (o := _) (v := .bool true) (w' := wz) rfl rfl rfl ?_
        refine opsTo_nil ?_
        simp only [got, pairV]
        have Hch2 := hid hch2
        have HB3 := hid hB2
        have hsz := hB2.size
        have hpl : pre.length ≤ 1048576 := by have := Hlen.out; have := congrArg List.length hLR; simp at this; omega
        have HLR := hid hLR
        have hRM : Hid (M.length = g) := hid (by simpa using hR)
        clear hch hz hu hwz hown hB hch2 hB2 hLR hR
        go_simp
        go_wp2_with (at_builtin; refine append_pair rfl rfl (hown2.alloc _) (by simp; omega) (by omega) rfl (by rw [World.size_alloc]; rfl) ?_; intro v' w3 hown3 hgrow3 hB3)
        go_roundg g
        case measure => omega
        case rel =>
          have hs3 : w.heap.size ≤ (wz.alloc (.cells #[.int .i64 x, .int .i64 y] 63)).heap.size := by simp; omega
          obtain ⟨s2, r2, hc2⟩ := Hch2.out
          have hc3 := (Below.heap_alloc wz (.cells #[.int .i64 x, .int .i64 y] 63) c (lt_get hc2)).trans hc2
          refine ⟨pre ++ [(x, y)], M, by rw [HLR.out]; simp, by have := hRM.out; omega, ⟨s2, r2, ?_⟩, hown3, (HB3.out.alloc hsz _).trans hB3⟩
          exact (hgrow3.block c (lt_get hc3) (row_ne_chan (hown2.alloc _) hc3)).trans hc3
  · refine pairs_mono (show freePairsR V fs = ([], 1) by unfold freePairsR; rw [isCB_false hC, if_neg (by simp)]) ?_
    go_enter Try.func18, Try.ntmps18
    go_wp2_with fail
    refine (isc_no V a0 cap fs _ Hx.out hl hC).mono ?_
    rintro e w1 ⟨rfl, hB1⟩
    go_wp2_with fail
    go_ret2
    exact ⟨_, rfl, World.ownsRow_nil _ _ _ _, hB0.trans (hB1.mono (by simp))⟩

end Go.Proofs.Ytojnpacklcajpaa

/-! The program's freePairOf. -/
namespace Go.Proofs.Ytojnpacklcajpaa
open Go.RowKit Go.Conc

set_option maxRecDepth 100000 in
theorem load_pr {w : World} {b o : Nat} {x y : Value} (h0 : w.cell? ⟨b, o, none⟩ = some x) (h1 : w.cell? ⟨b, o + 1, none⟩ = some y) :
    (loadVar 63 ⟨b, o, none⟩).run Try.prog w = .ok (.agg #[x, y]) w := by
  go_simp

set_option maxRecDepth 100000 in
theorem done_pr {fn : Func} {R : Ending → World → Prop} {a : Act} {w : World} {p u : Tmp} (hr : fn.results = #[.cell p 63, .tmp u]) (hd : a.defers = []) {b o : Nat} {x y c : Value}
    (hp : a.tmps.getD p undef = .pointer (some ⟨b, o, none⟩)) (h0 : w.cell? ⟨b, o, none⟩ = some x) (h1 : w.cell? ⟨b, o + 1, none⟩ = some y) (hu : a.tmps.getD u undef = c) (hR : R (.returned (.tuple #[.agg #[x, y], c])) w) : bodyPost Try.prog fn R .ret a w := by
  refine bodyPost_ret (v := .tuple #[.agg #[x, y], c]) ?_ hd hR
  rw [results_cell_tmp hr, hp, hu]
  show ((loadVar 63 ⟨b, o, none⟩).run Try.prog w).andThen _ = _
  rw [load_pr h0 h1]
  rfl

set_option maxRecDepth 100000 in
theorem done_pr1 {fn : Func} {R : Ending → World → Prop} {a : Act} {w : World} {p : Tmp} (hr : fn.results = #[.cell p 63]) (hd : a.defers = []) {b o : Nat} {x y : Value}
    (hp : a.tmps.getD p undef = .pointer (some ⟨b, o, none⟩)) (h0 : w.cell? ⟨b, o, none⟩ = some x) (h1 : w.cell? ⟨b, o + 1, none⟩ = some y) (hR : R (.returned (.agg #[x, y])) w) : bodyPost Try.prog fn R .ret a w := by
  refine bodyPost_ret (v := .agg #[x, y]) ?_ hd hR
  have hp' : a.tmps[p]?.getD undef = .pointer (some ⟨b, o, none⟩) := by simpa using hp
  simp [results, hr, hp', asAddr, load_pr h0 h1]

theorem two_set1 {W : World} {b : Nat} {x y : Value} {t : Nat} (h : W.heap[b]? = some (.cells #[x, y] t (0, 0))) (u : Value) : (W.setCell ⟨b, 0, none⟩ u).heap[b]? = some (.cells #[u, y] t (0, 0)) := by
  simp only [World.setCell, Array.getElem?_modify, h]
  simp

/-- What freePairOf hands back for a face. -/
def fpOf (fs : List Int) (f : Int) : Int × Int := if freeG fs f.toNat = 0 then (0, 0) else (f, freeG fs f.toNat)

/-- A receive from a channel of pairs that is closed: what the walk goes on with. -/
theorem chan_some {w wr : World} {c : Nat} {x y : Int} {M : List (Int × Int)} {n s r : Nat} (hch : wr.heap[c]? = some (.chan n (((x, y) :: M).map fun p => pairV p.1 p.2).toArray true s r false)) (hcs : w.heap.size ≤ c) (hB : Below w.heap.size w wr) :
    ∃ wz, wz = wr.setChan c n ((((x, y) :: M).map fun p => pairV p.1 p.2).toArray.extract 1 (((x, y) :: M).map fun p => pairV p.1 p.2).toArray.size) true s (r + 1) false ∧ ChanP wz c M n true ∧ Below w.heap.size w wz ∧ (∀ b o, b ≠ c → wr.heap[b]? = some o → wz.heap[b]? = some o) := by
  rw [chan_rest]
  refine ⟨_, rfl, ⟨s, r + 1, heap_setChan wr c _ _ _ _ _ _ (lt_get hch)⟩, below_setChan hB hcs _ _ _ _ _ _, fun b o hb ho => ?_⟩
  simp only [World.setChan]
  rw [Array.getElem?_setIfInBounds_ne (by omega)]
  exact ho

theorem ChanP.alloc {w : World} {c : Nat} {L : List (Int × Int)} {n : Nat} {cl : Bool} (h : ChanP w c L n cl) (o : Obj) : ChanP (w.alloc o) c L n cl := by
  obtain ⟨s, r, hc⟩ := h
  exact ⟨s, r, (Below.heap_alloc w o c (lt_get hc)).trans hc⟩

set_option maxRecDepth 100000 in
set_option maxHeartbeats 4000000 in
theorem fpo_yes (V : Int) (a0 : Option Addr) (cap : Nat) (fs : List Int) (f : Int) (w : World) (hx : SlI w w.heap.size a0 fs) (hl : fs.length ≤ 1048576) (hC : IsC V fs) (hm : f ∈ fs) :
    Calls Try.prog 61 #[.agg #[.int .i64 V, .slice a0 fs.length cap], .int .i64 f] w fun e w' => e = .returned (.tuple #[.agg #[.int .i64 (fpOf fs f).1, .int .i64 (fpOf fs f).2], .int .i64 0]) ∧ Below w.heap.size w w' := by
  have hB0 : Below w.heap.size w ((w.alloc (.cells #[.int .i64 V, .slice a0 fs.length cap] 29)).alloc (.cells #[.int .i64 0, .int .i64 0] 63)) := ((Below.refl _ w).alloc (Nat.le_refl _) _).alloc (by simp) _
  have Hx := hid (hx.later hB0 hB0.size)
  have HC := hid hC
  have Hf := hid hC.range63
  have Hm := hid hm
  have Hlen := hid (freeP_len fs fs)
  obtain ⟨L, hL⟩ : ∃ L, L = freeP fs fs := ⟨_, rfl⟩
  have HL := hid hL
  obtain ⟨F, hF⟩ : ∃ F, F = fpOf fs f := ⟨_, rfl⟩
  have HF := hid hF
  rw [← hL] at Hlen
  rw [← hF]
  clear hC hL hF hm
  go_enter Try.func61, Try.ntmps61
  go_wp2_with fail
  refine (fh_yes V a0 cap fs _ _ Hx.out hl HC.out Hm.out).mono ?_
  rintro e w1 ⟨b, rfl, _, _, hB1⟩
  have q0 : w1.heap[w.heap.size]? = some (.cells #[.int .i64 V, .slice a0 fs.length cap] 29 (0, 0)) := (hB1.block _ (by simp <;> omega)).trans ((Below.heap_alloc _ _ _ (by simp)).trans (heap_alloc_new _ _))
  have r1 : w1.heap[w.heap.size + 1]? = some (.cells #[.int .i64 0, .int .i64 0] 63 (0, 0)) := (hB1.block _ (by simp <;> omega)).trans (new2 _ _ _)
  have hB01 := hB0.trans (hB1.mono (by simp <;> omega))
  have HB01 := hid hB01
  have hx1 := hid (hx.later hB01 hB01.size)
  obtain ⟨k0, k1, _, _⟩ := two_of q0
  have R1 := hid r1
  clear hB0 hB01 hB1 q0 r1
  go_wp2_with fail
  refine (freeF_any V a0 cap fs _ hx1.out hl Hf.out).mono ?_
  rintro e w2 ⟨c, rfl, hcs, hch, hB2⟩
  have HB2 := hid (HB01.out.trans (hB2.mono HB01.out.size))
  have Hcs := hid (Nat.le_trans HB01.out.size hcs)
  have Hne := hid (show w.heap.size + 1 ≠ c by have := lt_get R1.out; omega)
  have R2 := hid ((hB2.block _ (lt_get R1.out)).trans R1.out)
  rw [← HL.out] at hch
  have Hch := hid hch
  clear hB2 hch hcs k0 k1 R1
  go_wp2_with fail
  go_loopg [] L.length (fun gg wr => ∃ pre R : List (Int × Int), L = pre ++ R ∧ R.length = gg ∧ Hid (∀ p ∈ pre, p.1 ≠ f) ∧ ChanP wr c R fs.length true ∧ wr.heap[w.heap.size + 1]? = some (.cells #[.int .i64 0, .int .i64 0] 63 (0, 0)) ∧ Below w.heap.size w wr)
  case atStart => exact ⟨[], L, rfl, rfl, hid (by simp), Hch.out, R2.out, HB2.out⟩
  case round =>
    obtain ⟨pre, R, hLR, hR, Hpre, ⟨s, r, hch⟩, hres, hB⟩ := hrel
    have HR := hid hres
    clear hres
    cases gk with
    | zero =>
      obtain rfl : R = [] := by cases R with | nil => rfl | cons _ _ => simp at hR
      have Hz : Hid (F = (0, 0)) := hid (by
        rw [HF.out]
        unfold fpOf
        by_cases h0 : freeG fs f.toNat = 0
        · rw [if_pos h0]
        · have : (f, freeG fs f.toNat) ∈ freeP fs fs := mem_freeP.2 ⟨Hm.out, h0, rfl⟩
          rw [← HL.out, hLR, List.append_nil] at this
          exact absurd rfl (Hpre.out _ this))
      iterate 1 (first | go_values | go_skip | go_guarded | go_step | go_upon | go_back)
      have hz := zero_pair wr
      have hu := Try.underlying65
      refine region_to ?_
      refine opsTo_shut (i := 0) (o := _) (c := c) (z := .agg #[.int .i64 0, .int .i64 0]) (ok := true) rfl rfl (by simp [go_sem, rcase, execOp, Act.eval, hz, run_underlying hu]) hch ?_
      refine opsTo_val (i := 1) (o := _) (v := .bool false) (w' := wr) rfl rfl rfl ?_
      refine opsTo_nil ?_
      simp only [got]
      clear hch hz hu hLR hR
      obtain ⟨c0, c1, f0, f1⟩ := two_of HR.out
      go_simp
      go_wp2
      (try simp only [Exit.inBlock, Exit.then])
      have R3 := two_of (two_set HR.out (.int .i64 0) (.int .i64 0))
      refine done_pr (p := 4) (u := 5) (c := .int .i64 0) (by kernel_rfl) rfl rfl R3.1 R3.2.1 rfl ⟨by rw [Hz.out], ?_⟩
      exact (hB.setCell (p := ⟨w.heap.size + 1, 0, none⟩) (by show w.heap.size ≤ w.heap.size + 1; omega) _).setCell (p := ⟨w.heap.size + 1, 1, none⟩) (by show w.heap.size ≤ w.heap.size + 1; omega) _
    | succ g =>
      obtain ⟨x, y, M, rfl⟩ : ∃ x y M, R = (x, y) :: M := by
        cases R with
        | nil => simp at hR
        | cons p M => exact ⟨p.1, p.2, M, rfl⟩
      iterate 1 (first | go_values | go_skip | go_guarded | go_step | go_upon | go_back)
      have hz := zero_pair wr
      have hu := Try.underlying65
      refine region_to ?_
      refine opsTo_recv (i := 0) (o := _) (c := c) (z := .agg #[.int .i64 0, .int .i64 0]) (ok := true) rfl rfl (by simp [go_sem, rcase, execOp, Act.eval, hz, run_underlying hu]) hch (by simp) ?_
      rw [chan_get]
      obtain ⟨wz, hwz, hch2, hB2, hkeep⟩ := chan_some hch Hcs.out hB
      have HR2 := hid (hkeep _ _ Hne.out HR.out)
      rw [← hwz]
      refine opsTo_val (i := 1) (o := _) (v := .bool true) (w' := wz) rfl rfl rfl ?_
      refine opsTo_nil ?_
      simp only [got, pairV]
      have Hch2 := hid hch2
      have HB3 := hid hB2
      have hsz := hB2.size
      have hzl : w.heap.size + 1 < wz.heap.size := lt_get HR2.out
      have HLR := hid hLR
      have HRM : Hid (M.length = g) := hid (by simpa using hR)
      obtain ⟨c0, c1, f0, f1⟩ := two_of ((Below.heap_alloc wz (.cells #[.int .i64 x, .int .i64 y] 63) _ (lt_get HR2.out)).trans HR2.out)
      clear hch hz hu hwz hB hch2 hB2 hLR hR hkeep
      go_simp
      by_cases hxf : x = f
      · subst hxf
        have hd : (x == x) = true := by simp
        have Hz : Hid (F = (x, y)) := hid (by
          have hmem : ((x, y) : Int × Int) ∈ freeP fs fs := by rw [← HL.out, HLR.out]; simp
          have := mem_freeP.1 hmem
          rw [HF.out]
          unfold fpOf
          have h3 : y = freeG fs x.toNat := this.2.2
          rw [if_neg this.2.1, ← h3])
        obtain ⟨_, _, g0, g1⟩ := two_of ((Below.heap_alloc (wz.setCell ⟨w.heap.size + 1, 0, none⟩ (.int .i64 x)) (.cells #[.int .i64 x, .int .i64 y] 63) (w.heap.size + 1) (by simp [World.setCell]; omega)).trans (two_set1 HR2.out (.int .i64 x)))
        go_wp2
        (try simp only [Exit.inBlock, Exit.then])
        have R3 := two_of ((Below.heap_alloc ((wz.setCell ⟨w.heap.size + 1, 0, none⟩ (.int .i64 x)).setCell ⟨w.heap.size + 1, 1, none⟩ (.int .i64 y)) (.cells #[.int .i64 x, .int .i64 y] 63) (w.heap.size + 1) (by simp [World.setCell]; omega)).trans (two_set HR2.out (.int .i64 x) (.int .i64 y)))
        refine done_pr (p := 4) (u := 5) (c := .int .i64 0) (by kernel_rfl) rfl rfl R3.1 R3.2.1 rfl ⟨by rw [Hz.out], ?_⟩
        exact ((HB3.out.setCell (p := ⟨w.heap.size + 1, 0, none⟩) (by show w.heap.size ≤ w.heap.size + 1; omega) _).setCell (p := ⟨w.heap.size + 1, 1, none⟩) (by show w.heap.size ≤ w.heap.size + 1; omega) _).alloc (by simp [World.setCell]; omega) _
      · have hd : (x == f) = false := by simpa using hxf
        have Hxf := hid hxf
        clear hxf
        go_wp2
        go_roundg g
        case measure => omega
        case rel =>
          refine ⟨pre ++ [(x, y)], M, by rw [HLR.out]; simp, by have := HRM.out; omega, hid ?_, Hch2.out.alloc _, (Below.heap_alloc wz _ _ (lt_get HR2.out)).trans HR2.out, HB3.out.alloc hsz _⟩
          intro p hp
          rcases List.mem_append.1 hp with h | h
          · exact Hpre.out p h
          · simp at h; subst h; exact Hxf.out

set_option maxRecDepth 100000 in
set_option maxHeartbeats 2000000 in
theorem fpo_no (V : Int) (a0 : Option Addr) (cap : Nat) (fs : List Int) (f : Int) (w : World) (hx : SlI w w.heap.size a0 fs) (hl : fs.length ≤ 1048576) (hC : IsC V fs) (wd : (Lit.int .i64 f).wf = true) (hm : f ∉ fs) :
    Calls Try.prog 61 #[.agg #[.int .i64 V, .slice a0 fs.length cap], .int .i64 f] w fun e w' => e = .returned (.tuple #[.agg #[.int .i64 0, .int .i64 0], .int .i64 2]) ∧ Below w.heap.size w w' := by
  have hB0 : Below w.heap.size w ((w.alloc (.cells #[.int .i64 V, .slice a0 fs.length cap] 29)).alloc (.cells #[.int .i64 0, .int .i64 0] 63)) := ((Below.refl _ w).alloc (Nat.le_refl _) _).alloc (by simp) _
  have Hx := hid (hx.later hB0 hB0.size)
  go_enter Try.func61, Try.ntmps61
  go_wp2_with fail
  refine (fh_no V a0 cap fs _ _ Hx.out hl hC wd hm).mono ?_
  rintro e w1 ⟨rfl, hB1⟩
  have r1 : w1.heap[w.heap.size + 1]? = some (.cells #[.int .i64 0, .int .i64 0] 63 (0, 0)) := (hB1.block _ (by simp <;> omega)).trans (new2 _ _ _)
  have hB01 := hB0.trans (hB1.mono (by simp <;> omega))
  obtain ⟨c0, c1, f0, f1⟩ := two_of r1
  have R1 := hid r1
  clear r1
  go_wp2_with fail
  (try simp only [Exit.inBlock, Exit.then])
  have R3 := two_of (two_set R1.out (.int .i64 0) (.int .i64 0))
  refine done_pr (p := 4) (u := 5) (c := .int .i64 2) (by kernel_rfl) rfl rfl R3.1 R3.2.1 rfl ⟨rfl, ?_⟩
  exact (hB01.setCell (p := ⟨w.heap.size + 1, 0, none⟩) (by show w.heap.size ≤ w.heap.size + 1; omega) _).setCell (p := ⟨w.heap.size + 1, 1, none⟩) (by show w.heap.size ≤ w.heap.size + 1; omega) _

set_option maxRecDepth 100000 in
set_option maxHeartbeats 2000000 in
theorem fpo_bad (V : Int) (a0 : Option Addr) (cap : Nat) (fs : List Int) (f : Int) (w : World) (hx : SlI w w.heap.size a0 fs) (hl : fs.length ≤ 1048576) (hC : ¬ IsC V fs) :
    Calls Try.prog 61 #[.agg #[.int .i64 V, .slice a0 fs.length cap], .int .i64 f] w fun e w' => e = .returned (.tuple #[.agg #[.int .i64 0, .int .i64 0], .int .i64 1]) ∧ Below w.heap.size w w' := by
  have hB0 : Below w.heap.size w ((w.alloc (.cells #[.int .i64 V, .slice a0 fs.length cap] 29)).alloc (.cells #[.int .i64 0, .int .i64 0] 63)) := ((Below.refl _ w).alloc (Nat.le_refl _) _).alloc (by simp) _
  have Hx := hid (hx.later hB0 hB0.size)
  go_enter Try.func61, Try.ntmps61
  go_wp2_with fail
  refine (fh_bad V a0 cap fs _ _ Hx.out hl hC).mono ?_
  rintro e w1 ⟨rfl, hB1⟩
  have r1 : w1.heap[w.heap.size + 1]? = some (.cells #[.int .i64 0, .int .i64 0] 63 (0, 0)) := (hB1.block _ (by simp <;> omega)).trans (new2 _ _ _)
  have hB01 := hB0.trans (hB1.mono (by simp <;> omega))
  obtain ⟨c0, c1, f0, f1⟩ := two_of r1
  have R1 := hid r1
  clear r1
  go_wp2_with fail
  (try simp only [Exit.inBlock, Exit.then])
  have R3 := two_of (two_set R1.out (.int .i64 0) (.int .i64 0))
  refine done_pr (p := 4) (u := 5) (c := .int .i64 1) (by kernel_rfl) rfl rfl R3.1 R3.2.1 rfl ⟨rfl, ?_⟩
  exact (hB01.setCell (p := ⟨w.heap.size + 1, 0, none⟩) (by show w.heap.size ≤ w.heap.size + 1; omega) _).setCell (p := ⟨w.heap.size + 1, 1, none⟩) (by show w.heap.size ≤ w.heap.size + 1; omega) _

end Go.Proofs.Ytojnpacklcajpaa

/-! Collapses: mathematics. -/
namespace Go.Proofs.Ytojnpacklcajpaa
open Go.RowKit

/-- The first free pair whose low face is in no list. -/
def firstP (fs ls : List Int) : Option (Int × Int) := (freeP fs fs).find? fun p => decide (p.1 ∉ ls)
/-- One collapse. -/
def colStep (ls : List Int) (s : List Int × List (Int × Int)) : List Int × List (Int × Int) := match firstP s.1 ls with
  | none => s
  | some p => (takeL s.1 p.1, s.2 ++ [p])
def colN (ls : List Int) : Nat → List Int × List (Int × Int) → List Int × List (Int × Int)
  | 0, s => s
  | n + 1, s => colStep ls (colN ls n s)
/-- What the collapse leads to, and its pairs. -/
def colE (ls fs : List Int) : List Int × List (Int × Int) := colN ls fs.length (fs, [])

theorem firstP_some {fs ls : List Int} {p : Int × Int} (h : firstP fs ls = some p) : p.1 ∈ fs ∧ freeG fs p.1.toNat ≠ 0 ∧ p.2 = freeG fs p.1.toNat ∧ p.1 ∉ ls := by
  have h1 := List.mem_of_find?_eq_some h
  have h2 := List.find?_some h
  have h3 := mem_freeP.1 h1
  exact ⟨h3.1, h3.2.1, h3.2.2, by simpa using h2⟩

theorem take_free {fs : List Int} {p : Int × Int} (hr : ∀ x ∈ fs, 1 ≤ x ∧ x ≤ 63) (h1 : p.1 ∈ fs) (h2 : freeG fs p.1.toNat ≠ 0) (h3 : p.2 = freeG fs p.1.toNat) : takeL fs p.1 = fs.filter fun x => decide (x ∉ [p.1, p.2]) := by
  have hu := freeG_mem h2
  rw [← h3] at hu
  unfold takeL
  refine List.filter_congr fun x hx => ?_
  rw [decide_eq_decide]
  have hxr := hr x hx
  have hpr := hr _ h1
  constructor
  · intro h hm
    simp at hm
    rcases hm with e | e
    · exact h (by rw [e]; exact Nat.and_self _)
    · have : x ∈ upF fs p.1.toNat := by rw [hu, e]; simp
      exact h (upF_mem this).2.1
  · intro h hx2
    simp at h
    have hxu : x ∈ upF fs p.1.toNat := by
      unfold upF
      refine List.mem_filter.2 ⟨hx, ?_⟩
      simp only [decide_eq_true_eq]
      exact ⟨hx2, fun e => h.1 (by omega)⟩
    rw [hu] at hxu
    simp at hxu
    exact h.2 hxu

theorem take_lt {fs : List Int} {x : Int} (hx : x ∈ fs) : (takeL fs x).length < fs.length := by
  unfold takeL
  refine List.length_filter_lt_length_iff_exists.2 ⟨x, hx, ?_⟩
  simp

theorem colStep_none {ls : List Int} {s : List Int × List (Int × Int)} (h : firstP s.1 ls = none) : colStep ls s = s := by unfold colStep; rw [h]
theorem colStep_some {ls : List Int} {s : List Int × List (Int × Int)} {p : Int × Int} (h : firstP s.1 ls = some p) : colStep ls s = (takeL s.1 p.1, s.2 ++ [p]) := by unfold colStep; rw [h]
theorem colN_stop {ls : List Int} {s : List Int × List (Int × Int)} {n : Nat} (h : firstP (colN ls n s).1 ls = none) : ∀ m, n ≤ m → colN ls m s = colN ls n s := by
  intro m hm
  induction m with
  | zero => have : n = 0 := by omega
            subst this; rfl
  | succ m ih =>
    by_cases hn : n = m + 1
    · rw [hn]
    · have := ih (by omega)
      show colStep ls (colN ls m s) = _
      rw [this, colStep_none h]

/-- A collapse under way. -/
structure ColAt (ls fs : List Int) (n : Nat) (cur : List Int) (P : List (Int × Int)) : Prop where
  eq : colN ls n (fs, []) = (cur, P)
  len : n + cur.length ≤ fs.length
  plen : P.length ≤ n
  sub : cur.Sublist fs

theorem ColAt.start (ls fs : List Int) : ColAt ls fs 0 fs [] := ⟨rfl, by omega, by simp, List.Sublist.refl _⟩
theorem ColAt.step {ls fs : List Int} {n : Nat} {cur : List Int} {P : List (Int × Int)} {p : Int × Int} (h : ColAt ls fs n cur P) (hp : firstP cur ls = some p) : ColAt ls fs (n + 1) (takeL cur p.1) (P ++ [p]) := by
  have hl := take_lt (firstP_some hp).1
  have h1 := h.len
  have h2 := h.plen
  refine ⟨?_, by omega, by simp; omega, List.Sublist.trans (by unfold takeL; exact List.filter_sublist) h.sub⟩
  show colStep ls (colN ls n (fs, [])) = _
  rw [h.eq]
  exact colStep_some hp
theorem ColAt.stop {ls fs : List Int} {n : Nat} {cur : List Int} {P : List (Int × Int)} (h : ColAt ls fs n cur P) (hp : firstP cur ls = none) : colE ls fs = (cur, P) := by
  unfold colE
  rw [colN_stop (n := n) (by rw [h.eq]; exact hp) fs.length (by have := h.len; omega)]
  exact h.eq

theorem colE_len (ls fs : List Int) : (colE ls fs).1.length ≤ fs.length ∧ (colE ls fs).2.length ≤ fs.length ∧ (colE ls fs).1.Sublist fs := by
  have key : ∀ n, n ≤ fs.length → ((colN ls n (fs, [])).1.length ≤ fs.length ∧ (colN ls n (fs, [])).2.length ≤ n ∧ (colN ls n (fs, [])).1.Sublist fs) := by
    intro n
    induction n with
    | zero => intro _; exact ⟨Nat.le_refl _, by simp [colN], List.Sublist.refl _⟩
    | succ n ih =>
      intro hn
      obtain ⟨h1, h2, h3⟩ := ih (by omega)
      show (colStep ls (colN ls n (fs, []))).1.length ≤ _ ∧ (colStep ls (colN ls n (fs, []))).2.length ≤ _ ∧ (colStep ls (colN ls n (fs, []))).1.Sublist _
      cases hp : firstP (colN ls n (fs, [])).1 ls with
      | none => rw [colStep_none hp]; exact ⟨h1, by omega, h3⟩
      | some p =>
        rw [colStep_some hp]
        have hs : (takeL (colN ls n (fs, [])).1 p.1).Sublist fs := List.Sublist.trans (by unfold takeL; exact List.filter_sublist) h3
        exact ⟨hs.length_le, by simp; omega, hs⟩
  have := key fs.length (Nat.le_refl _)
  exact ⟨this.1, this.2.1, this.2.2⟩

/-- Lists in which the low face of a free pair lies if its high one does. -/
def LowIn (fs ls : List Int) : Prop := ∀ p ∈ freeP fs fs, p.2 ∈ ls → p.1 ∈ ls
theorem lowIn_nil (fs : List Int) : LowIn fs [] := fun _ _ h => by simp at h
theorem lowIn_of {V : Int} {fs ls : List Int} (hr : ∀ x ∈ fs, 1 ≤ x ∧ x ≤ 63) (hC : IsC V ls) : LowIn fs ls := by
  intro p hp h2
  have h := mem_freeP.1 hp
  have hu := freeG_mem h.2.1
  have hm : p.2 ∈ upF fs p.1.toNat := by rw [hu, h.2.2]; simp
  have hb := (upF_mem hm).2.1
  have hpr := hr _ h.1
  have := hC.closed p.2 h2 p.1.toNat (by omega) (by rw [Nat.and_comm]; exact hb)
  rwa [show ((p.1.toNat : Nat) : Int) = p.1 by omega] at this
/-- With such lists it is one whether both faces or the low one alone are asked for. -/
theorem firstP_both {fs ls : List Int} (h : LowIn fs ls) : (freeP fs fs).find? (fun p => decide (p.1 ∉ ls) && decide (p.2 ∉ ls)) = firstP fs ls := by
  unfold firstP
  have key : ∀ L : List (Int × Int), (∀ p ∈ L, p.2 ∈ ls → p.1 ∈ ls) → L.find? (fun p => decide (p.1 ∉ ls) && decide (p.2 ∉ ls)) = L.find? fun p => decide (p.1 ∉ ls) := by
    intro L
    induction L with
    | nil => intro _; rfl
    | cons q L ih =>
      intro hL
      rw [List.find?_cons, List.find?_cons, ih (fun p hp => hL p (by simp [hp]))]
      have hq := hL q (by simp)
      by_cases h1 : q.1 ∈ ls
      · simp [h1]
      · have h2 : q.2 ∉ ls := fun e => h1 (hq e)
        simp [h1, h2]
  exact key _ h

end Go.Proofs.Ytojnpacklcajpaa

/-! The program's firstFreePair. -/
namespace Go.Proofs.Ytojnpacklcajpaa
open Go.RowKit Go.Conc

/-- A pair, or the zero one. -/
def prO (o : Option (Int × Int)) : Int × Int := o.getD (0, 0)

theorem firstP_pre {fs ls : List Int} {pre R : List (Int × Int)} (hL : freeP fs fs = pre ++ R) (hpre : ∀ p ∈ pre, p.1 ∈ ls) : firstP fs ls = R.find? fun p => decide (p.1 ∉ ls) := by
  unfold firstP
  rw [hL, List.find?_append]
  have : pre.find? (fun p => decide (p.1 ∉ ls)) = none := List.find?_eq_none.2 (fun p hp => by simpa using hpre p hp)
  rw [this]
  rfl

set_option maxRecDepth 100000 in
set_option maxHeartbeats 4000000 in
theorem first_any (V : Int) (a0 : Option Addr) (cap : Nat) (fs : List Int) (V1 : Int) (a1 : Option Addr) (cap1 : Nat) (ls : List Int) (w : World) (hx : SlI w w.heap.size a0 fs) (hx1 : SlI w w.heap.size a1 ls) (hl : fs.length ≤ 1048576) (hl1 : ls.length ≤ 1048576) (hf : ∀ x ∈ fs, 1 ≤ x ∧ x ≤ 63) :
    Calls Try.prog 98 #[.agg #[.int .i64 V, .slice a0 fs.length cap], .agg #[.int .i64 V1, .slice a1 ls.length cap1]] w fun e w' => e = .returned (.agg #[.int .i64 (prO (firstP fs ls)).1, .int .i64 (prO (firstP fs ls)).2]) ∧ Below w.heap.size w w' := by
  have hB0 : Below w.heap.size w (((w.alloc (.cells #[.int .i64 V, .slice a0 fs.length cap] 29)).alloc (.cells #[.int .i64 V1, .slice a1 ls.length cap1] 29)).alloc (.cells #[.int .i64 0, .int .i64 0] 63)) := (((Below.refl _ w).alloc (Nat.le_refl _) _).alloc (by simp) _).alloc (by simp <;> omega) _
  obtain ⟨W, hW⟩ : ∃ W, W = ((w.alloc (.cells #[.int .i64 V, .slice a0 fs.length cap] 29)).alloc (.cells #[.int .i64 V1, .slice a1 ls.length cap1] 29)).alloc (.cells #[.int .i64 0, .int .i64 0] 63) := ⟨_, rfl⟩
  have k0 : W.cell? ⟨w.heap.size, 0, none⟩ = some (.int .i64 V) := by rw [hW]; simp [go_sem]
  have k1 : W.cell? ⟨w.heap.size, 1, none⟩ = some (.slice a0 fs.length cap) := by rw [hW]; simp [go_sem]
  have q1 : W.heap[w.heap.size + 1]? = some (.cells #[.int .i64 V1, .slice a1 ls.length cap1] 29 (0, 0)) := by rw [hW, Below.heap_alloc _ _ _ (by simp)]; exact new2 _ _ _
  have r1 : W.heap[w.heap.size + 1 + 1]? = some (.cells #[.int .i64 0, .int .i64 0] 63 (0, 0)) := by rw [hW]; exact new3 _ _ _ _
  have HBW : Hid (Below w.heap.size w W) := hid (by rw [hW]; exact hB0)
  have Q1 := hid q1
  have R1 := hid r1
  have HW := hid hW
  have Hx0 := hid hx
  have Hx1 := hid hx1
  have Hf := hid hf
  have Hlen := hid (freeP_len fs fs)
  obtain ⟨L, hL⟩ : ∃ L, L = freeP fs fs := ⟨_, rfl⟩
  have HL := hid hL
  obtain ⟨F, hF⟩ : ∃ F, F = prO (firstP fs ls) := ⟨_, rfl⟩
  have HF := hid hF
  rw [← hL] at Hlen
  rw [← hF]
  clear hL hF hf hx hx1 hB0 q1 r1 hW
  go_enter Try.func98, Try.ntmps98
  go_wp2_with fail
  rw [← HW.out]
  refine (freeF_any V a0 cap fs _ (Hx0.out.later HBW.out HBW.out.size) hl Hf.out).mono ?_
  rintro e w2 ⟨c, rfl, hcs, hch, hB2⟩
  have HB2 := hid (HBW.out.trans (hB2.mono HBW.out.size))
  have Hcs := hid (Nat.le_trans HBW.out.size hcs)
  have Hne := hid (show w.heap.size + 1 + 1 < c by have := lt_get R1.out; omega)
  have R2 := hid ((hB2.block _ (lt_get R1.out)).trans R1.out)
  have Q2 := hid ((hB2.block _ (lt_get Q1.out)).trans Q1.out)
  rw [← HL.out] at hch
  have Hch := hid hch
  clear hB2 hch hcs k0 k1 R1 Q1
  go_wp2_with fail
  go_loopg [] L.length (fun gg wr => ∃ pre R : List (Int × Int), L = pre ++ R ∧ R.length = gg ∧ Hid (∀ p ∈ pre, p.1 ∈ ls) ∧ ChanP wr c R fs.length true ∧ wr.heap[w.heap.size + 1]? = some (.cells #[.int .i64 V1, .slice a1 ls.length cap1] 29 (0, 0)) ∧ wr.heap[w.heap.size + 1 + 1]? = some (.cells #[.int .i64 0, .int .i64 0] 63 (0, 0)) ∧ Below w.heap.size w wr)
  case atStart => exact ⟨[], L, rfl, rfl, hid (by simp), Hch.out, Q2.out, R2.out, HB2.out⟩
  case round =>
    obtain ⟨pre, R, hLR, hR, Hpre, ⟨s, r, hch⟩, hbox, hres, hB⟩ := hrel
    have HR := hid hres
    have HQ := hid hbox
    clear hres hbox
    cases gk with
    | zero =>
      obtain rfl : R = [] := by cases R with | nil => rfl | cons _ _ => simp at hR
      have Hz : Hid (F = (0, 0)) := hid (by rw [HF.out, firstP_pre (pre := pre) (R := []) (by rw [← HL.out, hLR]) Hpre.out]; rfl)
      iterate 1 (first | go_values | go_skip | go_guarded | go_step | go_upon | go_back)
      have hz := zero_pair wr
      have hu := Try.underlying65
      refine region_to ?_
      refine opsTo_shut (i := 0) (o := _) (c := c) (z := .agg #[.int .i64 0, .int .i64 0]) (ok := true) rfl rfl (by simp [go_sem, rcase, execOp, Act.eval, hz, run_underlying hu]) hch ?_
      refine opsTo_val (i := 1) (o := _) (v := .bool false) (w' := wr) rfl rfl rfl ?_
      refine opsTo_nil ?_
      simp only [got]
      clear hch hz hu hLR hR
      obtain ⟨c0, c1, f0, f1⟩ := two_of HR.out
      go_simp
      go_wp2
      (try simp only [Exit.inBlock, Exit.then])
      have R3 := two_of (two_set HR.out (.int .i64 0) (.int .i64 0))
      refine done_pr1 (p := 4) (by kernel_rfl) rfl rfl R3.1 R3.2.1 ⟨by rw [Hz.out], ?_⟩
      exact (hB.setCell (p := ⟨w.heap.size + 1 + 1, 0, none⟩) (by show w.heap.size ≤ w.heap.size + 1 + 1; omega) _).setCell (p := ⟨w.heap.size + 1 + 1, 1, none⟩) (by show w.heap.size ≤ w.heap.size + 1 + 1; omega) _
    | succ g =>
      obtain ⟨x, y, M, rfl⟩ : ∃ x y M, R = (x, y) :: M := by
        cases R with
        | nil => simp at hR
        | cons p M => exact ⟨p.1, p.2, M, rfl⟩
      iterate 1 (first | go_values | go_skip | go_guarded | go_step | go_upon | go_back)
      have hz := zero_pair wr
      have hu := Try.underlying65
      refine region_to ?_
      refine opsTo_recv (i := 0) (o := _) (c := c) (z := .agg #[.int .i64 0, .int .i64 0]) (ok := true) rfl rfl (by simp [go_sem, rcase, execOp, Act.eval, hz, run_underlying hu]) hch (by simp) ?_
      rw [chan_get]
      obtain ⟨wz, hwz, hch2, hB2, hkeep⟩ := chan_some hch Hcs.out hB
      have HR2 := hid (hkeep _ _ (by have := Hne.out; omega) HR.out)
      have HQ2 := hid (hkeep _ _ (by have := Hne.out; omega) HQ.out)
      rw [← hwz]
      refine opsTo_val (i := 1) (o := _) (v := .bool true) (w' := wz) rfl rfl rfl ?_
      refine opsTo_nil ?_
      simp only [got, pairV]
      have Hch2 := hid hch2
      have HB3 := hid hB2
      have hsz := hB2.size
      have hzl : w.heap.size + 1 + 1 < wz.heap.size := lt_get HR2.out
      have HLR := hid hLR
      have HRM : Hid (M.length = g) := hid (by simpa using hR)
      have HR3 := hid ((Below.heap_alloc wz (.cells #[.int .i64 x, .int .i64 y] 63) _ (lt_get HR2.out)).trans HR2.out)
      obtain ⟨c0, c1, f0, f1⟩ := two_of HR3.out
      obtain ⟨d0, d1, _, _⟩ := two_of ((Below.heap_alloc wz (.cells #[.int .i64 x, .int .i64 y] 63) _ (lt_get HQ2.out)).trans HQ2.out)
      have HBz := hid (HB3.out.alloc hsz (.cells #[.int .i64 x, .int .i64 y] 63))
      have HC := hid (contains_any a1 cap1 ls x (wz.alloc (.cells #[.int .i64 x, .int .i64 y] 63)) (Hx1.out.later HBz.out HBz.out.size) hl1)
      clear hch hz hu hwz hB hch2 hB2 hLR hR hkeep
      go_simp
      by_cases hxl : x ∈ ls
      · have HC2 := hid (by have := HC.out; rw [decide_eq_true hxl] at this; exact this)
        have Hxl := hid hxl
        clear hxl HC
        go_wp2_with (go_at_call 94; refine HC2.out.mono ?_; rintro e u ⟨rfl, rfl⟩)
        go_roundg g
        case measure => omega
        case rel =>
          refine ⟨pre ++ [(x, y)], M, by rw [HLR.out]; simp, by have := HRM.out; omega, hid ?_, Hch2.out.alloc _, (Below.heap_alloc wz _ _ (lt_get HQ2.out)).trans HQ2.out, HR3.out, HBz.out⟩
          intro p hp
          rcases List.mem_append.1 hp with h | h
          · exact Hpre.out p h
          · simp at h; subst h; exact Hxl.out
      · have HC2 := hid (by have := HC.out; rw [decide_eq_false hxl] at this; exact this)
        have Hz : Hid (F = (x, y)) := hid (by
          rw [HF.out, firstP_pre (pre := pre) (R := (x, y) :: M) (by rw [← HL.out, HLR.out]) Hpre.out, List.find?_cons]
          simp [hxl, prO])
        clear hxl HC
        obtain ⟨_, _, g0, g1⟩ := two_of ((Below.heap_alloc (wz.setCell ⟨w.heap.size + 1 + 1, 0, none⟩ (.int .i64 x)) (.cells #[.int .i64 x, .int .i64 y] 63) (w.heap.size + 1 + 1) (by simp [World.setCell]; omega)).trans (two_set1 HR2.out (.int .i64 x)))
        go_wp2_with (go_at_call 94; refine HC2.out.mono ?_; rintro e u ⟨rfl, rfl⟩)
        (try simp only [Exit.inBlock, Exit.then])
        have R3 := two_of ((Below.heap_alloc ((wz.setCell ⟨w.heap.size + 1 + 1, 0, none⟩ (.int .i64 x)).setCell ⟨w.heap.size + 1 + 1, 1, none⟩ (.int .i64 y)) (.cells #[.int .i64 x, .int .i64 y] 63) (w.heap.size + 1 + 1) (by simp [World.setCell]; omega)).trans (two_set HR2.out (.int .i64 x) (.int .i64 y)))
        refine done_pr1 (p := 4) (by kernel_rfl) rfl rfl R3.1 R3.2.1 ⟨by rw [Hz.out], ?_⟩
        exact ((HB3.out.setCell (p := ⟨w.heap.size + 1 + 1, 0, none⟩) (by show w.heap.size ≤ w.heap.size + 1 + 1; omega) _).setCell (p := ⟨w.heap.size + 1 + 1, 1, none⟩) (by show w.heap.size ≤ w.heap.size + 1 + 1; omega) _).alloc (by simp [World.setCell]; omega) _

end Go.Proofs.Ytojnpacklcajpaa

/-! l05Free: the model's test whether a face is free. -/
namespace Go.Proofs.Ytojnpacklcajpaa
open Go.RowKit

theorem frOf_one {us : List Int} (h : us.length ≤ 1) : us.headD 0 = frOf us := by
  match us, h with
  | [], _ => rfl
  | [a], _ => rfl

set_option maxRecDepth 100000 in
set_option maxHeartbeats 4000000 in
theorem free_any (V : Int) (a0 : Option Addr) (cap : Nat) (fs : List Int) (f : Nat) (w : World) (hx : SlI w w.heap.size a0 fs) (hl : fs.length ≤ 1048576) (hf : ∀ x ∈ fs, 1 ≤ x ∧ x ≤ 63) (hf64 : f < 64) :
    Calls Try.prog 54 #[.agg #[.int .i64 V, .slice a0 fs.length cap], .int .i64 (f : Int)] w fun e w' => e = .returned (.int .i64 (freeG fs f)) ∧ Below w.heap.size w w' := by
  obtain ⟨W, hW⟩ : ∃ W, W = w.alloc (.cells #[.int .i64 V, .slice a0 fs.length cap] 29) := ⟨_, rfl⟩
  have hB0 : Below w.heap.size w W := by rw [hW]; exact (Below.refl _ w).alloc (Nat.le_refl _) _
  have q0 : W.heap[w.heap.size]? = some (.cells #[.int .i64 V, .slice a0 fs.length cap] 29 (0, 0)) := by rw [hW]; exact heap_alloc_new _ _
  obtain ⟨k0, k1, _, _⟩ := two_of q0
  have HW := hid hW
  have HB0 := hid hB0
  have Hx0 := hid hx
  have Hf := hid hf
  clear hW hB0 q0 hx hf
  go_enter Try.func54, Try.ntmps54
  go_wp2
  rw [← HW.out]
  go_loopg [5, 6] fs.length (fun g p i wx => ∃ j : Nat, j + g = fs.length ∧ p = .int .i64 ((upF (fs.take j) f).headD 0) ∧ i = .int .i64 j ∧ Hid ((upF (fs.take j) f).length ≤ 1) ∧ wx = W)
  case atStart => exact ⟨0, by omega, rfl, rfl, hid (by simp [upF]), rfl⟩
  case round =>
    obtain ⟨j, hjg, rfl, rfl, Hu, rfl⟩ := hrel
    cases gk with
    | zero =>
      obtain rfl : j = fs.length := by omega
      rw [List.take_of_length_le (Nat.le_refl _)] at Hu ⊢
      rw [frOf_one Hu.out]
      go_wp2
      go_ret
      exact ⟨rfl, HB0.out⟩
    | succ g =>
      have hjl : j < fs.length := by omega
      obtain ⟨b, off, hb, rfl, hc⟩ : ∃ b off, b < w.heap.size ∧ a0 = some ⟨b, off, none⟩ ∧ ∀ i, i < fs.length → w.cell? ⟨b, off + i, none⟩ = some (.int .i64 (fs[i]?.getD 0)) := by
        rcases Hx0.out with rfl | h
        · simp at hjl
        · exact h
      obtain ⟨y, hy⟩ : ∃ y : Nat, (y : Int) = fs[j]?.getD 0 := ⟨(fs[j]?.getD 0).toNat, by have := Hf.out _ (getD_mem hjl); omega⟩
      have hyr := Hf.out _ (getD_mem hjl)
      rw [← hy] at hyr
      have hy64 : y < 64 := by omega
      have hcj : wr.cell? ⟨b, off + j, none⟩ = some (.int .i64 (y : Int)) := by rw [hy]; exact (HB0.out.cell (p := ⟨b, off + j, none⟩) hb).trans (hc j hjl)
      have hj0 : (0 : Int) ≤ (j : Int) := by omega
      have hj1 : (j : Int) < (fs.length : Int) := by omega
      have Hs : Hid (∀ c, decide (y &&& f = f ∧ y ≠ f) = c → upF (fs.take (j + 1)) f = upF (fs.take j) f ++ (if c then [(y : Int)] else [])) := hid (fun c hc => by rw [hy]; exact upF_snoc hjl c (by rw [← hy, Int.toNat_natCast]; exact hc))
      have hand := and_int64 hy64 hf64
      have hr0 := Hf.out
      clear hc hy
      by_cases hyx : y &&& f = f
      · have hd2 : (((y &&& f : Nat) : Int) == (f : Int)) = true := by simp [hyx]
        by_cases hyf : y = f
        · subst hyf
          have hd : ((y : Int) != (y : Int)) = false := by simp
          have HS := hid (Hs.out false (by simp))
          clear hr0 hyx
          go_wp2
          go_roundg g
          case measure => omega
          case rel => exact ⟨j + 1, by omega, by rw [HS.out]; simp, by go_num, by rw [HS.out]; simpa using Hu, rfl⟩
        · have hd : ((y : Int) != (f : Int)) = true := by simp; omega
          have HS := hid (Hs.out true (by simp [hyx, hyf]))
          rcases hu : upF (fs.take j) f with _ | ⟨g0, _ | ⟨g1, l⟩⟩
          · rw [hu] at HS
            have hh : (([] : List Int).headD 0) = 0 := rfl
            clear hr0 hyx hyf hu
            simp only [List.headD]
            go_wp2
            go_roundg g
            case measure => omega
            case rel => exact ⟨j + 1, by omega, by rw [HS.out]; rfl, by go_num, by rw [HS.out]; exact hid (by simp), rfl⟩
          · have hgm := hr0 g0 (List.take_subset _ _ (upF_mem (f := f) (fs := fs.take j) (by rw [hu]; simp)).1)
            rw [hu] at HS
            have hg0 : (0 : Int) < g0 := by omega
            have Hz : Hid (freeG fs f = 0) := hid (freeG_two (j := j + 1) (by rw [HS.out]; simp))
            clear hr0 hyx hyf hu hgm
            simp only [List.headD]
            go_wp2
            go_ret
            exact ⟨ret_int Hz.out.symm, HB0.out⟩
          · have := Hu.out; rw [hu] at this; simp at this
      · have hd2 : (((y &&& f : Nat) : Int) == (f : Int)) = false := by simp; omega
        have HS := hid (Hs.out false (by simp [hyx]))
        clear hr0 hyx
        go_wp2
        go_roundg g
        case measure => omega
        case rel => exact ⟨j + 1, by omega, by rw [HS.out]; simp, by go_num, by rw [HS.out]; simpa using Hu, rfl⟩

end Go.Proofs.Ytojnpacklcajpaa

/-! The program's withoutFaces. -/
namespace Go.Proofs.Ytojnpacklcajpaa
open Go.RowKit

theorem woWanted (ts : List Int) (at0 : Option Addr) (ct : Nat) (bd : Nat) (x : Int) (w : World) (hd : w.cell? ⟨bd, 0, none⟩ = some (.slice at0 ts.length ct)) (hx : SlI w w.heap.size at0 ts) (hl : ts.length ≤ 1048576) :
    Calls Try.prog 93 #[.int .i64 x, .pointer (some ⟨bd, 0, none⟩)] w fun e w' => e = .returned (.bool (decide (x ∉ ts))) ∧ Below w.heap.size w w' := by
  have Hc := hid (contains_any at0 ct ts x w hx hl)
  clear hx
  go_enter Try.func93, Try.ntmps93
  go_wp2_with fail
  refine Hc.out.mono ?_
  rintro e w1 ⟨rfl, rfl⟩
  go_wp2_with fail
  go_ret
  exact ⟨ret_bool (by simp), Below.refl _ _⟩

set_option maxHeartbeats 1000000 in
theorem wo_any (V : Int) (a : Option Addr) (cap : Nat) (fs : List Int) (at0 : Option Addr) (ct : Nat) (ts : List Int) (w : World) (hx : SlI w w.heap.size a fs) (ht : SlI w w.heap.size at0 ts) (hl : fs.length ≤ 1048576) (hlt : ts.length ≤ 1048576) :
    Calls Try.prog 62 #[.agg #[.int .i64 V, .slice a fs.length cap], .slice at0 ts.length ct] w fun e w' => ∃ v, e = .returned (.agg #[.int .i64 V, v]) ∧ Res w w' v (fs.filter fun x => decide (x ∉ ts)) := by
  have hB0 : Below w.heap.size w (((w.alloc (.cells #[.int .i64 V, .slice a fs.length cap] 29)).alloc (.cells #[.slice at0 ts.length ct] 22)).alloc (.cells #[.int .i64 0, .slice none 0 0] 29)) := (((Below.refl _ w).alloc (Nat.le_refl _) _).alloc (by simp) _).alloc (by simp <;> omega) _
  have Hx := hid (hx.later hB0 (by simp <;> omega))
  have Ht := hid (ht.later hB0 (by simp <;> omega))
  obtain ⟨W, hW⟩ : ∃ W, W = ((w.alloc (.cells #[.int .i64 V, .slice a fs.length cap] 29)).alloc (.cells #[.slice at0 ts.length ct] 22)).alloc (.cells #[.int .i64 0, .slice none 0 0] 29) := ⟨_, rfl⟩
  have k0 : W.cell? ⟨w.heap.size, 0, none⟩ = some (.int .i64 V) := by rw [hW]; simp [go_sem]
  have k1 : W.cell? ⟨w.heap.size, 1, none⟩ = some (.slice a fs.length cap) := by rw [hW]; simp [go_sem]
  have k2 : W.cell? ⟨w.heap.size + 1, 0, none⟩ = some (.slice at0 ts.length ct) := by rw [hW]; simp [go_sem]
  have r1 : W.heap[w.heap.size + 1 + 1]? = some (.cells #[.int .i64 0, .slice none 0 0] 29 (0, 0)) := by rw [hW]; exact new3 _ _ _ _
  obtain ⟨ys, hys⟩ : ∃ ys, ys = fs.filter fun x => decide (x ∉ ts) := ⟨_, rfl⟩
  rw [← hys]
  have Hys := hid hys
  have hBW : Hid (Below w.heap.size w W) := hid (by rw [hW]; exact hB0)
  have R1 := hid r1
  have hWs : Hid (W.heap.size = w.heap.size + 3) := hid (by rw [hW]; simp)
  have HW := hid hW
  have HxW : Hid (SlI W W.heap.size a fs) := hid (by rw [HW.out]; exact Hx.out)
  have HtW : Hid (SlI W W.heap.size at0 ts) := hid (by rw [HW.out]; exact Ht.out)
  clear hB0 r1 hW hx ht hys
  go_enter Try.func62, Try.ntmps62
  go_wp2_with fail
  rw [← HW.out]
  refine (cw_any V a cap fs _ 93 _ ys ?_).mono ?_
  · intro W' hW1
    rw [Hys.out]
    refine fw_any V a cap fs W' 93 _ (fun x => decide (x ∉ ts)) (HxW.out.later hW1 hW1.size) hl (enters_of Try.func93 (by kernel_rfl) rfl) ?_
    intro W2 x hW2 hxm
    have hlt2 : w.heap.size + 1 < W.heap.size := by have := hWs.out; omega
    exact woWanted ts at0 ct _ x W2 ((hW2.cell (p := ⟨w.heap.size + 1, 0, none⟩) (Nat.lt_of_lt_of_le hlt2 hW1.size)).trans ((hW1.cell (p := ⟨w.heap.size + 1, 0, none⟩) hlt2).trans k2)) ((HtW.out.later hW1 hW1.size).later hW2 hW2.size) hlt
  rintro e w2 ⟨v, rfl, hr⟩
  obtain ⟨_, av, cv, rfl, _⟩ := ownsRow_slI hr.1
  have r2 := (hr.2.block _ (lt_get R1.out)).trans R1.out
  obtain ⟨c0, c1, f0, f1⟩ := two_of r2
  have R2 := hid r2
  clear r2
  go_wp2_with fail
  (try simp only [Exit.inBlock, Exit.then])
  have R3 := two_of (two_set R2.out (.int .i64 V) (.slice av ys.length cv))
  refine done_cx1 (p := 4) (by kernel_rfl) rfl rfl R3.1 R3.2.1 ⟨_, rfl, ?_⟩
  exact (hr.later hBW.out).set2 R2.out (by decide) (by omega) _ _

end Go.Proofs.Ytojnpacklcajpaa

/-! IsFreeFace and CollapsePair, the program's and the model's. -/
namespace Go.Proofs.Ytojnpacklcajpaa
open Go.RowKit

/-- What IsFreeFace hands back. -/
noncomputable def isFreeR (V : Int) (fs : List Int) (f : Int) : Bool × Int := if isCB V fs then (if f ∈ fs then (decide (freeG fs f.toNat ≠ 0), 0) else (false, 2)) else (false, 1)
/-- What CollapsePair hands back. -/
noncomputable def colPairR (V : Int) (fs : List Int) (f : Int) : Int × List Int × Int := if isCB V fs then (if f ∈ fs then (if freeG fs f.toNat = 0 then (0, [], 5) else (V, takeL fs f, 0)) else (0, [], 2)) else (0, [], 1)
theorem colPairR_len (V : Int) (fs : List Int) (f : Int) (h : fs.length ≤ 1048576) : (colPairR V fs f).2.1.length ≤ 1048576 := by
  unfold colPairR takeL
  split
  · split
    · split
      · simp
      · exact Nat.le_trans (List.length_filter_le _ _) h
    · simp
  · simp

theorem freeFace_mono {P : Program} {f : FuncId} {args : Array Value} {w : World} {r : Bool × Int} {b : Bool} {c : Int} (hr : r = (b, c))
    (h : Calls P f args w fun e w' => e = .returned (.tuple #[.bool b, .int .i64 c]) ∧ Below w.heap.size w w') : Calls P f args w fun e w' => e = .returned (.tuple #[.bool r.1, .int .i64 r.2]) ∧ Below w.heap.size w w' := by
  subst hr; exact h

set_option maxRecDepth 100000 in
set_option maxHeartbeats 2000000 in
theorem specIsFreeFace (V : Int) (a0 : Option Addr) (cap : Nat) (fs : List Int) (d : Int) (w : World) (hx : SlI w w.heap.size a0 fs) (hl : fs.length ≤ 1048576) (_wd : (Lit.int .i64 d).wf = true) :
    Calls Try.prog 44 #[.agg #[.int .i64 V, .slice a0 fs.length cap], .int .i64 d] w fun e w' => e = .returned (.tuple #[.bool (isFreeR V fs d).1, .int .i64 (isFreeR V fs d).2]) ∧ Below w.heap.size w w' := by
  have hB0 : Below w.heap.size w (w.alloc (.cells #[.int .i64 V, .slice a0 fs.length cap] 29)) := (Below.refl _ w).alloc (Nat.le_refl _) _
  have Hx := hid (hx.later hB0 hB0.size)
  by_cases hC : IsC V fs
  · by_cases hd : d ∈ fs
    · refine freeFace_mono (show isFreeR V fs d = (decide (freeG fs d.toNat ≠ 0), 0) by unfold isFreeR; rw [isCB_true hC, if_pos rfl, if_pos hd]) ?_
      have HC := hid hC
      have Hd := hid hd
      have Hf := hid hC.range63
      have hdr := hC.range63 d hd
      obtain ⟨f, rfl⟩ : ∃ f : Nat, d = f := ⟨d.toNat, by omega⟩
      have hf64 : f < 64 := by omega
      rw [Int.toNat_natCast]
      have hgr := freeG_rng (f := f) Hf.out
      clear hC hd
      go_enter Try.func44, Try.ntmps44
      go_wp2_with fail
      refine (face_yes V a0 cap fs _ _ Hx.out hl HC.out Hd.out).mono ?_
      rintro e w1 ⟨rfl, hB1⟩
      have k0 : w1.cell? ⟨w.heap.size, 0, none⟩ = some (.int .i64 V) := (hB1.cell (p := ⟨w.heap.size, 0, none⟩) (by simp <;> omega)).trans (by simp [go_sem])
      have k1 : w1.cell? ⟨w.heap.size, 1, none⟩ = some (.slice a0 fs.length cap) := (hB1.cell (p := ⟨w.heap.size, 1, none⟩) (by simp <;> omega)).trans (by simp [go_sem])
      have hB01 := hB0.trans (hB1.mono (by simp <;> omega))
      have hx1 := hid (hx.later hB01 hB01.size)
      go_wp2_with fail
      refine (free_any V a0 cap fs f _ hx1.out hl Hf.out hf64).mono ?_
      rintro e w2 ⟨rfl, hB2⟩
      have HB := hid (hB01.trans (hB2.mono hB01.size))
      have He : Hid (decide (0 < freeG fs f) = decide (freeG fs f ≠ 0)) := hid (by rw [decide_eq_decide]; omega)
      go_wp2_with fail
      go_ret2
      exact ⟨by rw [← He.out]; rfl, HB.out⟩
    · refine freeFace_mono (show isFreeR V fs d = (false, 2) by unfold isFreeR; rw [isCB_true hC, if_pos rfl, if_neg hd]) ?_
      go_enter Try.func44, Try.ntmps44
      go_wp2_with fail
      refine (face_no V a0 cap fs _ _ Hx.out hl hC hd).mono ?_
      rintro e w1 ⟨rfl, hB1⟩
      go_wp2_with fail
      go_ret2
      exact ⟨rfl, hB0.trans (hB1.mono (by simp <;> omega))⟩
  · refine freeFace_mono (show isFreeR V fs d = (false, 1) by unfold isFreeR; rw [isCB_false hC, if_neg (by simp)]) ?_
    go_enter Try.func44, Try.ntmps44
    go_wp2_with fail
    refine (face_bad V a0 cap fs _ _ Hx.out hl hC).mono ?_
    rintro e w1 ⟨rfl, hB1⟩
    go_wp2_with fail
    go_ret2
    exact ⟨rfl, hB0.trans (hB1.mono (by simp <;> omega))⟩

/-- freePairOf in one. -/
noncomputable def fpR (V : Int) (fs : List Int) (f : Int) : (Int × Int) × Int := if isCB V fs then (if f ∈ fs then (fpOf fs f, 0) else ((0, 0), 2)) else ((0, 0), 1)
theorem fpo_any (V : Int) (a0 : Option Addr) (cap : Nat) (fs : List Int) (f : Int) (w : World) (hx : SlI w w.heap.size a0 fs) (hl : fs.length ≤ 1048576) (wd : (Lit.int .i64 f).wf = true) :
    Calls Try.prog 61 #[.agg #[.int .i64 V, .slice a0 fs.length cap], .int .i64 f] w fun e w' => e = .returned (.tuple #[.agg #[.int .i64 (fpR V fs f).1.1, .int .i64 (fpR V fs f).1.2], .int .i64 (fpR V fs f).2]) ∧ Below w.heap.size w w' := by
  unfold fpR
  by_cases hC : IsC V fs
  · rw [isCB_true hC, if_pos rfl]
    by_cases hd : f ∈ fs
    · rw [if_pos hd]; exact fpo_yes V a0 cap fs f w hx hl hC hd
    · rw [if_neg hd]; exact fpo_no V a0 cap fs f w hx hl hC wd hd
  · rw [isCB_false hC, if_neg (by simp)]; exact fpo_bad V a0 cap fs f w hx hl hC

theorem fpR_free (V : Int) (fs : List Int) (f : Int) : isFreeR V fs f = ((!((fpR V fs f).1.1 == 0) || !((fpR V fs f).1.2 == 0)), (fpR V fs f).2) := by
  unfold isFreeR fpR
  by_cases hC : IsC V fs
  · rw [isCB_true hC, if_pos rfl, if_pos rfl]
    have hr := hC.range63
    by_cases hd : f ∈ fs
    · rw [if_pos hd, if_pos hd]
      have := hr f hd
      unfold fpOf
      by_cases h0 : freeG fs f.toNat = 0
      · rw [if_pos h0]; simp [h0]
      · rw [if_neg h0]; simp [h0]
    · rw [if_neg hd, if_neg hd]; simp
  · rw [isCB_false hC, if_neg (by simp), if_neg (by simp)]; simp

set_option maxRecDepth 100000 in
set_option maxHeartbeats 2000000 in
theorem implIsFreeFace (V : Int) (a0 : Option Addr) (cap : Nat) (fs : List Int) (d : Int) (w : World) (hx : SlI w w.heap.size a0 fs) (hl : fs.length ≤ 1048576) (wd : (Lit.int .i64 d).wf = true) :
    Calls Try.prog 45 #[.agg #[.int .i64 V, .slice a0 fs.length cap], .int .i64 d] w fun e w' => e = .returned (.tuple #[.bool (isFreeR V fs d).1, .int .i64 (isFreeR V fs d).2]) ∧ Below w.heap.size w w' := by
  have hB0 : Below w.heap.size w (w.alloc (.cells #[.int .i64 V, .slice a0 fs.length cap] 29)) := (Below.refl _ w).alloc (Nat.le_refl _) _
  have Hx := hid (hx.later hB0 hB0.size)
  refine freeFace_mono (fpR_free V fs d) ?_
  obtain ⟨R, hR⟩ : ∃ R, R = fpR V fs d := ⟨_, rfl⟩
  have Hc := fpo_any V a0 cap fs d _ Hx.out hl wd
  rw [← hR] at Hc ⊢
  obtain ⟨⟨x, y⟩, c⟩ := R
  simp only at Hc ⊢
  have HC := hid Hc
  clear Hc hR
  have Heq := eq_pairF
  go_enter Try.func45, Try.ntmps45
  go_wp2_with fail
  refine HC.out.mono ?_
  rintro e w1 ⟨rfl, hB1⟩
  have HB := hid (hB0.trans (hB1.mono hB0.size))
  go_wp2_with fail
  go_ret2
  exact ⟨rfl, HB.out.alloc HB.out.size _⟩

theorem cp_mono {P : Program} {f : FuncId} {args : Array Value} {w : World} {r : Int × List Int × Int} {U : Int} {xs : List Int} {c : Int} (hr : r = (U, xs, c))
    (h : Calls P f args w fun e w' => ∃ v, e = .returned (.tuple #[.agg #[.int .i64 U, v], .int .i64 c]) ∧ Res w w' v xs) : Calls P f args w fun e w' => ∃ v, e = .returned (.tuple #[.agg #[.int .i64 r.1, v], .int .i64 r.2.2]) ∧ Res w w' v r.2.1 := by
  subst hr; exact h

set_option maxRecDepth 100000 in
set_option maxHeartbeats 2000000 in
theorem specCollapsePair (V : Int) (a : Option Addr) (cap : Nat) (fs : List Int) (d : Int) (_wd : (Lit.int .i64 d).wf = true) (w : World) (hx : SlI w w.heap.size a fs) (hl : fs.length ≤ 1048576) :
    Calls Try.prog 24 #[.agg #[.int .i64 V, .slice a fs.length cap], .int .i64 d] w fun e w' => ∃ v, e = .returned (.tuple #[.agg #[.int .i64 (colPairR V fs d).1, v], .int .i64 (colPairR V fs d).2.2]) ∧ Res w w' v (colPairR V fs d).2.1 := by
  have hB0 : Below w.heap.size w ((w.alloc (.cells #[.int .i64 V, .slice a fs.length cap] 29)).alloc (.cells #[.int .i64 0, .slice none 0 0] 29)) := ((Below.refl _ w).alloc (Nat.le_refl _) _).alloc (by simp) _
  have Hx := hid (hx.later hB0 (by simp <;> omega))
  by_cases hC : IsC V fs
  · have Hf := hid hC.range63
    have HC := hid hC
    by_cases hd : d ∈ fs
    · have hdr := hC.range63 d hd
      obtain ⟨s, rfl⟩ : ∃ s : Nat, d = s := ⟨d.toNat, by omega⟩
      have hs : s < 64 := by omega
      have Hd := hid hd
      by_cases hg : freeG fs s = 0
      · refine cp_mono (show colPairR V fs (s : Int) = (0, [], 5) by unfold colPairR; rw [isCB_true hC, if_pos rfl, if_pos hd, Int.toNat_natCast, if_pos hg]) ?_
        clear hC hd
        go_enter Try.func24, Try.ntmps24
        go_wp2_with fail
        refine (face_yes V a cap fs _ _ Hx.out hl HC.out Hd.out).mono ?_
        rintro e w1 ⟨rfl, hB1⟩
        have k0 : w1.cell? ⟨w.heap.size, 0, none⟩ = some (.int .i64 V) := (hB1.cell (p := ⟨w.heap.size, 0, none⟩) (by simp <;> omega)).trans (by simp [go_sem])
        have k1 : w1.cell? ⟨w.heap.size, 1, none⟩ = some (.slice a fs.length cap) := (hB1.cell (p := ⟨w.heap.size, 1, none⟩) (by simp <;> omega)).trans (by simp [go_sem])
        have r1 : w1.heap[w.heap.size + 1]? = some (.cells #[.int .i64 0, .slice none 0 0] 29 (0, 0)) := (hB1.block _ (by simp <;> omega)).trans (new2 _ _ _)
        have hB01 := hB0.trans (hB1.mono (by simp <;> omega))
        have hx1 := hid (hx.later hB01 hB01.size)
        have R1 := hid r1
        clear r1
        go_wp2_with fail
        refine (free_any V a cap fs s _ hx1.out hl Hf.out hs).mono ?_
        rintro e w2 ⟨rfl, hB2⟩
        rw [hg]
        have r2 := (hB2.block _ (lt_get R1.out)).trans R1.out
        obtain ⟨c0, c1, f0, f1⟩ := two_of r2
        have R2 := hid r2
        clear r2
        go_wp2_with fail
        (try simp only [Exit.inBlock, Exit.then])
        have R3 := two_of (two_set R2.out (.int .i64 0) (.slice none 0 0))
        refine done_cx (p := 4) (u := 5) (by kernel_rfl) rfl rfl R3.1 R3.2.1 rfl ⟨_, rfl, ?_⟩
        exact (res_nil _ _ (hB01.trans (hB2.mono hB01.size))).set2 R2.out (by decide) (by omega) _ _
      · refine cp_mono (show colPairR V fs (s : Int) = (V, takeL fs s, 0) by unfold colPairR; rw [isCB_true hC, if_pos rfl, if_pos hd, Int.toNat_natCast, if_neg hg]) ?_
        have hg0 : (freeG fs s == 0) = false := by simpa using hg
        clear hC hd
        go_enter Try.func24, Try.ntmps24
        go_wp2_with fail
        refine (face_yes V a cap fs _ _ Hx.out hl HC.out Hd.out).mono ?_
        rintro e w1 ⟨rfl, hB1⟩
        have k0 : w1.cell? ⟨w.heap.size, 0, none⟩ = some (.int .i64 V) := (hB1.cell (p := ⟨w.heap.size, 0, none⟩) (by simp <;> omega)).trans (by simp [go_sem])
        have k1 : w1.cell? ⟨w.heap.size, 1, none⟩ = some (.slice a fs.length cap) := (hB1.cell (p := ⟨w.heap.size, 1, none⟩) (by simp <;> omega)).trans (by simp [go_sem])
        have r1 : w1.heap[w.heap.size + 1]? = some (.cells #[.int .i64 0, .slice none 0 0] 29 (0, 0)) := (hB1.block _ (by simp <;> omega)).trans (new2 _ _ _)
        have q1 : w1.heap[w.heap.size]? = some (.cells #[.int .i64 V, .slice a fs.length cap] 29 (0, 0)) := (hB1.block _ (by simp <;> omega)).trans ((Below.heap_alloc _ _ _ (by simp)).trans (heap_alloc_new _ _))
        have hB01 := hB0.trans (hB1.mono (by simp <;> omega))
        have hx1 := hid (hx.later hB01 hB01.size)
        have R1 := hid r1
        have Q1 := hid q1
        clear r1 q1
        go_wp2_with fail
        refine (free_any V a cap fs s _ hx1.out hl Hf.out hs).mono ?_
        rintro e w2 ⟨rfl, hB2⟩
        have r2 := (hB2.block _ (lt_get R1.out)).trans R1.out
        obtain ⟨c0, c1, f0, f1⟩ := two_of r2
        obtain ⟨j0, j1, _, _⟩ := two_of ((hB2.block _ (lt_get Q1.out)).trans Q1.out)
        have hB02 := hB01.trans (hB2.mono hB01.size)
        have hx2 := hid (hx.later hB02 hB02.size)
        have R2 := hid r2
        clear r2 k0 k1
        go_wp2_with fail
        refine (take_any V a cap fs s _ hx2.out hl Hf.out hs).mono ?_
        rintro e w3 ⟨v, rfl, hr⟩
        obtain ⟨_, av, cv, rfl, _⟩ := ownsRow_slI hr.1
        have r3 := (hr.2.block _ (lt_get R2.out)).trans R2.out
        obtain ⟨d0, d1, e0, e1⟩ := two_of r3
        have R3 := hid r3
        clear r3
        go_wp2_with fail
        (try simp only [Exit.inBlock, Exit.then])
        have R4 := two_of (two_set R3.out (.int .i64 V) (.slice av (takeL fs s).length cv))
        refine done_cx (p := 4) (u := 5) (by kernel_rfl) rfl rfl R4.1 R4.2.1 rfl ⟨_, rfl, ?_⟩
        exact (hr.later hB02).set2 R3.out (by decide) (by omega) _ _
    · refine cp_mono (show colPairR V fs d = (0, [], 2) by unfold colPairR; rw [isCB_true hC, if_pos rfl, if_neg hd]) ?_
      clear hC
      go_enter Try.func24, Try.ntmps24
      go_wp2_with fail
      refine (face_no V a cap fs _ _ Hx.out hl HC.out hd).mono ?_
      rintro e w1 ⟨rfl, hB1⟩
      have r1 : w1.heap[w.heap.size + 1]? = some (.cells #[.int .i64 0, .slice none 0 0] 29 (0, 0)) := (hB1.block _ (by simp <;> omega)).trans (new2 _ _ _)
      have hB01 := hB0.trans (hB1.mono (by simp <;> omega))
      obtain ⟨c0, c1, f0, f1⟩ := two_of r1
      have R1 := hid r1
      clear r1
      go_wp2_with fail
      (try simp only [Exit.inBlock, Exit.then])
      have R3 := two_of (two_set R1.out (.int .i64 0) (.slice none 0 0))
      refine done_cx (p := 4) (u := 5) (by kernel_rfl) rfl rfl R3.1 R3.2.1 rfl ⟨_, rfl, ?_⟩
      exact (res_nil _ _ hB01).set2 R1.out (by decide) (by omega) _ _
  · refine cp_mono (show colPairR V fs d = (0, [], 1) by unfold colPairR; rw [isCB_false hC, if_neg (by simp)]) ?_
    go_enter Try.func24, Try.ntmps24
    go_wp2_with fail
    refine (face_bad V a cap fs _ _ Hx.out hl hC).mono ?_
    rintro e w1 ⟨rfl, hB1⟩
    have r1 : w1.heap[w.heap.size + 1]? = some (.cells #[.int .i64 0, .slice none 0 0] 29 (0, 0)) := (hB1.block _ (by simp <;> omega)).trans (new2 _ _ _)
    have hB01 := hB0.trans (hB1.mono (by simp <;> omega))
    obtain ⟨c0, c1, f0, f1⟩ := two_of r1
    have R1 := hid r1
    clear r1
    go_wp2_with fail
    (try simp only [Exit.inBlock, Exit.then])
    have R3 := two_of (two_set R1.out (.int .i64 0) (.slice none 0 0))
    refine done_cx (p := 4) (u := 5) (by kernel_rfl) rfl rfl R3.1 R3.2.1 rfl ⟨_, rfl, ?_⟩
    exact (res_nil _ _ hB01).set2 R1.out (by decide) (by omega) _ _

end Go.Proofs.Ytojnpacklcajpaa

/-! CollapsePair, the program's. -/
namespace Go.Proofs.Ytojnpacklcajpaa
open Go.RowKit

/-- A pair in a block of its own, read as two integers. -/
theorem pair_slI {w : World} {b : Nat} {x y : Int} (h : w.heap[b]? = some (.cells #[.int .i64 x, .int .i64 y] 63 (0, 0))) : SlI w w.heap.size (some ⟨b, 0, none⟩) [x, y] := by
  refine .inr ⟨b, 0, lt_get h, rfl, fun i hi => ?_⟩
  have : i = 0 ∨ i = 1 := by simp at hi; omega
  rcases this with rfl | rfl <;> simp [World.cell?, h]

set_option maxRecDepth 100000 in
set_option maxHeartbeats 4000000 in
theorem implCollapsePair (V : Int) (a : Option Addr) (cap : Nat) (fs : List Int) (d : Int) (wd : (Lit.int .i64 d).wf = true) (w : World) (hx : SlI w w.heap.size a fs) (hl : fs.length ≤ 1048576) :
    Calls Try.prog 25 #[.agg #[.int .i64 V, .slice a fs.length cap], .int .i64 d] w fun e w' => ∃ v, e = .returned (.tuple #[.agg #[.int .i64 (colPairR V fs d).1, v], .int .i64 (colPairR V fs d).2.2]) ∧ Res w w' v (colPairR V fs d).2.1 := by
  have hB0 : Below w.heap.size w ((w.alloc (.cells #[.int .i64 V, .slice a fs.length cap] 29)).alloc (.cells #[.int .i64 0, .slice none 0 0] 29)) := ((Below.refl _ w).alloc (Nat.le_refl _) _).alloc (by simp) _
  have Hx := hid (hx.later hB0 (by simp <;> omega))
  have Heq := eq_pairF
  by_cases hC : IsC V fs
  · have Hf := hid hC.range63
    have HC := hid hC
    by_cases hd : d ∈ fs
    · have hdr := hC.range63 d hd
      have Hd := hid hd
      by_cases hg : freeG fs d.toNat = 0
      · refine cp_mono (show colPairR V fs d = (0, [], 5) by unfold colPairR; rw [isCB_true hC, if_pos rfl, if_pos hd, if_pos hg]) ?_
        have Hc := fpo_yes V a cap fs d _ Hx.out hl hC hd
        unfold fpOf at Hc
        rw [if_pos hg] at Hc
        have HCC := hid Hc
        clear hC hd Hc
        go_enter Try.func25, Try.ntmps25
        go_wp2_with fail
        refine HCC.out.mono ?_
        rintro e w1 ⟨rfl, hB1⟩
        have r1 : w1.heap[w.heap.size + 1]? = some (.cells #[.int .i64 0, .slice none 0 0] 29 (0, 0)) := (hB1.block _ (by simp <;> omega)).trans (new2 _ _ _)
        have hB01 := hB0.trans (hB1.mono (by simp <;> omega))
        have R1 := hid ((Below.heap_alloc w1 (.cells #[.int .i64 0, .int .i64 0] 63) _ (lt_get r1)).trans r1)
        obtain ⟨c0, c1, f0, f1⟩ := two_of R1.out
        clear r1
        go_wp2_with fail
        (try simp only [Exit.inBlock, Exit.then])
        have R3 := two_of (two_set R1.out (.int .i64 0) (.slice none 0 0))
        refine done_cx (p := 4) (u := 5) (by kernel_rfl) rfl rfl R3.1 R3.2.1 rfl ⟨_, rfl, ?_⟩
        exact (res_nil _ _ (hB01.alloc hB01.size _)).set2 R1.out (by decide) (by omega) _ _
      · refine cp_mono (show colPairR V fs d = (V, takeL fs d, 0) by unfold colPairR; rw [isCB_true hC, if_pos rfl, if_pos hd, if_neg hg]) ?_
        have Hc := fpo_yes V a cap fs d _ Hx.out hl hC hd
        unfold fpOf at Hc
        rw [if_neg hg] at Hc
        have HT := hid (take_free (p := (d, freeG fs d.toNat)) hC.range63 hd hg rfl)
        obtain ⟨G, hG⟩ : ∃ G, G = freeG fs d.toNat := ⟨_, rfl⟩
        obtain ⟨ys, hys⟩ : ∃ ys, ys = takeL fs d := ⟨_, rfl⟩
        rw [← hG] at Hc HT
        simp only at HT
        rw [← hys] at HT
        rw [← hys]
        have HCC := hid Hc
        have hd0 : (d == 0) = false := by simp; omega
        clear hC hd Hc hG hys hg
        go_enter Try.func25, Try.ntmps25
        go_wp2_with fail
        refine HCC.out.mono ?_
        rintro e w1 ⟨rfl, hB1⟩
        have q1 : w1.heap[w.heap.size]? = some (.cells #[.int .i64 V, .slice a fs.length cap] 29 (0, 0)) := (hB1.block _ (by simp <;> omega)).trans ((Below.heap_alloc _ _ _ (by simp)).trans (heap_alloc_new _ _))
        have r1 : w1.heap[w.heap.size + 1]? = some (.cells #[.int .i64 0, .slice none 0 0] 29 (0, 0)) := (hB1.block _ (by simp <;> omega)).trans (new2 _ _ _)
        have hB01 := hB0.trans (hB1.mono (by simp <;> omega))
        obtain ⟨w2, hw2⟩ : ∃ w2, w2 = w1.alloc (.cells #[.int .i64 d, .int .i64 G] 63) := ⟨_, rfl⟩
        have R1 := hid (show w2.heap[w.heap.size + 1]? = some (.cells #[.int .i64 0, .slice none 0 0] 29 (0, 0)) by rw [hw2]; exact (Below.heap_alloc w1 (.cells #[.int .i64 d, .int .i64 G] 63) _ (lt_get r1)).trans r1)
        have Q1 := hid (show w2.heap[w.heap.size]? = some (.cells #[.int .i64 V, .slice a fs.length cap] 29 (0, 0)) by rw [hw2]; exact (Below.heap_alloc w1 (.cells #[.int .i64 d, .int .i64 G] 63) _ (lt_get q1)).trans q1)
        have P1 := hid (show w2.heap[w1.heap.size]? = some (.cells #[.int .i64 d, .int .i64 G] 63 (0, 0)) by rw [hw2]; exact heap_alloc_new _ _)
        have HB2 := hid (show Below w.heap.size w w2 by rw [hw2]; exact hB01.alloc hB01.size _)
        obtain ⟨k0, k1, _, _⟩ := two_of Q1.out
        obtain ⟨p0, p1, _, _⟩ := two_of P1.out
        have HW2 := hid hw2
        clear r1 q1 hw2
        go_wp2_with fail
        rw [← HW2.out]
        have HxW := hid (hx.later HB2.out HB2.out.size)
        have HpW := hid (pair_slI P1.out)
        go_region_with (go_at_call 62; refine (wo_any V a cap fs _ 2 [d, G] w2.drew HxW.out HpW.out hl (by simp)).mono ?_; rintro e w3 ⟨v, rfl, hr⟩; rw [← HT.out] at hr; obtain ⟨_, av, cv, rfl, _⟩ := ownsRow_slI hr.1; have hrb : Below w2.heap.size w2 w3 := ⟨hr.2.os, hr.2.tape, hr.2.output, hr.2.size, hr.2.block⟩; have r3 := (hrb.block _ (lt_get R1.out)).trans R1.out; obtain ⟨c0, c1, f0, f1⟩ := two_of r3; have k03 := (hrb.cell (p := ⟨w.heap.size, 0, none⟩) (lt_get Q1.out)).trans k0; have k13 := (hrb.cell (p := ⟨w.heap.size, 1, none⟩) (lt_get Q1.out)).trans k1; have R3 := hid r3; clear r3 hrb)
        all_goals
          go_wp2_with fail
          (try simp only [Exit.inBlock, Exit.then])
          have R4 := two_of (two_set R3.out (.int .i64 V) (.slice av ys.length cv))
          refine done_cx (p := 4) (u := 5) (by kernel_rfl) rfl rfl R4.1 R4.2.1 rfl ⟨_, rfl, ?_⟩
          exact (Res.later hr ⟨HB2.out.os, HB2.out.tape, HB2.out.output, HB2.out.size, HB2.out.block⟩).set2 R3.out (by decide) (by omega) _ _
    · refine cp_mono (show colPairR V fs d = (0, [], 2) by unfold colPairR; rw [isCB_true hC, if_pos rfl, if_neg hd]) ?_
      have HCC := hid (fpo_no V a cap fs d _ Hx.out hl hC wd hd)
      clear hC
      go_enter Try.func25, Try.ntmps25
      go_wp2_with fail
      refine HCC.out.mono ?_
      rintro e w1 ⟨rfl, hB1⟩
      have r1 : w1.heap[w.heap.size + 1]? = some (.cells #[.int .i64 0, .slice none 0 0] 29 (0, 0)) := (hB1.block _ (by simp <;> omega)).trans (new2 _ _ _)
      have hB01 := hB0.trans (hB1.mono (by simp <;> omega))
      have R1 := hid ((Below.heap_alloc w1 (.cells #[.int .i64 0, .int .i64 0] 63) _ (lt_get r1)).trans r1)
      obtain ⟨c0, c1, f0, f1⟩ := two_of R1.out
      clear r1
      go_wp2_with fail
      (try simp only [Exit.inBlock, Exit.then])
      have R3 := two_of (two_set R1.out (.int .i64 0) (.slice none 0 0))
      refine done_cx (p := 4) (u := 5) (by kernel_rfl) rfl rfl R3.1 R3.2.1 rfl ⟨_, rfl, ?_⟩
      exact (res_nil _ _ (hB01.alloc hB01.size _)).set2 R1.out (by decide) (by omega) _ _
  · refine cp_mono (show colPairR V fs d = (0, [], 1) by unfold colPairR; rw [isCB_false hC, if_neg (by simp)]) ?_
    have HCC := hid (fpo_bad V a cap fs d _ Hx.out hl hC)
    go_enter Try.func25, Try.ntmps25
    go_wp2_with fail
    refine HCC.out.mono ?_
    rintro e w1 ⟨rfl, hB1⟩
    have r1 : w1.heap[w.heap.size + 1]? = some (.cells #[.int .i64 0, .slice none 0 0] 29 (0, 0)) := (hB1.block _ (by simp <;> omega)).trans (new2 _ _ _)
    have hB01 := hB0.trans (hB1.mono (by simp <;> omega))
    have R1 := hid ((Below.heap_alloc w1 (.cells #[.int .i64 0, .int .i64 0] 63) _ (lt_get r1)).trans r1)
    obtain ⟨c0, c1, f0, f1⟩ := two_of R1.out
    clear r1
    go_wp2_with fail
    (try simp only [Exit.inBlock, Exit.then])
    have R3 := two_of (two_set R1.out (.int .i64 0) (.slice none 0 0))
    refine done_cx (p := 4) (u := 5) (by kernel_rfl) rfl rfl R3.1 R3.2.1 rfl ⟨_, rfl, ?_⟩
    exact (res_nil _ _ (hB01.alloc hB01.size _)).set2 R1.out (by decide) (by omega) _ _

end Go.Proofs.Ytojnpacklcajpaa

/-! The program's collapse. -/
namespace Go.Proofs.Ytojnpacklcajpaa
open Go.RowKit

theorem row_ne_any {W : World} {base e t s : Nat} {v : Value} {n : Nat} {xs : List Value} {b : Nat} {cs : Array Value} {fz : Nat × Nat} (h : W.ownsRow base e s v n xs) (hb : W.heap[b]? = some (.cells cs t fz)) (hne : e ≠ t) : some b ≠ v.ownBlock := by
  intro he
  rcases h.2 with ⟨rfl, _⟩ | ⟨g, cap, cur, rfl, _, hg, _⟩
  · simp [Value.ownBlock] at he
  · simp [Value.ownBlock] at he
    subst he
    rw [hb] at hg
    simp at hg
    exact hne hg.2.1.symm

/-- The world of a collapse that is under way. -/
structure ColW (w W : World) (V1 : Int) (s1 : Value) (NL : Nat) (V : Int) (cur : List Int) (av : Option Addr) (cv : Nat) (P : List (Int × Int)) (q : Value) : Prop where
  lbox : W.heap[w.heap.size + 1]? = some (.cells #[.int .i64 V1, s1] 29 (0, 0))
  res : W.heap[w.heap.size + 1 + 1]? = some (.cells #[.int .i64 0, .slice none 0 0] 29 (0, 0))
  left : W.heap[NL]? = some (.cells #[.int .i64 V, .slice av cur.length cv] 29 (0, 0))
  row : W.ownsRow w.heap.size 2 1 (.slice av cur.length cv) cur.length (cur.map (Value.int .i64))
  prs : W.ownsRow w.heap.size 63 2 q P.length ((flatP P).map (Value.int .i64))
  below : Below w.heap.size w W
  nl : w.heap.size ≤ NL ∧ NL ≠ w.heap.size + 1 ∧ NL ≠ w.heap.size + 1 + 1

section
variable {w W W' : World} {V1 : Int} {s1 : Value} {NL : Nat} {V : Int} {cur : List Int} {av : Option Addr} {cv : Nat} {P : List (Int × Int)} {q : Value}

theorem ColW.keep (h : ColW w W V1 s1 NL V cur av cv P q) (hB : Below W.heap.size W W') : ColW w W' V1 s1 NL V cur av cv P q where
  lbox := (hB.block _ (lt_get h.lbox)).trans h.lbox
  res := (hB.block _ (lt_get h.res)).trans h.res
  left := (hB.block _ (lt_get h.left)).trans h.left
  row := ownsRow_below h.row hB (fun g hg => (h.row.lt g hg).2)
  prs := ownsRow_below h.prs hB (fun g hg => (h.prs.lt g hg).2)
  below := h.below.trans (hB.mono h.below.size)
  nl := h.nl

theorem ColW.push (h : ColW w W V1 s1 NL V cur av cv P q) (hg : W.grownBy W' q.ownBlock) {P' : List (Int × Int)} {q' : Value} (hown : W'.ownsRow w.heap.size 63 2 q' P'.length ((flatP P').map (Value.int .i64))) : ColW w W' V1 s1 NL V cur av cv P' q' where
  lbox := (hg.block _ (lt_get h.lbox) (row_ne_any h.prs h.lbox (by decide))).trans h.lbox
  res := (hg.block _ (lt_get h.res) (row_ne_any h.prs h.res (by decide))).trans h.res
  left := (hg.block _ (lt_get h.left) (row_ne_any h.prs h.left (by decide))).trans h.left
  row := h.row.kept hg (by
    cases hv : (Value.slice av cur.length cv).ownBlock with
    | none => exact .inl rfl
    | some g => exact .inr (fun e => apart_ty h.row h.prs (by decide) g hv e.symm))
  prs := hown
  below := h.below.grown hg h.below.size (fun k e => (h.prs.lt k e).1)
  nl := h.nl

theorem ColW.put (h : ColW w W V1 s1 NL V cur av cv P q) {ys : List Int} {a2 : Option Addr} {c2 : Nat} (hr : W.ownsRow w.heap.size 2 1 (.slice a2 ys.length c2) ys.length (ys.map (Value.int .i64))) :
    ColW w ((W.setCell ⟨NL, 0, none⟩ (.int .i64 V)).setCell ⟨NL, 1, none⟩ (.slice a2 ys.length c2)) V1 s1 NL V ys a2 c2 P q := by
  have hn := h.nl
  obtain ⟨n1, n2, n3⟩ := h.nl
  have e : ∀ k, k ≠ NL → ((W.setCell ⟨NL, 0, none⟩ (.int .i64 V)).setCell ⟨NL, 1, none⟩ (.slice a2 ys.length c2)).heap[k]? = W.heap[k]? := fun k hk => (Below.heap_setCell _ _ _ _ hk).trans (Below.heap_setCell _ _ _ _ hk)
  refine ⟨(e _ (by omega)).trans h.lbox, (e _ (by omega)).trans h.res, two_set h.left _ _, ?_, ?_, ?_, hn⟩
  · have hx := row_ne_any hr h.left (by decide)
    exact ownsRow_set (ownsRow_set hr (fun e => hx e.symm) _) (fun e => hx e.symm) _
  · have hx := row_ne_any h.prs h.left (by decide)
    exact ownsRow_set (ownsRow_set h.prs (fun e => hx e.symm) _) (fun e => hx e.symm) _
  · exact (h.below.setCell (p := ⟨NL, 0, none⟩) (by show w.heap.size ≤ NL; omega) _).setCell (p := ⟨NL, 1, none⟩) (by show w.heap.size ≤ NL; omega) _
end

set_option maxRecDepth 100000 in
set_option maxHeartbeats 8000000 in
theorem colI_any (V : Int) (a0 : Option Addr) (cap : Nat) (fs : List Int) (V1 : Int) (a1 : Option Addr) (cap1 : Nat) (ls : List Int) (w : World) (hx : SlI w w.heap.size a0 fs) (hx1 : SlI w w.heap.size a1 ls) (hl : fs.length ≤ 1048576) (hl1 : ls.length ≤ 1048576) (hf : ∀ x ∈ fs, 1 ≤ x ∧ x ≤ 63) :
    Calls Try.prog 66 #[.agg #[.int .i64 V, .slice a0 fs.length cap], .agg #[.int .i64 V1, .slice a1 ls.length cap1]] w fun e w' => ∃ v q, e = .returned (.tuple #[.agg #[.int .i64 V, v], q]) ∧ Res w w' v (colE ls fs).1 ∧ ResP w w' q (colE ls fs).2 ∧ Apart v q := by
  have hB0 : Below w.heap.size w (((w.alloc (.cells #[.int .i64 V, .slice a0 fs.length cap] 29)).alloc (.cells #[.int .i64 V1, .slice a1 ls.length cap1] 29)).alloc (.cells #[.int .i64 0, .slice none 0 0] 29)) := (((Below.refl _ w).alloc (Nat.le_refl _) _).alloc (by simp) _).alloc (by simp <;> omega) _
  obtain ⟨W, hW⟩ : ∃ W, W = ((w.alloc (.cells #[.int .i64 V, .slice a0 fs.length cap] 29)).alloc (.cells #[.int .i64 V1, .slice a1 ls.length cap1] 29)).alloc (.cells #[.int .i64 0, .slice none 0 0] 29) := ⟨_, rfl⟩
  have k0 : W.cell? ⟨w.heap.size, 0, none⟩ = some (.int .i64 V) := by rw [hW]; simp [go_sem]
  have k1 : W.cell? ⟨w.heap.size, 1, none⟩ = some (.slice a0 fs.length cap) := by rw [hW]; simp [go_sem]
  have Q1 := hid (show W.heap[w.heap.size + 1]? = some (.cells #[.int .i64 V1, .slice a1 ls.length cap1] 29 (0, 0)) by rw [hW, Below.heap_alloc _ _ _ (by simp)]; exact new2 _ _ _)
  have R1 := hid (show W.heap[w.heap.size + 1 + 1]? = some (.cells #[.int .i64 0, .slice none 0 0] 29 (0, 0)) by rw [hW]; exact new3 _ _ _ _)
  have HBW : Hid (Below w.heap.size w W) := hid (by rw [hW]; exact hB0)
  have HW := hid hW
  have Hx0 := hid hx
  have Hx1 := hid hx1
  have Hf := hid hf
  have hfilt : (fs.filter fun x => decide (x ∉ ([] : List Int))) = fs := by simp
  have hwo := wo_any V a0 cap fs none 0 [] W (Hx0.out.later HBW.out HBW.out.size) (.inl rfl) hl (by simp)
  rw [hfilt] at hwo
  have HWO := hid hwo
  clear hf hx hx1 hB0 hW hwo hfilt
  go_enter Try.func66, Try.ntmps66
  go_wp2_with fail
  rw [← HW.out]
  refine HWO.out.mono ?_
  rintro e w2 ⟨v2, rfl, hr2⟩
  obtain ⟨_, av2, cv2, rfl, _⟩ := ownsRow_slI hr2.1
  obtain ⟨NL, hNL⟩ : ∃ NL, NL = w2.heap.size := ⟨_, rfl⟩
  have H0 : Hid (ColW w (w2.alloc (.cells #[.int .i64 V, .slice av2 fs.length cv2] 29)) V1 (.slice a1 ls.length cap1) NL V fs av2 cv2 [] (.slice none 0 0)) := hid (by
    have hB := HBW.out.trans (hr2.2.mono HBW.out.size)
    have hs := lt_get R1.out
    have hs2 := hr2.2.size
    have al := fun k (hk : k < w2.heap.size) => Below.heap_alloc w2 (.cells #[.int .i64 V, .slice av2 fs.length cv2] 29) k hk
    refine ⟨(al _ (by omega)).trans ((hr2.2.block _ (lt_get Q1.out)).trans Q1.out), (al _ (by omega)).trans ((hr2.2.block _ hs).trans R1.out), by rw [hNL]; exact heap_alloc_new _ _, ?_, World.ownsRow_nil _ _ _ _, hB.alloc hB.size _, by omega, by omega, by omega⟩
    exact (ownsRow_base hr2.1 HBW.out.size).alloc _)
  clear hr2 k0 k1 Q1 R1 HWO
  go_wp2_with fail
  rw [← hNL]
  clear hNL
  go_loopg [7] fs.length (fun g p wr => ∃ (n : Nat) (cur : List Int) (P : List (Int × Int)) (av : Option Addr) (cv : Nat), Hid (cur.length ≤ g) ∧ Hid (ColAt ls fs n cur P) ∧ Hid (ColW w wr V1 (.slice a1 ls.length cap1) NL V cur av cv P p))
  case atStart => exact ⟨0, fs, [], av2, cv2, hid (Nat.le_refl _), hid (ColAt.start ls fs), H0⟩
  case round =>
    clear H0
    obtain ⟨n, cur, P, av, cv, Hg, HA, HC⟩ := hrel
    obtain ⟨k0, k1, _, _⟩ := two_of HC.out.left
    obtain ⟨l0, l1, _, _⟩ := two_of HC.out.lbox
    have hcl : cur.length ≤ 1048576 := Nat.le_trans HA.out.sub.length_le hl
    have Hcf := hid (fun x hx => Hf.out x (HA.out.sub.subset hx))
    have HFI := hid (first_any V av cv cur V1 a1 cap1 ls wr (owned_slI HC.out.row) (Hx1.out.later HC.out.below HC.out.below.size) hcl hl1 Hcf.out)
    have Heq := eq_pairF
    cases hfp : firstP cur ls with
    | none =>
      rw [hfp] at HFI
      simp only [prO, Option.getD_none] at HFI
      have HE := hid (HA.out.stop hfp)
      clear hfp
      go_wp2_with fail
      refine HFI.out.mono ?_
      rintro e w3 ⟨rfl, hB3⟩
      have HC3 := hid (HC.out.keep (hB3.alloc hB3.size (.cells #[.int .i64 0, .int .i64 0] 63)))
      obtain ⟨c0, c1, f0, f1⟩ := two_of HC3.out.res
      obtain ⟨j0, j1, _, _⟩ := two_of HC3.out.left
      clear k0 k1 l0 l1 hB3
      go_wp2_with fail
      (try simp only [Exit.inBlock, Exit.then])
      have R3 := two_of (two_set HC3.out.res (.int .i64 V) (.slice av cur.length cv))
      refine done_cx (p := 4) (u := 5) (by kernel_rfl) rfl rfl R3.1 R3.2.1 rfl ?_
      have hx := row_ne_any HC3.out.row HC3.out.res (by decide)
      have hy := row_ne_any HC3.out.prs HC3.out.res (by decide)
      have hBf := (HC3.out.below.setCell (p := ⟨w.heap.size + 1 + 1, 0, none⟩) (by show w.heap.size ≤ w.heap.size + 1 + 1; omega) (.int .i64 V)).setCell (p := ⟨w.heap.size + 1 + 1, 1, none⟩) (by show w.heap.size ≤ w.heap.size + 1 + 1; omega) (.slice av cur.length cv)
      have hr3 := ownsRow_set (ownsRow_set HC3.out.row (a := ⟨w.heap.size + 1 + 1, 0, none⟩) (fun e => hx e.symm) (.int .i64 V)) (a := ⟨w.heap.size + 1 + 1, 1, none⟩) (fun e => hx e.symm) (.slice av cur.length cv)
      have hp3 := ownsRow_set (ownsRow_set HC3.out.prs (a := ⟨w.heap.size + 1 + 1, 0, none⟩) (fun e => hy e.symm) (.int .i64 V)) (a := ⟨w.heap.size + 1 + 1, 1, none⟩) (fun e => hy e.symm) (.slice av cur.length cv)
      rw [HE.out]
      exact ⟨_, _, rfl, ⟨hr3, hBf⟩, ⟨hp3, hBf⟩, apart_ty hr3 hp3 (by decide)⟩
    | some p =>
      rw [hfp] at HFI
      obtain ⟨x, y⟩ := p
      simp only [prO, Option.getD_some] at HFI
      have hfs := firstP_some hfp
      have hxr := Hcf.out x hfs.1
      have HT := hid (take_free (p := (x, y)) Hcf.out hfs.1 hfs.2.1 hfs.2.2.1)
      have HA2 := hid (HA.out.step hfp)
      have Hlt := hid (take_lt hfs.1)
      have hx0 : (x == 0) = false := by simp; omega
      have hPl : P.length ≤ 1048576 := by have := HA.out.plen; have := HA.out.len; omega
      simp only at HT HA2 Hlt
      obtain ⟨ys, hys⟩ : ∃ ys, ys = takeL cur x := ⟨_, rfl⟩
      rw [← hys] at HT HA2 Hlt
      clear hfp hfs hys
      go_wp2_with fail
      refine HFI.out.mono ?_
      rintro e w3 ⟨rfl, hB3⟩
      obtain ⟨w4, hw4⟩ : ∃ w4, w4 = w3.alloc (.cells #[.int .i64 x, .int .i64 y] 63) := ⟨_, rfl⟩
      have HC4 := hid (show ColW w w4 V1 (.slice a1 ls.length cap1) NL V cur av cv P _ by rw [hw4]; exact HC.out.keep (hB3.alloc hB3.size (.cells #[.int .i64 x, .int .i64 y] 63)))
      have P4 := hid (show w4.heap[w3.heap.size]? = some (.cells #[.int .i64 x, .int .i64 y] 63 (0, 0)) by rw [hw4]; exact heap_alloc_new _ _)
      have HW4 := hid hw4
      obtain ⟨j0, j1, _, _⟩ := two_of HC4.out.left
      obtain ⟨p0, p1, _, _⟩ := two_of P4.out
      have hs3 := hB3.size
      clear k0 k1 l0 l1 hB3 hw4
      go_wp2_with fail
      rw [← HW4.out]
      have HpW := hid (pair_slI P4.out)
      have HrW := hid (owned_slI HC4.out.row)
      go_region_with (go_at_call 62; refine (wo_any V av cv cur _ 2 [x, y] w4.drew HrW.out HpW.out hcl (by simp)).mono ?_; rintro e w5 ⟨v, rfl, hr⟩; rw [← HT.out] at hr; obtain ⟨_, a5, c5, rfl, _⟩ := ownsRow_slI hr.1; have hrb : Below w4.heap.size w4 w5 := ⟨hr.2.os, hr.2.tape, hr.2.output, hr.2.size, hr.2.block⟩; have HC5 := hid (HC4.out.keep hrb); obtain ⟨i0, i1, g0, g1⟩ := two_of HC5.out.left; have hr5 := hid hr.1; have P5 := hid ((hrb.block _ (lt_get P4.out)).trans P4.out); clear hr hrb)
      all_goals
        obtain ⟨w6, hw6⟩ : ∃ w6, w6 = (w5.setCell ⟨NL, 0, none⟩ (.int .i64 V)).setCell ⟨NL, 1, none⟩ (.slice a5 ys.length c5) := ⟨_, rfl⟩
        have HC6 := hid (HC5.out.put (ownsRow_base hr5.out HC4.out.below.size))
        have hne : w3.heap.size ≠ NL := by
          intro e
          have h1 := P5.out
          rw [e, HC5.out.left] at h1
          simp at h1
        have P6 := hid (show w6.heap[w3.heap.size]? = some (.cells #[.int .i64 x, .int .i64 y] 63 (0, 0)) by rw [hw6]; exact (Below.heap_setCell _ _ _ _ hne).trans ((Below.heap_setCell _ _ _ _ hne).trans P5.out))
        rw [← hw6] at HC6
        rw [← hw6]
        obtain ⟨b0, b1, _, _⟩ := two_of P6.out
        have hown6 := HC6.out.prs
        have hs6 := HC6.out.below.size
        clear i0 i1 g0 g1 j0 j1 p0 p1 hw6 HC5 P5 hr5
        go_wp2_with (at_builtin; refine append_pair rfl rfl hown6 hs6 (by omega) rfl rfl ?_; intro v' w7 hown7 hgrow7 hB7)
        go_roundg ys.length
        case measure => have h1 := Hg.out; have h2 := Hlt.out; omega
        case rel => exact ⟨n + 1, ys, P ++ [(x, y)], a5, c5, hid (Nat.le_refl _), HA2, hid (HC6.out.push hgrow7 hown7)⟩

end Go.Proofs.Ytojnpacklcajpaa

/-! The model's l05First. -/
namespace Go.Proofs.Ytojnpacklcajpaa
open Go.RowKit

/-- The model's walk over the faces, told as the first of the free pairs. -/
theorem firstP_hit {fs ls : List Int} {k : Nat} {f : Int} (hlt : k < fs.length) (hf : fs[k]?.getD 0 = f) (hg : freeG fs f.toNat ≠ 0) (hl : f ∉ ls) (hpre : ∀ p ∈ freeP fs (fs.take k), p.1 ∈ ls) : firstP fs ls = some (f, freeG fs f.toNat) := by
  have e : freeP fs fs = freeP fs (fs.take k) ++ ((f, freeG fs f.toNat) :: freeP fs (fs.drop (k + 1))) := by
    have hs := split_at hlt
    rw [hf] at hs
    have h2 : ∀ a b : List Int, freeP fs (a ++ b) = freeP fs a ++ freeP fs b := fun a b => by simp [freeP]
    have h3 : freeP fs (f :: fs.drop (k + 1)) = (f, freeG fs f.toNat) :: freeP fs (fs.drop (k + 1)) := by simp [freeP, hg]
    have : freeP fs fs = freeP fs (fs.take k ++ f :: fs.drop (k + 1)) := congrArg (freeP fs) hs
    rw [this, h2, h3]
  rw [firstP_pre e hpre, List.find?_cons]
  simp [hl]
theorem firstP_end {fs ls : List Int} (hpre : ∀ p ∈ freeP fs fs, p.1 ∈ ls) : firstP fs ls = none := List.find?_eq_none.2 (fun p hp => by simpa using hpre p hp)

set_option maxRecDepth 100000 in
set_option maxHeartbeats 4000000 in
theorem firstS_any (V : Int) (a0 : Option Addr) (cap : Nat) (fs : List Int) (V1 : Int) (a1 : Option Addr) (cap1 : Nat) (ls : List Int) (w : World) (hx : SlI w w.heap.size a0 fs) (hx1 : SlI w w.heap.size a1 ls) (hl : fs.length ≤ 1048576) (hl1 : ls.length ≤ 1048576) (hf : ∀ x ∈ fs, 1 ≤ x ∧ x ≤ 63) (hL : LowIn fs ls) :
    Calls Try.prog 95 #[.agg #[.int .i64 V, .slice a0 fs.length cap], .agg #[.int .i64 V1, .slice a1 ls.length cap1]] w fun e w' => e = .returned (.tuple #[.agg #[.int .i64 (prO (firstP fs ls)).1, .int .i64 (prO (firstP fs ls)).2], .bool (firstP fs ls).isSome]) ∧ Below w.heap.size w w' := by
  have hB0 : Below w.heap.size w (((w.alloc (.cells #[.int .i64 V, .slice a0 fs.length cap] 29)).alloc (.cells #[.int .i64 V1, .slice a1 ls.length cap1] 29)).alloc (.cells #[.int .i64 0, .int .i64 0] 63)) := (((Below.refl _ w).alloc (Nat.le_refl _) _).alloc (by simp) _).alloc (by simp <;> omega) _
  obtain ⟨W, hW⟩ : ∃ W, W = ((w.alloc (.cells #[.int .i64 V, .slice a0 fs.length cap] 29)).alloc (.cells #[.int .i64 V1, .slice a1 ls.length cap1] 29)).alloc (.cells #[.int .i64 0, .int .i64 0] 63) := ⟨_, rfl⟩
  have Q0 := hid (show W.heap[w.heap.size]? = some (.cells #[.int .i64 V, .slice a0 fs.length cap] 29 (0, 0)) by rw [hW, Below.heap_alloc _ _ _ (by simp <;> omega), Below.heap_alloc _ _ _ (by simp)]; exact heap_alloc_new _ _)
  have Q1 := hid (show W.heap[w.heap.size + 1]? = some (.cells #[.int .i64 V1, .slice a1 ls.length cap1] 29 (0, 0)) by rw [hW, Below.heap_alloc _ _ _ (by simp)]; exact new2 _ _ _)
  have R1 := hid (show W.heap[w.heap.size + 1 + 1]? = some (.cells #[.int .i64 0, .int .i64 0] 63 (0, 0)) by rw [hW]; exact new3 _ _ _ _)
  have HBW : Hid (Below w.heap.size w W) := hid (by rw [hW]; exact hB0)
  have HWs : Hid (w.heap.size + 1 + 1 < W.heap.size) := hid (lt_get R1.out)
  have HW := hid hW
  have Hx0 := hid hx
  have Hx1 := hid hx1
  have Hf := hid hf
  have HL := hid hL
  obtain ⟨F, hF⟩ : ∃ F, F = firstP fs ls := ⟨_, rfl⟩
  rw [← hF]
  have HF := hid hF
  clear hf hx hx1 hB0 hW hL hF
  go_enter Try.func95, Try.ntmps95
  go_wp2_with fail
  rw [← HW.out]
  go_loopg [6] fs.length (fun g i wr => ∃ k : Nat, k + g = fs.length ∧ i = .int .i64 k ∧ Hid (∀ p ∈ freeP fs (fs.take k), p.1 ∈ ls) ∧ Below W.heap.size W wr)
  case atStart => exact ⟨0, by omega, rfl, hid (by simp [freeP]), Below.refl _ _⟩
  case round =>
    obtain ⟨k, hkg, rfl, Hpre, hB⟩ := hrel
    have hws := HWs.out
    obtain ⟨k0, k1, _, _⟩ := two_of ((hB.block _ (lt_get Q0.out)).trans Q0.out)
    have HR := hid ((hB.block _ (lt_get R1.out)).trans R1.out)
    have HQ := hid ((hB.block _ (lt_get Q1.out)).trans Q1.out)
    have HBw := hid (HBW.out.trans (hB.mono HBW.out.size))
    have hsz := hB.size
    cases gk with
    | zero =>
      obtain rfl : k = fs.length := by omega
      rw [List.take_of_length_le (Nat.le_refl _)] at Hpre
      have HE := hid (HF.out.trans (firstP_end Hpre.out))
      obtain ⟨c0, c1, f0, f1⟩ := two_of HR.out
      go_wp2_with fail
      (try simp only [Exit.inBlock, Exit.then])
      have R3 := two_of (two_set HR.out (.int .i64 0) (.int .i64 0))
      refine done_pr (p := 4) (u := 5) (c := .bool false) (by kernel_rfl) rfl rfl R3.1 R3.2.1 rfl ⟨by rw [HE.out]; rfl, ?_⟩
      exact (HBw.out.setCell (p := ⟨w.heap.size + 1 + 1, 0, none⟩) (by show w.heap.size ≤ w.heap.size + 1 + 1; omega) _).setCell (p := ⟨w.heap.size + 1 + 1, 1, none⟩) (by show w.heap.size ≤ w.heap.size + 1 + 1; omega) _
    | succ g =>
      have hlt : k < fs.length := by omega
      obtain ⟨b, off, hb, rfl, hc⟩ : ∃ b off, b < w.heap.size ∧ a0 = some ⟨b, off, none⟩ ∧ ∀ i, i < fs.length → w.cell? ⟨b, off + i, none⟩ = some (.int .i64 (fs[i]?.getD 0)) := by
        rcases Hx0.out with rfl | h
        · simp at hlt
        · exact h
      obtain ⟨f, hf⟩ : ∃ f : Nat, (f : Int) = fs[k]?.getD 0 := ⟨(fs[k]?.getD 0).toNat, by have := Hf.out _ (getD_mem hlt); omega⟩
      have hfr := Hf.out _ (getD_mem hlt)
      have hfm := getD_mem hlt
      rw [← hf] at hfr hfm
      have hf64 : f < 64 := by omega
      have hck : wr.cell? ⟨b, off + k, none⟩ = some (.int .i64 (f : Int)) := by rw [hf]; exact (HBw.out.cell (p := ⟨b, off + k, none⟩) hb).trans (hc k hlt)
      have hi0 : (0 : Int) ≤ (k : Int) := by omega
      have hi1 : (k : Int) < (fs.length : Int) := by omega
      have Hn : Hid (freeP fs (fs.take (k + 1)) = freeP fs (fs.take k) ++ (if freeG fs f = 0 then [] else [((f : Int), freeG fs f)])) := hid (by rw [take_snoc hlt, freeP_snoc, ← hf, Int.toNat_natCast])
      have hgr := freeG_rng (f := f) Hf.out
      have Hcf := hid (free_any V (some ⟨b, off, none⟩) cap fs f wr (Hx0.out.later HBw.out HBw.out.size) hl Hf.out hf64)
      have Hhit := hid (fun hg hl => firstP_hit (ls := ls) hlt hf.symm (by rw [Int.toNat_natCast]; exact hg) hl Hpre.out)
      have Hmem : Hid (freeG fs f ≠ 0 → ((f : Int), freeG fs f) ∈ freeP fs fs) := hid (fun hg => mem_freeP.2 ⟨hfm, by rw [Int.toNat_natCast]; exact hg, by simp⟩)
      rw [Int.toNat_natCast] at Hhit
      obtain ⟨G, hG⟩ : ∃ G, G = freeG fs f := ⟨_, rfl⟩
      rw [← hG] at Hn hgr Hcf Hhit Hmem
      clear hc hf hG hfm
      go_wp2_with fail
      refine Hcf.out.mono ?_
      rintro e w2 ⟨rfl, hB2⟩
      have hs2 := hB2.size
      have HB2 := hid (hB.trans (hB2.mono hsz))
      by_cases hG : G = 0
      · subst hG
        have HP : Hid (freeP fs (fs.take (k + 1)) = freeP fs (fs.take k)) := hid (Hn.out.trans (by simp))
        clear Hn k0 k1 hck hB hB2
        go_wp2_with fail
        go_roundg g
        case measure => omega
        case rel => exact ⟨k + 1, by omega, by go_num, by rw [HP.out]; exact Hpre, HB2.out⟩
      · have hG0 : 0 < G := by omega
        have HP : Hid (freeP fs (fs.take (k + 1)) = freeP fs (fs.take k) ++ [((f : Int), G)]) := hid (Hn.out.trans (by rw [if_neg hG]))
        have HQ2 := hid ((hB2.block _ (lt_get HQ.out)).trans HQ.out)
        have HR2 := hid ((hB2.block _ (lt_get HR.out)).trans HR.out)
        have HB02 := hid (HBw.out.trans (hB2.mono HBw.out.size))
        have Hmm := hid (Hmem.out hG)
        have HhG := hid (Hhit.out hG)
        obtain ⟨l0, l1, _, _⟩ := two_of HQ2.out
        clear Hn k0 k1 hck hB hB2 hG Hmem Hhit
        by_cases hfl : (f : Int) ∈ ls
        · have Hfl := hid hfl
          clear hfl
          go_wp2_with fail
          refine (has_yes V1 (f : Int) a1 cap1 ls _ (Hx1.out.later HB02.out HB02.out.size) hl1 Hfl.out).mono ?_
          rintro e w3 ⟨rfl, hB3⟩
          have HB3 := hid (HB2.out.trans (hB3.mono (by omega)))
          clear l0 l1 hB3
          go_wp2_with fail
          go_roundg g
          case measure => omega
          case rel =>
            refine ⟨k + 1, by omega, by go_num, hid ?_, HB3.out⟩
            intro p hp
            rw [HP.out] at hp
            rcases List.mem_append.1 hp with h | h
            · exact Hpre.out p h
            · simp at h; subst h; exact Hfl.out
        · have Hfl := hid hfl
          have HGl : Hid (G ∉ ls) := hid (fun e => hfl (HL.out _ Hmm.out e))
          have HE := hid (HF.out.trans (HhG.out hfl))
          clear hfl
          go_wp2_with fail
          refine (has_no V1 (f : Int) a1 cap1 ls _ (Hx1.out.later HB02.out HB02.out.size) hl1 Hfl.out).mono ?_
          rintro e w3 ⟨rfl, hB3⟩
          have hs3 := hB3.size
          have HB03 := hid (HB02.out.trans (hB3.mono HB02.out.size))
          have HQ3 := hid ((hB3.block _ (lt_get HQ2.out)).trans HQ2.out)
          have HR3 := hid ((hB3.block _ (lt_get HR2.out)).trans HR2.out)
          clear l0 l1 hB3
          obtain ⟨l0, l1, _, _⟩ := two_of HQ3.out
          go_wp2_with fail
          refine (has_no V1 G a1 cap1 ls _ (Hx1.out.later HB03.out HB03.out.size) hl1 HGl.out).mono ?_
          rintro e w4 ⟨rfl, hB4⟩
          have HB04 := hid (HB03.out.trans (hB4.mono HB03.out.size))
          have HR4 := hid ((hB4.block _ (lt_get HR3.out)).trans HR3.out)
          obtain ⟨c0, c1, f0, f1⟩ := two_of HR4.out
          clear l0 l1 hB4
          go_wp2_with fail
          (try simp only [Exit.inBlock, Exit.then])
          have R3 := two_of (two_set HR4.out (.int .i64 (f : Int)) (.int .i64 G))
          refine done_pr (p := 4) (u := 5) (c := .bool true) (by kernel_rfl) rfl rfl R3.1 R3.2.1 rfl ⟨by rw [HE.out]; rfl, ?_⟩
          exact (HB04.out.setCell (p := ⟨w.heap.size + 1 + 1, 0, none⟩) (by show w.heap.size ≤ w.heap.size + 1 + 1; omega) _).setCell (p := ⟨w.heap.size + 1 + 1, 1, none⟩) (by show w.heap.size ≤ w.heap.size + 1 + 1; omega) _

end Go.Proofs.Ytojnpacklcajpaa

/-! Joins: copies of lists. -/
namespace Go.Proofs.Ytojnpacklcajpaa
open Go.RowKit

/-- 'append([]int64{}, list...)' of a list that lies in memory. -/
theorem append_all {w : World} {ops : Array Oper} {rest : List Oper} {o : Oper} {a : Act} {Q : Exit → Act → World → Prop} (hgd : o.guard = none) {s y : Operand}
    (ho : o.op = .call { callee := .builtin .append, args := #[s, y], argTypes := #[22, 22] })
    {b off cap : Nat} {xs : List Int} (hl : xs.length ≤ 1048576) (hc : ∀ i, i < xs.length → w.cell? ⟨b, off + i, none⟩ = some (.int .i64 (xs[i]?.getD 0)))
    (hs : a.eval s = .slice (some ⟨w.heap.size, 0, none⟩) 0 0) (hy : a.eval y = .slice (some ⟨b, off, none⟩) xs.length cap)
    (hK : ∀ v' w', w'.ownsRow w.heap.size 2 1 v' xs.length (xs.map (Value.int .i64)) → Below w.heap.size w w' → (v' = .slice none 0 0 → False) → wpList Try.prog ops Q rest (a.put o.dst v') w') :
    wpList Try.prog ops Q (o :: rest) a (w.alloc (.cells #[] 2)) := by
  obtain ⟨i0, hi, hz0, hz1, hz2⟩ := info_parts info_i64
  refine wpList_append_own _ hgd s y 22 ho w.heap.size 2 i0 (.int .i64 0) 1 8 Try.underlying22 hi hz0 hz1 hz2 rfl (by decide) (.slice (some ⟨w.heap.size, 0, none⟩) 0 0) 0 [] hs (World.ownsRow_made w #[] 0 (Nat.le_refl _) (Nat.zero_le _) rfl) ⟨b, off, none⟩ xs.length cap (xs.map (Value.int .i64)) hy (by simp) ?_ (fun u hu => by obtain ⟨x, _, rfl⟩ := List.mem_map.1 hu; rfl) (by unfold maxLen; omega) (by omega) (by simp) ?_
  · intro j u hj
    have hjn : j < xs.length := by
      have := (List.getElem?_eq_some_iff.1 hj).1
      simpa using this
    rw [Addr.add_lit]
    refine (World.cell?_alloc_some w _ _ (show (w.cell? _).isSome = true by rw [hc j hjn]; rfl)).trans ?_
    rw [hc j hjn, ← hj]
    simp [List.getElem?_eq_getElem hjn]
  · intro v' w1 hown hgrow hnil
    refine hK v' w1 (by simpa using hown) (((Below.refl _ w).alloc (Nat.le_refl _) _).grown hgrow (by simp) (by intro k hk; simp [Value.ownBlock] at hk; omega)) (fun e => ?_)
    have := (hnil.1 e).1
    simp at this

theorem own_any (a0 : Option Addr) (cap : Nat) (xs : List Int) (w : World) (hx : SlI w w.heap.size a0 xs) (hl : xs.length ≤ 1048576) :
    Calls Try.prog 103 #[.slice a0 xs.length cap] w fun e w' => ∃ v, e = .returned v ∧ Res w w' v xs := by
  rcases hx with rfl | ⟨b, off, hb, rfl, hc⟩
  · have hr : Res w (w.alloc (.cells #[] 2)) (.slice (some ⟨w.heap.size, 0, none⟩) 0 0) [] := ⟨World.ownsRow_made w #[] 0 (Nat.le_refl _) (Nat.zero_le _) rfl, (Below.refl _ w).alloc (Nat.le_refl _) _⟩
    have Hr := hid hr
    clear hr
    cases a0 with
    | none =>
      go_enter Try.func103, Try.ntmps103
      go_wp2_with fail
      go_ret
      exact ⟨_, rfl, Hr.out⟩
    | some ad =>
      go_enter Try.func103, Try.ntmps103
      go_wp2_with fail
      go_ret
      exact ⟨_, rfl, Hr.out⟩
  · have Hc := hid hc
    clear hc
    go_enter Try.func103, Try.ntmps103
    go_wp2_with (at_builtin; refine append_all rfl rfl hl Hc.out rfl rfl ?_; intro v' w1 hown hB _)
    go_ret
    exact ⟨v', rfl, hown, hB⟩

/-- step_append_new in a plain region. -/
theorem plain_append_new {W : World} {H : Nat} {ops : Array Oper} {rest : List Oper} {o : Oper} {a : Act} {Q : Exit → Act → World → Prop} (hgd : o.guard = none) {s y : Operand}
    (ho : o.op = .call { callee := .builtin .append, args := #[s, y], argTypes := #[22, 22] })
    {base : Nat} {v : Value} {xs : List Int} {x : Int} (hown : W.ownsRow base 2 1 v xs.length (xs.map (Value.int .i64))) (hH : W.heap.size = H) (hbase : base ≤ H) (hl : xs.length ≤ 1099511627776)
    (hs : a.eval s = v) (hy : a.eval y = .slice (some ⟨H, 0, none⟩) 1 1)
    (hK : ∀ g cap w', w'.ownsRow base 2 1 (.slice (some ⟨g, 0, none⟩) (xs ++ [x]).length cap) (xs ++ [x]).length ((xs ++ [x]).map (Value.int .i64)) → (W.alloc (.cells #[.int .i64 x] 2)).grownBy w' v.ownBlock →
      wpList Try.prog ops Q rest (a.put o.dst (.slice (some ⟨g, 0, none⟩) (xs ++ [x]).length cap)) w') :
    wpList Try.prog ops Q (o :: rest) a (W.alloc (.cells #[.int .i64 x] 2)) := by
  subst hH
  obtain ⟨i0, hi, hz0, hz1, hz2⟩ := info_parts info_i64
  refine wpList_append_lies (W.alloc (.cells #[.int .i64 x] 2)) hgd s y 22 ho base 2 i0 (.int .i64 0) 1 8 Try.underlying22 hi hz0 hz1 hz2 rfl (by decide) v _ _ hs (hown.alloc _) ⟨W.heap.size, 0, none⟩ 1 1 [.int .i64 x] hy rfl (cell_one_new _ _ _) (by simp [Value.oneCell']) (by decide) (by unfold maxLen; omega) (by omega) (by simp; omega) _ rfl ?_
  intro g cap w1 hown1 hg _ _
  have e : (xs ++ [x]).length = xs.length + 1 := by simp
  have h := hK g cap w1 (by rw [e]; simpa using hown1) hg
  rw [e] at h
  exact h

end Go.Proofs.Ytojnpacklcajpaa

/-! l01Copy: the model's copy of a complex. -/
namespace Go.Proofs.Ytojnpacklcajpaa
open Go.RowKit

set_option maxRecDepth 100000 in
set_option maxHeartbeats 2000000 in
theorem copy_any (V : Int) (a0 : Option Addr) (cap : Nat) (fs : List Int) (w : World) (hx : SlI w w.heap.size a0 fs) (hl : fs.length ≤ 1048576) :
    Calls Try.prog 71 #[.agg #[.int .i64 V, .slice a0 fs.length cap]] w fun e w' => ∃ v, e = .returned (.agg #[.int .i64 V, v]) ∧ Res w w' v fs := by
  have hB0 : Below w.heap.size w ((w.alloc (.cells #[.int .i64 V, .slice a0 fs.length cap] 29)).alloc (.cells #[.int .i64 0, .slice none 0 0] 29)) := ((Below.refl _ w).alloc (Nat.le_refl _) _).alloc (by simp) _
  obtain ⟨W, hW⟩ : ∃ W, W = (w.alloc (.cells #[.int .i64 V, .slice a0 fs.length cap] 29)).alloc (.cells #[.int .i64 0, .slice none 0 0] 29) := ⟨_, rfl⟩
  have Q0 := hid (show W.heap[w.heap.size]? = some (.cells #[.int .i64 V, .slice a0 fs.length cap] 29 (0, 0)) by rw [hW, Below.heap_alloc _ _ _ (by simp)]; exact heap_alloc_new _ _)
  have R0 := hid (show W.heap[w.heap.size + 1]? = some (.cells #[.int .i64 0, .slice none 0 0] 29 (0, 0)) by rw [hW]; exact new2 _ _ _)
  have HBW : Hid (Below w.heap.size w W) := hid (by rw [hW]; exact hB0)
  have HxW := hid (hx.later HBW.out HBW.out.size)
  obtain ⟨k0, k1, _, _⟩ := two_of Q0.out
  have HW := hid hW
  clear hB0 hW hx
  go_enter Try.func71, Try.ntmps71
  go_wp2_with fail
  rw [← HW.out]
  go_region_with (go_at_call 103; refine (own_any a0 cap fs W.drew HxW.out hl).mono ?_; rintro e w1 ⟨v, rfl, hr⟩; obtain ⟨_, av, cv, rfl, _⟩ := ownsRow_slI hr.1; have hrb : Below W.heap.size W w1 := ⟨hr.2.os, hr.2.tape, hr.2.output, hr.2.size, hr.2.block⟩; have r1 := (hrb.block _ (lt_get R0.out)).trans R0.out; obtain ⟨c0, c1, f0, f1⟩ := two_of r1; have k01 := (hrb.cell (p := ⟨w.heap.size, 0, none⟩) (lt_get Q0.out)).trans k0; have k11 := (hrb.cell (p := ⟨w.heap.size, 1, none⟩) (lt_get Q0.out)).trans k1; have R1 := hid r1; clear r1 hrb)
  all_goals
    go_wp2_with fail
    (try simp only [Exit.inBlock, Exit.then])
    have R2 := two_of (two_set R1.out (.int .i64 V) (.slice av fs.length cv))
    refine done_cx1 (p := 2) (by kernel_rfl) rfl rfl R2.1 R2.2.1 ⟨_, rfl, ?_⟩
    exact (Res.later hr ⟨HBW.out.os, HBW.out.tape, HBW.out.output, HBW.out.size, HBW.out.block⟩).set2 R1.out (by decide) (by omega) _ _

end Go.Proofs.Ytojnpacklcajpaa

/-! The model's l05Collapse. -/
namespace Go.Proofs.Ytojnpacklcajpaa
open Go.RowKit

set_option maxRecDepth 100000 in
set_option maxHeartbeats 8000000 in
theorem colS_any (V : Int) (a0 : Option Addr) (cap : Nat) (fs : List Int) (V1 : Int) (a1 : Option Addr) (cap1 : Nat) (ls : List Int) (w : World) (hx : SlI w w.heap.size a0 fs) (hx1 : SlI w w.heap.size a1 ls) (hl : fs.length ≤ 1048576) (hl1 : ls.length ≤ 1048576) (hf : ∀ x ∈ fs, 1 ≤ x ∧ x ≤ 63) (hL : ∀ cur : List Int, cur.Sublist fs → LowIn cur ls) :
    Calls Try.prog 63 #[.agg #[.int .i64 V, .slice a0 fs.length cap], .agg #[.int .i64 V1, .slice a1 ls.length cap1]] w fun e w' => ∃ v q, e = .returned (.tuple #[.agg #[.int .i64 V, v], q]) ∧ Res w w' v (colE ls fs).1 ∧ ResP w w' q (colE ls fs).2 ∧ Apart v q := by
  have hB0 : Below w.heap.size w ((((w.alloc (.cells #[.int .i64 V, .slice a0 fs.length cap] 29)).alloc (.cells #[.int .i64 V1, .slice a1 ls.length cap1] 29)).alloc (.cells #[.int .i64 0, .slice none 0 0] 29)).alloc (.cells #[] 63)) := ((((Below.refl _ w).alloc (Nat.le_refl _) _).alloc (by simp) _).alloc (by simp <;> omega) _).alloc (by simp <;> omega) _
  obtain ⟨W, hW⟩ : ∃ W, W = (((w.alloc (.cells #[.int .i64 V, .slice a0 fs.length cap] 29)).alloc (.cells #[.int .i64 V1, .slice a1 ls.length cap1] 29)).alloc (.cells #[.int .i64 0, .slice none 0 0] 29)).alloc (.cells #[] 63) := ⟨_, rfl⟩
  have Q0 := hid (show W.heap[w.heap.size]? = some (.cells #[.int .i64 V, .slice a0 fs.length cap] 29 (0, 0)) by rw [hW, Below.heap_alloc _ _ _ (by simp <;> omega), Below.heap_alloc _ _ _ (by simp <;> omega), Below.heap_alloc _ _ _ (by simp)]; exact heap_alloc_new _ _)
  have Q1 := hid (show W.heap[w.heap.size + 1]? = some (.cells #[.int .i64 V1, .slice a1 ls.length cap1] 29 (0, 0)) by rw [hW, Below.heap_alloc _ _ _ (by simp <;> omega), Below.heap_alloc _ _ _ (by simp)]; exact new2 _ _ _)
  have R1 := hid (show W.heap[w.heap.size + 1 + 1]? = some (.cells #[.int .i64 0, .slice none 0 0] 29 (0, 0)) by rw [hW, Below.heap_alloc _ _ _ (by simp)]; exact new3 _ _ _ _)
  have hown0 := World.ownsRow_made (base := w.heap.size) (e := 63) (size := 2) (((w.alloc (.cells #[.int .i64 V, .slice a0 fs.length cap] 29)).alloc (.cells #[.int .i64 V1, .slice a1 ls.length cap1] 29)).alloc (.cells #[.int .i64 0, .slice none 0 0] 29)) #[] 0 (by simp <;> omega) (by simp [maxLen]) rfl
  rw [← hW] at hown0
  simp only [World.size_alloc] at hown0
  have Hown0 := hid hown0
  have HBW : Hid (Below w.heap.size w W) := hid (by rw [hW]; exact hB0)
  have HW := hid hW
  have Hx0 := hid hx
  have Hx1 := hid hx1
  have Hf := hid hf
  have HL := hid hL
  have HCP := hid (copy_any V a0 cap fs W (Hx0.out.later HBW.out HBW.out.size) hl)
  obtain ⟨k0, k1, z0, z1⟩ := two_of Q0.out
  clear hf hx hx1 hB0 hW hL hown0
  go_enter Try.func63, Try.ntmps63
  go_wp2_with fail
  rw [← HW.out]
  refine HCP.out.mono ?_
  rintro e w2 ⟨v2, rfl, hr2⟩
  obtain ⟨_, av2, cv2, rfl, _⟩ := ownsRow_slI hr2.1
  have Q02 := hid ((hr2.2.block _ (lt_get Q0.out)).trans Q0.out)
  obtain ⟨j0, j1, y0, y1⟩ := two_of Q02.out
  have H0 : Hid (ColW w ((w2.setCell ⟨w.heap.size, 0, none⟩ (.int .i64 V)).setCell ⟨w.heap.size, 1, none⟩ (.slice av2 fs.length cv2)) V1 (.slice a1 ls.length cap1) w.heap.size V fs av2 cv2 [] (.slice (some ⟨w.heap.size + 1 + 1 + 1, 0, none⟩) 0 0)) := hid (by
    have hB := HBW.out.trans (hr2.2.mono HBW.out.size)
    have e : ∀ k, k ≠ w.heap.size → ((w2.setCell ⟨w.heap.size, 0, none⟩ (.int .i64 V)).setCell ⟨w.heap.size, 1, none⟩ (.slice av2 fs.length cv2)).heap[k]? = w2.heap[k]? := fun k hk => (Below.heap_setCell _ _ _ _ hk).trans (Below.heap_setCell _ _ _ _ hk)
    have hp := ownsRow_below Hown0.out hr2.2 (fun g hg => (Hown0.out.lt g hg).2)
    have hx := row_ne_any hr2.1 Q02.out (by decide)
    have hy := row_ne_any hp Q02.out (by decide)
    refine ⟨(e _ (by omega)).trans ((hr2.2.block _ (lt_get Q1.out)).trans Q1.out), (e _ (by omega)).trans ((hr2.2.block _ (lt_get R1.out)).trans R1.out), two_set Q02.out _ _, ?_, ?_, ?_, by omega, by omega, by omega⟩
    · exact ownsRow_set (ownsRow_set (ownsRow_base hr2.1 HBW.out.size) (fun e => hx e.symm) _) (fun e => hx e.symm) _
    · exact ownsRow_set (ownsRow_set (by simpa [flatP] using hp) (fun e => hy e.symm) _) (fun e => hy e.symm) _
    · exact (hB.setCell (p := ⟨w.heap.size, 0, none⟩) (Nat.le_refl _) _).setCell (p := ⟨w.heap.size, 1, none⟩) (Nat.le_refl _) _)
  clear hr2 k0 k1 z0 z1 Q0 Q1 R1 HCP Hown0 Q02
  go_wp2_with fail
  clear j0 j1 y0 y1
  go_loopg [6] fs.length (fun g p wr => ∃ (n : Nat) (cur : List Int) (P : List (Int × Int)) (av : Option Addr) (cv : Nat), Hid (cur.length ≤ g) ∧ Hid (ColAt ls fs n cur P) ∧ Hid (ColW w wr V1 (.slice a1 ls.length cap1) w.heap.size V cur av cv P p))
  case atStart => exact ⟨0, fs, [], av2, cv2, hid (Nat.le_refl _), hid (ColAt.start ls fs), H0⟩
  case round =>
    clear H0
    obtain ⟨n, cur, P, av, cv, Hg, HA, HC⟩ := hrel
    obtain ⟨k0, k1, _, _⟩ := two_of HC.out.left
    obtain ⟨l0, l1, _, _⟩ := two_of HC.out.lbox
    have hcl : cur.length ≤ 1048576 := Nat.le_trans HA.out.sub.length_le hl
    have Hcf := hid (fun x hx => Hf.out x (HA.out.sub.subset hx))
    have HFI := hid (firstS_any V av cv cur V1 a1 cap1 ls wr (owned_slI HC.out.row) (Hx1.out.later HC.out.below HC.out.below.size) hcl hl1 Hcf.out (HL.out cur HA.out.sub))
    cases hfp : firstP cur ls with
    | none =>
      rw [hfp] at HFI
      simp only [prO, Option.getD_none, Option.isSome_none] at HFI
      have HE := hid (HA.out.stop hfp)
      clear hfp
      go_wp2_with fail
      refine HFI.out.mono ?_
      rintro e w3 ⟨rfl, hB3⟩
      have HC3 := hid (HC.out.keep (hB3.alloc hB3.size (.cells #[.int .i64 0, .int .i64 0] 63)))
      obtain ⟨c0, c1, f0, f1⟩ := two_of HC3.out.res
      obtain ⟨j0, j1, _, _⟩ := two_of HC3.out.left
      clear k0 k1 l0 l1 hB3
      go_wp2_with fail
      (try simp only [Exit.inBlock, Exit.then])
      have R3 := two_of (two_set HC3.out.res (.int .i64 V) (.slice av cur.length cv))
      refine done_cx (p := 4) (u := 5) (by kernel_rfl) rfl rfl R3.1 R3.2.1 rfl ?_
      have hx := row_ne_any HC3.out.row HC3.out.res (by decide)
      have hy := row_ne_any HC3.out.prs HC3.out.res (by decide)
      have hBf := (HC3.out.below.setCell (p := ⟨w.heap.size + 1 + 1, 0, none⟩) (by show w.heap.size ≤ w.heap.size + 1 + 1; omega) (.int .i64 V)).setCell (p := ⟨w.heap.size + 1 + 1, 1, none⟩) (by show w.heap.size ≤ w.heap.size + 1 + 1; omega) (.slice av cur.length cv)
      have hr3 := ownsRow_set (ownsRow_set HC3.out.row (a := ⟨w.heap.size + 1 + 1, 0, none⟩) (fun e => hx e.symm) (.int .i64 V)) (a := ⟨w.heap.size + 1 + 1, 1, none⟩) (fun e => hx e.symm) (.slice av cur.length cv)
      have hp3 := ownsRow_set (ownsRow_set HC3.out.prs (a := ⟨w.heap.size + 1 + 1, 0, none⟩) (fun e => hy e.symm) (.int .i64 V)) (a := ⟨w.heap.size + 1 + 1, 1, none⟩) (fun e => hy e.symm) (.slice av cur.length cv)
      rw [HE.out]
      exact ⟨_, _, rfl, ⟨hr3, hBf⟩, ⟨hp3, hBf⟩, apart_ty hr3 hp3 (by decide)⟩
    | some p =>
      rw [hfp] at HFI
      obtain ⟨x, y⟩ := p
      simp only [prO, Option.getD_some, Option.isSome_some] at HFI
      have hfs := firstP_some hfp
      have hxr := Hcf.out x hfs.1
      have HA2 := hid (HA.out.step hfp)
      have Hlt := hid (take_lt hfs.1)
      have hPl : P.length ≤ 1048576 := by have := HA.out.plen; have := HA.out.len; omega
      simp only at HA2 Hlt
      obtain ⟨xn, rfl⟩ : ∃ xn : Nat, x = xn := ⟨x.toNat, by omega⟩
      have hx64 : xn < 64 := by omega
      obtain ⟨ys, hys⟩ : ∃ ys, ys = takeL cur (xn : Int) := ⟨_, rfl⟩
      rw [← hys] at HA2 Hlt
      have Hys := hid hys
      clear hfp hfs hys
      go_wp2_with fail
      refine HFI.out.mono ?_
      rintro e w3 ⟨rfl, hB3⟩
      obtain ⟨w4, hw4⟩ : ∃ w4, w4 = w3.alloc (.cells #[.int .i64 (xn : Int), .int .i64 y] 63) := ⟨_, rfl⟩
      have HC4 := hid (show ColW w w4 V1 (.slice a1 ls.length cap1) w.heap.size V cur av cv P _ by rw [hw4]; exact HC.out.keep (hB3.alloc hB3.size (.cells #[.int .i64 (xn : Int), .int .i64 y] 63)))
      have P4 := hid (show w4.heap[w3.heap.size]? = some (.cells #[.int .i64 (xn : Int), .int .i64 y] 63 (0, 0)) by rw [hw4]; exact heap_alloc_new _ _)
      have HW4 := hid hw4
      obtain ⟨j0, j1, _, _⟩ := two_of HC4.out.left
      obtain ⟨p0, p1, _, _⟩ := two_of P4.out
      have hs3 := hB3.size
      rw [HW4.out] at j0 j1 p0 p1
      clear k0 k1 l0 l1 hB3 hw4
      go_wp2_with fail
      rw [← HW4.out]
      refine (take_any V av cv cur xn w4 (owned_slI HC4.out.row) hcl Hcf.out hx64).mono ?_
      rintro e w5 ⟨v, rfl, hr⟩
      rw [← Hys.out] at hr
      obtain ⟨_, a5, c5, rfl, _⟩ := ownsRow_slI hr.1
      have HC5 := hid (HC4.out.keep hr.2)
      obtain ⟨i0, i1, g0, g1⟩ := two_of HC5.out.left
      have P5 := hid ((hr.2.block _ (lt_get P4.out)).trans P4.out)
      obtain ⟨w6, hw6⟩ : ∃ w6, w6 = (w5.setCell ⟨w.heap.size, 0, none⟩ (.int .i64 V)).setCell ⟨w.heap.size, 1, none⟩ (.slice a5 ys.length c5) := ⟨_, rfl⟩
      have HC6 := hid (HC5.out.put (ownsRow_base hr.1 HC4.out.below.size))
      have hne : w3.heap.size ≠ w.heap.size := by
        intro e
        have h1 := P5.out
        rw [e, HC5.out.left] at h1
        simp at h1
      have P6 := hid (show w6.heap[w3.heap.size]? = some (.cells #[.int .i64 (xn : Int), .int .i64 y] 63 (0, 0)) by rw [hw6]; exact (Below.heap_setCell _ _ _ _ hne).trans ((Below.heap_setCell _ _ _ _ hne).trans P5.out))
      rw [← hw6] at HC6
      obtain ⟨b0, b1, _, _⟩ := two_of P6.out
      rw [hw6] at b0 b1
      have hown6 := HC6.out.prs
      rw [hw6] at hown6
      have hs6 := HC6.out.below.size
      rw [hw6] at hs6
      have hsz6 : ((w5.setCell ⟨w.heap.size, 0, none⟩ (.int .i64 V)).setCell ⟨w.heap.size, 1, none⟩ (.slice a5 ys.length c5)).heap.size = w5.heap.size := by simp [World.setCell]
      clear j0 j1 p0 p1 hr HC5 P5
      go_wp2_with (at_builtin; refine append_pair rfl rfl hown6 hs6 (by omega) rfl (by rw [hsz6]; rfl) ?_; intro v' w7 hown7 hgrow7 hB7)
      go_roundg ys.length
      case measure => have h1 := Hg.out; have h2 := Hlt.out; omega
      case rel => exact ⟨n + 1, ys, P ++ [((xn : Int), y)], a5, c5, hid (Nat.le_refl _), HA2, hid (HC6.out.push (by rw [hw6]; exact hgrow7) hown7)⟩

end Go.Proofs.Ytojnpacklcajpaa

/-! slices.ContainsFunc over a closure with one captured variable; the program's isPart. -/
namespace Go.Proofs.Ytojnpacklcajpaa
open Go.RowKit

set_option maxRecDepth 100000 in
set_option maxHeartbeats 2000000 in
theorem idxg_any (a : Option Addr) (cap : Nat) (xs : List Int) (w : World) (fid : Nat) (c1 : Value) (p : Int → Bool) (hx : SlI w w.heap.size a xs) (hl : xs.length ≤ 1048576)
    (hent : ∀ args w, (callFunc fid args).run Try.prog w = .ok (.enter fid args) w)
    (hcl : ∀ W' x, Below w.heap.size w W' → x ∈ xs → Calls Try.prog fid #[.int .i64 x, c1] W' fun e w' => e = .returned (.bool (p x)) ∧ Below W'.heap.size W' w') :
    Calls Try.prog 116 #[.slice a xs.length cap, .func (.func fid) #[] #[c1]] w fun e w' => ∃ i : Int, e = .returned (.int .i64 i) ∧ -1 ≤ i ∧ (0 ≤ i ↔ ∃ x ∈ xs, p x = true) ∧ Below w.heap.size w w' := by
  rcases hx with rfl | ⟨b, off, hb, rfl, hc⟩
  · clear hcl
    go_enter Try.func116, Try.ntmps116
    go_wp2
    refine wp_loop_rounds 1 ?_; rw [rounds_succ]
    go_wp2
    go_ret
    exact ⟨-1, rfl, by decide, by simp, Below.refl _ _⟩
  · have Hc := hid hc
    have Hcl := hid hcl
    clear hc hcl
    go_enter Try.func116, Try.ntmps116
    go_wp2
    go_loopw [8] (fun i wr => ∃ k : Nat, k ≤ xs.length ∧ i = .int .i64 k ∧ Hid (∀ x ∈ xs.take k, p x = false) ∧ Below w.heap.size w wr) (fun i _ => xs.length - (intOf i).toNat)
    case atStart => exact ⟨0, Nat.zero_le _, rfl, hid (by simp), Below.refl _ _⟩
    case round =>
      obtain ⟨k, hk, rfl, Hk, hB⟩ := hrel
      by_cases hlt : k < xs.length
      · obtain ⟨y, hy⟩ : ∃ y, y = xs[k]?.getD 0 := ⟨_, rfl⟩
        have hck : wr.cell? ⟨b, off + k, none⟩ = some (.int .i64 y) := by rw [hy]; exact (hB.cell (p := ⟨b, off + k, none⟩) hb).trans (Hc.out k hlt)
        have hym : y ∈ xs := by rw [hy]; exact getD_mem hlt
        have Hy := hid hy
        have hi0 : (0 : Int) ≤ (k : Int) := by omega
        have hi1 : (k : Int) < (xs.length : Int) := by omega
        have Hcall := hid (Hcl.out wr y hB hym)
        have hsz := hB.size
        clear hy
        go_wp2_with fail
        refine Hcall.out.mono ?_
        rintro e w1 ⟨rfl, hB1⟩
        have HB1 := hid (hB.trans (hB1.mono hsz))
        clear hck
        by_cases hpy : p y = true
        · have He : Hid (∃ x ∈ xs, p x = true) := hid ⟨y, hym, hpy⟩
          rw [hpy]
          go_wp2_with fail
          go_ret
          exact ⟨k, rfl, by omega, ⟨fun _ => He.out, fun _ => by omega⟩, HB1.out⟩
        · have hpf : p y = false := by simpa using hpy
          have He : Hid (∀ x ∈ xs.take (k + 1), p x = false) := hid (by
            rw [take_snoc hlt, ← Hy.out]
            intro x h
            rcases List.mem_append.1 h with h | h
            · exact Hk.out x h
            · simp at h; rw [h]; exact hpf)
          rw [hpf]
          clear hpy hpf
          go_wp2_with fail
          go_roundw
          case rel => exact ⟨k + 1, by omega, by go_num, He, HB1.out⟩
          case measure => simp [intOf]; omega
      · have He : Hid (¬ ∃ x ∈ xs, p x = true) := hid (by
          have := Hk.out
          rw [List.take_of_length_le (by omega)] at this
          rintro ⟨x, hx, hne⟩
          rw [this x hx] at hne
          cases hne)
        go_wp2
        go_ret
        exact ⟨-1, rfl, by decide, ⟨fun h => absurd h (by decide), fun h => absurd h He.out⟩, hB⟩

set_option maxRecDepth 100000 in
set_option maxHeartbeats 1000000 in
theorem containsg_any (a : Option Addr) (cap : Nat) (xs : List Int) (w : World) (fid : Nat) (c1 : Value) (p : Int → Bool) (hx : SlI w w.heap.size a xs) (hl : xs.length ≤ 1048576)
    (hent : ∀ args w, (callFunc fid args).run Try.prog w = .ok (.enter fid args) w)
    (hcl : ∀ W' x, Below w.heap.size w W' → x ∈ xs → Calls Try.prog fid #[.int .i64 x, c1] W' fun e w' => e = .returned (.bool (p x)) ∧ Below W'.heap.size W' w') :
    Calls Try.prog 96 #[.slice a xs.length cap, .func (.func fid) #[] #[c1]] w fun e w' => e = .returned (.bool (decide (∃ x ∈ xs, p x = true))) ∧ Below w.heap.size w w' := by
  have HI := hid (idxg_any a cap xs w fid c1 p hx hl hent hcl)
  obtain ⟨c, hc⟩ : ∃ c, c = decide (∃ x ∈ xs, p x = true) := ⟨_, rfl⟩
  have Hc := hid hc
  rw [← hc]
  clear hc hx hcl hent
  go_enter Try.func96, Try.ntmps96
  go_wp2_with fail
  refine HI.out.mono ?_
  rintro e w' ⟨i, rfl, h1, h2, hB⟩
  have Hi := hid h2
  have H1 := hid h1
  clear h1 h2
  by_cases h0 : 0 ≤ i
  · have He : Hid (c = true) := hid (by rw [Hc.out]; exact decide_eq_true (Hi.out.1 h0))
    go_wp2_with fail
    go_ret
    exact ⟨ret_bool (by rw [He.out]), hB⟩
  · have He : Hid (c = false) := hid (by rw [Hc.out]; exact decide_eq_false (fun h => h0 (Hi.out.2 h)))
    have hlt : i < 0 := by omega
    go_wp2_with fail
    go_ret
    exact ⟨ret_bool (by rw [He.out]; simp [hlt]), hB⟩

theorem partWanted (fs : List Int) (V : Int) (a0 : Option Addr) (cap : Nat) (bd : Nat) (x : Int) (w : World) (hd : w.heap[bd]? = some (.cells #[.int .i64 V, .slice a0 fs.length cap] 29 (0, 0))) (hx : SlI w w.heap.size a0 fs) (hl : fs.length ≤ 1048576) :
    Calls Try.prog 97 #[.int .i64 x, .pointer (some ⟨bd, 0, none⟩)] w fun e w' => e = .returned (.bool (decide (x ∉ fs))) ∧ Below w.heap.size w w' := by
  have Hc := hid (contains_any a0 cap fs x w hx hl)
  obtain ⟨k0, k1, _, _⟩ := two_of hd
  clear hx hd
  go_enter Try.func97, Try.ntmps97
  go_wp2_with fail
  refine Hc.out.mono ?_
  rintro e w1 ⟨rfl, rfl⟩
  go_wp2_with fail
  go_ret
  exact ⟨ret_bool (by simp), Below.refl _ _⟩

/-- Whether a complex is a part of another one. -/
def partB (V : Int) (fs : List Int) (V1 : Int) (ls : List Int) : Bool := decide (V = V1) && decide (∀ x ∈ ls, x ∈ fs)

set_option maxRecDepth 100000 in
set_option maxHeartbeats 1000000 in
theorem isPart_any (V : Int) (a0 : Option Addr) (cap : Nat) (fs : List Int) (V1 : Int) (a1 : Option Addr) (cap1 : Nat) (ls : List Int) (w : World) (hx : SlI w w.heap.size a0 fs) (hx1 : SlI w w.heap.size a1 ls) (hl : fs.length ≤ 1048576) (hl1 : ls.length ≤ 1048576) :
    Calls Try.prog 65 #[.agg #[.int .i64 V, .slice a0 fs.length cap], .agg #[.int .i64 V1, .slice a1 ls.length cap1]] w fun e w' => e = .returned (.bool (partB V fs V1 ls)) ∧ Below w.heap.size w w' := by
  have hB0 : Below w.heap.size w ((w.alloc (.cells #[.int .i64 V, .slice a0 fs.length cap] 29)).alloc (.cells #[.int .i64 V1, .slice a1 ls.length cap1] 29)) := ((Below.refl _ w).alloc (Nat.le_refl _) _).alloc (by simp) _
  obtain ⟨W, hW⟩ : ∃ W, W = (w.alloc (.cells #[.int .i64 V, .slice a0 fs.length cap] 29)).alloc (.cells #[.int .i64 V1, .slice a1 ls.length cap1] 29) := ⟨_, rfl⟩
  have Q0 := hid (show W.heap[w.heap.size]? = some (.cells #[.int .i64 V, .slice a0 fs.length cap] 29 (0, 0)) by rw [hW, Below.heap_alloc _ _ _ (by simp)]; exact heap_alloc_new _ _)
  have Q1 := hid (show W.heap[w.heap.size + 1]? = some (.cells #[.int .i64 V1, .slice a1 ls.length cap1] 29 (0, 0)) by rw [hW]; exact new2 _ _ _)
  have HBW : Hid (Below w.heap.size w W) := hid (by rw [hW]; exact hB0)
  have HxW := hid (hx.later HBW.out HBW.out.size)
  have Hx1W := hid (hx1.later HBW.out HBW.out.size)
  have HW := hid hW
  obtain ⟨P, hP⟩ : ∃ P, P = partB V fs V1 ls := ⟨_, rfl⟩
  rw [← hP]
  have HP := hid hP
  have HCF := hid (containsg_any a1 cap1 ls W 97 (.pointer (some ⟨w.heap.size, 0, none⟩)) (fun x => decide (x ∉ fs)) Hx1W.out hl1 (enters_of Try.func97 (by kernel_rfl) rfl) (fun W' x hW' _ => partWanted fs V a0 cap w.heap.size x W' ((hW'.block _ (lt_get Q0.out)).trans Q0.out) (HxW.out.later hW' hW'.size) hl))
  obtain ⟨k0, k1, _, _⟩ := two_of Q0.out
  obtain ⟨l0, l1, _, _⟩ := two_of Q1.out
  clear hB0 hW hx hx1 hP
  go_enter Try.func65, Try.ntmps65
  go_wp2_with fail
  rw [← HW.out]
  refine HCF.out.mono ?_
  rintro e w2 ⟨rfl, hB2⟩
  have k02 := (hB2.cell (p := ⟨w.heap.size, 0, none⟩) (lt_get Q0.out)).trans k0
  have l02 := (hB2.cell (p := ⟨w.heap.size + 1, 0, none⟩) (lt_get Q1.out)).trans l0
  have HB := hid (HBW.out.trans (hB2.mono HBW.out.size))
  clear k0 k1 l0 l1 hB2
  by_cases hV : V = V1
  · have hd : (V == V1) = true := by simp [hV]
    have He : Hid (P = !decide (∃ x ∈ ls, decide (x ∉ fs) = true)) := hid (by
      rw [HP.out]
      unfold partB
      rw [decide_eq_true hV, Bool.true_and]
      by_cases h : ∀ x ∈ ls, x ∈ fs
      · rw [decide_eq_true h, decide_eq_false (by rintro ⟨x, hx, hn⟩; simp at hn; exact hn (h x hx))]; rfl
      · rw [decide_eq_false h, decide_eq_true (by
          apply Classical.byContradiction
          intro hn
          apply h
          intro x hx
          apply Classical.byContradiction
          intro hxn
          exact hn ⟨x, hx, by simpa using hxn⟩)]; rfl)
    clear hV
    go_wp2_with fail
    go_ret
    exact ⟨ret_bool (by rw [He.out]; simp), HB.out⟩
  · have hd : (V == V1) = false := by simpa using hV
    have He : Hid (P = false) := hid (by rw [HP.out]; unfold partB; rw [decide_eq_false hV]; rfl)
    clear hV
    go_wp2_with fail
    go_ret
    exact ⟨ret_bool (by rw [He.out]), HB.out⟩

end Go.Proofs.Ytojnpacklcajpaa

/-! CollapseKeeping, CollapseOf, IsCollapsible. -/
namespace Go.Proofs.Ytojnpacklcajpaa
open Go.RowKit

set_option maxRecDepth 100000 in
theorem done_cx3 {fn : Func} {R : Ending → World → Prop} {a : Act} {w : World} {p u t : Tmp} (hr : fn.results = #[.cell p 29, .tmp u, .tmp t]) (hd : a.defers = []) {b o : Nat} {x y c d : Value}
    (hp : a.tmps.getD p undef = .pointer (some ⟨b, o, none⟩)) (h0 : w.cell? ⟨b, o, none⟩ = some x) (h1 : w.cell? ⟨b, o + 1, none⟩ = some y) (hu : a.tmps.getD u undef = c) (ht : a.tmps.getD t undef = d) (hR : R (.returned (.tuple #[.agg #[x, y], c, d])) w) : bodyPost Try.prog fn R .ret a w := by
  refine bodyPost_ret (v := .tuple #[.agg #[x, y], c, d]) ?_ hd hR
  have hp' : a.tmps[p]?.getD undef = .pointer (some ⟨b, o, none⟩) := by simpa using hp
  have hu' : a.tmps[u]?.getD undef = c := by simpa using hu
  have ht' : a.tmps[t]?.getD undef = d := by simpa using ht
  simp [results, hr, hp', hu', ht', asAddr, load_cx h0 h1]

/-- A complex and a list of pairs, in new memory, in rows of their own. -/
def Res2 (w w' : World) (v : Value) (xs : List Int) (q : Value) (L : List (Int × Int)) : Prop := Res w w' v xs ∧ ResP w w' q L ∧ Apart v q

theorem Res2.later {w0 w w' : World} {v q : Value} {xs : List Int} {L : List (Int × Int)} (h : Res2 w w' v xs q L) (h0 : Below w0.heap.size w0 w) : Res2 w0 w' v xs q L := ⟨h.1.later h0, h.2.1.later h0, h.2.2⟩
theorem res2_nil (w w' : World) (h : Below w.heap.size w w') : Res2 w w' (.slice none 0 0) [] (.slice none 0 0) [] := ⟨res_nil _ _ h, resP_nil _ _ h, fun g hg => by simp [Value.ownBlock] at hg⟩
theorem Res2.alloc {w w' : World} {v q : Value} {xs : List Int} {L : List (Int × Int)} (h : Res2 w w' v xs q L) (o : Obj) : Res2 w (w'.alloc o) v xs q L :=
  ⟨⟨h.1.1.alloc o, h.1.2.alloc h.1.2.size o⟩, ⟨h.2.1.1.alloc o, h.1.2.alloc h.1.2.size o⟩, h.2.2⟩
theorem Res2.set2 {w W : World} {sv q : Value} {xs : List Int} {L : List (Int × Int)} (h : Res2 w W sv xs q L) {b : Nat} {cs : Array Value} {fz : Nat × Nat} (hb : W.heap[b]? = some (.cells cs 29 fz)) (hw : w.heap.size ≤ b) (u v : Value) :
    Res2 w ((W.setCell ⟨b, 0, none⟩ u).setCell ⟨b, 1, none⟩ v) sv xs q L := by
  have hy := row_ne_any h.2.1.1 hb (by decide)
  exact ⟨h.1.set2 hb (by decide) hw u v, ⟨ownsRow_set (ownsRow_set h.2.1.1 (fun e => hy e.symm) _) (fun e => hy e.symm) _, (h.1.2.setCell (p := ⟨b, 0, none⟩) hw _).setCell (p := ⟨b, 1, none⟩) hw _⟩, h.2.2⟩

/-- What CollapseKeeping hands back. -/
noncomputable def colKR (V : Int) (fs : List Int) (V1 : Int) (ls : List Int) : Int × List Int × List (Int × Int) × Int :=
  if isCB V fs && isCB V1 ls then (if partB V fs V1 ls then (V, (colE ls fs).1, (colE ls fs).2, 0) else (0, [], [], 5)) else (0, [], [], 1)
theorem colKR_len (V : Int) (fs : List Int) (V1 : Int) (ls : List Int) (h : fs.length ≤ 1048576) : (colKR V fs V1 ls).2.1.length ≤ 1048576 ∧ (colKR V fs V1 ls).2.2.1.length ≤ 1048576 := by
  have := colE_len ls fs
  unfold colKR
  split
  · split
    · exact ⟨by simp only; omega, by simp only; omega⟩
    · simp
  · simp

theorem ck_mono {P : Program} {f : FuncId} {args : Array Value} {w : World} {r : Int × List Int × List (Int × Int) × Int} {U : Int} {xs : List Int} {L : List (Int × Int)} {c : Int} (hr : r = (U, xs, L, c))
    (h : Calls P f args w fun e w' => ∃ v q, e = .returned (.tuple #[.agg #[.int .i64 U, v], q, .int .i64 c]) ∧ Res2 w w' v xs q L) : Calls P f args w fun e w' => ∃ v q, e = .returned (.tuple #[.agg #[.int .i64 r.1, v], q, .int .i64 r.2.2.2]) ∧ Res2 w w' v r.2.1 q r.2.2.1 := by
  subst hr; exact h

set_option maxRecDepth 100000 in
set_option maxHeartbeats 4000000 in
theorem ckI_any (V : Int) (a0 : Option Addr) (cap : Nat) (fs : List Int) (V1 : Int) (a1 : Option Addr) (cap1 : Nat) (ls : List Int) (w : World) (hx : SlI w w.heap.size a0 fs) (hx1 : SlI w w.heap.size a1 ls) (hl : fs.length ≤ 1048576) (hl1 : ls.length ≤ 1048576) :
    Calls Try.prog 32 #[.agg #[.int .i64 V, .slice a0 fs.length cap], .agg #[.int .i64 V1, .slice a1 ls.length cap1]] w fun e w' => ∃ v q, e = .returned (.tuple #[.agg #[.int .i64 (colKR V fs V1 ls).1, v], q, .int .i64 (colKR V fs V1 ls).2.2.2]) ∧ Res2 w w' v (colKR V fs V1 ls).2.1 q (colKR V fs V1 ls).2.2.1 := by
  have hB0 : Below w.heap.size w (((w.alloc (.cells #[.int .i64 V, .slice a0 fs.length cap] 29)).alloc (.cells #[.int .i64 V1, .slice a1 ls.length cap1] 29)).alloc (.cells #[.int .i64 0, .slice none 0 0] 29)) := (((Below.refl _ w).alloc (Nat.le_refl _) _).alloc (by simp) _).alloc (by simp <;> omega) _
  obtain ⟨W, hW⟩ : ∃ W, W = ((w.alloc (.cells #[.int .i64 V, .slice a0 fs.length cap] 29)).alloc (.cells #[.int .i64 V1, .slice a1 ls.length cap1] 29)).alloc (.cells #[.int .i64 0, .slice none 0 0] 29) := ⟨_, rfl⟩
  have Q0 := hid (show W.heap[w.heap.size]? = some (.cells #[.int .i64 V, .slice a0 fs.length cap] 29 (0, 0)) by rw [hW, Below.heap_alloc _ _ _ (by simp <;> omega), Below.heap_alloc _ _ _ (by simp)]; exact heap_alloc_new _ _)
  have Q1 := hid (show W.heap[w.heap.size + 1]? = some (.cells #[.int .i64 V1, .slice a1 ls.length cap1] 29 (0, 0)) by rw [hW, Below.heap_alloc _ _ _ (by simp)]; exact new2 _ _ _)
  have R1 := hid (show W.heap[w.heap.size + 1 + 1]? = some (.cells #[.int .i64 0, .slice none 0 0] 29 (0, 0)) by rw [hW]; exact new3 _ _ _ _)
  have HBW : Hid (Below w.heap.size w W) := hid (by rw [hW]; exact hB0)
  have HW := hid hW
  have Hx0 := hid hx
  have Hx1 := hid hx1
  have Hxw := hid (Hx0.out.later HBW.out HBW.out.size)
  have Hx1w := hid (Hx1.out.later HBW.out HBW.out.size)
  clear hx hx1 hB0 hW
  by_cases hC : IsC V fs
  · have HC := hid hC
    have Hf := hid hC.range63
    by_cases hC1 : IsC V1 ls
    · have HC1 := hid hC1
      have HIP := hid (fun w' (h : Below w.heap.size w w') => isPart_any V a0 cap fs V1 a1 cap1 ls w' (Hx0.out.later h h.size) (Hx1.out.later h h.size) hl hl1)
      by_cases hp : partB V fs V1 ls = true
      · refine ck_mono (show colKR V fs V1 ls = (V, (colE ls fs).1, (colE ls fs).2, 0) by unfold colKR; rw [isCB_true hC, isCB_true hC1, hp]; rfl) ?_
        have HCO := hid (fun w' (h : Below w.heap.size w w') => colI_any V a0 cap fs V1 a1 cap1 ls w' (Hx0.out.later h h.size) (Hx1.out.later h h.size) hl hl1 Hf.out)
        rw [hp] at HIP
        clear hC hC1 hp
        obtain ⟨k0, k1, _, _⟩ := two_of Q0.out
        go_enter Try.func32, Try.ntmps32
        go_wp2_with fail
        rw [← HW.out]
        refine (isc_yes V a0 cap fs _ Hxw.out hl HC.out).mono ?_
        rintro e w1 ⟨rfl, hB1⟩
        have HB1 := hid (HBW.out.trans (hB1.mono HBW.out.size))
        have Q01 := hid ((hB1.block _ (lt_get Q0.out)).trans Q0.out)
        have Q11 := hid ((hB1.block _ (lt_get Q1.out)).trans Q1.out)
        have R11 := hid ((hB1.block _ (lt_get R1.out)).trans R1.out)
        clear k0 k1 hB1
        obtain ⟨l0, l1, _, _⟩ := two_of Q11.out
        go_wp2_with fail
        refine (isc_yes V1 a1 cap1 ls _ (Hx1.out.later HB1.out HB1.out.size) hl1 HC1.out).mono ?_
        rintro e w2 ⟨rfl, hB2⟩
        have HB2 := hid (HB1.out.trans (hB2.mono HB1.out.size))
        have Q02 := hid ((hB2.block _ (lt_get Q01.out)).trans Q01.out)
        have Q12 := hid ((hB2.block _ (lt_get Q11.out)).trans Q11.out)
        have R12 := hid ((hB2.block _ (lt_get R11.out)).trans R11.out)
        clear l0 l1 hB2
        obtain ⟨k0, k1, _, _⟩ := two_of Q02.out
        obtain ⟨l0, l1, _, _⟩ := two_of Q12.out
        go_wp2_with fail
        refine (HIP.out _ HB2.out).mono ?_
        rintro e w3 ⟨rfl, hB3⟩
        have HB3 := hid (HB2.out.trans (hB3.mono HB2.out.size))
        have Q03 := hid ((hB3.block _ (lt_get Q02.out)).trans Q02.out)
        have Q13 := hid ((hB3.block _ (lt_get Q12.out)).trans Q12.out)
        have R13 := hid ((hB3.block _ (lt_get R12.out)).trans R12.out)
        clear k0 k1 l0 l1 hB3
        obtain ⟨k0, k1, _, _⟩ := two_of Q03.out
        obtain ⟨l0, l1, _, _⟩ := two_of Q13.out
        go_wp2_with fail
        refine (HCO.out _ HB3.out).mono ?_
        rintro e w4 ⟨v, q, rfl, hr⟩
        obtain ⟨ys, hys⟩ : ∃ ys, ys = (colE ls fs).1 := ⟨_, rfl⟩
        have Hys := hid hys
        rw [← hys] at hr
        have hr' : Res2 w3 w4 v ys q (colE ls fs).2 := hr
        have HR := hid ((hr'.later HB3.out).alloc (.cells #[.int .i64 V, v] 29))
        have R14 := hid ((Below.heap_alloc w4 (.cells #[.int .i64 V, v] 29) _ (Nat.lt_of_lt_of_le (lt_get R13.out) hr'.1.2.size)).trans ((hr'.1.2.block _ (lt_get R13.out)).trans R13.out))
        obtain ⟨_, av, cv, rfl, _⟩ := ownsRow_slI hr'.1.1
        obtain ⟨c0, c1, f0, f1⟩ := two_of R14.out
        clear k0 k1 l0 l1 hr hr' hys
        go_wp2_with fail
        (try simp only [Exit.inBlock, Exit.then])
        have R3 := two_of (two_set R14.out (.int .i64 V) (.slice av ys.length cv))
        refine done_cx3 (p := 4) (u := 5) (t := 6) (by kernel_rfl) rfl rfl R3.1 R3.2.1 rfl rfl ⟨_, _, rfl, ?_⟩
        rw [← Hys.out]
        exact HR.out.set2 R14.out (by omega) _ _
      · refine ck_mono (show colKR V fs V1 ls = (0, [], [], 5) by unfold colKR; rw [isCB_true hC, isCB_true hC1, Bool.and_true, if_pos rfl, if_neg hp]) ?_
        have hpf : partB V fs V1 ls = false := by simpa using hp
        rw [hpf] at HIP
        clear hC hC1 hp hpf
        obtain ⟨k0, k1, _, _⟩ := two_of Q0.out
        go_enter Try.func32, Try.ntmps32
        go_wp2_with fail
        rw [← HW.out]
        refine (isc_yes V a0 cap fs _ Hxw.out hl HC.out).mono ?_
        rintro e w1 ⟨rfl, hB1⟩
        have HB1 := hid (HBW.out.trans (hB1.mono HBW.out.size))
        have Q01 := hid ((hB1.block _ (lt_get Q0.out)).trans Q0.out)
        have Q11 := hid ((hB1.block _ (lt_get Q1.out)).trans Q1.out)
        have R11 := hid ((hB1.block _ (lt_get R1.out)).trans R1.out)
        clear k0 k1 hB1
        obtain ⟨l0, l1, _, _⟩ := two_of Q11.out
        go_wp2_with fail
        refine (isc_yes V1 a1 cap1 ls _ (Hx1.out.later HB1.out HB1.out.size) hl1 HC1.out).mono ?_
        rintro e w2 ⟨rfl, hB2⟩
        have HB2 := hid (HB1.out.trans (hB2.mono HB1.out.size))
        have Q02 := hid ((hB2.block _ (lt_get Q01.out)).trans Q01.out)
        have Q12 := hid ((hB2.block _ (lt_get Q11.out)).trans Q11.out)
        have R12 := hid ((hB2.block _ (lt_get R11.out)).trans R11.out)
        clear l0 l1 hB2
        obtain ⟨k0, k1, _, _⟩ := two_of Q02.out
        obtain ⟨l0, l1, _, _⟩ := two_of Q12.out
        go_wp2_with fail
        refine (HIP.out _ HB2.out).mono ?_
        rintro e w3 ⟨rfl, hB3⟩
        have HB3 := hid (HB2.out.trans (hB3.mono HB2.out.size))
        have R13 := hid ((hB3.block _ (lt_get R12.out)).trans R12.out)
        clear k0 k1 l0 l1 hB3
        obtain ⟨c0, c1, f0, f1⟩ := two_of R13.out
        go_wp2_with fail
        (try simp only [Exit.inBlock, Exit.then])
        have R3 := two_of (two_set R13.out (.int .i64 0) (.slice none 0 0))
        refine done_cx3 (p := 4) (u := 5) (t := 6) (by kernel_rfl) rfl rfl R3.1 R3.2.1 rfl rfl ⟨_, _, rfl, ?_⟩
        exact (res2_nil _ _ HB3.out).set2 R13.out (by omega) _ _
    · refine ck_mono (show colKR V fs V1 ls = (0, [], [], 1) by unfold colKR; rw [isCB_true hC, isCB_false hC1, Bool.and_false, if_neg (by simp)]) ?_
      clear hC
      obtain ⟨k0, k1, _, _⟩ := two_of Q0.out
      go_enter Try.func32, Try.ntmps32
      go_wp2_with fail
      rw [← HW.out]
      refine (isc_yes V a0 cap fs _ Hxw.out hl HC.out).mono ?_
      rintro e w1 ⟨rfl, hB1⟩
      have HB1 := hid (HBW.out.trans (hB1.mono HBW.out.size))
      have Q11 := hid ((hB1.block _ (lt_get Q1.out)).trans Q1.out)
      have R11 := hid ((hB1.block _ (lt_get R1.out)).trans R1.out)
      clear k0 k1 hB1
      obtain ⟨l0, l1, _, _⟩ := two_of Q11.out
      go_wp2_with fail
      refine (isc_no V1 a1 cap1 ls _ (Hx1.out.later HB1.out HB1.out.size) hl1 hC1).mono ?_
      rintro e w2 ⟨rfl, hB2⟩
      have HB2 := hid (HB1.out.trans (hB2.mono HB1.out.size))
      have R12 := hid ((hB2.block _ (lt_get R11.out)).trans R11.out)
      clear l0 l1 hB2
      obtain ⟨c0, c1, f0, f1⟩ := two_of R12.out
      go_wp2_with fail
      (try simp only [Exit.inBlock, Exit.then])
      have R3 := two_of (two_set R12.out (.int .i64 0) (.slice none 0 0))
      refine done_cx3 (p := 4) (u := 5) (t := 6) (by kernel_rfl) rfl rfl R3.1 R3.2.1 rfl rfl ⟨_, _, rfl, ?_⟩
      exact (res2_nil _ _ HB2.out).set2 R12.out (by omega) _ _
  · refine ck_mono (show colKR V fs V1 ls = (0, [], [], 1) by unfold colKR; rw [isCB_false hC, Bool.false_and, if_neg (by simp)]) ?_
    obtain ⟨k0, k1, _, _⟩ := two_of Q0.out
    go_enter Try.func32, Try.ntmps32
    go_wp2_with fail
    rw [← HW.out]
    refine (isc_no V a0 cap fs _ Hxw.out hl hC).mono ?_
    rintro e w1 ⟨rfl, hB1⟩
    have HB1 := hid (HBW.out.trans (hB1.mono HBW.out.size))
    have R11 := hid ((hB1.block _ (lt_get R1.out)).trans R1.out)
    clear k0 k1 hB1
    obtain ⟨c0, c1, f0, f1⟩ := two_of R11.out
    go_wp2_with fail
    (try simp only [Exit.inBlock, Exit.then])
    have R3 := two_of (two_set R11.out (.int .i64 0) (.slice none 0 0))
    refine done_cx3 (p := 4) (u := 5) (t := 6) (by kernel_rfl) rfl rfl R3.1 R3.2.1 rfl rfl ⟨_, _, rfl, ?_⟩
    exact (res2_nil _ _ HB1.out).set2 R11.out (by omega) _ _

/-- What CollapseOf hands back. -/
noncomputable def colOR (V : Int) (fs : List Int) : Int × List Int × List (Int × Int) × Int := if isCB V fs then (V, (colE [] fs).1, (colE [] fs).2, 0) else (0, [], [], 1)
theorem colOR_len (V : Int) (fs : List Int) (h : fs.length ≤ 1048576) : (colOR V fs).2.1.length ≤ 1048576 ∧ (colOR V fs).2.2.1.length ≤ 1048576 := by
  have := colE_len [] fs
  unfold colOR
  split
  · exact ⟨by simp only; omega, by simp only; omega⟩
  · simp
theorem colKR_nil (V : Int) (fs : List Int) : colKR V fs V [] = colOR V fs := by
  unfold colKR colOR partB
  by_cases hC : IsC V fs
  · rw [isCB_true hC, isCB_true (isC_nil hC.lo hC.hi)]
    simp
  · rw [isCB_false hC]
    simp

set_option maxRecDepth 100000 in
set_option maxHeartbeats 2000000 in
theorem implCO (V : Int) (a0 : Option Addr) (cap : Nat) (fs : List Int) (w : World) (hx : SlI w w.heap.size a0 fs) (hl : fs.length ≤ 1048576) :
    Calls Try.prog 28 #[.agg #[.int .i64 V, .slice a0 fs.length cap]] w fun e w' => ∃ v q, e = .returned (.tuple #[.agg #[.int .i64 (colOR V fs).1, v], q, .int .i64 (colOR V fs).2.2.2]) ∧ Res2 w w' v (colOR V fs).2.1 q (colOR V fs).2.2.1 := by
  have hB0 : Below w.heap.size w ((w.alloc (.cells #[.int .i64 V, .slice a0 fs.length cap] 29)).alloc (.cells #[.int .i64 0, .slice none 0 0] 29)) := ((Below.refl _ w).alloc (Nat.le_refl _) _).alloc (by simp) _
  have Hx := hid (hx.later hB0 hB0.size)
  have HC := hid (ckI_any V a0 cap fs V none 0 [] _ Hx.out (.inl rfl) hl (by simp))
  rw [colKR_nil] at HC
  obtain ⟨R, hR⟩ : ∃ R, R = colOR V fs := ⟨_, rfl⟩
  rw [← hR] at HC
  rw [← hR]
  obtain ⟨U, ys, L, c⟩ := R
  simp only at HC
  simp only
  clear hR
  go_enter Try.func28, Try.ntmps28
  go_wp2_with fail
  refine HC.out.mono ?_
  rintro e w1 ⟨v, q, rfl, hr⟩
  have r1 : w1.heap[w.heap.size + 1]? = some (.cells #[.int .i64 0, .slice none 0 0] 29 (0, 0)) := (hr.1.2.block _ (by simp <;> omega)).trans (new2 _ _ _)
  have HR := hid (hr.later hB0)
  obtain ⟨_, av, cv, rfl, _⟩ := ownsRow_slI hr.1.1
  obtain ⟨c0, c1, f0, f1⟩ := two_of r1
  have R1 := hid r1
  clear r1 hr
  go_wp2_with fail
  (try simp only [Exit.inBlock, Exit.then])
  have R3 := two_of (two_set R1.out (.int .i64 U) (.slice av ys.length cv))
  refine done_cx3 (p := 2) (u := 3) (t := 4) (by kernel_rfl) rfl rfl R3.1 R3.2.1 rfl rfl ⟨_, _, rfl, ?_⟩
  exact HR.out.set2 R1.out (by omega) _ _

/-- What IsCollapsible hands back. -/
noncomputable def isColR (V : Int) (fs : List Int) : Bool × Int := if isCB V fs then (decide ((colE [] fs).1.length = 1), 0) else (false, 1)
theorem isColR_of (V : Int) (fs : List Int) : isColR V fs = (decide ((colOR V fs).2.1.length = 1), (colOR V fs).2.2.2) := by
  unfold isColR colOR
  split <;> simp

theorem ic_mono {P : Program} {f : FuncId} {args : Array Value} {w : World} {r : Bool × Int} {b : Bool} {c : Int} (hr : r = (b, c))
    (h : Calls P f args w fun e w' => e = .returned (.tuple #[.bool b, .int .i64 c]) ∧ Below w.heap.size w w') : Calls P f args w fun e w' => e = .returned (.tuple #[.bool r.1, .int .i64 r.2]) ∧ Below w.heap.size w w' := by
  subst hr; exact h

set_option maxRecDepth 100000 in
set_option maxHeartbeats 2000000 in
theorem implIsCollapsible (V : Int) (a0 : Option Addr) (cap : Nat) (fs : List Int) (w : World) (hx : SlI w w.heap.size a0 fs) (hl : fs.length ≤ 1048576) :
    Calls Try.prog 30 #[.agg #[.int .i64 V, .slice a0 fs.length cap]] w fun e w' => e = .returned (.tuple #[.bool (isColR V fs).1, .int .i64 (isColR V fs).2]) ∧ Below w.heap.size w w' := by
  have hB0 : Below w.heap.size w (w.alloc (.cells #[.int .i64 V, .slice a0 fs.length cap] 29)) := (Below.refl _ w).alloc (Nat.le_refl _) _
  have Hx := hid (hx.later hB0 hB0.size)
  refine ic_mono (isColR_of V fs) ?_
  have HC := hid (implCO V a0 cap fs _ Hx.out hl)
  obtain ⟨R, hR⟩ : ∃ R, R = colOR V fs := ⟨_, rfl⟩
  rw [← hR] at HC
  rw [← hR]
  obtain ⟨U, ys, L, c⟩ := R
  simp only at HC
  simp only
  clear hR
  go_enter Try.func30, Try.ntmps30
  go_wp2_with fail
  refine HC.out.mono ?_
  rintro e w1 ⟨v, q, rfl, hr⟩
  have HB := hid (hB0.trans (hr.1.2.mono hB0.size))
  obtain ⟨_, av, cv, rfl, _⟩ := ownsRow_slI hr.1.1
  have He : Hid (((ys.length : Int) == 1) = decide (ys.length = 1)) := hid (by rw [Bool.eq_iff_iff]; simp; omega)
  clear hr
  go_wp2_with fail
  go_ret2
  exact ⟨by rw [← He.out]; rfl, HB.out.alloc HB.out.size _⟩

end Go.Proofs.Ytojnpacklcajpaa

/-! Cores: mathematics, and the world of a strong collapse under way. -/
namespace Go.Proofs.Ytojnpacklcajpaa
open Go.RowKit

theorem isC_filter {V : Int} {fs : List Int} (h : IsC V fs) (p : Int → Bool) (hp : ∀ x ∈ fs, p x = true → ∀ q : Nat, q ≠ 0 → q &&& x.toNat = q → p (q : Int) = true) : IsC V (fs.filter p) where
  lo := h.lo
  hi := h.hi
  range := fun x hx => h.range x (List.mem_filter.1 hx).1
  asc := h.asc.filter p
  closed := fun x hx q hq0 hq => by
    have hx' := List.mem_filter.1 hx
    exact List.mem_filter.2 ⟨h.closed x hx'.1 q hq0 hq, hp x hx'.1 hx'.2 q hq0 hq⟩

theorem isC_take {V : Int} {fs : List Int} (h : IsC V fs) (s : Int) : IsC V (takeL fs s) := by
  unfold takeL
  refine isC_filter h _ (fun x hx hxs q hq0 hq => ?_)
  simp only [decide_eq_true_eq] at hxs ⊢
  rw [Int.toNat_natCast]
  intro hqs
  apply hxs
  have : x.toNat &&& s.toNat = x.toNat &&& (q &&& s.toNat) := by rw [hqs]
  rw [this, ← Nat.and_assoc, Nat.and_comm x.toNat q, hq, hqs]

/-- One strong collapse. -/
def corStep (V : Nat) (s : List Int × List Int) : List Int × List Int := match domL V s.1 V with
  | [] => s
  | v :: _ => (takeL s.1 (2 ^ v.toNat : Nat), s.2 ++ [v])
def corN (V : Nat) : Nat → List Int × List Int → List Int × List Int
  | 0, s => s
  | n + 1, s => corStep V (corN V n s)
/-- The core, and what was deleted. -/
def corE (V : Nat) (fs : List Int) : List Int × List Int := corN V fs.length (fs, [])

theorem corN_stop {V : Nat} {s : List Int × List Int} {n : Nat} (h : domL V (corN V n s).1 V = []) : ∀ m, n ≤ m → corN V m s = corN V n s := by
  intro m hm
  induction m with
  | zero => have : n = 0 := by omega
            subst this; rfl
  | succ m ih =>
    by_cases hn : n = m + 1
    · rw [hn]
    · have := ih (by omega)
      show corStep V (corN V m s) = _
      rw [this]
      unfold corStep
      rw [h]

structure CorAt (V : Nat) (fs : List Int) (n : Nat) (cur D : List Int) : Prop where
  eq : corN V n (fs, []) = (cur, D)
  len : n + cur.length ≤ fs.length
  dlen : D.length ≤ n
  isC : IsC (V : Int) cur

theorem CorAt.start {V : Nat} {fs : List Int} (h : IsC (V : Int) fs) : CorAt V fs 0 fs [] := ⟨rfl, by omega, by simp, h⟩
theorem CorAt.step {V : Nat} {fs : List Int} {n : Nat} {cur D : List Int} {v : Int} {rest : List Int} (h : CorAt V fs n cur D) (hd : domL V cur V = v :: rest) : CorAt V fs (n + 1) (takeL cur (2 ^ v.toNat : Nat)) (D ++ [v]) ∧ (takeL cur (2 ^ v.toNat : Nat)).length < cur.length ∧ ∃ k : Nat, v = k ∧ k < V := by
  obtain ⟨k, hk, hkV, hkd⟩ := domL_mem (V := V) (fs := cur) (m := V) (x := v) (by rw [hd]; simp)
  have hm : ((2 ^ k : Nat) : Int) ∈ cur := by
    unfold domB at hkd
    simp only [Bool.and_eq_true, decide_eq_true_eq] at hkd
    exact hkd.1
  subst hk
  rw [Int.toNat_natCast]
  have hl := take_lt hm
  have h1 := h.len
  have h2 := h.dlen
  refine ⟨⟨?_, by omega, by simp; omega, isC_take h.isC _⟩, hl, k, rfl, hkV⟩
  show corStep V (corN V n (fs, [])) = _
  rw [h.eq]
  unfold corStep
  simp only [hd]
  rw [Int.toNat_natCast]
theorem CorAt.stop {V : Nat} {fs : List Int} {n : Nat} {cur D : List Int} (h : CorAt V fs n cur D) (hd : domL V cur V = []) : corE V fs = (cur, D) := by
  unfold corE
  rw [corN_stop (n := n) (by rw [h.eq]; exact hd) fs.length (by have := h.len; omega)]
  exact h.eq

theorem corE_len (V : Nat) (fs : List Int) : (corE V fs).1.length ≤ fs.length ∧ (corE V fs).2.length ≤ fs.length := by
  have key : ∀ n, (corN V n (fs, [])).1.length ≤ fs.length ∧ (corN V n (fs, [])).2.length ≤ n := by
    intro n
    induction n with
    | zero => exact ⟨Nat.le_refl _, by simp [corN]⟩
    | succ n ih =>
      obtain ⟨h1, h2⟩ := ih
      show (corStep V (corN V n (fs, []))).1.length ≤ _ ∧ (corStep V (corN V n (fs, []))).2.length ≤ _
      unfold corStep
      split
      · exact ⟨h1, by omega⟩
      · refine ⟨Nat.le_trans ?_ h1, by simp; omega⟩
        unfold takeL
        exact List.length_filter_le _ _
  have := key fs.length
  exact ⟨this.1, this.2⟩

/-- What CoreOf hands back. -/
noncomputable def coreR (V : Int) (fs : List Int) : Int × List Int × List Int × Int := if isCB V fs then (V, (corE V.toNat fs).1, (corE V.toNat fs).2, 0) else (0, [], [], 1)
theorem coreR_len (V : Int) (fs : List Int) (h : fs.length ≤ 1048576) : (coreR V fs).2.1.length ≤ 1048576 ∧ (coreR V fs).2.2.1.length ≤ 1048576 := by
  have := corE_len V.toNat fs
  unfold coreR
  split
  · exact ⟨by simp only; omega, by simp only; omega⟩
  · simp

theorem co_mono {P : Program} {f : FuncId} {args : Array Value} {w : World} {r : Int × List Int × List Int × Int} {U : Int} {xs L : List Int} {c : Int} (hr : r = (U, xs, L, c))
    (h : Calls P f args w fun e w' => ∃ v q, e = .returned (.tuple #[.agg #[.int .i64 U, v], q, .int .i64 c]) ∧ Res w w' v xs ∧ Res w w' q L ∧ Apart v q) : Calls P f args w fun e w' => ∃ v q, e = .returned (.tuple #[.agg #[.int .i64 r.1, v], q, .int .i64 r.2.2.2]) ∧ Res w w' v r.2.1 ∧ Res w w' q r.2.2.1 ∧ Apart v q := by
  subst hr; exact h

/-- The world of a strong collapse that is under way. -/
structure CorW (w W : World) (NL : Nat) (V : Int) (cur : List Int) (av : Option Addr) (cv : Nat) (D : List Int) (q : Value) : Prop where
  res : W.heap[w.heap.size + 1]? = some (.cells #[.int .i64 0, .slice none 0 0] 29 (0, 0))
  left : W.heap[NL]? = some (.cells #[.int .i64 V, .slice av cur.length cv] 29 (0, 0))
  row : W.ownsRow w.heap.size 2 1 (.slice av cur.length cv) cur.length (cur.map (Value.int .i64))
  del : W.ownsRow w.heap.size 2 1 q D.length (D.map (Value.int .i64))
  ap : Apart (.slice av cur.length cv) q
  below : Below w.heap.size w W
  nl : w.heap.size ≤ NL ∧ NL ≠ w.heap.size + 1

section
variable {w W W' : World} {NL : Nat} {V : Int} {cur : List Int} {av : Option Addr} {cv : Nat} {D : List Int} {q : Value}

theorem CorW.keep (h : CorW w W NL V cur av cv D q) (hB : Below W.heap.size W W') : CorW w W' NL V cur av cv D q where
  res := (hB.block _ (lt_get h.res)).trans h.res
  left := (hB.block _ (lt_get h.left)).trans h.left
  row := ownsRow_below h.row hB (fun g hg => (h.row.lt g hg).2)
  del := ownsRow_below h.del hB (fun g hg => (h.del.lt g hg).2)
  ap := h.ap
  below := h.below.trans (hB.mono h.below.size)
  nl := h.nl

theorem CorW.push (h : CorW w W NL V cur av cv D q) (hg : W.grownBy W' q.ownBlock) {D' : List Int} {q' : Value} (hown : W'.ownsRow w.heap.size 2 1 q' D'.length (D'.map (Value.int .i64))) {m : Nat} (hm : W.heap.size ≤ m) (hat : q'.ownBlock = q.ownBlock ∨ q'.ownBlock = some m) : CorW w W' NL V cur av cv D' q' where
  res := (hg.block _ (lt_get h.res) (row_ne_any h.del h.res (by decide))).trans h.res
  left := (hg.block _ (lt_get h.left) (row_ne_any h.del h.left (by decide))).trans h.left
  row := h.row.kept hg (by
    cases hv : (Value.slice av cur.length cv).ownBlock with
    | none => exact .inl rfl
    | some g => exact .inr (fun e => h.ap g hv e.symm))
  del := hown
  ap := fun g hv e => by
    rcases hat with ha | ha
    · exact h.ap g hv (by rw [← ha]; exact e)
    · rw [ha] at e
      injection e with e
      have := (h.row.lt g hv).2
      omega
  below := h.below.grown hg h.below.size (fun k e => (h.del.lt k e).1)
  nl := h.nl

theorem CorW.put (h : CorW w W NL V cur av cv D q) {ys : List Int} {a2 : Option Addr} {c2 B : Nat} (hr : W.ownsRow B 2 1 (.slice a2 ys.length c2) ys.length (ys.map (Value.int .i64))) (hB : w.heap.size ≤ B) (hq : ∀ g, q.ownBlock = some g → g < B) :
    CorW w ((W.setCell ⟨NL, 0, none⟩ (.int .i64 V)).setCell ⟨NL, 1, none⟩ (.slice a2 ys.length c2)) NL V ys a2 c2 D q := by
  obtain ⟨n1, n2⟩ := h.nl
  have e : ∀ k, k ≠ NL → ((W.setCell ⟨NL, 0, none⟩ (.int .i64 V)).setCell ⟨NL, 1, none⟩ (.slice a2 ys.length c2)).heap[k]? = W.heap[k]? := fun k hk => (Below.heap_setCell _ _ _ _ hk).trans (Below.heap_setCell _ _ _ _ hk)
  refine ⟨(e _ (by omega)).trans h.res, two_set h.left _ _, ?_, ?_, ?_, ?_, h.nl⟩
  · have hx := row_ne_any hr h.left (by decide)
    exact ownsRow_base (ownsRow_set (ownsRow_set hr (fun e => hx e.symm) _) (fun e => hx e.symm) _) hB
  · have hx := row_ne_any h.del h.left (by decide)
    exact ownsRow_set (ownsRow_set h.del (fun e => hx e.symm) _) (fun e => hx e.symm) _
  · intro g hv e
    have h1 := (hr.lt g hv).1
    have h2 := hq g e
    omega
  · exact (h.below.setCell (p := ⟨NL, 0, none⟩) (by show w.heap.size ≤ NL; omega) _).setCell (p := ⟨NL, 1, none⟩) (by show w.heap.size ≤ NL; omega) _
end

/-- The first number of a row that is not empty. -/
theorem row_head {W : World} {b : Nat} {a : Option Addr} {c : Nat} {v : Int} {rest : List Int} (h : W.ownsRow b 2 1 (.slice a (v :: rest).length c) (v :: rest).length ((v :: rest).map (Value.int .i64))) :
    ∃ g, a = some ⟨g, 0, none⟩ ∧ g < W.heap.size ∧ W.cell? ⟨g, 0, none⟩ = some (.int .i64 v) ∧ ∀ k cs t fz, W.heap[k]? = some (.cells cs t fz) → 2 ≠ t → k ≠ g := by
  have hs := owned_slI h
  rcases h.2 with ⟨hv, hn⟩ | ⟨g, cp, cur, hv, _, hg, _⟩
  · simp at hn
  · cases hv
    refine ⟨g, rfl, lt_get hg, ?_, ?_⟩
    · rcases hs with hs | ⟨b', off, _, e, hc⟩
      · simp at hs
      · cases e
        have := hc 0 (by simp)
        simpa using this
    · intro k cs t fz hk hne e
      subst e
      rw [hg] at hk
      simp at hk
      exact hne hk.2.1

end Go.Proofs.Ytojnpacklcajpaa

/-! CoreOf, the program's. -/
namespace Go.Proofs.Ytojnpacklcajpaa
open Go.RowKit

set_option maxRecDepth 100000 in
set_option maxHeartbeats 8000000 in
theorem implCoreOf (V : Int) (a0 : Option Addr) (cap : Nat) (fs : List Int) (w : World) (hx : SlI w w.heap.size a0 fs) (hl : fs.length ≤ 1048576) :
    Calls Try.prog 41 #[.agg #[.int .i64 V, .slice a0 fs.length cap]] w fun e w' => ∃ v q, e = .returned (.tuple #[.agg #[.int .i64 (coreR V fs).1, v], q, .int .i64 (coreR V fs).2.2.2]) ∧ Res w w' v (coreR V fs).2.1 ∧ Res w w' q (coreR V fs).2.2.1 ∧ Apart v q := by
  have hB0 : Below w.heap.size w ((w.alloc (.cells #[.int .i64 V, .slice a0 fs.length cap] 29)).alloc (.cells #[.int .i64 0, .slice none 0 0] 29)) := ((Below.refl _ w).alloc (Nat.le_refl _) _).alloc (by simp) _
  have Hx := hid (hx.later hB0 hB0.size)
  by_cases hC : IsC V fs
  · obtain ⟨vn, rfl⟩ : ∃ vn : Nat, V = vn := ⟨V.toNat, by have := hC.lo; omega⟩
    refine co_mono (show coreR (vn : Int) fs = ((vn : Int), (corE vn fs).1, (corE vn fs).2, 0) by unfold coreR; rw [isCB_true hC, if_pos rfl, Int.toNat_natCast]) ?_
    have HC := hid hC
    have hvn : vn ≤ 6 := by have := hC.hi; omega
    have hfilt : (fs.filter fun x => decide (x ∉ ([] : List Int))) = fs := by simp
    have HWO := hid (fun w' (h : Below w.heap.size w w') => wo_any (vn : Int) a0 cap fs none 0 [] w' (hx.later h h.size) (.inl rfl) hl (by simp))
    rw [hfilt] at HWO
    clear hC hfilt
    go_enter Try.func41, Try.ntmps41
    go_wp2_with fail
    refine (isc_yes (vn : Int) a0 cap fs _ Hx.out hl HC.out).mono ?_
    rintro e w1 ⟨rfl, hB1⟩
    have k0 : w1.cell? ⟨w.heap.size, 0, none⟩ = some (.int .i64 vn) := (hB1.cell (p := ⟨w.heap.size, 0, none⟩) (by simp <;> omega)).trans (by simp [go_sem])
    have k1 : w1.cell? ⟨w.heap.size, 1, none⟩ = some (.slice a0 fs.length cap) := (hB1.cell (p := ⟨w.heap.size, 1, none⟩) (by simp <;> omega)).trans (by simp [go_sem])
    have R1 := hid (show w1.heap[w.heap.size + 1]? = some (.cells #[.int .i64 0, .slice none 0 0] 29 (0, 0)) from (hB1.block _ (by simp <;> omega)).trans (new2 _ _ _))
    have HB01 := hid (hB0.trans (hB1.mono (by simp <;> omega)))
    clear hB1
    go_wp2_with fail
    refine (HWO.out _ HB01.out).mono ?_
    rintro e w2 ⟨v2, rfl, hr2⟩
    obtain ⟨_, av2, cv2, rfl, _⟩ := ownsRow_slI hr2.1
    obtain ⟨NL, hNL⟩ : ∃ NL, NL = w2.heap.size := ⟨_, rfl⟩
    have H0 : Hid (CorW w (w2.alloc (.cells #[.int .i64 vn, .slice av2 fs.length cv2] 29)) NL vn fs av2 cv2 [] (.slice none 0 0)) := hid (by
      have hB := HB01.out.trans (hr2.2.mono HB01.out.size)
      have hs := lt_get R1.out
      have hs2 := hr2.2.size
      have al := fun k (hk : k < w2.heap.size) => Below.heap_alloc w2 (.cells #[.int .i64 vn, .slice av2 fs.length cv2] 29) k hk
      refine ⟨(al _ (by omega)).trans ((hr2.2.block _ hs).trans R1.out), by rw [hNL]; exact heap_alloc_new _ _, ?_, World.ownsRow_nil _ _ _ _, ?_, hB.alloc hB.size _, by omega, by omega⟩
      · exact (ownsRow_base hr2.1 HB01.out.size).alloc _
      · intro g _ e; simp [Value.ownBlock] at e)
    obtain ⟨k0', k1', _, _⟩ := two_of H0.out.left
    have HD0 := hid (doms_any vn av2 cv2 fs _ (owned_slI H0.out.row) hl HC.out)
    rw [hNL] at k0' k1'
    clear hr2 k0 k1 R1 HWO
    go_wp2_with fail
    refine HD0.out.mono ?_
    rintro e w3 ⟨v3, rfl, hr3⟩
    have H1 := hid (H0.out.keep hr3.2)
    obtain ⟨_, aD, cD, rfl, _⟩ := ownsRow_slI hr3.1
    have HR3 := hid (ownsRow_base hr3.1 H0.out.below.size)
    rw [← hNL]
    clear k0' k1' hr3 HD0 H0 hNL
    go_wp2_with fail
    go_loopg [6, 7] fs.length (fun g p d wr => ∃ (n : Nat) (cur D : List Int) (av : Option Addr) (cv : Nat) (ad : Option Addr) (cd : Nat), d = .slice ad (domL vn cur vn).length cd ∧ Hid (cur.length ≤ g) ∧ Hid (CorAt vn fs n cur D) ∧ Hid (CorW w wr NL vn cur av cv D p) ∧ Hid (wr.ownsRow w.heap.size 2 1 (.slice ad (domL vn cur vn).length cd) (domL vn cur vn).length ((domL vn cur vn).map (Value.int .i64))))
    case atStart => exact ⟨0, fs, [], av2, cv2, aD, cD, rfl, hid (Nat.le_refl _), hid (CorAt.start HC.out), H1, HR3⟩
    case round =>
      clear H1 HR3
      obtain ⟨n, cur, D, av, cv, ad, cd, rfl, Hg, HA, HCW, HD⟩ := hrel
      obtain ⟨k0, k1, _, _⟩ := two_of HCW.out.left
      have hcl : cur.length ≤ 1048576 := by have := HA.out.len; omega
      have hDl : D.length ≤ 1048576 := by have := HA.out.dlen; have := HA.out.len; omega
      cases hdl : domL vn cur vn with
      | nil =>
        have HE := hid (HA.out.stop hdl)
        obtain ⟨c0, c1, f0, f1⟩ := two_of HCW.out.res
        clear hdl
        simp only [List.length_nil]
        go_wp2_with fail
        (try simp only [Exit.inBlock, Exit.then])
        have R3 := two_of (two_set HCW.out.res (.int .i64 vn) (.slice av cur.length cv))
        refine done_cx3 (p := 2) (u := 3) (t := 4) (by kernel_rfl) rfl rfl R3.1 R3.2.1 rfl rfl ?_
        have hx := row_ne_any HCW.out.row HCW.out.res (by decide)
        have hy := row_ne_any HCW.out.del HCW.out.res (by decide)
        have hBf := (HCW.out.below.setCell (p := ⟨w.heap.size + 1, 0, none⟩) (by show w.heap.size ≤ w.heap.size + 1; omega) (.int .i64 vn)).setCell (p := ⟨w.heap.size + 1, 1, none⟩) (by show w.heap.size ≤ w.heap.size + 1; omega) (.slice av cur.length cv)
        have hr3 := ownsRow_set (ownsRow_set HCW.out.row (a := ⟨w.heap.size + 1, 0, none⟩) (fun e => hx e.symm) (.int .i64 vn)) (a := ⟨w.heap.size + 1, 1, none⟩) (fun e => hx e.symm) (.slice av cur.length cv)
        have hp3 := ownsRow_set (ownsRow_set HCW.out.del (a := ⟨w.heap.size + 1, 0, none⟩) (fun e => hy e.symm) (.int .i64 vn)) (a := ⟨w.heap.size + 1, 1, none⟩) (fun e => hy e.symm) (.slice av cur.length cv)
        rw [HE.out]
        exact ⟨_, _, rfl, ⟨hr3, hBf⟩, ⟨hp3, hBf⟩, HCW.out.ap⟩
      | cons v rest =>
        rw [hdl] at HD
        obtain ⟨hA2, hlt, s, rfl, hsV⟩ := HA.out.step hdl
        have HA2 := hid hA2
        have Hlt := hid hlt
        rw [Int.toNat_natCast] at HA2 Hlt
        obtain ⟨gd, rfl, hgd, hcd, hne⟩ := row_head HD.out
        have Hne := hid hne
        have Hf := hid HA.out.isC.range63
        have hs6 : s < 6 := by omega
        have hi0 : (0 : Int) < ((((s : Int) :: rest).length : Nat) : Int) := by simp
        obtain ⟨m, hm⟩ : ∃ m, m = ((s : Int) :: rest).length := ⟨_, rfl⟩
        rw [← hm] at hi0 ⊢
        obtain ⟨ys, hys⟩ : ∃ ys, ys = takeL cur (2 ^ s : Nat) := ⟨_, rfl⟩
        rw [← hys] at HA2 Hlt
        have Hys := hid hys
        have Hrow := hid (owned_slI HCW.out.row)
        clear hdl hA2 hlt hne hm hys
        go_wp2_with fail
        go_region_with (go_at_call 70; refine (withoutV_any (vn : Int) av cv cur s wr.drew Hrow.out hcl Hf.out hs6).mono ?_; rintro e w5 ⟨v, rfl, hr⟩; have hr' : Res wr.drew w5 v (takeL cur (2 ^ s : Nat)) := hr; rw [← Hys.out] at hr'; clear hr; obtain ⟨_, a5, c5, rfl, _⟩ := ownsRow_slI hr'.1; have hrb : Below wr.heap.size wr w5 := ⟨hr'.2.os, hr'.2.tape, hr'.2.output, hr'.2.size, hr'.2.block⟩; have HC5 := hid (HCW.out.keep hrb); obtain ⟨i0, i1, g0, g1⟩ := two_of HC5.out.left; have k05 := (hrb.cell (p := ⟨NL, 0, none⟩) (lt_get HCW.out.left)).trans k0; have hcd5 := (hrb.cell (p := ⟨gd, 0, none⟩) hgd).trans hcd; have hr5 := hid hr'.1; clear hr' hrb)
        all_goals
          obtain ⟨w6, hw6⟩ : ∃ w6, w6 = (w5.setCell ⟨NL, 0, none⟩ (.int .i64 vn)).setCell ⟨NL, 1, none⟩ (.slice a5 ys.length c5) := ⟨_, rfl⟩
          have HC6 := hid (HC5.out.put hr5.out HCW.out.below.size (fun g hg => (HCW.out.del.lt g hg).2))
          have hng := Hne.out NL _ _ _ HCW.out.left (by decide)
          have hcd6 : w6.cell? ⟨gd, 0, none⟩ = some (.int .i64 (s : Int)) := by
            have e : w6.heap[gd]? = w5.heap[gd]? := by rw [hw6]; exact (Below.heap_setCell _ _ _ _ hng.symm).trans (Below.heap_setCell _ _ _ _ hng.symm)
            exact (World.cell?_of_block (a := ⟨gd, 0, none⟩) e).trans hcd5
          rw [← hw6] at HC6
          rw [← hw6]
          have hown6 := HC6.out.del
          have hs6' := HC6.out.below.size
          clear i0 i1 g0 g1 k0 k1 k05 hcd hcd5 hw6 HC5 hr5 hng
          have hyl : ys.length ≤ 1048576 := by have := Hlt.out; omega
          have HIC := hid HA2.out.isC
          go_wp2_with (first
            | (at_builtin; refine append_int_at rfl rfl hown6 hs6' (by omega) rfl rfl ?_; intro v' w7 hown7 hgrow7 hat7 hB7; have HC7 := hid (HC6.out.push hgrow7 hown7 (Nat.le_succ _) hat7); obtain ⟨b0, b1, _, _⟩ := two_of HC7.out.left; clear hown7 hgrow7 hat7 hB7)
            | (go_at_call 68; refine (doms_any vn a5 c5 ys _ (owned_slI HC7.out.row) hyl HIC.out).mono ?_; rintro e w8 ⟨v8, rfl, hr8⟩; have HC8 := hid (HC7.out.keep hr8.2); obtain ⟨_, a8, c8, rfl, _⟩ := ownsRow_slI hr8.1; have HR8 := hid (ownsRow_base hr8.1 HC7.out.below.size); clear hr8))
          go_roundg ys.length
          case measure => have h1 := Hg.out; have h2 := Hlt.out; omega
          case rel => exact ⟨n + 1, ys, D ++ [(s : Int)], a5, c5, a8, c8, rfl, hid (Nat.le_refl _), HA2, HC8, HR8⟩
  · refine co_mono (show coreR V fs = (0, [], [], 1) by unfold coreR; rw [isCB_false hC, if_neg (by simp)]) ?_
    go_enter Try.func41, Try.ntmps41
    go_wp2_with fail
    refine (isc_no V a0 cap fs _ Hx.out hl hC).mono ?_
    rintro e w1 ⟨rfl, hB1⟩
    have r1 : w1.heap[w.heap.size + 1]? = some (.cells #[.int .i64 0, .slice none 0 0] 29 (0, 0)) := (hB1.block _ (by simp <;> omega)).trans (new2 _ _ _)
    have HB01 := hid (hB0.trans (hB1.mono (by simp <;> omega)))
    obtain ⟨c0, c1, f0, f1⟩ := two_of r1
    have R1 := hid r1
    clear r1 hB1
    go_wp2_with fail
    (try simp only [Exit.inBlock, Exit.then])
    have R3 := two_of (two_set R1.out (.int .i64 0) (.slice none 0 0))
    refine done_cx3 (p := 2) (u := 3) (t := 4) (by kernel_rfl) rfl rfl R3.1 R3.2.1 rfl rfl ⟨_, _, rfl, ?_⟩
    have h := (res_nil _ _ HB01.out).set2 R1.out (by decide) (by omega) (.int .i64 0) (.slice none 0 0)
    exact ⟨h, h, fun g hg => by simp [Value.ownBlock] at hg⟩

end Go.Proofs.Ytojnpacklcajpaa

/-! CoreOf, the model's. -/
namespace Go.Proofs.Ytojnpacklcajpaa
open Go.RowKit

set_option maxRecDepth 100000 in
set_option maxHeartbeats 8000000 in
theorem specCoreOf (V : Int) (a0 : Option Addr) (cap : Nat) (fs : List Int) (w : World) (hx : SlI w w.heap.size a0 fs) (hl : fs.length ≤ 1048576) :
    Calls Try.prog 40 #[.agg #[.int .i64 V, .slice a0 fs.length cap]] w fun e w' => ∃ v q, e = .returned (.tuple #[.agg #[.int .i64 (coreR V fs).1, v], q, .int .i64 (coreR V fs).2.2.2]) ∧ Res w w' v (coreR V fs).2.1 ∧ Res w w' q (coreR V fs).2.2.1 ∧ Apart v q := by
  have hB0 : Below w.heap.size w ((w.alloc (.cells #[.int .i64 V, .slice a0 fs.length cap] 29)).alloc (.cells #[.int .i64 0, .slice none 0 0] 29)) := ((Below.refl _ w).alloc (Nat.le_refl _) _).alloc (by simp) _
  have Hx := hid (hx.later hB0 hB0.size)
  by_cases hC : IsC V fs
  · obtain ⟨vn, rfl⟩ : ∃ vn : Nat, V = vn := ⟨V.toNat, by have := hC.lo; omega⟩
    refine co_mono (show coreR (vn : Int) fs = ((vn : Int), (corE vn fs).1, (corE vn fs).2, 0) by unfold coreR; rw [isCB_true hC, if_pos rfl, Int.toNat_natCast]) ?_
    have HC := hid hC
    have hvn : vn ≤ 6 := by have := hC.hi; omega
    have HWO := hid (fun w' (h : Below w.heap.size w w') => copy_any (vn : Int) a0 cap fs w' (hx.later h h.size) hl)
    clear hC
    go_enter Try.func40, Try.ntmps40
    go_wp2_with fail
    refine (is_yes (vn : Int) a0 cap fs _ Hx.out hl HC.out).mono ?_
    rintro e w1 ⟨rfl, hB1⟩
    have k0 : w1.cell? ⟨w.heap.size, 0, none⟩ = some (.int .i64 vn) := (hB1.cell (p := ⟨w.heap.size, 0, none⟩) (by simp <;> omega)).trans (by simp [go_sem])
    have k1 : w1.cell? ⟨w.heap.size, 1, none⟩ = some (.slice a0 fs.length cap) := (hB1.cell (p := ⟨w.heap.size, 1, none⟩) (by simp <;> omega)).trans (by simp [go_sem])
    have R1 := hid (show w1.heap[w.heap.size + 1]? = some (.cells #[.int .i64 0, .slice none 0 0] 29 (0, 0)) from (hB1.block _ (by simp <;> omega)).trans (new2 _ _ _))
    have HB01 := hid (hB0.trans (hB1.mono (by simp <;> omega)))
    clear hB1
    go_wp2_with fail
    refine (HWO.out _ HB01.out).mono ?_
    rintro e w2 ⟨v2, rfl, hr2⟩
    obtain ⟨_, av2, cv2, rfl, _⟩ := ownsRow_slI hr2.1
    obtain ⟨NL, hNL⟩ : ∃ NL, NL = w2.heap.size + 1 := ⟨_, rfl⟩
    have H0 : Hid (CorW w ((w2.alloc (.cells #[] 2)).alloc (.cells #[.int .i64 vn, .slice av2 fs.length cv2] 29)) NL vn fs av2 cv2 [] (.slice (some ⟨w2.heap.size, 0, none⟩) 0 0)) := hid (by
      have hB := HB01.out.trans (hr2.2.mono HB01.out.size)
      have hs := lt_get R1.out
      have hs2 := hr2.2.size
      have al := fun k (hk : k < w2.heap.size) => (Below.heap_alloc (w2.alloc (.cells #[] 2)) (.cells #[.int .i64 vn, .slice av2 fs.length cv2] 29) k (by simp; omega)).trans (Below.heap_alloc w2 (.cells #[] 2) k hk)
      refine ⟨(al _ (by omega)).trans ((hr2.2.block _ hs).trans R1.out), by rw [hNL]; exact new2 _ _ _, ?_, ?_, ?_, (hB.alloc hB.size _).alloc (by have := hB.size; simp; omega) _, by omega, by omega⟩
      · exact ((ownsRow_base hr2.1 HB01.out.size).alloc _).alloc _
      · exact (ownsRow_base (World.ownsRow_made (base := w2.heap.size) (e := 2) (size := 1) w2 #[] 0 (by simp) (by simp [maxLen]) rfl) hB.size).alloc _
      · intro g hv e
        have h1 := (hr2.1.lt g hv).2
        simp [Value.ownBlock] at e
        omega)
    clear hr2 k0 k1 R1 HWO
    go_wp2_with fail
    rw [← hNL]
    clear hNL
    go_loopg [6] fs.length (fun g p wr => ∃ (n : Nat) (cur D : List Int) (av : Option Addr) (cv : Nat), Hid (cur.length ≤ g) ∧ Hid (CorAt vn fs n cur D) ∧ Hid (CorW w wr NL vn cur av cv D p))
    case atStart => exact ⟨0, fs, [], av2, cv2, hid (Nat.le_refl _), hid (CorAt.start HC.out), H0⟩
    case round =>
      clear H0
      obtain ⟨n, cur, D, av, cv, Hg, HA, HCW0⟩ := hrel
      obtain ⟨k0, k1, _, _⟩ := two_of HCW0.out.left
      have hcl : cur.length ≤ 1048576 := by have := HA.out.len; omega
      have HDM := hid (ldom_any vn av cv cur wr (owned_slI HCW0.out.row) hcl HA.out.isC)
      go_wp2_with fail
      refine HDM.out.mono ?_
      rintro e w3 ⟨v3, rfl, hr3⟩
      have HCW := hid (HCW0.out.keep hr3.2)
      obtain ⟨_, ad, cd, rfl, _⟩ := ownsRow_slI hr3.1
      have HD := hid (ownsRow_base hr3.1 HCW0.out.below.size)
      clear hr3 k0 k1 HDM HCW0
      obtain ⟨k0, k1, _, _⟩ := two_of HCW.out.left
      have hDl : D.length ≤ 1048576 := by have := HA.out.dlen; have := HA.out.len; omega
      cases hdl : domL vn cur vn with
      | nil =>
        have HE := hid (HA.out.stop hdl)
        obtain ⟨c0, c1, f0, f1⟩ := two_of HCW.out.res
        clear hdl
        simp only [List.length_nil]
        go_wp2_with fail
        (try simp only [Exit.inBlock, Exit.then])
        have R3 := two_of (two_set HCW.out.res (.int .i64 vn) (.slice av cur.length cv))
        refine done_cx3 (p := 2) (u := 3) (t := 4) (by kernel_rfl) rfl rfl R3.1 R3.2.1 rfl rfl ?_
        have hx := row_ne_any HCW.out.row HCW.out.res (by decide)
        have hy := row_ne_any HCW.out.del HCW.out.res (by decide)
        have hBf := (HCW.out.below.setCell (p := ⟨w.heap.size + 1, 0, none⟩) (by show w.heap.size ≤ w.heap.size + 1; omega) (.int .i64 vn)).setCell (p := ⟨w.heap.size + 1, 1, none⟩) (by show w.heap.size ≤ w.heap.size + 1; omega) (.slice av cur.length cv)
        have hr3 := ownsRow_set (ownsRow_set HCW.out.row (a := ⟨w.heap.size + 1, 0, none⟩) (fun e => hx e.symm) (.int .i64 vn)) (a := ⟨w.heap.size + 1, 1, none⟩) (fun e => hx e.symm) (.slice av cur.length cv)
        have hp3 := ownsRow_set (ownsRow_set HCW.out.del (a := ⟨w.heap.size + 1, 0, none⟩) (fun e => hy e.symm) (.int .i64 vn)) (a := ⟨w.heap.size + 1, 1, none⟩) (fun e => hy e.symm) (.slice av cur.length cv)
        rw [HE.out]
        exact ⟨_, _, rfl, ⟨hr3, hBf⟩, ⟨hp3, hBf⟩, HCW.out.ap⟩
      | cons v rest =>
        rw [hdl] at HD
        obtain ⟨hA2, hlt, s, rfl, hsV⟩ := HA.out.step hdl
        have HA2 := hid hA2
        have Hlt := hid hlt
        rw [Int.toNat_natCast] at HA2 Hlt
        obtain ⟨gd, rfl, hgd, hcd, hne⟩ := row_head HD.out
        have Hne := hid hne
        have Hf := hid HA.out.isC.range63
        have hs6 : s < 6 := by omega
        have hi0 : (0 : Int) < ((((s : Int) :: rest).length : Nat) : Int) := by simp
        obtain ⟨m, hm⟩ : ∃ m, m = ((s : Int) :: rest).length := ⟨_, rfl⟩
        rw [← hm] at hi0 ⊢
        obtain ⟨ys, hys⟩ : ∃ ys, ys = takeL cur (2 ^ s : Nat) := ⟨_, rfl⟩
        rw [← hys] at HA2 Hlt
        have Hys := hid hys
        have Hrow := hid (owned_slI HCW.out.row)
        clear hdl hA2 hlt hne hm hys
        go_wp2_with fail
        have hq : IntKind.i64.wrap (2 ^ min (IntKind.u64.wrap (s : Int)).toNat 64) = ((2 ^ s : Nat) : Int) := by
          have h1 : IntKind.u64.wrap (s : Int) = (s : Int) := by rw [IntKind.wrap_u64]; omega
          rw [h1, Int.toNat_natCast, Nat.min_eq_left (by omega)]
          have h2 := pow_lt6 hs6
          have h3 : ((2 : Int) ^ s) = ((2 ^ s : Nat) : Int) := pow_cast s
          rw [h3]
          generalize 2 ^ s = b at h2 ⊢
          rw [IntKind.wrap_i64]
          omega
        have Hq := hid hq
        clear hq
        have hs64 := pow_lt6 hs6
        go_region_with (go_at_call 60; rw [Hq.out]; refine (take_any (vn : Int) av cv cur (2 ^ s) w3.drew Hrow.out hcl Hf.out hs64).mono ?_; rintro e w5 ⟨v, rfl, hr⟩; have hr' : Res w3.drew w5 v (takeL cur (2 ^ s : Nat)) := hr; rw [← Hys.out] at hr'; clear hr; obtain ⟨_, a5, c5, rfl, _⟩ := ownsRow_slI hr'.1; have hrb : Below w3.heap.size w3 w5 := ⟨hr'.2.os, hr'.2.tape, hr'.2.output, hr'.2.size, hr'.2.block⟩; have HC5 := hid (HCW.out.keep hrb); obtain ⟨i0, i1, g0, g1⟩ := two_of HC5.out.left; have k05 := (hrb.cell (p := ⟨NL, 0, none⟩) (lt_get HCW.out.left)).trans k0; have hcd5 := (hrb.cell (p := ⟨gd, 0, none⟩) hgd).trans hcd; have hr5 := hid hr'.1; clear hr' hrb)
        all_goals
          obtain ⟨w6, hw6⟩ : ∃ w6, w6 = (w5.setCell ⟨NL, 0, none⟩ (.int .i64 vn)).setCell ⟨NL, 1, none⟩ (.slice a5 ys.length c5) := ⟨_, rfl⟩
          have HC6 := hid (HC5.out.put hr5.out HCW.out.below.size (fun g hg => (HCW.out.del.lt g hg).2))
          have hng := Hne.out NL _ _ _ HCW.out.left (by decide)
          have hcd6 : w6.cell? ⟨gd, 0, none⟩ = some (.int .i64 (s : Int)) := by
            have e : w6.heap[gd]? = w5.heap[gd]? := by rw [hw6]; exact (Below.heap_setCell _ _ _ _ hng.symm).trans (Below.heap_setCell _ _ _ _ hng.symm)
            exact (World.cell?_of_block (a := ⟨gd, 0, none⟩) e).trans hcd5
          rw [← hw6] at HC6
          rw [← hw6]
          have hown6 := HC6.out.del
          have hs6' := HC6.out.below.size
          clear i0 i1 g0 g1 k0 k1 k05 hcd hcd5 hw6 HC5 hr5 hng
          go_wp2_with (at_builtin; refine append_int_at rfl rfl hown6 hs6' (by omega) rfl rfl ?_; intro v' w7 hown7 hgrow7 hat7 hB7; have HC7 := hid (HC6.out.push hgrow7 hown7 (Nat.le_succ _) hat7); clear hown7 hgrow7 hat7 hB7)
          go_roundg ys.length
          case measure => have h1 := Hg.out; have h2 := Hlt.out; omega
          case rel => exact ⟨n + 1, ys, D ++ [(s : Int)], a5, c5, hid (Nat.le_refl _), HA2, HC7⟩
  · refine co_mono (show coreR V fs = (0, [], [], 1) by unfold coreR; rw [isCB_false hC, if_neg (by simp)]) ?_
    go_enter Try.func40, Try.ntmps40
    go_wp2_with fail
    refine (is_no V a0 cap fs _ Hx.out hl hC).mono ?_
    rintro e w1 ⟨rfl, hB1⟩
    have r1 : w1.heap[w.heap.size + 1]? = some (.cells #[.int .i64 0, .slice none 0 0] 29 (0, 0)) := (hB1.block _ (by simp <;> omega)).trans (new2 _ _ _)
    have HB01 := hid (hB0.trans (hB1.mono (by simp <;> omega)))
    obtain ⟨c0, c1, f0, f1⟩ := two_of r1
    have R1 := hid r1
    clear r1 hB1
    go_wp2_with fail
    (try simp only [Exit.inBlock, Exit.then])
    have R3 := two_of (two_set R1.out (.int .i64 0) (.slice none 0 0))
    refine done_cx3 (p := 2) (u := 3) (t := 4) (by kernel_rfl) rfl rfl R3.1 R3.2.1 rfl rfl ⟨_, _, rfl, ?_⟩
    have h := (res_nil _ _ HB01.out).set2 R1.out (by decide) (by omega) (.int .i64 0) (.slice none 0 0)
    exact ⟨h, h, fun g hg => by simp [Value.ownBlock] at hg⟩

end Go.Proofs.Ytojnpacklcajpaa

/-! The law on CoreOf, walked. -/
namespace Go.Proofs.Ytojnpacklcajpaa
open Go.RowKit

set_option maxRecDepth 100000 in
set_option maxHeartbeats 8000000 in
theorem law_CoreOf (V : Int) (a : Option Addr) (cap : Nat) (xs : List Int) (w : World) (hx : SlI w w.heap.size a xs) (hn : xs.length ≤ 9223372036854775807) :
    Calls Try.prog 10 #[.agg #[.int .i64 V, .slice a xs.length cap]] w fun e w' => e = .returned (.bool true) ∧ Below w.heap.size w w' := by
  have F0 : Book w w [(a, xs)] [] [] := ⟨Below.refl _ _, by simp; exact hx, by simp, by simp⟩
  have F0 := F0.alloc (.cells #[.int .i64 V, .slice a xs.length cap] 24)
  (try simp only [World.size_alloc] at F0)
  have B0 := hid F0
  clear F0 hx
  obtain ⟨r, hr⟩ : ∃ r, r = szR 1048576 xs.length := ⟨_, rfl⟩
  have Hr := hid hr
  by_cases hl : 1048576 < xs.length
  · have hr1 : r = -1 := by rw [hr]; exact szR_big (by omega)
    clear hr
    go_enter Try.func10, Try.ntmps10
    go_wp2_with fail
    refine (szCx V a xs.length cap 1048576 _ (by omega) (by omega) hn).mono ?_
    rintro e s0 ⟨rfl, hB⟩
    have B0 := hid (B0.out.below hB)
    rw [← Hr.out]
    go_wp2_with fail
    go_ret
    exact ⟨rfl, B0.out.from0⟩
  · have hr1 : 0 ≤ r := by rw [hr, szR_fit (by omega)]; omega
    have hl' : xs.length ≤ 1048576 := by omega
    clear hr hl
    obtain ⟨R, hR⟩ : ∃ R, R = coreR V xs := ⟨_, rfl⟩
    have hRl : R.2.1.length ≤ 1048576 ∧ R.2.2.1.length ≤ 1048576 := by rw [hR]; exact coreR_len V xs hl'
    obtain ⟨hRl0, hRl1⟩ := hRl
    obtain ⟨U, y0, y1, c⟩ := R
    simp only at hRl0 hRl1
    have HS : Hid (∀ a cap w', SlI w' w'.heap.size a xs → Calls Try.prog 40 #[.agg #[.int .i64 V, .slice a xs.length cap]] w' fun e w'' => ∃ v0 l0 h0 v1 l1 h1, e = .returned (.tuple #[.agg #[.int .i64 U, v0], v1, .int .i64 c]) ∧ PartB w' w'' ⟨l0, h0, 2, 1, y0.length, v0, y0⟩ ∧ PartB w' w'' ⟨l1, h1, 2, 1, y1.length, v1, y1⟩ ∧ (h0 ≤ l1 ∨ h1 ≤ l0) ∧ Below w'.heap.size w' w'') :=
      hid (fun a cap w' h => by have := specCoreOf V a cap xs w' h hl'; rw [← hR] at this; refine this.mono ?_; rintro e w'' ⟨v, q, rfl, h1, h2, h3⟩; obtain ⟨l1, r1, l2, r2, p1, p2, hd⟩ := two_parts h1.1 h2.1 h3 h1.2; exact ⟨v, l1, r1, q, l2, r2, rfl, p1, p2, hd, h1.2⟩)
    have HI : Hid (∀ a cap w', SlI w' w'.heap.size a xs → Calls Try.prog 41 #[.agg #[.int .i64 V, .slice a xs.length cap]] w' fun e w'' => ∃ v0 l0 h0 v1 l1 h1, e = .returned (.tuple #[.agg #[.int .i64 U, v0], v1, .int .i64 c]) ∧ PartB w' w'' ⟨l0, h0, 2, 1, y0.length, v0, y0⟩ ∧ PartB w' w'' ⟨l1, h1, 2, 1, y1.length, v1, y1⟩ ∧ (h0 ≤ l1 ∨ h1 ≤ l0) ∧ Below w'.heap.size w' w'') :=
      hid (fun a cap w' h => by have := implCoreOf V a cap xs w' h hl'; rw [← hR] at this; refine this.mono ?_; rintro e w'' ⟨v, q, rfl, h1, h2, h3⟩; obtain ⟨l1, r1, l2, r2, p1, p2, hd⟩ := two_parts h1.1 h2.1 h3 h1.2; exact ⟨v, l1, r1, q, l2, r2, rfl, p1, p2, hd, h1.2⟩)
    have hcc : (c != c) = false := by simp
    clear hR
    go_enter Try.func10, Try.ntmps10
    go_wp2_with fail
    refine (szCx V a xs.length cap 1048576 _ (by omega) (by omega) hn).mono ?_
    rintro e s0 ⟨rfl, hB⟩
    have zs0 := hB.size
    (try simp only [World.size_alloc] at zs0)
    have B0 := hid (B0.out.below hB)
    clear hB
    rw [← Hr.out]
    obtain ⟨q0, q1⟩ := B0.out.two (.head _)
    go_wp2_with fail
    clear q0 q1
    refine (toCx V a cap xs _ (B0.out.arg (.head _)) hl').mono ?_
    rintro e u0 ⟨gu0, rfl, hown, hB⟩
    have zu0 := hB.size
    (try simp only [World.size_alloc] at zu0)
    have B0 := hid (B0.out.row hown hB)
    clear hown hB
    (try simp only [World.size_alloc] at B0)
    go_wp2_with fail
    refine (HS.out _ _ _ (B0.out.slI (.head _))).mono ?_
    rintro e u9 ⟨vw0, lw0, hw0, vw1, lw1, hw1, rfl, p0, p1, hdw, hB⟩
    have zu9 := hB.size
    (try simp only [World.size_alloc] at zu9)
    have B0 := hid (B0.out.below hB)
    clear hB
    have o0 := p0.own
    dsimp only at o0
    obtain ⟨_, aw0, cw0, rfl, _⟩ := ownsRow_slI o0
    clear o0
    have lew0 : hw0 ≤ _ := p0.le
    have gew0 : _ ≤ lw0 := p0.ge
    (try simp only [World.size_alloc] at gew0)
    have B0 := hid (B0.out.add p0)
    clear p0
    have o1 := p1.own
    dsimp only at o1
    obtain ⟨_, aw1, cw1, rfl, _⟩ := ownsRow_slI o1
    clear o1
    have lew1 : hw1 ≤ _ := p1.le
    have gew1 : _ ≤ lw1 := p1.ge
    (try simp only [World.size_alloc] at gew1)
    have B0 := hid (B0.out.add p1)
    clear p1
    (try simp only [World.size_alloc] at B0)
    have B0 := hid (B0.out.alloc (.cells #[.int .i64 U, .slice aw0 y0.length cw0] 29))
    (try simp only [World.size_alloc] at B0)
    obtain ⟨q0, q1⟩ := B0.out.two (.tail _ (.head _))
    go_wp2_with fail
    clear q0 q1
    refine (toCx V a cap xs _ (B0.out.arg (.head _)) hl').mono ?_
    rintro e x0 ⟨gx0, rfl, hown, hB⟩
    have zx0 := hB.size
    (try simp only [World.size_alloc] at zx0)
    have B0 := hid (B0.out.row hown hB)
    clear hown hB
    (try simp only [World.size_alloc] at B0)
    have B0 := hid (B0.out.alloc (.cells #[.int .i64 V, .slice (some ⟨gx0, 0, none⟩) xs.length xs.length] 29))
    (try simp only [World.size_alloc] at B0)
    obtain ⟨lxb0, lxb1⟩ := B0.out.two (.head _)
    go_wp2_with fail
    clear lxb0 lxb1
    refine (HI.out _ _ _ (B0.out.slI (.head _))).mono ?_
    rintro e v9 ⟨vg0, lg0, hg0, vg1, lg1, hg1, rfl, p0, p1, hdg, hB⟩
    have zv9 := hB.size
    (try simp only [World.size_alloc] at zv9)
    have B0 := hid (B0.out.below hB)
    clear hB
    have o0 := p0.own
    dsimp only at o0
    obtain ⟨_, ag0, cg0, rfl, _⟩ := ownsRow_slI o0
    clear o0
    have leg0 : hg0 ≤ _ := p0.le
    have geg0 : _ ≤ lg0 := p0.ge
    (try simp only [World.size_alloc] at geg0)
    have B0 := hid (B0.out.add p0)
    clear p0
    have o1 := p1.own
    dsimp only at o1
    obtain ⟨_, ag1, cg1, rfl, _⟩ := ownsRow_slI o1
    clear o1
    have leg1 : hg1 ≤ _ := p1.le
    have geg1 : _ ≤ lg1 := p1.ge
    (try simp only [World.size_alloc] at geg1)
    have B0 := hid (B0.out.add p1)
    clear p1
    (try simp only [World.size_alloc] at B0)
    have B0 := hid (B0.out.alloc (.cells #[.int .i64 U, .slice ag0 y0.length cg0] 29))
    (try simp only [World.size_alloc] at B0)
    obtain ⟨lgb0, lgb1⟩ := B0.out.two (.head _)
    obtain ⟨lwb0, lwb1⟩ := B0.out.two (.tail _ (.tail _ (.head _)))
    go_wp2_with fail
    clear lgb0 lgb1
    clear lwb0 lwb1
    refine (eqCx_yes U _ _ _ _ y0 y0 _ (B0.out.slI (.tail _ (.head _))) (B0.out.slI (.tail _ (.tail _ (.tail _ (.tail _ (.head _)))))) hRl0 hRl0 rfl).mono ?_
    rintro e e1 ⟨rfl, hB⟩
    have ze1 := hB.size
    (try simp only [World.size_alloc] at ze1)
    have B0 := hid (B0.out.below hB)
    clear hB
    go_wp2_with fail
    refine (eqInts_yes _ _ _ _ y1 y1 _ (B0.out.slI (.head _)) (B0.out.slI (.tail _ (.tail _ (.tail _ (.head _))))) hRl1 hRl1 rfl).mono ?_
    rintro e e2 ⟨rfl, hB⟩
    have ze2 := hB.size
    (try simp only [World.size_alloc] at ze2)
    have B0 := hid (B0.out.below hB)
    clear hB
    obtain ⟨lxb0, lxb1⟩ := B0.out.two (.tail _ (.head _))
    obtain ⟨lk0, lk1⟩ := B0.out.two (.tail _ (.tail _ (.tail _ (.head _))))
    go_wp2_with fail
    go_cut [56] from 52 to 56 (fun p wx => p = .bool false ∧ e2.heap.size ≤ wx.heap.size ∧ Book w wx [(a, xs)] [(v9.heap.size, .cells #[.int .i64 U, .slice ag0 y0.length cg0] 29), (x0.heap.size, .cells #[.int .i64 V, .slice (some ⟨gx0, 0, none⟩) xs.length xs.length] 29), (u9.heap.size, .cells #[.int .i64 U, .slice aw0 y0.length cw0] 29), (w.heap.size, .cells #[.int .i64 V, .slice a xs.length cap] 24)] [⟨u9.heap.size + 1, x0.heap.size, 2, 1, xs.length, .slice (some ⟨gx0, 0, none⟩) xs.length xs.length, xs⟩, ⟨lg0, hg0, 2, 1, y0.length, .slice ag0 y0.length cg0, y0⟩, ⟨lg1, hg1, 2, 1, y1.length, .slice ag1 y1.length cg1, y1⟩, ⟨lw0, hw0, 2, 1, y0.length, .slice aw0 y0.length cw0, y0⟩, ⟨lw1, hw1, 2, 1, y1.length, .slice aw1 y1.length cw1, y1⟩])
    case first =>
      go_region_with (first
        | (go_at_call 17; refine (toCx V a cap xs _ (B0.out.drew.arg (.head _)) hl').mono ?_; rintro e f0 ⟨gf0, rfl, hown, hB⟩; have zf0 : e2.heap.size ≤ f0.heap.size := hB.size; have C0 := hid (B0.out.drew.row hown hB); clear hown hB; obtain ⟨m00, m01⟩ := C0.out.two (.tail _ (.head _)))
        | (go_at_call 20; refine (eqCx_yes V _ _ _ _ xs xs _ (C0.out.slI (.tail _ (.tail _ (.tail _ (.head _))))) (C0.out.slI (.head _)) hl' hl' rfl).mono ?_; rintro e h0 ⟨rfl, hB⟩))
      all_goals
        have zh0 := hB.size
        have D0 := hid (C0.out.below hB)
        clear hB
        go_wp2_with fail
        go_meet
        case rel => exact ⟨rfl, by omega, D0.out.only (by simp) (by simp)⟩
    case rest =>
      obtain ⟨rfl, zc0, hbk⟩ := hcut
      have B0 := hid hbk
      clear hbk
      clear lxb0 lxb1
      clear lk0 lk1
      obtain ⟨wd0, hwd0⟩ : ∃ x, x = wc := ⟨_, rfl⟩
      rw [← hwd0] at B0 zc0 ⊢
      clear hwd0
      obtain ⟨lxb0, lxb1⟩ := B0.out.two (.tail _ (.head _))
      go_wp2_with fail
      clear lxb0 lxb1
      refine (markCx V _ _ _ xs (1) _ (B0.out.own (.head _)) hl' (by omega) (by omega)).mono ?_
      rintro e mX ⟨rfl, hown, hg⟩
      have zmX := hg.size
      (try simp only [World.size_alloc] at zmX)
      have B0 := hid (B0.out.mark (ys := count (1) xs.length) (L' := [⟨lg0, hg0, 2, 1, y0.length, .slice ag0 y0.length cg0, y0⟩, ⟨lg1, hg1, 2, 1, y1.length, .slice ag1 y1.length cg1, y1⟩, ⟨lw0, hw0, 2, 1, y0.length, .slice aw0 y0.length cw0, y0⟩, ⟨lw1, hw1, 2, 1, y1.length, .slice aw1 y1.length cw1, y1⟩]) (.head _) hown hg (by simp only; omega) (by simp <;> omega) (by simp <;> omega))
      clear hown hg
      obtain ⟨lgb0, lgb1⟩ := B0.out.two (.head _)
      obtain ⟨lwb0, lwb1⟩ := B0.out.two (.tail _ (.tail _ (.head _)))
      go_wp2_with fail
      clear lgb0 lgb1
      clear lwb0 lwb1
      refine (eqCx_yes U _ _ _ _ y0 y0 _ (B0.out.slI (.head _)) (B0.out.slI (.tail _ (.tail _ (.head _)))) hRl0 hRl0 rfl).mono ?_
      rintro e e3 ⟨rfl, hB⟩
      have ze3 := hB.size
      (try simp only [World.size_alloc] at ze3)
      have B0 := hid (B0.out.below hB)
      clear hB
      go_wp2_with fail
      refine (eqInts_yes _ _ _ _ y1 y1 _ (B0.out.slI (.tail _ (.head _))) (B0.out.slI (.tail _ (.tail _ (.tail _ (.head _))))) hRl1 hRl1 rfl).mono ?_
      rintro e e4 ⟨rfl, hB⟩
      have ze4 := hB.size
      (try simp only [World.size_alloc] at ze4)
      have B0 := hid (B0.out.below hB)
      clear hB
      obtain ⟨lgb0, lgb1⟩ := B0.out.two (.head _)
      go_wp2_with fail
      clear lgb0 lgb1
      refine (markCx U _ _ _ y0 (1) _ (B0.out.own (.head _)) hRl0 (by omega) (by omega)).mono ?_
      rintro e mg0 ⟨rfl, hown, hg⟩
      have zmg0 := hg.size
      (try simp only [World.size_alloc] at zmg0)
      have B0 := hid (B0.out.mark (ys := count (1) y0.length) (L' := [⟨lg0, hg0, 2, 1, y0.length, .slice ag0 y0.length cg0, count (1) y0.length⟩, ⟨lg1, hg1, 2, 1, y1.length, .slice ag1 y1.length cg1, y1⟩, ⟨lw0, hw0, 2, 1, y0.length, .slice aw0 y0.length cw0, y0⟩, ⟨lw1, hw1, 2, 1, y1.length, .slice aw1 y1.length cw1, y1⟩]) (.head _) hown hg (by simp only; omega) (by simp <;> omega) (by simp <;> omega))
      clear hown hg
      go_wp2_with fail
      refine (markInts _ _ _ y1 (1 + y0.length) _ (B0.out.own (.tail _ (.head _))) hRl1 (by omega) (by omega)).mono ?_
      rintro e mg1 ⟨rfl, hown, hg⟩
      have zmg1 := hg.size
      (try simp only [World.size_alloc] at zmg1)
      have B0 := hid (B0.out.mark (ys := count (1 + y0.length) y1.length) (L' := [⟨lg0, hg0, 2, 1, y0.length, .slice ag0 y0.length cg0, count (1) y0.length⟩, ⟨lg1, hg1, 2, 1, y1.length, .slice ag1 y1.length cg1, count (1 + y0.length) y1.length⟩, ⟨lw0, hw0, 2, 1, y0.length, .slice aw0 y0.length cw0, y0⟩, ⟨lw1, hw1, 2, 1, y1.length, .slice aw1 y1.length cw1, y1⟩]) (.tail _ (.head _)) hown hg (by simp only; omega) (by simp <;> omega) (by simp <;> omega))
      clear hown hg
      obtain ⟨lgb0, lgb1⟩ := B0.out.two (.head _)
      go_wp2_with fail
      clear lgb0 lgb1
      refine (heldCx U _ _ y0.length _ (1) _ rfl (B0.out.slI (.head _)) hRl0 (by omega) (by omega)).mono ?_
      rintro e t1 ⟨rfl, hB⟩
      have zt1 := hB.size
      (try simp only [World.size_alloc] at zt1)
      have B0 := hid (B0.out.below hB)
      clear hB
      go_wp2_with fail
      refine (heldInts _ _ y1.length _ (1 + y0.length) _ rfl (B0.out.slI (.tail _ (.head _))) hRl1 (by omega) (by omega)).mono ?_
      rintro e t2 ⟨rfl, hB⟩
      have zt2 := hB.size
      (try simp only [World.size_alloc] at zt2)
      have B0 := hid (B0.out.below hB)
      clear hB
      have hnn : ((1 : Int) + y0.length + y1.length != 1 + y0.length + y1.length) = false := by simp
      obtain ⟨q0, q1⟩ := B0.out.two (.tail _ (.tail _ (.tail _ (.head _))))
      go_wp2_with fail
      clear q0 q1
      refine (toCx V a cap xs _ (B0.out.arg (.head _)) hl').mono ?_
      rintro e zc ⟨gzc, rfl, hown, hB⟩
      have zzc := hB.size
      (try simp only [World.size_alloc] at zzc)
      have B0 := hid (B0.out.row hown hB)
      clear hown hB
      (try simp only [World.size_alloc] at B0)
      go_wp2_with fail
      refine (HI.out _ _ _ (B0.out.slI (.head _))).mono ?_
      rintro e t9 ⟨vh0, lh0, hh0, vh1, lh1, hh1, rfl, p0, p1, hdh, hB⟩
      have zt9 := hB.size
      (try simp only [World.size_alloc] at zt9)
      have B0 := hid (B0.out.below hB)
      clear hB
      have o0 := p0.own
      dsimp only at o0
      obtain ⟨_, ah0, ch0, rfl, _⟩ := ownsRow_slI o0
      clear o0
      have leh0 : hh0 ≤ _ := p0.le
      have geh0 : _ ≤ lh0 := p0.ge
      (try simp only [World.size_alloc] at geh0)
      have B0 := hid (B0.out.add p0)
      clear p0
      have o1 := p1.own
      dsimp only at o1
      obtain ⟨_, ah1, ch1, rfl, _⟩ := ownsRow_slI o1
      clear o1
      have leh1 : hh1 ≤ _ := p1.le
      have geh1 : _ ≤ lh1 := p1.ge
      (try simp only [World.size_alloc] at geh1)
      have B0 := hid (B0.out.add p1)
      clear p1
      (try simp only [World.size_alloc] at B0)
      have B0 := hid (B0.out.alloc (.cells #[.int .i64 U, .slice ah0 y0.length ch0] 29))
      (try simp only [World.size_alloc] at B0)
      obtain ⟨lhb0, lhb1⟩ := B0.out.two (.head _)
      obtain ⟨lwb0, lwb1⟩ := B0.out.two (.tail _ (.tail _ (.tail _ (.head _))))
      go_wp2_with fail
      clear lhb0 lhb1
      clear lwb0 lwb1
      refine (eqCx_yes U _ _ _ _ y0 y0 _ (B0.out.slI (.tail _ (.head _))) (B0.out.slI (.tail _ (.tail _ (.tail _ (.tail _ (.tail _ (.head _))))))) hRl0 hRl0 rfl).mono ?_
      rintro e e5 ⟨rfl, hB⟩
      have ze5 := hB.size
      (try simp only [World.size_alloc] at ze5)
      have B0 := hid (B0.out.below hB)
      clear hB
      go_wp2_with fail
      refine (eqInts_yes _ _ _ _ y1 y1 _ (B0.out.slI (.head _)) (B0.out.slI (.tail _ (.tail _ (.tail _ (.tail _ (.tail _ (.tail _ (.head _)))))))) hRl1 hRl1 rfl).mono ?_
      rintro e e6 ⟨rfl, hB⟩
      have ze6 := hB.size
      (try simp only [World.size_alloc] at ze6)
      have B0 := hid (B0.out.below hB)
      clear hB
      obtain ⟨lgb0, lgb1⟩ := B0.out.two (.tail _ (.head _))
      go_wp2_with fail
      clear lgb0 lgb1
      refine (heldCx U _ _ y0.length _ (1) _ rfl (B0.out.slI (.tail _ (.tail _ (.tail _ (.head _))))) hRl0 (by omega) (by omega)).mono ?_
      rintro e t3 ⟨rfl, hB⟩
      have zt3 := hB.size
      (try simp only [World.size_alloc] at zt3)
      have B0 := hid (B0.out.below hB)
      clear hB
      go_wp2_with fail
      refine (heldInts _ _ y1.length _ (1 + y0.length) _ rfl (B0.out.slI (.tail _ (.tail _ (.tail _ (.tail _ (.head _)))))) hRl1 (by omega) (by omega)).mono ?_
      rintro e t4 ⟨rfl, hB⟩
      have zt4 := hB.size
      (try simp only [World.size_alloc] at zt4)
      have B0 := hid (B0.out.below hB)
      clear hB
      go_wp2_with fail
      go_ret
      exact ⟨rfl, B0.out.from0⟩

end Go.Proofs.Ytojnpacklcajpaa

namespace Go.Proofs.Ytojnpacklcajpaa.lawCoreOf
open Go.ChangeShapes Go.WideShapes Go.ChangeAt Go.RowKit Go.Joins

set_option maxRecDepth 100000 in
theorem lifted (os : Os) (started : os.Started) (H : Type) (enc : TypeId × Value → H) :
    ReturnsInHanded {} Try.checked os 10 .any (Rows.fnExactCoreOfSpec.pre6 enc Try.prog Try.f10 Rows.fnExactCoreOfRow.domain false) (Rows.fnExactCoreOfSpec.post enc Try.prog Try.f10 false true false false) := by
  refine returnsInHanded_of_change (C := Try.checked) own started (by kernel_rfl) Try.func10
    (ChangeSpec.witness6 (enc := enc) (C := Try.checked) false ⟨#[], #[.agg #[.int .i64 0, .slice none 0 0]], []⟩ 8 (by kernel_rfl) (by kernel_rfl) (by kernel_rfl) (by kernel_rfl)) ?_
  intro W base args ds gs before hval0 hW hcnd _
  have hval : ∀ (j : Nat) t v, Try.f10.params[j]? = some t → args[j]? = some v → Value.okWide Try.prog W .any base t v := hval0
  have hW' := hW
  obtain ⟨p, q, hA0, hV, rfl, hfz, hnd⟩ := hW
  have hA : DataW.TrodAll enc Try.prog W 0 (fun _ => true) true Try.f10.params.toList args.toList ds p := hA0
  rw [Try.params10] at hA hval
  obtain ⟨v0, vs0, d0, ds0, p0, q0, hargs, rfl, rfl, h0, r0⟩ := trodAll_cons hA
  obtain ⟨rfl, rfl, rfl⟩ := trodAll_nil r0
  obtain rfl : args = #[v0] := by cases args; simp_all
  obtain ⟨rfl, rfl⟩ := trodVars_none hV
  have k0 := h0
  have lt0 : ∀ x ∈ p0, x.block < W.heap.size := by obtain ⟨m, hm⟩ := k0; exact DataW.trod_lt m _ _ _ hm
  obtain ⟨c0, c0', y0, y0', m0, rfl, _, _, hy0, hy0'⟩ := open_agg2 Try.underlying24 (by kernel_rfl) (by kernel_rfl) (hval 0 24 v0 rfl rfl) h0
  obtain ⟨V0, e0, _, _⟩ := DataW.trod_int Try.underlying2 hy0
  obtain ⟨a0, len0, cap0, xs0, rfl, rfl, hn0, hx0, _⟩ := slI_of_trod hy0'
  simp at e0
  subst e0
  clear hA0 hval0
  refine (law_CoreOf V0 a0 cap0 xs0 W hx0 hn0).mono fun e W' ⟨he, bel⟩ => ?_
  subst he
  exact ⟨_, rfl, _, _, _, [], _, [], hW', trodAll_mk1 (shut_bool Try.underlying4 _), (trodAll_cons_mk (Below.trod laidOut (by kernel_rfl) (of_decide_eq_true (by kernel_rfl)) k0 bel lt0) trodAll_mk0), rfl, bel.frame _, fun h => by cases h⟩

theorem over : Rows.fnExactCoreOfRow.holds Try.pinned (OpenSpec.ofChange Rows.fnExactCoreOfSpec) :=
  OpenClaim.holds_of_wide 10 Try.f10 rfl rfl rfl rfl rfl rfl rfl ⟨rfl, rfl, rfl, rfl, rfl⟩ rfl rfl rfl rfl rfl (by kernel_rfl) Try.func10 (by kernel_rfl)
    (of_decide_eq_true (by kernel_rfl)) (by unfold Func.isWrapper; first | (rw [if_pos (by decide +kernel)]; kernel_rfl) | (rw [if_neg (by decide +kernel)]; exact ⟨rfl, rfl⟩))
    (fun os started H enc _ => lifted os started H enc)

theorem proved : Rows.FnExactCoreOfSaid := over
end Go.Proofs.Ytojnpacklcajpaa.lawCoreOf
