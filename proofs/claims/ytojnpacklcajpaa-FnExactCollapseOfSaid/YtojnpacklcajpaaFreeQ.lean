import Derived.Test.YtojnpacklcajpaaFreeP
import Derived.Test.YtojnpacklcajpaaHaving
/-! The program's freePairOf. -/
namespace Go.Proofs.Ytojnpacklcajpaa
open Go.RowKit Go.Conc

set_option maxRecDepth 100000 in
theorem load_pr {w : World} {b o : Nat} {x y : Value} (h0 : w.cell? ⟨b, o, none⟩ = some x) (h1 : w.cell? ⟨b, o + 1, none⟩ = some y) :
    (loadVar 63 ⟨b, o, none⟩).run Try.prog w = .ok (.agg #[x, y]) w := by
  go_simp

set_option maxRecDepth 100000 in
theorem done_pr {fn : Func} {R : Ending → World → Prop} {a : Act} {w : World} {p u : Tmp} (hr : fn.results = #[.cell p 63, .tmp u]) (hd : a.defers = []) {b o : Nat} {x y c : Value}
    (hp : a.tmps.getD p undef = .pointer (some ⟨b, o, none⟩)) (h0 : w.cell? ⟨b, o, none⟩ = some x) (h1 : w.cell? ⟨b, o + 1, none⟩ = some y) (hu : a.tmps.getD u undef = c) (hR : R (.returned (.tuple #[.agg #[x, y], c])) w) : bodyPost Try.prog fn R .ret a w := by
  refine bodyPost_ret (v := .tuple #[.agg #[x, y], c]) ?_ hd hR
  rw [results_cell_tmp hr, hp, hu]
  show ((loadVar 63 ⟨b, o, none⟩).run Try.prog w).andThen _ = _
  rw [load_pr h0 h1]
  rfl

set_option maxRecDepth 100000 in
theorem done_pr1 {fn : Func} {R : Ending → World → Prop} {a : Act} {w : World} {p : Tmp} (hr : fn.results = #[.cell p 63]) (hd : a.defers = []) {b o : Nat} {x y : Value}
    (hp : a.tmps.getD p undef = .pointer (some ⟨b, o, none⟩)) (h0 : w.cell? ⟨b, o, none⟩ = some x) (h1 : w.cell? ⟨b, o + 1, none⟩ = some y) (hR : R (.returned (.agg #[x, y])) w) : bodyPost Try.prog fn R .ret a w := by
  refine bodyPost_ret (v := .agg #[x, y]) ?_ hd hR
  have hp' : a.tmps[p]?.getD undef = .pointer (some ⟨b, o, none⟩) := by simpa using hp
  simp [results, hr, hp', asAddr, load_pr h0 h1]

theorem two_set1 {W : World} {b : Nat} {x y : Value} {t : Nat} (h : W.heap[b]? = some (.cells #[x, y] t (0, 0))) (u : Value) : (W.setCell ⟨b, 0, none⟩ u).heap[b]? = some (.cells #[u, y] t (0, 0)) := by
  simp only [World.setCell, Array.getElem?_modify, h]
  simp

/-- What freePairOf hands back for a face. -/
def fpOf (fs : List Int) (f : Int) : Int × Int := if freeG fs f.toNat = 0 then (0, 0) else (f, freeG fs f.toNat)

/-- A receive from a channel of pairs that is closed: what the walk goes on with. -/
theorem chan_some {w wr : World} {c : Nat} {x y : Int} {M : List (Int × Int)} {n s r : Nat} (hch : wr.heap[c]? = some (.chan n (((x, y) :: M).map fun p => pairV p.1 p.2).toArray true s r false)) (hcs : w.heap.size ≤ c) (hB : Below w.heap.size w wr) :
    ∃ wz, wz = wr.setChan c n ((((x, y) :: M).map fun p => pairV p.1 p.2).toArray.extract 1 (((x, y) :: M).map fun p => pairV p.1 p.2).toArray.size) true s (r + 1) false ∧ ChanP wz c M n true ∧ Below w.heap.size w wz ∧ (∀ b o, b ≠ c → wr.heap[b]? = some o → wz.heap[b]? = some o) := by
  rw [chan_rest]
  refine ⟨_, rfl, ⟨s, r + 1, heap_setChan wr c _ _ _ _ _ _ (lt_get hch)⟩, below_setChan hB hcs _ _ _ _ _ _, fun b o hb ho => ?_⟩
  simp only [World.setChan]
  rw [Array.getElem?_setIfInBounds_ne (by omega)]
  exact ho

theorem ChanP.alloc {w : World} {c : Nat} {L : List (Int × Int)} {n : Nat} {cl : Bool} (h : ChanP w c L n cl) (o : Obj) : ChanP (w.alloc o) c L n cl := by
  obtain ⟨s, r, hc⟩ := h
  exact ⟨s, r, (Below.heap_alloc w o c (lt_get hc)).trans hc⟩

set_option maxRecDepth 100000 in
set_option maxHeartbeats 4000000 in
theorem fpo_yes (V : Int) (a0 : Option Addr) (cap : Nat) (fs : List Int) (f : Int) (w : World) (hx : SlI w w.heap.size a0 fs) (hl : fs.length ≤ 1048576) (hC : IsC V fs) (hm : f ∈ fs) :
    Calls Try.prog 61 #[.agg #[.int .i64 V, .slice a0 fs.length cap], .int .i64 f] w fun e w' => e = .returned (.tuple #[.agg #[.int .i64 (fpOf fs f).1, .int .i64 (fpOf fs f).2], .int .i64 0]) ∧ Below w.heap.size w w' := by
  have hB0 : Below w.heap.size w ((w.alloc (.cells #[.int .i64 V, .slice a0 fs.length cap] 29)).alloc (.cells #[.int .i64 0, .int .i64 0] 63)) := ((Below.refl _ w).alloc (Nat.le_refl _) _).alloc (by simp) _
  have Hx := hid (hx.later hB0 hB0.size)
  have HC := hid hC
  have Hf := hid hC.range63
  have Hm := hid hm
  have Hlen := hid (freeP_len fs fs)
  obtain ⟨L, hL⟩ : ∃ L, L = freeP fs fs := ⟨_, rfl⟩
  have HL := hid hL
  obtain ⟨F, hF⟩ : ∃ F, F = fpOf fs f := ⟨_, rfl⟩
  have HF := hid hF
  rw [← hL] at Hlen
  rw [← hF]
  clear hC hL hF hm
  go_enter Try.func61, Try.ntmps61
  go_wp2_with fail
  refine (fh_yes V a0 cap fs _ _ Hx.out hl HC.out Hm.out).mono ?_
  rintro e w1 ⟨b, rfl, _, _, hB1⟩
  have q0 : w1.heap[w.heap.size]? = some (.cells #[.int .i64 V, .slice a0 fs.length cap] 29 (0, 0)) := (hB1.block _ (by simp <;> omega)).trans ((Below.heap_alloc _ _ _ (by simp)).trans (heap_alloc_new _ _))
  have r1 : w1.heap[w.heap.size + 1]? = some (.cells #[.int .i64 0, .int .i64 0] 63 (0, 0)) := (hB1.block _ (by simp <;> omega)).trans (new2 _ _ _)
  have hB01 := hB0.trans (hB1.mono (by simp <;> omega))
  have HB01 := hid hB01
  have hx1 := hid (hx.later hB01 hB01.size)
  obtain ⟨k0, k1, _, _⟩ := two_of q0
  have R1 := hid r1
  clear hB0 hB01 hB1 q0 r1
  go_wp2_with fail
  refine (freeF_any V a0 cap fs _ hx1.out hl Hf.out).mono ?_
  rintro e w2 ⟨c, rfl, hcs, hch, hB2⟩
  have HB2 := hid (HB01.out.trans (hB2.mono HB01.out.size))
  have Hcs := hid (Nat.le_trans HB01.out.size hcs)
  have Hne := hid (show w.heap.size + 1 ≠ c by have := lt_get R1.out; omega)
  have R2 := hid ((hB2.block _ (lt_get R1.out)).trans R1.out)
  rw [← HL.out] at hch
  have Hch := hid hch
  clear hB2 hch hcs k0 k1 R1
  go_wp2_with fail
  go_loopg [] L.length (fun gg wr => ∃ pre R : List (Int × Int), L = pre ++ R ∧ R.length = gg ∧ Hid (∀ p ∈ pre, p.1 ≠ f) ∧ ChanP wr c R fs.length true ∧ wr.heap[w.heap.size + 1]? = some (.cells #[.int .i64 0, .int .i64 0] 63 (0, 0)) ∧ Below w.heap.size w wr)
  case atStart => exact ⟨[], L, rfl, rfl, hid (by simp), Hch.out, R2.out, HB2.out⟩
  case round =>
    obtain ⟨pre, R, hLR, hR, Hpre, ⟨s, r, hch⟩, hres, hB⟩ := hrel
    have HR := hid hres
    clear hres
    cases gk with
    | zero =>
      obtain rfl : R = [] := by cases R with | nil => rfl | cons _ _ => simp at hR
      have Hz : Hid (F = (0, 0)) := hid (by
        rw [HF.out]
        unfold fpOf
        by_cases h0 : freeG fs f.toNat = 0
        · rw [if_pos h0]
        · have : (f, freeG fs f.toNat) ∈ freeP fs fs := mem_freeP.2 ⟨Hm.out, h0, rfl⟩
          rw [← HL.out, hLR, List.append_nil] at this
          exact absurd rfl (Hpre.out _ this))
      iterate 1 (first | go_values | go_skip | go_guarded | go_step | go_upon | go_back)
      have hz := zero_pair wr
      have hu := Try.underlying65
      refine region_to ?_
      refine opsTo_shut (i := 0) (o := _) (c := c) (z := .agg #[.int .i64 0, .int .i64 0]) (ok := true) rfl rfl (by simp [go_sem, rcase, execOp, Act.eval, hz, run_underlying hu]) hch ?_
      refine opsTo_val (i := 1) (o := _) (v := .bool false) (w' := wr) rfl rfl rfl ?_
      refine opsTo_nil ?_
      simp only [got]
      clear hch hz hu hLR hR
      obtain ⟨c0, c1, f0, f1⟩ := two_of HR.out
      go_simp
      go_wp2
      (try simp only [Exit.inBlock, Exit.then])
      have R3 := two_of (two_set HR.out (.int .i64 0) (.int .i64 0))
      refine done_pr (p := 4) (u := 5) (c := .int .i64 0) (by kernel_rfl) rfl rfl R3.1 R3.2.1 rfl ⟨by rw [Hz.out], ?_⟩
      exact (hB.setCell (p := ⟨w.heap.size + 1, 0, none⟩) (by show w.heap.size ≤ w.heap.size + 1; omega) _).setCell (p := ⟨w.heap.size + 1, 1, none⟩) (by show w.heap.size ≤ w.heap.size + 1; omega) _
    | succ g =>
      obtain ⟨x, y, M, rfl⟩ : ∃ x y M, R = (x, y) :: M := by
        cases R with
        | nil => simp at hR
        | cons p M => exact ⟨p.1, p.2, M, rfl⟩
      iterate 1 (first | go_values | go_skip | go_guarded | go_step | go_upon | go_back)
      have hz := zero_pair wr
      have hu := Try.underlying65
      refine region_to ?_
      refine opsTo_recv (i := 0) (o := _) (c := c) (z := .agg #[.int .i64 0, .int .i64 0]) (ok := true) rfl rfl (by simp [go_sem, rcase, execOp, Act.eval, hz, run_underlying hu]) hch (by simp) ?_
      rw [chan_get]
      obtain ⟨wz, hwz, hch2, hB2, hkeep⟩ := chan_some hch Hcs.out hB
      have HR2 := hid (hkeep _ _ Hne.out HR.out)
      rw [← hwz]
      refine opsTo_val (i := 1) (o := _) (v := .bool true) (w' := wz) rfl rfl rfl ?_
      refine opsTo_nil ?_
      simp only [got, pairV]
      have Hch2 := hid hch2
      have HB3 := hid hB2
      have hsz := hB2.size
      have hzl : w.heap.size + 1 < wz.heap.size := lt_get HR2.out
      have HLR := hid hLR
      have HRM : Hid (M.length = g) := hid (by simpa using hR)
      obtain ⟨c0, c1, f0, f1⟩ := two_of ((Below.heap_alloc wz (.cells #[.int .i64 x, .int .i64 y] 63) _ (lt_get HR2.out)).trans HR2.out)
      clear hch hz hu hwz hB hch2 hB2 hLR hR hkeep
      go_simp
      by_cases hxf : x = f
      · subst hxf
        have hd : (x == x) = true := by simp
        have Hz : Hid (F = (x, y)) := hid (by
          have hmem : ((x, y) : Int × Int) ∈ freeP fs fs := by rw [← HL.out, HLR.out]; simp
          have := mem_freeP.1 hmem
          rw [HF.out]
          unfold fpOf
          have h3 : y = freeG fs x.toNat := this.2.2
          rw [if_neg this.2.1, ← h3])
        obtain ⟨_, _, g0, g1⟩ := two_of ((Below.heap_alloc (wz.setCell ⟨w.heap.size + 1, 0, none⟩ (.int .i64 x)) (.cells #[.int .i64 x, .int .i64 y] 63) (w.heap.size + 1) (by simp [World.setCell]; omega)).trans (two_set1 HR2.out (.int .i64 x)))
        go_wp2
        (try simp only [Exit.inBlock, Exit.then])
        have R3 := two_of ((Below.heap_alloc ((wz.setCell ⟨w.heap.size + 1, 0, none⟩ (.int .i64 x)).setCell ⟨w.heap.size + 1, 1, none⟩ (.int .i64 y)) (.cells #[.int .i64 x, .int .i64 y] 63) (w.heap.size + 1) (by simp [World.setCell]; omega)).trans (two_set HR2.out (.int .i64 x) (.int .i64 y)))
        refine done_pr (p := 4) (u := 5) (c := .int .i64 0) (by kernel_rfl) rfl rfl R3.1 R3.2.1 rfl ⟨by rw [Hz.out], ?_⟩
        exact ((HB3.out.setCell (p := ⟨w.heap.size + 1, 0, none⟩) (by show w.heap.size ≤ w.heap.size + 1; omega) _).setCell (p := ⟨w.heap.size + 1, 1, none⟩) (by show w.heap.size ≤ w.heap.size + 1; omega) _).alloc (by simp [World.setCell]; omega) _
      · have hd : (x == f) = false := by simpa using hxf
        have Hxf := hid hxf
        clear hxf
        go_wp2
        go_roundg g
        case measure => omega
        case rel =>
          refine ⟨pre ++ [(x, y)], M, by rw [HLR.out]; simp, by have := HRM.out; omega, hid ?_, Hch2.out.alloc _, (Below.heap_alloc wz _ _ (lt_get HR2.out)).trans HR2.out, HB3.out.alloc hsz _⟩
          intro p hp
          rcases List.mem_append.1 hp with h | h
          · exact Hpre.out p h
          · simp at h; subst h; exact Hxf.out

set_option maxRecDepth 100000 in
set_option maxHeartbeats 2000000 in
theorem fpo_no (V : Int) (a0 : Option Addr) (cap : Nat) (fs : List Int) (f : Int) (w : World) (hx : SlI w w.heap.size a0 fs) (hl : fs.length ≤ 1048576) (hC : IsC V fs) (wd : (Lit.int .i64 f).wf = true) (hm : f ∉ fs) :
    Calls Try.prog 61 #[.agg #[.int .i64 V, .slice a0 fs.length cap], .int .i64 f] w fun e w' => e = .returned (.tuple #[.agg #[.int .i64 0, .int .i64 0], .int .i64 2]) ∧ Below w.heap.size w w' := by
  have hB0 : Below w.heap.size w ((w.alloc (.cells #[.int .i64 V, .slice a0 fs.length cap] 29)).alloc (.cells #[.int .i64 0, .int .i64 0] 63)) := ((Below.refl _ w).alloc (Nat.le_refl _) _).alloc (by simp) _
  have Hx := hid (hx.later hB0 hB0.size)
  go_enter Try.func61, Try.ntmps61
  go_wp2_with fail
  refine (fh_no V a0 cap fs _ _ Hx.out hl hC wd hm).mono ?_
  rintro e w1 ⟨rfl, hB1⟩
  have r1 : w1.heap[w.heap.size + 1]? = some (.cells #[.int .i64 0, .int .i64 0] 63 (0, 0)) := (hB1.block _ (by simp <;> omega)).trans (new2 _ _ _)
  have hB01 := hB0.trans (hB1.mono (by simp <;> omega))
  obtain ⟨c0, c1, f0, f1⟩ := two_of r1
  have R1 := hid r1
  clear r1
  go_wp2_with fail
  (try simp only [Exit.inBlock, Exit.then])
  have R3 := two_of (two_set R1.out (.int .i64 0) (.int .i64 0))
  refine done_pr (p := 4) (u := 5) (c := .int .i64 2) (by kernel_rfl) rfl rfl R3.1 R3.2.1 rfl ⟨rfl, ?_⟩
  exact (hB01.setCell (p := ⟨w.heap.size + 1, 0, none⟩) (by show w.heap.size ≤ w.heap.size + 1; omega) _).setCell (p := ⟨w.heap.size + 1, 1, none⟩) (by show w.heap.size ≤ w.heap.size + 1; omega) _

set_option maxRecDepth 100000 in
set_option maxHeartbeats 2000000 in
theorem fpo_bad (V : Int) (a0 : Option Addr) (cap : Nat) (fs : List Int) (f : Int) (w : World) (hx : SlI w w.heap.size a0 fs) (hl : fs.length ≤ 1048576) (hC : ¬ IsC V fs) :
    Calls Try.prog 61 #[.agg #[.int .i64 V, .slice a0 fs.length cap], .int .i64 f] w fun e w' => e = .returned (.tuple #[.agg #[.int .i64 0, .int .i64 0], .int .i64 1]) ∧ Below w.heap.size w w' := by
  have hB0 : Below w.heap.size w ((w.alloc (.cells #[.int .i64 V, .slice a0 fs.length cap] 29)).alloc (.cells #[.int .i64 0, .int .i64 0] 63)) := ((Below.refl _ w).alloc (Nat.le_refl _) _).alloc (by simp) _
  have Hx := hid (hx.later hB0 hB0.size)
  go_enter Try.func61, Try.ntmps61
  go_wp2_with fail
  refine (fh_bad V a0 cap fs _ _ Hx.out hl hC).mono ?_
  rintro e w1 ⟨rfl, hB1⟩
  have r1 : w1.heap[w.heap.size + 1]? = some (.cells #[.int .i64 0, .int .i64 0] 63 (0, 0)) := (hB1.block _ (by simp <;> omega)).trans (new2 _ _ _)
  have hB01 := hB0.trans (hB1.mono (by simp <;> omega))
  obtain ⟨c0, c1, f0, f1⟩ := two_of r1
  have R1 := hid r1
  clear r1
  go_wp2_with fail
  (try simp only [Exit.inBlock, Exit.then])
  have R3 := two_of (two_set R1.out (.int .i64 0) (.int .i64 0))
  refine done_pr (p := 4) (u := 5) (c := .int .i64 1) (by kernel_rfl) rfl rfl R3.1 R3.2.1 rfl ⟨rfl, ?_⟩
  exact (hB01.setCell (p := ⟨w.heap.size + 1, 0, none⟩) (by show w.heap.size ≤ w.heap.size + 1; omega) _).setCell (p := ⟨w.heap.size + 1, 1, none⟩) (by show w.heap.size ≤ w.heap.size + 1; omega) _

end Go.Proofs.Ytojnpacklcajpaa
