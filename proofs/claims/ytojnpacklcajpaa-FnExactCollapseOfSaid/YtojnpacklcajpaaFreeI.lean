import Derived.Test.YtojnpacklcajpaaFreeM
import Derived.Test.YtojnpacklcajpaaChan
import Derived.Test.YtojnpacklcajpaaLows
import Derived.Test.YtojnpacklcajpaaCx
import Derived.Test.YtojnpacklcajpaaEqP
import Derived.Deep.LoopGhost
/-! The program's freeFaces: all free pairs lie in a channel that is closed. -/
namespace Go.Proofs.Ytojnpacklcajpaa
open Go.RowKit Go.Conc

/-- A channel that holds pairs. -/
def ChanP (w : World) (c : Nat) (L : List (Int × Int)) (cap : Nat) (cl : Bool) : Prop := ∃ s r : Nat, w.heap[c]? = some (.chan cap (L.map fun p => pairV p.1 p.2).toArray cl s r false)

theorem info_pairC : ∃ i, Try.prog.info? 63 = some i ∧ i.bytes = 16 := by
  have h : (Try.prog.info? 63).map (·.bytes) = some 16 := by kernel_rfl
  obtain ⟨i, hi, hb⟩ := Option.map_eq_some_iff.1 h
  exact ⟨i, hi, hb⟩

theorem makeChanP (w : World) (n : Nat) (hn : n ≤ 1048576) : (Instr.makeChan 99 (.int .i64 (n : Int))).run Try.prog w = .ok (.chan (some w.heap.size)) (w.alloc (.chan n #[] false 0 0 false)) := by
  obtain ⟨i, hi, hb⟩ := info_pairC
  exact run_makeChan (P := Try.prog) (w := w) Try.underlying99 hi .i64 n (by omega) (by rw [hb]; omega)

/-- The world of freeFaces: the box of the complex, and the channel. -/
structure FrW (w wr : World) (V : Int) (sl : Value) (L : List (Int × Int)) (n : Nat) : Prop where
  box : wr.heap[w.heap.size]? = some (.cells #[.int .i64 V, sl] 29 (0, 0))
  ch : ChanP wr (w.heap.size + 1) L n false
  below : Below w.heap.size w wr
  sz : w.heap.size + 2 ≤ wr.heap.size

/-- What the variable pair holds once some of the others are met. -/
def prOf (f : Nat) (us : List Int) : Int × Int := match us with | [] => (0, 0) | g :: _ => (f, g)

theorem FrW.alloc {w wr : World} {V : Int} {sl : Value} {L : List (Int × Int)} {n : Nat} (h : FrW w wr V sl L n) (o : Obj) : FrW w (wr.alloc o) V sl L n := by
  obtain ⟨s, r, hc⟩ := h.ch
  have := h.sz
  exact ⟨(Below.heap_alloc _ _ _ (by omega)).trans h.box, ⟨s, r, (Below.heap_alloc _ _ _ (by omega)).trans hc⟩, h.below.alloc (by omega) _, by simp; omega⟩
theorem FrW.set {w wr : World} {V : Int} {sl : Value} {L : List (Int × Int)} {n : Nat} (h : FrW w wr V sl L n) {b o : Nat} (hb : w.heap.size + 2 ≤ b) (u : Value) : FrW w (wr.setCell ⟨b, o, none⟩ u) V sl L n := by
  obtain ⟨s, r, hc⟩ := h.ch
  have e : ∀ k, k ≠ b → (wr.setCell ⟨b, o, none⟩ u).heap[k]? = wr.heap[k]? := fun k hk => by
    simp only [World.setCell]
    rw [Array.getElem?_modify]
    rw [if_neg (fun e => hk e.symm)]
  exact ⟨(e _ (by omega)).trans h.box, ⟨s, r, (e _ (by omega)).trans hc⟩, h.below.setCell (p := ⟨b, o, none⟩) (by show w.heap.size ≤ b; omega) _, by simp [World.setCell]; exact h.sz⟩

theorem FrW.send {w wr wz : World} {V : Int} {sl : Value} {L : List (Int × Int)} {n s r : Nat} {x y : Int} (h : FrW w wr V sl L n) (hz : wz = wr.setChan (w.heap.size + 1) n ((L.map fun p => pairV p.1 p.2).toArray.push (.agg #[.int .i64 x, .int .i64 y])) false (s + 1) r false) :
    FrW w wz V sl (L ++ [(x, y)]) n := by
  subst hz
  have hs := h.sz
  refine ⟨?_, ⟨s + 1, r, ?_⟩, below_setChan h.below (by omega) _ _ _ _ _ _, by rw [size_setChan]; exact hs⟩
  · simp only [World.setChan]
    rw [Array.getElem?_setIfInBounds_ne (by omega)]
    exact h.box
  · rw [heap_setChan wr _ _ _ _ _ _ _ (by omega)]
    simp [pairV]

set_option maxRecDepth 100000 in
set_option maxHeartbeats 4000000 in
theorem freeF_any (V : Int) (a0 : Option Addr) (cap : Nat) (fs : List Int) (w : World) (hx : SlI w w.heap.size a0 fs) (hl : fs.length ≤ 1048576) (hf : ∀ x ∈ fs, 1 ≤ x ∧ x ≤ 63) :
    Calls Try.prog 57 #[.agg #[.int .i64 V, .slice a0 fs.length cap]] w fun e w' => ∃ c, e = .returned (.chan (some c)) ∧ w.heap.size ≤ c ∧ ChanP w' c (freeP fs fs) fs.length true ∧ Below w.heap.size w w' := by
  have hmk := makeChanP (w.alloc (.cells #[.int .i64 V, .slice a0 fs.length cap] 29)) fs.length hl
  have H0 : Hid (FrW w ((w.alloc (.cells #[.int .i64 V, .slice a0 fs.length cap] 29)).alloc (.chan fs.length #[] false 0 0 false)) V (.slice a0 fs.length cap) [] fs.length) := hid
    ⟨by rw [Below.heap_alloc _ _ _ (by simp)]; exact heap_alloc_new _ _, ⟨0, 0, new2 _ _ _⟩, ((Below.refl _ w).alloc (Nat.le_refl _) _).alloc (by simp) _, by simp⟩
  have Hx0 := hid hx
  have Hf := hid hf
  clear hx hf
  go_enter Try.func57, Try.ntmps57
  go_wp2
  go_step3
  go_wp2
  go_step3
  go_wp2
  clear hmk
  go_loopg [16] fs.length (fun g i wr => ∃ k : Nat, k + g = fs.length ∧ i = .int .i64 k ∧ FrW w wr V (.slice a0 fs.length cap) (freeP fs (fs.take k)) fs.length)
  case atStart => exact ⟨0, by omega, rfl, by simpa [freeP] using H0.out⟩
  case round =>
    obtain ⟨k, hkg, rfl, hW⟩ := hrel
    clear H0
    obtain ⟨s, r, hch⟩ := hW.ch
    have HW := hid hW
    cases gk with
    | zero =>
      obtain rfl : k = fs.length := by omega
      have hcl := fun ats ty => run_close_open (P := Try.prog) (w := wr) ats ty hch
      go_wp2
      try rw [Exit.noGoto_ret]
      go_ret
      rw [List.take_of_length_le (Nat.le_refl _)] at hch
      have hlt1 := HW.out.sz
      exact ⟨_, rfl, by omega, ⟨s, r, heap_setChan wr (w.heap.size + 1) fs.length _ true s r false (by omega)⟩, below_setChan (w := wr) HW.out.below (by omega : w.heap.size ≤ w.heap.size + 1) fs.length _ true s r false⟩
    | succ g =>
      have hlt : k < fs.length := by omega
      obtain ⟨b, off, hb, rfl, hc⟩ : ∃ b off, b < w.heap.size ∧ a0 = some ⟨b, off, none⟩ ∧ ∀ i, i < fs.length → w.cell? ⟨b, off + i, none⟩ = some (.int .i64 (fs[i]?.getD 0)) := by
        rcases Hx0.out with rfl | h
        · simp at hlt
        · exact h
      have Hc := hid hc
      clear hc
      obtain ⟨f, hf⟩ : ∃ f : Nat, (f : Int) = fs[k]?.getD 0 := ⟨(fs[k]?.getD 0).toNat, by have := Hf.out _ (getD_mem hlt); omega⟩
      have hfr := Hf.out _ (getD_mem hlt)
      rw [← hf] at hfr
      have hf64 : f < 64 := by omega
      have hck : wr.cell? ⟨b, off + k, none⟩ = some (.int .i64 (f : Int)) := by rw [hf]; exact (hW.below.cell (p := ⟨b, off + k, none⟩) hb).trans (Hc.out k hlt)
      have hi0 : (0 : Int) ≤ (k : Int) := by omega
      have hi1 : (k : Int) < (fs.length : Int) := by omega
      obtain ⟨k0, k1, _, _⟩ := two_of hW.box
      have H1 : Hid (FrW w (wr.alloc (.cells #[.int .i64 0, .int .i64 0] 63)) V (.slice (some ⟨b, off, none⟩) fs.length cap) (freeP fs (fs.take k)) fs.length) := hid (hW.alloc _)
      have Hn : Hid (freeP fs (fs.take (k + 1)) = freeP fs (fs.take k) ++ (if freeG fs f = 0 then [] else [((f : Int), freeG fs f)])) := hid (by rw [take_snoc hlt, freeP_snoc, ← hf, Int.toNat_natCast])
      have hsz := hW.sz
      have a2 : (wr.alloc (.cells #[.int .i64 0, .int .i64 0] 63)).cell? ⟨w.heap.size, 1, none⟩ = some (.slice (some ⟨b, off, none⟩) fs.length cap) := cell_alloc_drew1 k1 _
      have hnew := heap_alloc_new wr (.cells #[.int .i64 0, .int .i64 0] 63)
      have Heq := eq_pairF
      obtain ⟨N, hN⟩ : ∃ N, N = wr.heap.size := ⟨_, rfl⟩
      rw [← hN] at hsz hnew
      have HN := hid hnew
      clear hch hW hf hnew
      go_wp2
      rw [← hN]
      clear hck hN a2 k0 k1 HW Heq hi0 hi1
      go_loopg [24] fs.length (fun g2 i wx => ∃ j : Nat, j + g2 = fs.length ∧ i = .int .i64 j ∧ (upF (fs.take j) f).length ≤ 1 ∧ wx.heap[N]? = some (.cells #[.int .i64 (prOf f (upF (fs.take j) f)).1, .int .i64 (prOf f (upF (fs.take j) f)).2] 63 (0, 0)) ∧ FrW w wx V (.slice (some ⟨b, off, none⟩) fs.length cap) (freeP fs (fs.take k)) fs.length)
      case atStart => exact ⟨0, by omega, rfl, by simp [upF], HN.out, H1.out⟩
      case round =>
        clear H1 HN
        obtain ⟨j, hjg, rfl, hu1, hpb, hW⟩ := hrel
        obtain ⟨p0, p1, q0, q1⟩ := two_of hpb
        have HW := hid hW
        have Hpb := hid hpb
        cases gk with
        | zero =>
          obtain rfl : j = fs.length := by omega
          rw [List.take_of_length_le (Nat.le_refl _)] at hu1 hpb p0 p1
          have Heq := eq_pairF
          have hfl : (freeP fs (fs.take k)).length < fs.length := Nat.lt_of_le_of_lt (freeP_len fs _) (by simp; omega)
          rcases hu : upF fs f with _ | ⟨g0, _ | ⟨g1, l⟩⟩
          · rw [hu] at hpb p0 p1
            simp only [prOf] at p0 p1
            have Hz : Hid (freeG fs f = 0) := hid (by unfold freeG; rw [hu]; rfl)
            clear hu hu1 hW hpb Hpb
            go_wp2
            go_roundg g
            case measure => omega
            case rel => exact ⟨k + 1, by omega, by go_num, by rw [Hn.out, if_pos Hz.out]; simpa using HW.out⟩
          · rw [hu] at hpb p0 p1
            simp only [prOf] at p0 p1
            have hg0 : ((f : Int) == 0) = false := by simp; omega
            have hgf : freeG fs f = g0 := by unfold freeG; rw [hu]; rfl
            have hgm := Hf.out g0 (upF_mem (f := f) (by rw [hu]; simp)).1
            have Hz : Hid (freeP fs (fs.take (k + 1)) = freeP fs (fs.take k) ++ [((f : Int), g0)]) := hid (by rw [Hn.out, hgf, if_neg (by omega)])
            clear hu hu1 hW hpb Hpb hgf hgm
            iterate 28 (first | go_values | go_skip | go_guarded | go_step | go_upon | go_back)
            obtain ⟨s, r, hch⟩ := HW.out.ch
            refine region_to ?_
            refine opsTo_val (i := 0) (o := _) (v := .chan (some (w.heap.size + 1))) (w' := wr) rfl rfl rfl ?_
            refine opsTo_val (i := 1) (o := _) (v := .agg #[.int .i64 (f : Int), .int .i64 g0]) (w' := wr) rfl rfl (by go_simp) ?_
            refine opsTo_send (i := 2) (o := _) (c := w.heap.size + 1) (v := .agg #[.int .i64 (f : Int), .int .i64 g0]) (z := .tuple #[]) rfl rfl (by simp [execOp, scase, Act.eval, Act.put]) hch (by simpa using hfl) ?_
            refine opsTo_of_wp ?_
            simp only [wpOps]
            obtain ⟨wz, hwz⟩ : ∃ wz, wz = wr.setChan (w.heap.size + 1) fs.length (((freeP fs (fs.take k)).map fun p => pairV p.1 p.2).toArray.push (.agg #[.int .i64 (f : Int), .int .i64 g0])) false (s + 1) r false := ⟨_, rfl⟩
            have HZ := hid (HW.out.send hwz)
            rw [← hwz]
            clear hwz hch
            go_simp
            go_wp2
            go_roundg g
            case measure => omega
            case rel => exact ⟨k + 1, by omega, by go_num, by rw [Hz.out]; exact HZ.out⟩
          · rw [hu] at hu1; simp at hu1
        | succ g2 =>
          have hjl : j < fs.length := by omega
          obtain ⟨y, hy⟩ : ∃ y : Nat, (y : Int) = fs[j]?.getD 0 := ⟨(fs[j]?.getD 0).toNat, by have := Hf.out _ (getD_mem hjl); omega⟩
          have hyr := Hf.out _ (getD_mem hjl)
          rw [← hy] at hyr
          have hy64 : y < 64 := by omega
          have hcj : wr.cell? ⟨b, off + j, none⟩ = some (.int .i64 (y : Int)) := by rw [hy]; exact (hW.below.cell (p := ⟨b, off + j, none⟩) hb).trans (Hc.out j hjl)
          have hj0 : (0 : Int) ≤ (j : Int) := by omega
          have hj1 : (j : Int) < (fs.length : Int) := by omega
          have Hs : Hid (∀ c, decide (y &&& f = f ∧ y ≠ f) = c → upF (fs.take (j + 1)) f = upF (fs.take j) f ++ (if c then [(y : Int)] else [])) := hid (fun c hc => by rw [hy]; exact upF_snoc hjl c (by rw [← hy, Int.toNat_natCast]; exact hc))
          have hand := and_int64 hy64 hf64
          by_cases hyf : y = f
          · subst hyf
            have hd : ((y : Int) == (y : Int)) = true := by simp
            have HS := hid (Hs.out false (by simp))
            clear hW hpb hy
            go_wp2
            go_roundg g2
            case measure => omega
            case rel => exact ⟨j + 1, by omega, by go_num, by rw [HS.out]; simpa using hu1, by rw [HS.out]; simpa using Hpb.out, HW.out⟩
          · have hd : ((y : Int) == (f : Int)) = false := by simp; omega
            by_cases hyx : y &&& f = f
            · have hd2 : (((y &&& f : Nat) : Int) != (f : Int)) = false := by simp [hyx]
              have HS := hid (Hs.out true (by simp [hyx, hyf]))
              have Heq := eq_pairF
              clear hy hpb
              rcases hu : upF (fs.take j) f with _ | ⟨g0, _ | ⟨g1, l⟩⟩
              · rw [hu] at HS Hpb p0 p1
                simp only [prOf] at p0 p1
                have Hu := hid hu
                clear hu hu1 hW
                go_wp2
                go_roundg g2
                case measure => omega
                case rel => exact ⟨j + 1, by omega, by go_num, by rw [HS.out]; simp, by rw [HS.out]; exact two_set Hpb.out _ _, (HW.out.set hsz _).set hsz _⟩
              · rw [hu] at HS Hpb p0 p1
                simp only [prOf] at p0 p1
                have hg0 : ((f : Int) == 0) = false := by simp; omega
                have Hz : Hid (freeG fs f = 0) := hid (freeG_two (j := j + 1) (by rw [HS.out]; simp))
                clear hu hu1 hW
                go_wp2
                go_roundg g
                case measure => omega
                case rel => exact ⟨k + 1, by omega, by go_num, by rw [Hn.out, if_pos Hz.out]; simpa using HW.out⟩
              · rw [hu] at hu1; simp at hu1
            · have hd2 : (((y &&& f : Nat) : Int) != (f : Int)) = true := by simp; omega
              have HS := hid (Hs.out false (by simp [hyx]))
              clear hW hpb hy
              go_wp2
              go_roundg g2
              case measure => omega
              case rel => exact ⟨j + 1, by omega, by go_num, by rw [HS.out]; simpa using hu1, by rw [HS.out]; simpa using Hpb.out, HW.out⟩

end Go.Proofs.Ytojnpacklcajpaa
