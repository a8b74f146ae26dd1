import Derived.Test.YtmkknfdjoajpcaaShS
import Derived.Deep.LoopGhost
/-! followedBy: nodes with pointers. -/
namespace Go.Proofs.Ytmkknfdjoajpcaa
open Go.RowKit Go.Shelf

/-- What of f is not in o. -/
def ndiff (f o : Nat) : Nat := f - (f &&& o)
theorem ndiff_le (f o : Nat) : ndiff f o ≤ f := Nat.sub_le _ _
set_option maxRecDepth 100000 in
theorem ndiff_bits : ∀ f o : Fin 64, bits BinOp.andNot IntKind.i64 (f.val : Int) (o.val : Int) = ((ndiff f.val o.val : Nat) : Int) := by decide +kernel
theorem or_bits {x y : Nat} (hx : x < 64) (hy : y < 64) : bits BinOp.or IntKind.i64 (x : Int) (y : Int) = ((x ||| y : Nat) : Int) := (bits_nat .i64 6 (by decide) (fun n h0 h1 => by rw [IntKind.wrap_i64]; omega) x y (by omega) (by omega)).2
theorem or_lt {x y : Nat} (hx : x < 64) (hy : y < 64) : x ||| y < 64 := Nat.or_lt_two_pow (n := 6) hx hy

/-- The restriction of f behind the facets of a chain, the last one first. -/
def fRs (f : Nat) (L : List (Nat × Nat)) (r : Nat) : Nat := L.foldl (fun r o => if ones (ndiff f o.1) = 1 then r ||| ndiff f o.1 else r) r
def fR (f : Nat) (L : List (Nat × Nat)) : Nat := fRs f L 0
def fG (f : Nat) (L : List (Nat × Nat)) : Bool := L.all fun o => decide (ndiff (fR f L) o.1 ≠ 0)
theorem fRs_lt {f : Nat} (hf : f < 64) : ∀ (L : List (Nat × Nat)) (r : Nat), r < 64 → fRs f L r < 64
  | [], r, h => h
  | o :: L, r, h => by
    unfold fRs
    rw [List.foldl_cons]
    refine fRs_lt hf L _ ?_
    split
    · exact or_lt h (Nat.lt_of_le_of_lt (ndiff_le _ _) hf)
    · exact h

/-- A chain of nodes lies from p on: facets and restrictions, the last one first. -/
def ChainAt (W : World) : Option Addr → List (Nat × Nat) → Prop
  | p, [] => p = none
  | p, (f, r) :: L => ∃ b p', p = some ⟨b, 0, none⟩ ∧ W.heap[b]? = some (.cells #[.int .i64 (f : Int), .int .i64 (r : Int), .pointer p'] 110 (0, 0)) ∧ f < 64 ∧ r < 64 ∧ ChainAt W p' L
theorem ChainAt.later {W W' : World} (hb : Below W.heap.size W W') : ∀ (L : List (Nat × Nat)) (p : Option Addr), ChainAt W p L → ChainAt W' p L
  | [], _, h => h
  | (_, _) :: L, _, ⟨b, p', h1, h2, h3, h4, h5⟩ => ⟨b, p', h1, (hb.block b (lt_of_get h2)).trans h2, h3, h4, ChainAt.later hb L p' h5⟩
theorem three_of {W : World} {b : Nat} {x y z : Value} {t : Nat} (h : W.heap[b]? = some (.cells #[x, y, z] t (0, 0))) : W.cell? ⟨b, 0, none⟩ = some x ∧ W.cell? ⟨b, 1, none⟩ = some y ∧ W.cell? ⟨b, 2, none⟩ = some z ∧ W.frozen? ⟨b, 1, none⟩ = false := by
  refine ⟨?_, ?_, ?_, ?_⟩ <;> simp [World.cell?, World.frozen?, h]

set_option maxRecDepth 1000000 in
set_option maxHeartbeats 4000000 in
theorem followed_any (p : Option Addr) (L : List (Nat × Nat)) (f : Nat) (w : World) (hc : ChainAt w p L) (hf : f < 64) :
    Calls Try.prog 113 #[.pointer p, .int .i64 (f : Int)] w fun e w' => ∃ q, e = .returned (.tuple #[.pointer q, .bool (fG f L)]) ∧ (fG f L = true → ChainAt w' q ((f, fR f L) :: L)) ∧ Below w.heap.size w w' := by
  obtain ⟨W, hW⟩ : ∃ W, W = w.alloc (.cells #[.int .i64 (f : Int), .int .i64 0, .pointer p] 110) := ⟨_, rfl⟩
  have hB0 : Below w.heap.size w W := by rw [hW]; exact (Below.refl _ w).alloc (Nat.le_refl _) _
  have hbx : W.heap[w.heap.size]? = some (.cells #[.int .i64 (f : Int), .int .i64 0, .pointer p] 110 (0, 0)) := by rw [hW]; exact heap_alloc_new _ _
  obtain ⟨E, hE⟩ : ∃ E, E = fG f L := ⟨_, rfl⟩
  obtain ⟨R, hR⟩ : ∃ R, R = fR f L := ⟨_, rfl⟩
  have HE := hid hE
  have HR := hid hR
  have hR64 : R < 64 := by rw [hR]; exact fRs_lt hf L 0 (by decide)
  rw [← hE, ← hR]
  have Hc := hid hc
  have HB0 := hid hB0
  have Hbx := hid hbx
  clear hc hB0 hbx hE hR
  go_enter Try.func113, Try.ntmps113
  go_wp2_with (rw [← hW])
  clear hW
  go_loopg [7] L.length (fun n s7 wr => ∃ (pre rest : List (Nat × Nat)) (q : Option Addr), s7 = .pointer q ∧ Hid (L = pre ++ rest) ∧ rest.length ≤ n ∧ Hid (ChainAt w q rest) ∧ Hid (wr.heap[w.heap.size]? = some (.cells #[.int .i64 (f : Int), .int .i64 (fRs f pre 0 : Nat), .pointer p] 110 (0, 0))) ∧ Hid (Below w.heap.size w wr))
  case atStart => exact ⟨[], L, p, rfl, hid rfl, Nat.le_refl _, Hc, Hbx, HB0⟩
  case round =>
    obtain ⟨pre, rest, q, rfl, Hl, hn, Hq, Hb, HB⟩ := hrel
    cases rest with
    | nil =>
      obtain rfl : q = none := Hq.out
      have hpre : fRs f pre 0 = R := by rw [HR.out, fR, Hl.out, List.append_nil]
      rw [hpre] at Hb
      have HB1 := HB
      have Hb1 := Hb
      clear hpre hn Hq Hl HB Hb
      go_wp2_with fail
      go_loopg [9] L.length (fun n s9 wr => ∃ (pre rest : List (Nat × Nat)) (q : Option Addr), s9 = .pointer q ∧ Hid (L = pre ++ rest) ∧ rest.length ≤ n ∧ Hid (ChainAt w q rest) ∧ Hid (∀ o ∈ pre, ndiff R o.1 ≠ 0) ∧ Hid (wr.heap[w.heap.size]? = some (.cells #[.int .i64 (f : Int), .int .i64 (R : Nat), .pointer p] 110 (0, 0))) ∧ Hid (Below w.heap.size w wr))
      case atStart => exact ⟨[], L, p, rfl, hid rfl, Nat.le_refl _, Hc, hid (by simp), Hb1, HB1⟩
      case round =>
        obtain ⟨pre, rest, q, rfl, Hl, hn, Hq, Ha, Hb, HB⟩ := hrel
        cases rest with
        | nil =>
          obtain rfl : q = none := Hq.out
          have He : Hid (E = true) := hid (by
            rw [HE.out, fG, List.all_eq_true]
            intro o ho
            rw [Hl.out, List.append_nil] at ho
            rw [← HR.out]
            exact decide_eq_true (Ha.out o ho))
          have Hch : Hid (ChainAt wr (some ⟨w.heap.size, 0, none⟩) ((f, R) :: L)) := hid ⟨_, p, rfl, Hb.out, hf, hR64, Hc.out.later HB.out L p⟩
          go_wp2_with fail
          go_ret2
          rw [He.out]
          exact ⟨_, rfl, fun _ => Hch.out, HB.out⟩
        | cons o rest =>
          obtain ⟨o, ro⟩ := o
          obtain ⟨b, q', rfl, hbk, ho, hro, hch⟩ := Hq.out
          obtain ⟨c0, c1, c2, _⟩ := three_of ((HB.out.block b (lt_of_get hbk)).trans hbk)
          obtain ⟨d0, d1, d2, _⟩ := three_of Hb.out
          have Hch := hid hch
          have hbits := ndiff_bits ⟨R, hR64⟩ ⟨o, ho⟩
          simp only at hbits
          have hn0 := hid hn
          have HnG : Hid (ndiff R o = 0 → E = false) := hid (fun h => by
            rw [HE.out, fG, List.all_eq_false]
            exact ⟨(o, ro), by rw [Hl.out]; simp, by rw [← HR.out]; simpa using h⟩)
          have Hl2 : Hid (L = (pre ++ [(o, ro)]) ++ rest) := hid (by rw [Hl.out]; simp)
          have Ha2 : Hid (ndiff R o ≠ 0 → ∀ z ∈ pre ++ [(o, ro)], ndiff R z.1 ≠ 0) := hid (fun h z hz => by
            rcases List.mem_append.1 hz with hz | hz
            · exact Ha.out z hz
            · simp at hz; rw [hz]; exact h)
          clear hbk hch hn
          obtain ⟨t, ht⟩ : ∃ t, t = ndiff R o := ⟨_, rfl⟩
          rw [← ht] at hbits HnG Ha2
          clear ht
          by_cases h0 : t = 0
          · have He := hid (HnG.out h0)
            have hd : ((t : Int) == 0) = true := by simp [h0]
            clear h0
            go_wp2_with fail
            go_quiet (fail)
            go_wp2_with fail
            go_ret2
            rw [He.out]
            exact ⟨_, rfl, by simp, HB.out.os, HB.out.tape, HB.out.output, HB.out.size, HB.out.block⟩
          · have Ha3 := hid (Ha2.out h0)
            have hd : ((t : Int) == 0) = false := by simp [h0]
            clear h0
            go_wp2_with fail
            go_quiet (fail)
            go_wp2_with fail
            go_roundg rest.length
            case measure => have h := hn0.out; simp at h; omega
            case rel => exact ⟨_, rest, q', rfl, Hl2, Nat.le_refl _, Hch, Ha3, hid Hb.out, hid ⟨HB.out.os, HB.out.tape, HB.out.output, HB.out.size, HB.out.block⟩⟩
    | cons o rest =>
      obtain ⟨o, ro⟩ := o
      obtain ⟨b, q', rfl, hbk, ho, hro, hch⟩ := Hq.out
      obtain ⟨c0, c1, c2, _⟩ := three_of ((HB.out.block b (lt_of_get hbk)).trans hbk)
      obtain ⟨d0, d1, d2, d3⟩ := three_of Hb.out
      have Hch := hid hch
      have hbits := ndiff_bits ⟨f, hf⟩ ⟨o, ho⟩
      simp only at hbits
      have hn0 := hid hn
      have Hl2 : Hid (L = (pre ++ [(o, ro)]) ++ rest) := hid (by rw [Hl.out]; simp)
      have Hs : Hid (fRs f (pre ++ [(o, ro)]) 0 = if ones (ndiff f o) = 1 then fRs f pre 0 ||| ndiff f o else fRs f pre 0) := hid (by unfold fRs; rw [List.foldl_append]; rfl)
      have hr64 : fRs f pre 0 < 64 := fRs_lt hf pre 0 (by decide)
      have ht64 : ndiff f o < 64 := Nat.lt_of_le_of_lt (ndiff_le _ _) hf
      clear hbk hch hn
      obtain ⟨t, ht⟩ : ∃ t, t = ndiff f o := ⟨_, rfl⟩
      obtain ⟨r, hr⟩ : ∃ t, t = fRs f pre 0 := ⟨_, rfl⟩
      rw [← ht] at hbits Hs ht64
      rw [← hr] at Hs hr64 Hb d1
      have hor := or_bits hr64 ht64
      have hot := ones_le t
      clear ht hr
      by_cases h1 : ones t = 1
      · have hd : ((ones t : Int) - 1 == 0) = true := by simp; omega
        have Hs2 := hid (Hs.out.trans (if_pos h1))
        clear h1
        go_wp2_with (go_at_call 106; refine (dim_any t _ ht64).mono ?_; rintro e w' ⟨rfl, rfl⟩)
        go_roundg rest.length
        case measure => have h := hn0.out; simp at h; omega
        case rel =>
          refine ⟨_, rest, q', rfl, Hl2, Nat.le_refl _, Hch, hid ?_, hid (HB.out.setCell (p := ⟨w.heap.size, 1, none⟩) (Nat.le_refl _) _)⟩
          rw [Hs2.out]
          simp only [World.setCell, Array.getElem?_modify, Hb.out]
          simp
      · have hd : ((ones t : Int) - 1 == 0) = false := by simp; omega
        have Hs2 := hid (Hs.out.trans (if_neg h1))
        clear h1
        go_wp2_with (go_at_call 106; refine (dim_any t _ ht64).mono ?_; rintro e w' ⟨rfl, rfl⟩)
        go_roundg rest.length
        case measure => have h := hn0.out; simp at h; omega
        case rel => exact ⟨_, rest, q', rfl, Hl2, Nat.le_refl _, Hch, hid (by rw [Hs2.out]; exact Hb.out), HB⟩

end Go.Proofs.Ytmkknfdjoajpcaa
