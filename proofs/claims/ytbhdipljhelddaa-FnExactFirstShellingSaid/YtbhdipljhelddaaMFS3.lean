import Derived.Deep.LoopGhost
import Derived.Deep.RegionHeld3
import Derived.Lib.SliceRun
import Derived.Lib.Walk
import Derived.Test.YtbhdipljhelddaaMFS1
import Derived.Test.YtbhdipljhelddaaMFS2
/-! FacetsOf, the program's. -/
namespace Go.Proofs.Ytbhdipljhelddaa
open Go.RowKit Go.Shelf

attribute [local go_sem] Oper.semAt_some

/-- The parts of one face that are not itself, as they are met. -/
def innerOf (f : Nat) (pre : List (Fin 64)) : List Int := (pre.filter fun p => decide (p.val ≠ f)).map fun p => ((p.val : Nat) : Int)
/-- All parts of faces that are not the faces themselves. -/
def innerL (fs : List Int) : List Int := fs.flatMap fun x => innerOf x.toNat (subsF x.toNat)

theorem innerOf_len (f : Nat) (pre : List (Fin 64)) : (innerOf f pre).length ≤ pre.length := by
  unfold innerOf; rw [List.length_map]; exact List.length_filter_le _ _

theorem innerOf_snoc (f : Nat) (pre : List (Fin 64)) (p : Fin 64) (c : Bool) (h : decide (p.val ≠ f) = c) : innerOf f (pre ++ [p]) = innerOf f pre ++ (if c then [((p.val : Nat) : Int)] else []) := by
  unfold innerOf
  rw [List.filter_append, List.map_append]
  cases c <;> simp only [List.filter_cons, h, List.filter_nil] <;> simp

theorem subsF_len (f : Nat) (hf : f < 64) : (subsF f).length ≤ 63 := by
  have h := subs_len' ⟨f, hf⟩
  have e := congrArg List.length (subsF_map hf)
  rw [List.length_map] at e
  simp only at h
  omega

theorem innerL_len : ∀ (fs : List Int), (∀ x ∈ fs, 1 ≤ x ∧ x ≤ 63) → (innerL fs).length ≤ 63 * fs.length
  | [], _ => by simp [innerL]
  | x :: fs, h => by
    have h1 := innerL_len fs (fun y hy => h y (by simp [hy]))
    have h2 := innerOf_len x.toNat (subsF x.toNat)
    have h3 := subsF_len x.toNat (by have := h x (by simp); omega)
    unfold innerL at h1 ⊢
    rw [List.flatMap_cons, List.length_append, List.length_cons]
    omega

theorem innerL_snoc (fs : List Int) (x : Int) : innerL (fs ++ [x]) = innerL fs ++ innerOf x.toNat (subsF x.toNat) := by simp [innerL]

theorem mem_innerL {fs : List Int} (hr : ∀ x ∈ fs, 1 ≤ x ∧ x ≤ 63) {x : Int} : x ∈ innerL fs ↔ ∃ y ∈ fs, ∃ p : Nat, x = p ∧ p ≠ 0 ∧ p &&& y.toNat = p ∧ p ≠ y.toNat := by
  unfold innerL innerOf
  simp only [List.mem_flatMap, List.mem_map, List.mem_filter]
  constructor
  · rintro ⟨y, hy, p, ⟨hp, hne⟩, rfl⟩
    have := hr y hy
    have hm := (mem_subsF (show y.toNat < 64 by omega)).1 hp
    exact ⟨y, hy, p.val, rfl, hm.1, hm.2, by simpa using hne⟩
  · rintro ⟨y, hy, p, rfl, h0, h1, h2⟩
    have := hr y hy
    have hle := and_le_left' _ _ h1
    exact ⟨y, hy, ⟨p, by omega⟩, ⟨(mem_subsF (show y.toNat < 64 by omega)).2 ⟨h0, h1⟩, by simpa using h2⟩, rfl⟩

/-- The facets are the faces that are no such parts. -/
theorem facets_inner {V : Int} {fs : List Int} (h : IsC V fs) : facetsL fs = fs.filter fun x => !decide (x ∈ innerL fs) := by
  unfold facetsL
  refine List.filter_congr (fun x hx => ?_)
  have hxr := h.range63 x hx
  rw [← decide_not]
  refine decide_eq_decide.2 ?_
  rw [List.length_eq_zero_iff]
  unfold aboveL
  rw [List.filter_eq_nil_iff, mem_innerL h.range63]
  constructor
  · rintro ha ⟨y, hy, p, rfl, h0, h1, h2⟩
    have hyr := h.range63 y hy
    rw [Int.toNat_natCast] at ha
    obtain ⟨z, z0, z1, z2, z3⟩ := above_step ⟨p, by omega⟩ ⟨y.toNat, by omega⟩ h0 h1 h2
    have hz := h.closed y hy z.val z0 z1
    refine ha _ hz ?_
    rw [Int.toNat_natCast]
    exact decide_eq_true ⟨z2, z3⟩
  · intro hn y hy hd
    have hyr := h.range63 y hy
    have hd' := of_decide_eq_true hd
    refine hn ⟨y, hy, x.toNat, by omega, by omega, by rw [Nat.and_comm]; exact hd'.1, fun e => ?_⟩
    rw [← e] at hd'
    omega

/-- What the walk keeps of the world. -/
structure FaW (w W : World) (V : Int) (sl : Value) (mb : Nat) (L : List Int) (Ds : List Nat) : Prop where
  below : Below w.heap.size w W
  lo : w.heap.size + 1 ≤ mb
  kbox : W.heap[w.heap.size]? = some (.cells #[.int .i64 V, sl] 28 (0, 0))
  own : W.ownsMap Try.prog 2 (plainElem (H := Unit) Try.prog 4) mb L.length (knownD L)
  mbox : W.heap[mb + 1]? = some (.cells #[.map (some mb)] 82 (0, 0))
  nodup : Ds.Nodup
  marks : ∀ D ∈ Ds, mb + 2 ≤ D ∧ W.heap[D]? = some (.deferred (some []))

theorem FaW.size {w W : World} {V : Int} {sl : Value} {mb : Nat} {L : List Int} {Ds : List Nat} (h : FaW w W V sl mb L Ds) : mb + 2 ≤ W.heap.size := by
  have := lt_of_get h.mbox; omega

theorem FaW.turn {w W W' : World} {V : Int} {sl : Value} {mb : Nat} {L : List Int} {Ds : List Nat} (h : FaW w W V sl mb L Ds) {row : Option Nat} (hg : W.grownBy W' row)
    (hr : ∀ r, row = some r → mb + 2 ≤ r ∧ r ∉ Ds) : FaW w W' V sl mb L Ds where
  below := h.below.grown hg h.below.size (fun k e => by have := (hr k e).1; have := h.lo; omega)
  lo := h.lo
  kbox := (hg.block _ (lt_of_get h.kbox) (fun e => by have := (hr _ e.symm).1; have := h.lo; omega)).trans h.kbox
  own := h.own.kept hg (fun e => by have := (hr _ e.symm).1; omega)
  mbox := (hg.block _ (lt_of_get h.mbox) (fun e => by have := (hr _ e.symm).1; omega)).trans h.mbox
  nodup := h.nodup
  marks := fun D hD => ⟨(h.marks D hD).1, (hg.block _ (lt_of_get (h.marks D hD).2) (fun e => (hr _ e.symm).2 hD)).trans (h.marks D hD).2⟩

theorem faw_own {w : World} {V : Int} {sl : Value} {mb : Nat} {g : List (Fin 64) → List Int} {Ds : List Nat} {B : Nat} (hB : mb + 2 ≤ B) (hD : ∀ D ∈ Ds, D < B) : OwnFrom B (fun (pre : List (Fin 64)) W => FaW w W V sl mb (g pre) Ds) :=
  fun _ _ _ _ hs hg hr => hs.turn hg (fun r e => ⟨by have := (hr r e).1; omega, fun hm => by have := hD r hm; have := (hr r e).1; omega⟩)

theorem box_own {β : Type} {B fb : Nat} {o : Obj} (hB : fb < B) : OwnFrom B (fun (_ : β) (W : World) => W.heap[fb]? = some o) :=
  fun _ _ _ _ hs hg hr => (hg.block _ (lt_of_get hs) (fun e => by have := (hr _ e.symm).1; omega)).trans hs

/-- A further mark. -/
theorem FaW.mark {w W : World} {V : Int} {sl : Value} {mb : Nat} {L : List Int} {Ds : List Nat} (h : FaW w W V sl mb L Ds) {D : Nat} (hD : W.heap[D]? = some (.deferred (some []))) (hb : mb + 2 ≤ D) (hn : D ∉ Ds) : FaW w W V sl mb L (D :: Ds) where
  below := h.below
  lo := h.lo
  kbox := h.kbox
  own := h.own
  mbox := h.mbox
  nodup := List.nodup_cons.2 ⟨hn, h.nodup⟩
  marks := fun E hE => by
    rcases List.mem_cons.1 hE with rfl | hE
    · exact ⟨hb, hD⟩
    · exact h.marks E hE

/-- A part more in the map. -/
theorem FaW.put {w W w1 : World} {V : Int} {sl : Value} {mb : Nat} {L : List Int} {Ds : List Nat} (h : FaW w W V sl mb L Ds) {x : Int}
    (hown : w1.ownsMap Try.prog 2 (plainElem (H := Unit) Try.prog 4) mb (L.length + 1) ((knownD L).put (.int .i64 x) (.lit (.bool true)))) (hg : W.grownBy w1 (some mb)) : FaW w w1 V sl mb (L ++ [x]) Ds where
  below := h.below.grown hg h.below.size (fun k e => by cases e; have := h.lo; omega)
  lo := h.lo
  kbox := (hg.block _ (lt_of_get h.kbox) (fun e => by have := h.lo; simp at e; omega)).trans h.kbox
  own := by rw [knownD_snoc]; simpa using hown
  mbox := (hg.block _ (lt_of_get h.mbox) (fun e => by simp at e)).trans h.mbox
  nodup := h.nodup
  marks := fun D hD => ⟨(h.marks D hD).1, (hg.block _ (lt_of_get (h.marks D hD).2) (fun e => by have := (h.marks D hD).1; simp at e; omega)).trans (h.marks D hD).2⟩

theorem facetWanted (L : List Int) (bm b n : Nat) (x : Int) (w : World) (hx0 : 1 ≤ x) (hx1 : x ≤ 63) (hm : w.cell? ⟨bm, 0, none⟩ = some (.map (some b))) (hM : w.ownsMap Try.prog 2 (plainElem (H := Unit) Try.prog 4) b n (knownD L)) :
    Calls Try.prog 183 #[.int .i64 x, .pointer (some ⟨bm, 0, none⟩)] w fun e w' => e = .returned (.bool (!decide (x ∈ L))) ∧ Below w.heap.size w w' := by
  have hlook := lookup_known hM (p := x) (WalkArith.wf_i64 (by omega))
  clear hM
  obtain ⟨c, hc⟩ : ∃ c, c = decide (x ∈ L) := ⟨_, rfl⟩
  rw [← hc] at hlook ⊢
  clear hc
  cases c
  · go_enter Try.func183, Try.ntmps183
    go_wp2_with fail
    go_ret
    exact ⟨rfl, Below.refl _ _⟩
  · go_enter Try.func183, Try.ntmps183
    go_wp2_with fail
    go_ret
    exact ⟨rfl, Below.refl _ _⟩

set_option maxRecDepth 100000 in
set_option maxHeartbeats 4000000 in
theorem fac_in (V : Int) (b off : Nat) (cap : Nat) (fs : List Int) (w : World) (hb : b < w.heap.size)
    (hc : ∀ i, i < fs.length → w.cell? ⟨b, off + i, none⟩ = some (.int .i64 (fs[i]?.getD 0))) (hC : IsC V fs) :
    CallsIn Fence.wide 10 Try.prog 131 #[.agg #[.int .i64 V, .slice (some ⟨b, off, none⟩) fs.length cap]] w fun e w' => ∃ v, e = .returned (.tuple #[v, .int .i64 0]) ∧ Res w w' v (facetsL fs) := by
  have hmm := @run_makeMap Try.prog
  have hl63 : fs.length ≤ 63 := hC.len63
  have hB0 : Below w.heap.size w (w.alloc (.cells #[.int .i64 V, .slice (some ⟨b, off, none⟩) fs.length cap] 28)) := (Below.refl _ w).alloc (Nat.le_refl _) _
  have hx : SlI w w.heap.size (some ⟨b, off, none⟩) fs := .inr ⟨b, off, hb, rfl, hc⟩
  have Hx := hid (hx.later hB0 hB0.size)
  have Hx0 := hid hx
  have Hf := hid hC.range63
  have HC := hid hC
  have Hc := hid hc
  have HB0 := hid hB0
  clear hC hx hc hB0
  refine callsIn_of_wp_marks Try.func131 rfl trivial ?_ rfl
  simp only [Try.ntmps131, List.size_toArray, List.length_cons, List.length_nil, Nat.reduceAdd, Nat.reduceSub, Array.replicate_succ, Array.replicate_zero, List.push_toArray, List.append_toArray, List.nil_append, List.cons_append]
  gi_wp2_with (first
    | (refine ⟨trivial, ?_⟩; gi_at_call 47; refine (callsIn_wide.2 (isc_yes V _ cap fs _ Hx.out (by omega) HC.out)).mono ?_; rintro e w1 ⟨rfl, hB1⟩; have k0 : w1.cell? ⟨w.heap.size, 0, none⟩ = some (.int .i64 V) := (hB1.cell (p := ⟨w.heap.size, 0, none⟩) (by simp)).trans (by simp [go_sem]); have k1 : w1.cell? ⟨w.heap.size, 1, none⟩ = some (.slice (some ⟨b, off, none⟩) fs.length cap) := (hB1.cell (p := ⟨w.heap.size, 1, none⟩) (by simp)).trans (by simp [go_sem]); have hs1 : w.heap.size < w1.heap.size := (by have := hB1.size; simp at this; omega)))
  clear hmm
  have hB01 := HB0.out.trans (hB1.mono (by simp))
  have q1 : w1.heap[w.heap.size]? = some (.cells #[.int .i64 V, .slice (some ⟨b, off, none⟩) fs.length cap] 28 (0, 0)) := (hB1.block _ (by simp)).trans (heap_alloc_new _ _)
  have hF0 : FaW w ((w1.alloc (.map #[] 0)).alloc (.cells #[.map (some w1.heap.size)] 82)) V (.slice (some ⟨b, off, none⟩) fs.length cap) w1.heap.size [] [] := by
    have e3 := heap_alloc_new (w1.alloc (.map #[] 0)) (.cells #[.map (some w1.heap.size)] 82)
    rw [World.size_alloc] at e3
    exact {
      below := (hB01.alloc (by omega) _).alloc (by simp <;> omega) _
      lo := by omega
      kbox := (Below.heap_alloc _ _ _ (by simp; omega)).trans ((Below.heap_alloc _ _ _ (by omega)).trans q1)
      own := (World.ownsMap_made w1 Try.prog 2 (plainElem (H := Unit) Try.prog 4)).alloc _
      mbox := e3
      nodup := by simp
      marks := by simp }
  have HF0 := hid hF0
  obtain ⟨mb, hmb⟩ : ∃ mb, mb = w1.heap.size := ⟨_, rfl⟩
  rw [← hmb] at HF0 ⊢
  clear hF0 q1 hB01 hB1 k0 k1 hmb hs1
  refine wpIn_loop (fun a' W => ∃ (k : Nat) (c6 c7 c16 c17 c18 c19 c20 c21 c22 c23 c24 c25 c26 c27 : Value) (Ds : List Nat),
      a' = { tmps := #[.agg #[.int .i64 V, .slice (some ⟨b, off, none⟩) fs.length cap], .pointer (some ⟨w.heap.size, 0, none⟩), .slice none 0 0, .int .i64 0, .pointer (some ⟨mb + 1, 0, none⟩), undef, c6, c7,
          .agg #[.int .i64 V, .slice (some ⟨b, off, none⟩) fs.length cap], .bool true, .bool false, .map (some mb), .pointer (some ⟨w.heap.size, 1, none⟩), .slice (some ⟨b, off, none⟩) fs.length cap, .int .i64 fs.length,
          .int .i64 k, c16, c17, c18, c19, c20, c21, c22, c23, c24, c25, c26, c27, undef, undef, undef], defers := marks Ds } ∧
      k ≤ fs.length ∧ FaW w W V (.slice (some ⟨b, off, none⟩) fs.length cap) mb (innerL (fs.take k)) Ds)
    (fun a' _ => fs.length - (intOf (a'.tmps.getD 15 undef)).toNat) ?start ?round
  case start => exact ⟨0, _, _, _, _, _, _, _, _, _, _, _, _, _, _, [], rfl, Nat.zero_le _, by simpa [innerL] using HF0.out⟩
  case round =>
    rintro a W ⟨k, c6, c7, c16, c17, c18, c19, c20, c21, c22, c23, c24, c25, c26, c27, Ds, rfl, hk, hW⟩
    have hsz := hW.size
    have k0 : W.cell? ⟨w.heap.size, 0, none⟩ = some (.int .i64 V) := by simp [World.cell?, hW.kbox]
    have k1 : W.cell? ⟨w.heap.size, 1, none⟩ = some (.slice (some ⟨b, off, none⟩) fs.length cap) := by simp [World.cell?, hW.kbox]
    have HW := hid hW
    have hlo := hW.lo
    clear hW
    by_cases hlt : k < fs.length
    · obtain ⟨x, hx⟩ : ∃ x, x = fs[k]?.getD 0 := ⟨_, rfl⟩
      have hck : W.cell? ⟨b, off + k, none⟩ = some (.int .i64 x) := by rw [hx]; exact (HW.out.below.cell (p := ⟨b, off + k, none⟩) hb).trans (Hc.out k hlt)
      have hxr := Hf.out _ (getD_mem hlt)
      rw [← hx] at hxr
      have Hx1 := hid hx
      have hi0 : (0 : Int) ≤ (k : Int) := by omega
      have hi1 : (k : Int) < (fs.length : Int) := by omega
      obtain ⟨f, rfl⟩ : ∃ f : Nat, x = f := ⟨x.toNat, by omega⟩
      have hf : f < 64 := by omega
      clear hx
      gi_wp2_with (first
        | (refine ⟨trivial, ?_⟩; gi_at_call 104; refine (parts_in _ _ trivial rfl _ _).mono ?_; rintro e w' ⟨rfl, rfl⟩))
      have hW2 : FaW w ((W.alloc (.cells #[.int .i64 (f : Int)] 2)).alloc (.cells #[.int .i64 (f : Int)] 2)) V (.slice (some ⟨b, off, none⟩) fs.length cap) mb (innerL (fs.take k)) Ds := (HW.out.turn (World.grownBy_alloc W _ none) (fun r e => by cases e)).turn (World.grownBy_alloc _ _ none) (fun r e => by cases e)
      have hfb : ((W.alloc (.cells #[.int .i64 (f : Int)] 2)).alloc (.cells #[.int .i64 (f : Int)] 2)).heap[W.heap.size]? = some (.cells #[.int .i64 (f : Int)] 2 (0, 0)) := (Below.heap_alloc _ _ _ (by simp)).trans (heap_alloc_new _ _)
      have hsb : ((W.alloc (.cells #[.int .i64 (f : Int)] 2)).alloc (.cells #[.int .i64 (f : Int)] 2)).heap[W.heap.size + 1]? = some (.cells #[.int .i64 (f : Int)] 2 (0, 0)) := new2 _ _ _
      have hDlt : ∀ D ∈ Ds, D < ((W.alloc (.cells #[.int .i64 (f : Int)] 2)).alloc (.cells #[.int .i64 (f : Int)] 2)).heap.size := fun D hD => lt_of_get (hW2.marks D hD).2
      have hLl := innerL_len (fs.take k) (fun y hy => Hf.out y (List.mem_of_mem_take hy))
      have hkl : (fs.take k).length ≤ 63 := by simp; omega
      obtain ⟨L0, hL0⟩ : ∃ L0, L0 = innerL (fs.take k) := ⟨_, rfl⟩
      have HL0 := hid hL0
      rw [← hL0] at hW2 hLl HW
      clear hL0
      refine wpIn_rangeFunc_ownG rfl (by decide) (gf := 162) (lb := #[.pointer (some ⟨W.heap.size + 1, 0, none⟩)]) rfl trivial (enters_of Try.func162 (by kernel_rfl) rfl)
        (parts_stops Fence.wide 9 trivial rfl (by decide) (W.heap.size + 1) f hf _ (by simp) hsb) keepB_t (keepB_b (by simp)) (Below.refl _ _) (fun _ => rfl)
        (fun pre W' => FaW w W' V (.slice (some ⟨b, off, none⟩) fs.length cap) mb (L0 ++ innerOf f pre) Ds ∧ W'.heap[W.heap.size]? = some (.cells #[.int .i64 (f : Int)] 2 (0, 0)) ∧ W'.heap[W.heap.size + 1]? = some (.cells #[.int .i64 (f : Int)] 2 (0, 0)))
        (fun _ _ _ => False)
        (OwnFrom.and (faw_own (by simp; omega) hDlt) (OwnFrom.and (box_own (by simp <;> omega)) (box_own (by simp <;> omega)))) (fun _ => ownFrom_pure _ _)
        ⟨by simpa [innerOf] using hW2, hfb, hsb⟩
        (fun x => { tmps := #[.agg #[.int .i64 V, .slice (some ⟨b, off, none⟩) fs.length cap], .pointer (some ⟨w.heap.size, 0, none⟩), .slice none 0 0, .int .i64 0, .pointer (some ⟨mb + 1, 0, none⟩), undef, .pointer (some ⟨W.heap.size, 0, none⟩), .int .i64 (x.val : Int),
          .agg #[.int .i64 V, .slice (some ⟨b, off, none⟩) fs.length cap], .bool true, .bool false, .map (some mb), .pointer (some ⟨w.heap.size, 1, none⟩), .slice (some ⟨b, off, none⟩) fs.length cap, .int .i64 fs.length,
          .int .i64 k, .bool true, .pointer (some ⟨b, off + k, none⟩), .int .i64 f, .int .i64 f, .func (.func 162) #[] #[.pointer (some ⟨W.heap.size + 1, 0, none⟩)], .int .i64 (x.val : Int), c22, c23, c24, c25, c26, c27, undef, undef, undef], defers := [] }) ?assign ?body ?done ?stop
      case assign =>
        intro l x W3 K hK
        gi_wp2
        exact hK
      case body =>
        rintro l pre x W3 ⟨hW3, hfb3, hsb3⟩ hpl
        have m3 : W3.cell? ⟨mb + 1, 0, none⟩ = some (.map (some mb)) := (box_cell hW3.mbox).1
        have f3 : W3.cell? ⟨W.heap.size, 0, none⟩ = some (.int .i64 (f : Int)) := (box_cell hfb3).1
        have hxl := x.isLt
        have hwx : (Lit.int .i64 (x.val : Int)).wf = true := WalkArith.wf_i64 (by omega)
        have HW3 := hid hW3
        have Hfb3 := hid hfb3
        have Hsb3 := hid hsb3
        have hpre := innerOf_len f pre
        clear hW3 hfb3 hsb3
        by_cases hm : x.val = f
        · have hd : (((x.val : Nat) : Int) != (f : Int)) = false := by simp; omega
          have Hs := hid (innerOf_snoc f pre x false (by simpa using hm))
          clear hm
          gi_wp2
          refine ⟨KeepsFrom.refl _ _, rfl, ?_, Hfb3.out, Hsb3.out⟩
          rw [Hs.out]
          simpa using HW3.out
        · have hd : (((x.val : Nat) : Int) != (f : Int)) = true := by simp; omega
          have Hs := hid (innerOf_snoc f pre x true (by simpa using hm))
          clear hm
          have hkm : (L0 ++ innerOf f pre).length < maxLen := by unfold maxLen; simp; omega
          gi_wp2_with (gi_at_mapUpdate; refine wpListIn_mapUpdate_own _ rfl _ _ _ 82 rfl 2 4 (Maps.int_keyed Try.underlying2) Try.underlying82 _ mb _ _ rfl HW3.out.own hkm _ _ _ rfl rfl (Maps.keyOf_int_mk Try.underlying2 hwx) _ [] (plainElem_bool Try.underlying4 true) ?_; intro w4 hown4 hgrow4)
          refine ⟨KeepsFrom.of_grownBy hgrow4 (fun j e => by cases e; first | omega | (simp; omega)), (hgrow4.block _ (lt_of_get Hsb3.out) (fun e => by simp at e; omega)), ?_, (hgrow4.block _ (lt_of_get Hfb3.out) (fun e => by simp at e; omega)).trans Hfb3.out, (hgrow4.block _ (lt_of_get Hsb3.out) (fun e => by simp at e; omega)).trans Hsb3.out⟩
          rw [Hs.out, ← List.append_assoc]
          exact HW3.out.put hown4 hgrow4
      case done =>
        rintro D ys W3 hD rfl ⟨hW3, _, _⟩ hK
        have hDb : mb + 2 ≤ D := by simp at hD; omega
        have hDn : D ∉ Ds := fun hm => by have := hDlt D hm; omega
        have HW4 := hid (hW3.mark hK hDb hDn)
        have htk : innerL (fs.take (k + 1)) = L0 ++ innerOf f (subsF f) := by rw [take_snoc hlt, innerL_snoc, ← Hx1.out, HL0.out, Int.toNat_natCast]
        have Htk := hid htk
        clear hW3 htk
        gi_wp2
        refine ⟨⟨k + 1, ?_⟩, ?_⟩
        · (repeat apply Exists.intro)
          refine ⟨?e, ?_⟩
          case e =>
            rw [show ((k + 1 : Nat) : Int) = (k : Int) + 1 by omega, show ({ target := .collected D, args := #[] } :: marks Ds : List Deferred) = marks (D :: Ds) from rfl]
          exact ⟨by omega, by rw [Htk.out]; exact HW4.out⟩
        · simp [intOf]; omega
      case stop =>
        rintro D c pre W3 hD hpre hF hK
        exact hF.elim
    · obtain rfl : k = fs.length := by omega
      rw [List.take_of_length_le (Nat.le_refl _)] at HW
      have hxW := Hx0.out.later HW.out.below HW.out.below.size
      have HFW : Hid (Calls Try.prog 105 #[.agg #[.int .i64 V, .slice (some ⟨b, off, none⟩) fs.length cap], .func (.func 183) #[] #[.pointer (some ⟨mb + 1, 0, none⟩)]] W fun e w' => ∃ v, e = .returned v ∧ Res W w' v (facetsL fs)) := hid (by
        rw [facets_inner HC.out]
        refine fw_any V _ cap fs W 183 _ (fun x => !decide (x ∈ innerL fs)) hxW (by omega) (enters_of Try.func183 (by kernel_rfl) rfl) ?_
        intro W' x hW' hxm
        have hr := Hf.out x hxm
        have hkeep : W.grownBy W' none := ⟨hW'.os, hW'.tape, hW'.output, hW'.size, fun k hk _ => hW'.block k hk⟩
        exact facetWanted (innerL fs) _ mb _ x W' hr.1 hr.2 ((hW'.cell (p := ⟨mb + 1, 0, none⟩) (lt_of_get HW.out.mbox)).trans (box_cell HW.out.mbox).1) (HW.out.own.kept hkeep (by simp)))
      clear hxW
      gi_wp2_with (refine ⟨trivial, ?_⟩; gi_at_call 105; refine (callsIn_wide.2 HFW.out).mono ?_; rintro e w2 ⟨v, rfl, hr⟩)
      have hB2 : Below W.heap.size W w2 := hr.2
      refine leaves_marks (by simp) Ds _ HW.out.nodup (fun D hD => (hB2.block _ (lt_of_get (HW.out.marks D hD).2)).trans (HW.out.marks D hD).2) (fun w' hw' => ?_)
      have hsh : Below w.heap.size w2 w' := hw'.below (fun D hD => by have := (HW.out.marks D hD).1; omega)
      have hown : w'.ownsRow W.heap.size 2 1 v (facetsL fs).length ((facetsL fs).map (Value.int .i64)) := by
        refine ⟨hr.1.1, ?_⟩
        rcases hr.1.2 with hn | ⟨g, cp, cur, rfl, hg, hh, rest⟩
        · exact .inl hn
        · exact .inr ⟨g, cp, cur, rfl, hg, (hw'.block g (fun hm => by have := lt_of_get (HW.out.marks g hm).2; omega)).trans hh, rest⟩
      refine ⟨.tuple #[v, .int .i64 0], ?_, v, rfl, ownsRow_base hown HW.out.below.size, (HW.out.below.trans (hB2.mono HW.out.below.size)).trans hsh⟩
      simp [results, Try.results131, go_sem]

set_option maxRecDepth 100000 in
set_option maxHeartbeats 1000000 in
theorem fac_nil (V : Int) (a : Option Addr) (cap : Nat) (w : World) (hC : IsC V []) :
    CallsIn Fence.wide 10 Try.prog 131 #[.agg #[.int .i64 V, .slice a 0 cap]] w fun e w' => ∃ v, e = .returned (.tuple #[v, .int .i64 0]) ∧ Res w w' v [] := by
  have hmm := @run_makeMap Try.prog
  have hB0 : Below w.heap.size w (w.alloc (.cells #[.int .i64 V, .slice a 0 cap] 28)) := (Below.refl _ w).alloc (Nat.le_refl _) _
  have HB0 := hid hB0
  have HC := hid hC
  have HFW : Hid (∀ (W : World) (bm : Nat), Calls Try.prog 105 #[.agg #[.int .i64 V, .slice a 0 cap], .func (.func 183) #[] #[.pointer (some ⟨bm, 0, none⟩)]] W fun e w' => ∃ v, e = .returned v ∧ Res W w' v []) := hid (fun W bm => by
    have h := fw_any V a cap [] W 183 (.pointer (some ⟨bm, 0, none⟩)) (fun _ => false) (.inl rfl) (by simp) (enters_of Try.func183 (by kernel_rfl) rfl) (by intro _ x _ hx; simp at hx)
    simpa using h)
  clear hC hB0
  refine callsIn_of_wp_marks Try.func131 rfl trivial ?_ rfl
  simp only [Try.ntmps131, List.size_toArray, List.length_cons, List.length_nil, Nat.reduceAdd, Nat.reduceSub, Array.replicate_succ, Array.replicate_zero, List.push_toArray, List.append_toArray, List.nil_append, List.cons_append]
  gi_wp2_with (first
    | (refine ⟨trivial, ?_⟩; gi_at_call 47; refine (callsIn_wide.2 (isc_yes V a cap [] _ (.inl rfl) (by simp) HC.out)).mono ?_; rintro e w1 ⟨rfl, hB1⟩; have k0 : w1.cell? ⟨w.heap.size, 0, none⟩ = some (.int .i64 V) := (hB1.cell (p := ⟨w.heap.size, 0, none⟩) (by simp)).trans (by simp [go_sem]); have k1 : w1.cell? ⟨w.heap.size, 1, none⟩ = some (.slice a 0 cap) := (hB1.cell (p := ⟨w.heap.size, 1, none⟩) (by simp)).trans (by simp [go_sem]); have hs1 : w.heap.size < w1.heap.size := (by have := hB1.size; simp at this; omega)))
  clear hmm
  refine wpIn_loop_rounds 1 ?_
  rw [roundsIn_succ]
  gi_wp2_with (refine ⟨trivial, ?_⟩; gi_at_call 105; refine (callsIn_wide.2 (HFW.out _ _)).mono ?_; rintro e w2 ⟨v, rfl, hr⟩)
  refine ⟨.tuple #[v, .int .i64 0], ?_, v, rfl, hr.later ?_⟩
  · simp [results, Try.results131, go_sem]
  · exact ((HB0.out.trans (hB1.mono (by simp))).alloc (by omega) _).alloc (by simp <;> omega) _

set_option maxRecDepth 100000 in
set_option maxHeartbeats 1000000 in
theorem fac_no (V : Int) (a : Option Addr) (cap : Nat) (fs : List Int) (w : World) (hx : SlI w w.heap.size a fs) (hl : fs.length ≤ 1048576) (hC : ¬ IsC V fs) :
    CallsIn Fence.wide 10 Try.prog 131 #[.agg #[.int .i64 V, .slice a fs.length cap]] w fun e w' => ∃ v, e = .returned (.tuple #[v, .int .i64 1]) ∧ Res w w' v [] := by
  have hB0 : Below w.heap.size w (w.alloc (.cells #[.int .i64 V, .slice a fs.length cap] 28)) := (Below.refl _ w).alloc (Nat.le_refl _) _
  have HB0 := hid hB0
  have HC := hid hC
  have Hx := hid (hx.later hB0 hB0.size)
  clear hC hB0 hx
  refine callsIn_of_wp_marks Try.func131 rfl trivial ?_ rfl
  simp only [Try.ntmps131, List.size_toArray, List.length_cons, List.length_nil, Nat.reduceAdd, Nat.reduceSub, Array.replicate_succ, Array.replicate_zero, List.push_toArray, List.append_toArray, List.nil_append, List.cons_append]
  gi_wp2_with (first
    | (refine ⟨trivial, ?_⟩; gi_at_call 47; refine (callsIn_wide.2 (isc_no V a cap fs _ Hx.out hl HC.out)).mono ?_; rintro e w1 ⟨rfl, hB1⟩))
  refine ⟨.tuple #[.slice none 0 0, .int .i64 1], ?_, _, rfl, res_nil _ _ (HB0.out.trans (hB1.mono (by simp)))⟩
  simp [results, Try.results131, go_sem]

theorem facets_nil : facetsL [] = [] := rfl

/-- impl.FacetsOf, whatever comes in. -/
theorem implFacetsOf (V : Int) (a : Option Addr) (cap : Nat) (fs : List Int) (w : World) (hx : SlI w w.heap.size a fs) (hl : fs.length ≤ 1048576) :
    Calls Try.prog 131 #[.agg #[.int .i64 V, .slice a fs.length cap]] w fun e w' => ∃ v, e = .returned (.tuple #[v, .int .i64 (facetsOfR V fs).2]) ∧ Res w w' v (facetsOfR V fs).1 := by
  by_cases hC : IsC V fs
  · refine pair_mono' (show facetsOfR V fs = (facetsL fs, 0) by unfold facetsOfR; rw [isCB_true hC, if_pos rfl]) ?_
    rcases hx with rfl | ⟨b, off, hb, rfl, hc⟩
    · rw [facets_nil]
      exact callsIn_wide.1 (fac_nil V a cap w hC)
    · exact callsIn_wide.1 (fac_in V b off cap fs w hb hc hC)
  · refine pair_mono' (show facetsOfR V fs = ([], 1) by unfold facetsOfR; rw [isCB_false hC, if_neg (by simp)]) ?_
    exact callsIn_wide.1 (fac_no V a cap fs w hx hl hC)

end Go.Proofs.Ytbhdipljhelddaa

/-! slices.Contains on a list of int64. -/
namespace Go.Proofs.Ytbhdipljhelddaa
open Go.RowKit

set_option maxRecDepth 100000 in
set_option maxHeartbeats 1000000 in
theorem index_any (a : Option Addr) (cap : Nat) (xs : List Int) (x : Int) (w : World) (hx : SlI w w.heap.size a xs) (hl : xs.length ≤ 1048576) :
    Calls Try.prog 166 #[.slice a xs.length cap, .int .i64 x] w fun e w' => ∃ i : Int, e = .returned (.int .i64 i) ∧ -1 ≤ i ∧ (0 ≤ i ↔ x ∈ xs) ∧ w = w' := by
  rcases hx with rfl | ⟨b, off, hb, rfl, hc⟩
  · go_enter Try.func166, Try.ntmps166
    go_wp2
    refine wp_loop_rounds 1 ?_; rw [rounds_succ]
    go_wp2
    go_ret
    exact ⟨-1, rfl, by decide, by simp, rfl⟩
  · have Hc := hid hc
    clear hc
    go_enter Try.func166, Try.ntmps166
    go_wp2
    go_loop [8] (fun i => ∃ k : Nat, k ≤ xs.length ∧ i = .int .i64 k ∧ Hid (x ∉ xs.take k)) (fun i => xs.length - (intOf i).toNat)
    case atStart => exact ⟨0, Nat.zero_le _, rfl, hid (by simp)⟩
    case round =>
      obtain ⟨k, hk, rfl, Hk⟩ := hrel
      by_cases hlt : k < xs.length
      · obtain ⟨y, hy⟩ : ∃ y, y = xs[k]?.getD 0 := ⟨_, rfl⟩
        have hck : w.cell? ⟨b, off + k, none⟩ = some (.int .i64 y) := by rw [hy]; exact Hc.out k hlt
        have Hy := hid hy
        have hi0 : (0 : Int) ≤ (k : Int) := by omega
        have hi1 : (k : Int) < (xs.length : Int) := by omega
        clear hy
        by_cases hxy : x = y
        · have hd : (x == y) = true := by simp [hxy]
          have He : Hid (x ∈ xs) := hid (by rw [hxy, Hy.out]; exact getD_mem hlt)
          clear hxy
          go_wp2
          go_ret
          exact ⟨k, rfl, by omega, ⟨fun _ => He.out, fun _ => by omega⟩, rfl⟩
        · have hd : (x == y) = false := by simp [hxy]
          have He : Hid (x ∉ xs.take (k + 1)) := hid (by
            rw [take_snoc hlt, ← Hy.out]
            intro h
            rcases List.mem_append.1 h with h | h
            · exact Hk.out h
            · simp at h; exact hxy h)
          clear hxy
          go_wp2
          go_round
          case rel => exact ⟨k + 1, by omega, by go_num, He.out⟩
          case measure => simp [intOf]; omega
      · have He : Hid (x ∉ xs) := hid (by have := Hk.out; rwa [List.take_of_length_le (by omega)] at this)
        go_wp2
        go_ret
        exact ⟨-1, rfl, by decide, ⟨fun h => absurd h (by decide), fun h => absurd h He.out⟩, rfl⟩

set_option maxRecDepth 100000 in
set_option maxHeartbeats 1000000 in
theorem contains_any (a : Option Addr) (cap : Nat) (xs : List Int) (x : Int) (w : World) (hx : SlI w w.heap.size a xs) (hl : xs.length ≤ 1048576) :
    Calls Try.prog 153 #[.slice a xs.length cap, .int .i64 x] w fun e w' => e = .returned (.bool (decide (x ∈ xs))) ∧ w = w' := by
  have HI := hid (index_any a cap xs x w hx hl)
  obtain ⟨c, hc⟩ : ∃ c, c = decide (x ∈ xs) := ⟨_, rfl⟩
  have Hc := hid hc
  rw [← hc]
  clear hc hx
  go_enter Try.func153, Try.ntmps153
  go_wp2_with fail
  refine HI.out.mono ?_
  rintro e w' ⟨i, rfl, h1, h2, rfl⟩
  have Hi := hid h2
  have H1 := hid h1
  clear h1 h2
  by_cases h0 : 0 ≤ i
  · have He : Hid (c = true) := hid (by rw [Hc.out]; exact decide_eq_true (Hi.out.1 h0))
    go_wp2_with fail
    go_ret
    exact ⟨ret_bool (by rw [He.out]), rfl⟩
  · have He : Hid (c = false) := hid (by rw [Hc.out]; exact decide_eq_false (fun h => h0 (Hi.out.2 h)))
    have hlt : i < 0 := by omega
    go_wp2_with fail
    go_ret
    exact ⟨ret_bool (by rw [He.out]; simp [hlt]), rfl⟩

end Go.Proofs.Ytbhdipljhelddaa

/-! 'out.Faces = append(out.Faces, x)' in the model's loops, where the complex that is built has a number of vertices of its own (OutW, with that number). -/
namespace Go.Proofs.Ytbhdipljhelddaa
open Go.RowKit

/-- The same, where what is built has another number of vertices: B is the heap's size when the call began. -/
structure OutU (w W : World) (V U : Int) (sl : Value) (Bo : Nat) (xs : List Int) (a : Option Addr) (c : Nat) : Prop where
  below : Below w.heap.size w W
  kbox : W.heap[w.heap.size]? = some (.cells #[.int .i64 V, sl] 28 (0, 0))
  res : W.heap[w.heap.size + 1]? = some (.cells #[.int .i64 0, .slice none 0 0] 28 (0, 0))
  out : W.heap[Bo]? = some (.cells #[.int .i64 U, .slice a xs.length c] 28 (0, 0))
  own : W.ownsRow w.heap.size 2 1 (.slice a xs.length c) xs.length (xs.map (Value.int .i64))
  bo : w.heap.size + 1 < Bo

/-- Draws alone. -/
theorem OutU.drew {w W : World} {V U : Int} {sl : Value} {Bo : Nat} {xs : List Int} {a : Option Addr} {c : Nat} (h : OutU w W V U sl Bo xs a c) : OutU w W.drew V U sl Bo xs a c :=
  ⟨⟨h.below.os, h.below.tape, h.below.output, h.below.size, h.below.block⟩, h.kbox, h.res, h.out, h.own, h.bo⟩

theorem OutU.drewN {w W : World} {V U : Int} {sl : Value} {Bo : Nat} {xs : List Int} {a : Option Addr} {c : Nat} (h : OutU w W V U sl Bo xs a c) (n : Nat) : OutU w (W.drewN n) V U sl Bo xs a c :=
  ⟨⟨h.below.os, h.below.tape, h.below.output, h.below.size, h.below.block⟩, h.kbox, h.res, h.out, h.own, h.bo⟩

/-- Whatever keeps all that lay. -/
theorem OutU.later {w W W' : World} {V U : Int} {sl : Value} {Bo : Nat} {xs : List Int} {a : Option Addr} {c : Nat} (h : OutU w W V U sl Bo xs a c) (hb : Below W.heap.size W W') : OutU w W' V U sl Bo xs a c where
  below := h.below.trans (hb.mono h.below.size)
  kbox := (hb.block _ (lt_get h.kbox)).trans h.kbox
  res := (hb.block _ (lt_get h.res)).trans h.res
  out := (hb.block _ (lt_get h.out)).trans h.out
  own := ownsRow_below h.own hb (fun g hg => (h.own.lt g hg).2)
  bo := h.bo

/-- A face more. -/
theorem OutU.step {w W w2 : World} {V U : Int} {sl : Value} {Bo : Nat} {xs : List Int} {a : Option Addr} {c : Nat} (h : OutU w W V U sl Bo xs a c) {x : Int} {g cap : Nat} {o : Obj}
    (hown : w2.ownsRow w.heap.size 2 1 (.slice (some ⟨g, 0, none⟩) (xs ++ [x]).length cap) (xs ++ [x]).length ((xs ++ [x]).map (Value.int .i64))) (hg : (W.alloc o).grownBy w2 (Value.ownBlock (.slice a xs.length c))) :
    OutU w (w2.setCell ⟨Bo, 1, none⟩ (.slice (some ⟨g, 0, none⟩) (xs ++ [x]).length cap)) V U sl Bo (xs ++ [x]) (some ⟨g, 0, none⟩) cap := by
  have hgr : W.grownBy w2 (Value.ownBlock (.slice a xs.length c)) := (World.grownBy_alloc W o _).trans hg
  have hbo := h.bo
  have k2 := (hgr.block _ (lt_get h.kbox) (row_ne h.own h.kbox (by decide))).trans h.kbox
  have r2 := (hgr.block _ (lt_get h.res) (row_ne h.own h.res (by decide))).trans h.res
  have o2 := (hgr.block _ (lt_get h.out) (row_ne h.own h.out (by decide))).trans h.out
  refine ⟨?_, ?_, ?_, ?_, ?_, h.bo⟩
  · exact (h.below.grown hgr h.below.size (fun k hk => (h.own.lt k hk).1)).setCell (p := ⟨Bo, 1, none⟩) (by simp only; omega) _
  · exact (Below.heap_setCell _ _ _ _ (by simp only; omega)).trans k2
  · exact (Below.heap_setCell _ _ _ _ (by simp only; omega)).trans r2
  · simp only [World.setCell, Array.getElem?_modify, o2]
    simp
  · exact ownsRow_set hown (by
      have := row_ne hown o2 (by decide)
      exact fun e => this e.symm) _

/-- The model's loops hand back what they have built. -/
theorem OutU.done {w W : World} {V U : Int} {sl : Value} {Bo : Nat} {xs : List Int} {a : Option Addr} {c : Nat} (h : OutU w W V U sl Bo xs a c) (u v : Value) :
    Res w ((W.setCell ⟨w.heap.size + 1, 0, none⟩ u).setCell ⟨w.heap.size + 1, 1, none⟩ v) (.slice a xs.length c) xs := by
  have hn := row_ne h.own h.res (by decide)
  exact ⟨ownsRow_set (ownsRow_set h.own (fun e => hn e.symm) _) (fun e => hn e.symm) _, (h.below.setCell (p := ⟨w.heap.size + 1, 0, none⟩) (by simp) _).setCell (p := ⟨w.heap.size + 1, 1, none⟩) (by simp) _⟩

theorem OutU.stepN {w W w2 : World} {V U : Int} {sl : Value} {Bo : Nat} {xs : List Int} {a : Option Addr} {c : Nat} (h : OutU w W V U sl Bo xs a c) {x : Int} {g cap : Nat} {o : Obj} {n : Nat}
    (hown : w2.ownsRow w.heap.size 2 1 (.slice (some ⟨g, 0, none⟩) (xs ++ [x]).length cap) (xs ++ [x]).length ((xs ++ [x]).map (Value.int .i64))) (hg : ((W.drewN n).alloc o).grownBy w2 (Value.ownBlock (.slice a xs.length c))) :
    OutU w (w2.setCell ⟨Bo, 1, none⟩ (.slice (some ⟨g, 0, none⟩) (xs ++ [x]).length cap)) V U sl Bo (xs ++ [x]) (some ⟨g, 0, none⟩) cap := (h.drewN n).step hown hg

/-- The out block behind an append. -/
theorem OutU.mid {w W w2 : World} {V U : Int} {sl : Value} {Bo : Nat} {xs : List Int} {a : Option Addr} {c : Nat} (h : OutU w W V U sl Bo xs a c) {n : Nat} {o : Obj} (hg : ((W.drewN n).alloc o).grownBy w2 (Value.ownBlock (.slice a xs.length c))) :
    w2.cell? ⟨Bo, 1, none⟩ = some (.slice a xs.length c) ∧ w2.frozen? ⟨Bo, 1, none⟩ = false := by
  have hgr : (W.drewN n).grownBy w2 (Value.ownBlock (.slice a xs.length c)) := (World.grownBy_alloc _ o _).trans hg
  have o2 := (hgr.block _ (lt_get (h.drewN n).out) (row_ne (h.drewN n).own (h.drewN n).out (by decide))).trans (h.drewN n).out
  constructor <;> simp [World.cell?, World.frozen?, o2]

/-- The given complex's box behind an append. -/
theorem OutU.midK {w W w2 : World} {V U : Int} {sl : Value} {Bo : Nat} {xs : List Int} {a : Option Addr} {c : Nat} (h : OutU w W V U sl Bo xs a c) {n : Nat} {o : Obj} (hg : ((W.drewN n).alloc o).grownBy w2 (Value.ownBlock (.slice a xs.length c))) :
    w2.cell? ⟨w.heap.size, 1, none⟩ = some sl := by
  have hgr : (W.drewN n).grownBy w2 (Value.ownBlock (.slice a xs.length c)) := (World.grownBy_alloc _ o _).trans hg
  have o2 := (hgr.block _ (lt_get (h.drewN n).kbox) (row_ne (h.drewN n).own (h.drewN n).kbox (by decide))).trans (h.drewN n).kbox
  simp [World.cell?, o2]

/-- What lay before the call, behind an append. -/
theorem OutU.midX {w W w2 : World} {V U : Int} {sl : Value} {Bo : Nat} {xs : List Int} {a : Option Addr} {c : Nat} (h : OutU w W V U sl Bo xs a c) {n : Nat} {o : Obj} (hg : ((W.drewN n).alloc o).grownBy w2 (Value.ownBlock (.slice a xs.length c))) {p : Addr} (hp : p.block < w.heap.size) :
    w2.cell? p = W.cell? p := by
  have hgr : (W.drewN n).grownBy w2 (Value.ownBlock (.slice a xs.length c)) := (World.grownBy_alloc _ o _).trans hg
  have hlt : p.block < (W.drewN n).heap.size := Nat.lt_of_lt_of_le hp h.below.size
  have h2 : w2.heap[p.block]? = W.heap[p.block]? := hgr.block _ hlt (by
    intro he
    have := (h.own.lt _ he.symm).1
    omega)
  simp only [World.cell?, h2]

end Go.Proofs.Ytbhdipljhelddaa

/-! Finite facts on bits, decided. -/
namespace Go.Proofs.Ytbhdipljhelddaa
open Go.RowKit

theorem andNot_fin : ∀ x : Nat, x < 64 → ∀ s : Nat, s < 64 → (bits BinOp.andNot IntKind.i64 (x : Int) (s : Int) == 0) = decide (x &&& s = x) := by
  decide +kernel

end Go.Proofs.Ytbhdipljhelddaa

/-! The numbers from 1 to n that are wanted, ascending. -/
namespace Go.Proofs.Ytbhdipljhelddaa
open Go.RowKit

/-- The numbers from 1 to k of which p says yes. -/
def pickTo (p : Int → Bool) : Nat → List Int
  | 0 => []
  | k + 1 => pickTo p k ++ (if p ((k : Int) + 1) then [(k : Int) + 1] else [])

theorem pickTo_len (p : Int → Bool) : ∀ k, (pickTo p k).length ≤ k
  | 0 => by simp [pickTo]
  | k + 1 => by
    have := pickTo_len p k
    simp only [pickTo, List.length_append]
    split <;> simp <;> omega

theorem mem_pickTo {p : Int → Bool} {x : Int} : ∀ k : Nat, x ∈ pickTo p k ↔ 1 ≤ x ∧ x ≤ k ∧ p x = true
  | 0 => by simp [pickTo]; omega
  | k + 1 => by
    have ih := mem_pickTo (p := p) (x := x) k
    simp only [pickTo, List.mem_append, ih]
    constructor
    · rintro (⟨h1, h2, h3⟩ | h)
      · exact ⟨h1, by omega, h3⟩
      · split at h
        · rename_i hp
          simp at h
          subst h
          exact ⟨by omega, by omega, hp⟩
        · simp at h
    · rintro ⟨h1, h2, h3⟩
      by_cases he : x = (k : Int) + 1
      · subst he
        right
        rw [if_pos h3]; simp
      · exact .inl ⟨h1, by omega, h3⟩

theorem pickTo_asc (p : Int → Bool) : ∀ k : Nat, (pickTo p k).Pairwise (· < ·)
  | 0 => by simp [pickTo]
  | k + 1 => by
    simp only [pickTo]
    rw [List.pairwise_append]
    refine ⟨pickTo_asc p k, by split <;> simp, fun a ha b hb => ?_⟩
    have h1 := (mem_pickTo k).1 ha
    split at hb
    · simp at hb; omega
    · simp at hb

theorem pickTo_congr {p q : Int → Bool} : ∀ k : Nat, (∀ x : Int, 1 ≤ x → x ≤ k → p x = q x) → pickTo p k = pickTo q k
  | 0, _ => rfl
  | k + 1, h => by
    simp only [pickTo]
    rw [pickTo_congr k (fun x h1 h2 => h x h1 (by omega)), h ((k : Int) + 1) (by omega) (by omega)]

/-- Two ascending lists with the same members are one. -/
theorem asc_ext : ∀ {xs ys : List Int}, xs.Pairwise (· < ·) → ys.Pairwise (· < ·) → (∀ x, x ∈ xs ↔ x ∈ ys) → xs = ys
  | [], [], _, _, _ => rfl
  | [], y :: ys, _, _, h => absurd ((h y).2 (by simp)) (by simp)
  | x :: xs, [], _, _, h => absurd ((h x).1 (by simp)) (by simp)
  | x :: xs, y :: ys, hx, hy, h => by
    have hx' := List.pairwise_cons.1 hx
    have hy' := List.pairwise_cons.1 hy
    have hxy : x = y := by
      have h1 := (h x).1 (by simp)
      have h2 := (h y).2 (by simp)
      rcases List.mem_cons.1 h1 with h1 | h1
      · exact h1
      · rcases List.mem_cons.1 h2 with h2 | h2
        · exact h2.symm
        · have a := hy'.1 _ h1
          have b := hx'.1 _ h2
          omega
    subst hxy
    congr 1
    refine asc_ext hx'.2 hy'.2 fun z => ?_
    have hz := h z
    simp only [List.mem_cons] at hz
    constructor
    · intro hm
      rcases hz.1 (.inr hm) with rfl | h'
      · exact absurd (hx'.1 _ hm) (by omega)
      · exact h'
    · intro hm
      rcases hz.2 (.inr hm) with rfl | h'
      · exact absurd (hy'.1 _ hm) (by omega)
      · exact h'

end Go.Proofs.Ytbhdipljhelddaa

/-! Pure complexes: the kind's method, IsPure, pureFacets. -/
namespace Go.Proofs.Ytbhdipljhelddaa
open Go.RowKit

/-- Do all have as many vertices as the first? -/
def pureB (L : List Int) : Bool := L.all fun x => decide (ones x.toNat = ones (L[0]?.getD 0).toNat)

theorem below_drewQ (w : World) (n : Nat) : Below w.heap.size w (w.drewN n) := ⟨rfl, rfl, rfl, Nat.le_refl _, fun _ _ => rfl⟩

set_option maxRecDepth 100000 in
set_option maxHeartbeats 1000000 in
/-- slices.IndexFunc at []int64, with a function that has captured one variable. -/
theorem idxC_any (a : Option Addr) (cap : Nat) (xs : List Int) (fid : Nat) (c1 : Value) (p : Int → Bool) (w : World) (hx : SlI w w.heap.size a xs) (hl : xs.length ≤ 1048576)
    (hent : ∀ args w, (callFunc fid args).run Try.prog w = .ok (.enter fid args) w)
    (hcl : ∀ W x, Below w.heap.size w W → x ∈ xs → Calls Try.prog fid #[.int .i64 x, c1] W fun e w' => e = .returned (.bool (p x)) ∧ Below W.heap.size W w') :
    Calls Try.prog 138 #[.slice a xs.length cap, .func (.func fid) #[] #[c1]] w fun e w' => ∃ i : Int, e = .returned (.int .i64 i) ∧ -1 ≤ i ∧ (0 ≤ i ↔ xs.any p = true) ∧ Below w.heap.size w w' := by
  have Hx := hid hx
  have HD := hid hcl
  clear hx hcl
  go_enter Try.func138, Try.ntmps138
  go_wp2
  go_loopw [8] (fun i wr => ∃ k : Nat, k ≤ xs.length ∧ i = .int .i64 k ∧ Hid ((xs.take k).any p = false) ∧ Hid (Below w.heap.size w wr)) (fun i _ => xs.length - (RowKit.intOf i).toNat)
  case atStart => exact ⟨0, Nat.zero_le _, rfl, hid (by simp), hid (Below.refl _ _)⟩
  case round =>
    obtain ⟨k, hk, rfl, Hk, HB⟩ := hrel
    by_cases hlt : k < xs.length
    · obtain ⟨b, off, hb, rfl, hc⟩ : ∃ b off, b < w.heap.size ∧ a = some ⟨b, off, none⟩ ∧ ∀ i, i < xs.length → w.cell? ⟨b, off + i, none⟩ = some (.int .i64 (xs[i]?.getD 0)) := by
        rcases Hx.out with rfl | h
        · simp at hlt
        · exact h
      obtain ⟨x, hx⟩ : ∃ x, x = xs[k]?.getD 0 := ⟨_, rfl⟩
      have hck : wr.cell? ⟨b, off + k, none⟩ = some (.int .i64 x) := by rw [hx]; exact (HB.out.cell (p := ⟨b, off + k, none⟩) hb).trans (hc k hlt)
      have hxm : x ∈ xs := by rw [hx]; exact getD_mem hlt
      have hi0 : (0 : Int) ≤ (k : Int) := by omega
      have hi1 : (k : Int) < (xs.length : Int) := by omega
      have HC := hid (HD.out wr x HB.out hxm)
      have Hs : Hid (∀ c, p x = c → (xs.take (k + 1)).any p = c) := hid (fun c hcc => by rw [take_snoc hlt, List.any_append, Hk.out, ← hx]; simpa using hcc)
      have Hm : Hid (p x = true → xs.any p = true) := hid (fun h => List.any_eq_true.2 ⟨x, hxm, h⟩)
      clear hx hc hxm
      cases hpx : p x
      · rw [hpx] at HC
        have He := hid (Hs.out false hpx)
        clear hpx Hs Hm
        go_wp2_with fail
        refine HC.out.mono ?_
        rintro e w1 ⟨rfl, hB1⟩
        have HB1 := hid (HB.out.trans (hB1.mono HB.out.size))
        clear hB1
        go_wp2_with fail
        go_roundw
        case rel => exact ⟨k + 1, by omega, by go_num, He, HB1⟩
        case measure => simp [RowKit.intOf]; omega
      · rw [hpx] at HC
        have He := hid (Hm.out hpx)
        clear hpx Hs Hm
        go_wp2_with fail
        refine HC.out.mono ?_
        rintro e w1 ⟨rfl, hB1⟩
        have HB1 := hid (HB.out.trans (hB1.mono HB.out.size))
        clear hB1
        go_wp2_with fail
        go_ret
        exact ⟨_, rfl, by omega, ⟨fun _ => He.out, fun _ => by omega⟩, HB1.out⟩
    · have hkn : k = xs.length := by omega
      have He : Hid (xs.any p = false) := hid (by have h := Hk.out; rw [hkn, List.take_length] at h; exact h)
      go_wp2_with fail
      go_ret
      exact ⟨-1, rfl, by decide, ⟨fun h => absurd h (by decide), fun h => by rw [He.out] at h; cases h⟩, HB.out⟩

set_option maxRecDepth 100000 in
set_option maxHeartbeats 1000000 in
theorem containsC_any (a : Option Addr) (cap : Nat) (xs : List Int) (fid : Nat) (c1 : Value) (p : Int → Bool) (w : World) (hx : SlI w w.heap.size a xs) (hl : xs.length ≤ 1048576)
    (hent : ∀ args w, (callFunc fid args).run Try.prog w = .ok (.enter fid args) w)
    (hcl : ∀ W x, Below w.heap.size w W → x ∈ xs → Calls Try.prog fid #[.int .i64 x, c1] W fun e w' => e = .returned (.bool (p x)) ∧ Below W.heap.size W w') :
    Calls Try.prog 184 #[.slice a xs.length cap, .func (.func fid) #[] #[c1]] w fun e w' => e = .returned (.bool (xs.any p)) ∧ Below w.heap.size w w' := by
  have HI := hid (idxC_any a cap xs fid c1 p w hx hl hent hcl)
  obtain ⟨c, hc⟩ : ∃ c, c = xs.any p := ⟨_, rfl⟩
  have Hc := hid hc
  rw [← hc]
  clear hc hx hcl hent
  go_enter Try.func184, Try.ntmps184
  go_wp2_with fail
  refine HI.out.mono ?_
  rintro e w' ⟨i, rfl, h1, h2, hB⟩
  have Hi := hid h2
  have HB := hid hB
  clear h1 h2 hB
  by_cases h0 : 0 ≤ i
  · have He : Hid (c = true) := hid (by rw [Hc.out]; exact Hi.out.1 h0)
    have hd : decide (0 ≤ i) = true := decide_eq_true h0
    go_wp2_with fail
    go_ret
    exact ⟨ret_bool He.out.symm, HB.out⟩
  · have He : Hid (c = false) := hid (by
      rw [Hc.out]
      rw [Bool.eq_false_iff]
      exact fun h => h0 (Hi.out.2 h))
    have hd : decide (0 ≤ i) = false := decide_eq_false h0
    go_wp2_with fail
    go_ret
    exact ⟨ret_bool He.out.symm, HB.out⟩

set_option maxRecDepth 100000 in
set_option maxHeartbeats 1000000 in
theorem has1_any (x : Nat) (hx : x < 64) (f : Nat) (hf : f < 64) (bm b off n cap : Nat) (w : World) (hm : w.cell? ⟨bm, 0, none⟩ = some (.slice (some ⟨b, off, none⟩) n cap)) (hn : 0 < n) (hc : w.cell? ⟨b, off, none⟩ = some (.int .i64 (f : Int))) :
    Calls Try.prog 185 #[.int .i64 (x : Int), .pointer (some ⟨bm, 0, none⟩)] w fun e w' => e = .returned (.bool (!decide (ones x = ones f))) ∧ Below w.heap.size w w' := by
  have hi1 : (0 : Int) < (n : Int) := by omega
  have hlt : 0 < n := hn
  go_enter Try.func185, Try.ntmps185
  go_wp2_with fail
  go_quiet (first
    | (go_at_call 107; exact quiet_of_eq (dim_any x _ hx))
    | (go_at_call 107; exact quiet_of_eq (dim_any f _ hf)))
  go_wp2_with fail
  go_ret
  refine ⟨ret_bool ?_, below_drewQ _ _⟩
  rw [Bool.eq_iff_iff]
  simp
  omega

theorem pureB_any (L : List Int) : (!(L.any fun x => !decide (ones x.toNat = ones (L[0]?.getD 0).toNat))) = pureB L := by
  unfold pureB
  rw [List.not_any_eq_all_not]
  simp

set_option maxRecDepth 100000 in
set_option maxHeartbeats 1000000 in
/-- The kind's method. -/
theorem pureHas_any (a : Option Addr) (cap : Nat) (xs : List Int) (w : World) (hx : SlI w w.heap.size a xs) (hl : xs.length ≤ 1048576) (hr : ∀ x ∈ xs, 1 ≤ x ∧ x ≤ 63) :
    Calls Try.prog 132 #[.agg #[], .slice a xs.length cap] w fun e w' => e = .returned (.bool (pureB xs)) ∧ Below w.heap.size w w' := by
  obtain ⟨W, hW⟩ : ∃ W, W = (w.alloc (.cells #[] 159)).alloc (.cells #[.slice a xs.length cap] 22) := ⟨_, rfl⟩
  have hB0 : Below w.heap.size w W := by rw [hW]; exact ((Below.refl _ w).alloc (Nat.le_refl _) _).alloc (by simp) _
  have hk : W.cell? ⟨w.heap.size + 1, 0, none⟩ = some (.slice a xs.length cap) := by rw [hW]; simp [go_sem]
  have hlt : w.heap.size + 1 < W.heap.size := by rw [hW]; simp
  have HC := hid (containsC_any a cap xs 185 (.pointer (some ⟨w.heap.size + 1, 0, none⟩)) (fun x => !decide (ones x.toNat = ones (xs[0]?.getD 0).toNat)) W (hx.later hB0 hB0.size) hl
    (enters_of Try.func185 (by kernel_rfl) rfl) (by
      intro W' x hB hxm
      have h0 : 0 < xs.length := List.length_pos_of_mem hxm
      rcases hx with rfl | ⟨b, off, hb, rfl, hc⟩
      · simp at h0
      · have h1 := hr x hxm
        have h2 := hr _ (getD_mem h0)
        have hc0 : W'.cell? ⟨b, off, none⟩ = some (.int .i64 (xs[0]?.getD 0)) := (hB.cell (p := ⟨b, off, none⟩) (Nat.lt_of_lt_of_le hb hB0.size)).trans ((hB0.cell (p := ⟨b, off, none⟩) hb).trans (hc 0 h0))
        have h := has1_any x.toNat (by omega) (xs[0]?.getD 0).toNat (by omega) (w.heap.size + 1) b off xs.length cap W' ((hB.cell (p := ⟨w.heap.size + 1, 0, none⟩) hlt).trans hk) h0 (by rw [hc0, Int.toNat_of_nonneg (by omega)])
        rw [Int.toNat_of_nonneg (show 0 ≤ x by omega)] at h
        exact h))
  obtain ⟨c, hc⟩ : ∃ c, c = xs.any (fun x => !decide (ones x.toNat = ones (xs[0]?.getD 0).toNat)) := ⟨_, rfl⟩
  have hpc : Hid (pureB xs = !c) := hid (by rw [hc, ← pureB_any])
  rw [← hc] at HC
  have HW := hid hW
  have HB0 := hid hB0
  clear hc hx hr hW hB0 hk hlt
  rw [hpc.out]
  go_enter Try.func132, Try.ntmps132
  go_wp2_with fail
  rw [← HW.out]
  refine HC.out.mono ?_
  rintro e w1 ⟨rfl, hB1⟩
  cases c <;>
  · go_wp2_with fail
    go_ret
    exact ⟨rfl, HB0.out.trans (hB1.mono HB0.out.size)⟩

/-- What IsPure hands back. -/
noncomputable def isPureR (V : Int) (fs : List Int) : Bool × Int := if isCB V fs then (pureB (facetsL fs), 0) else (false, 1)

theorem bool_mono' {fn : FuncId} {args : Array Value} {w : World} {B : Nat} {P : Program} {R : Bool × Int} {b : Bool} {c : Int} (hR : R = (b, c))
    (h : Calls P fn args w fun e w' => e = .returned (.tuple #[.bool b, .int .i64 c]) ∧ Below B w w') :
    Calls P fn args w fun e w' => e = .returned (.tuple #[.bool R.1, .int .i64 R.2]) ∧ Below B w w' := by
  subst hR
  exact h

theorem facetsL_range {V : Int} {fs : List Int} (h : IsC V fs) : ∀ x ∈ facetsL fs, 1 ≤ x ∧ x ≤ 63 := fun x hx => h.range63 x (List.mem_filter.1 hx).1
theorem facetsL_le (fs : List Int) : (facetsL fs).length ≤ fs.length := List.length_filter_le _ _

theorem method_pure (w : World) : (method 362 159 (.agg #[]) "loop.example/g01348/impl.has").run Try.prog w = .ok (132, .agg #[]) w := by kernel_rfl



/-- The facets of a pure complex. -/
noncomputable def pureFacetsR (V : Int) (fs : List Int) : List Int × Int := if isCB V fs then (if pureB (facetsL fs) then (facetsL fs, 0) else ([], 5)) else ([], 1)

set_option maxRecDepth 100000 in
set_option maxHeartbeats 1000000 in
theorem pureFacets_any (V : Int) (a : Option Addr) (cap : Nat) (fs : List Int) (w : World) (hx : SlI w w.heap.size a fs) (hl : fs.length ≤ 1048576) :
    Calls Try.prog 66 #[.agg #[.int .i64 V, .slice a fs.length cap]] w fun e w' => ∃ v, e = .returned (.tuple #[v, .int .i64 (pureFacetsR V fs).2]) ∧ Res w w' v (pureFacetsR V fs).1 := by
  obtain ⟨W, hW⟩ : ∃ W, W = w.alloc (.cells #[.int .i64 V, .slice a fs.length cap] 28) := ⟨_, rfl⟩
  have hB0 : Below w.heap.size w W := by rw [hW]; exact (Below.refl _ w).alloc (Nat.le_refl _) _
  have HF := hid (implFacetsOf V a cap fs W (hx.later hB0 hB0.size) hl)
  have HW := hid hW
  have HB0 := hid hB0
  clear hx hW hB0
  by_cases hC : IsC V fs
  · have hR : facetsOfR V fs = (facetsL fs, 0) := by unfold facetsOfR; rw [isCB_true hC, if_pos rfl]
    rw [hR] at HF
    have Hr := hid (facetsL_range hC)
    have Hle := hid (facetsL_le fs)
    obtain ⟨b, hb⟩ : ∃ b, b = pureB (facetsL fs) := ⟨_, rfl⟩
    have hP : Hid (pureFacetsR V fs = if b then (facetsL fs, 0) else ([], 5)) := hid (by unfold pureFacetsR; rw [isCB_true hC, if_pos rfl, hb])
    have Hb := hid hb
    clear hR hC hb
    cases b
    · refine pair_mono' (hP.out.trans (if_neg (by decide))) ?_
      go_enter Try.func66, Try.ntmps66
      go_wp2_with fail
      rw [← HW.out]
      refine HF.out.mono ?_
      rintro e w1 ⟨v, rfl, hr⟩
      obtain ⟨_, av, cv, rfl, hs⟩ := ownsRow_slI hr.1
      have HB1 := hid (HB0.out.trans (hr.2.mono HB0.out.size))
      go_wp2_with fail
      refine (pureHas_any av cv (facetsL fs) w1 hs (by have := Hle.out; omega) Hr.out).mono ?_
      rw [← Hb.out]
      rintro e w2 ⟨rfl, hB2⟩
      have HB2 := hid (HB1.out.trans (hB2.mono HB1.out.size))
      clear hB2
      go_wp2_with fail
      go_ret2
      exact ⟨_, rfl, res_nil _ _ HB2.out⟩
    · refine pair_mono' (hP.out.trans (if_pos rfl)) ?_
      go_enter Try.func66, Try.ntmps66
      go_wp2_with fail
      rw [← HW.out]
      refine HF.out.mono ?_
      rintro e w1 ⟨v, rfl, hr⟩
      obtain ⟨_, av, cv, rfl, hs⟩ := ownsRow_slI hr.1
      have Hres := hid (hr.later HB0.out)
      go_wp2_with fail
      refine (pureHas_any av cv (facetsL fs) w1 hs (by have := Hle.out; omega) Hr.out).mono ?_
      rw [← Hb.out]
      rintro e w2 ⟨rfl, hB2⟩
      have Hres2 := hid (Hres.out.after hB2)
      clear hB2
      go_wp2_with fail
      go_ret2
      exact ⟨_, rfl, Hres2.out⟩
  · refine pair_mono' (show pureFacetsR V fs = ([], 1) by unfold pureFacetsR; rw [isCB_false hC, if_neg (by simp)]) ?_
    have hR : facetsOfR V fs = ([], 1) := by unfold facetsOfR; rw [isCB_false hC, if_neg (by simp)]
    rw [hR] at HF
    clear hR hC
    go_enter Try.func66, Try.ntmps66
    go_wp2_with fail
    rw [← HW.out]
    refine HF.out.mono ?_
    rintro e w1 ⟨v, rfl, hr⟩
    have Hres := hid (hr.later HB0.out)
    go_wp2_with fail
    go_ret2
    exact ⟨_, rfl, Hres.out⟩

end Go.Proofs.Ytbhdipljhelddaa

/-! Pure complexes: the model's. -/
namespace Go.Proofs.Ytbhdipljhelddaa
open Go.RowKit

set_option maxRecDepth 100000 in
set_option maxHeartbeats 2000000 in
theorem pureS_any (V : Int) (a : Option Addr) (cap : Nat) (fs : List Int) (w : World) (hx : SlI w w.heap.size a fs) (hl : fs.length ≤ 1048576) (hC : IsC V fs) :
    Calls Try.prog 63 #[.agg #[.int .i64 V, .slice a fs.length cap]] w fun e w' => e = .returned (.bool (pureB (facetsL fs))) ∧ Below w.heap.size w w' := by
  obtain ⟨W, hW⟩ : ∃ W, W = w.alloc (.cells #[.int .i64 V, .slice a fs.length cap] 28) := ⟨_, rfl⟩
  have hB0 : Below w.heap.size w W := by rw [hW]; exact (Below.refl _ w).alloc (Nat.le_refl _) _
  have HF := hid (facets_any V a cap fs W (hx.later hB0 hB0.size) hl hC.range63)
  have HW := hid hW
  have HB0 := hid hB0
  have Hr := hid (facetsL_range hC)
  have Hle := hid (facetsL_le fs)
  obtain ⟨L, hL⟩ : ∃ L, L = facetsL fs := ⟨_, rfl⟩
  rw [← hL] at HF Hr Hle
  rw [← hL]
  clear hx hW hB0 hC hL
  have hL63 : L.length ≤ 1048576 := by have := Hle.out; omega
  go_enter Try.func63, Try.ntmps63
  go_wp2_with fail
  rw [← HW.out]
  refine HF.out.mono ?_
  rintro e w1 ⟨v, rfl, hr⟩
  obtain ⟨_, av, cv, rfl, hs⟩ := ownsRow_slI hr.1
  have HB1 := hid (HB0.out.trans (hr.2.mono HB0.out.size))
  have Hs := hid hs
  clear hr hs
  go_wp2_with fail
  go_loopw [4] (fun i wr => ∃ k : Nat, k ≤ L.length ∧ i = .int .i64 k ∧ Hid ((L.take k).all (fun x => decide (ones x.toNat = ones (L[0]?.getD 0).toNat)) = true) ∧ Hid (Below w1.heap.size w1 wr)) (fun i _ => L.length - (RowKit.intOf i).toNat)
  case atStart => exact ⟨0, Nat.zero_le _, rfl, hid (by simp), hid (Below.refl _ _)⟩
  case round =>
    obtain ⟨k, hk, rfl, Hk, HB⟩ := hrel
    by_cases hlt : k < L.length
    · obtain ⟨b, off, hb, rfl, hc⟩ : ∃ b off, b < wr.heap.size ∧ av = some ⟨b, off, none⟩ ∧ ∀ i, i < L.length → wr.cell? ⟨b, off + i, none⟩ = some (.int .i64 (L[i]?.getD 0)) := by
        rcases Hs.out.later HB.out HB.out.size with h | h
        · rw [h] at hlt; simp at hlt
        · exact h
      obtain ⟨x, hx⟩ : ∃ x : Nat, (x : Int) = L[k]?.getD 0 := ⟨(L[k]?.getD 0).toNat, by have := Hr.out _ (getD_mem hlt); omega⟩
      obtain ⟨f, hf⟩ : ∃ f : Nat, (f : Int) = L[0]?.getD 0 := ⟨(L[0]?.getD 0).toNat, by have := Hr.out _ (getD_mem (show 0 < L.length by omega)); omega⟩
      have hx64 : x < 64 := by have := Hr.out _ (getD_mem hlt); omega
      have hf64 : f < 64 := by have := Hr.out _ (getD_mem (show 0 < L.length by omega)); omega
      have hck : wr.cell? ⟨b, off + k, none⟩ = some (.int .i64 (x : Int)) := by rw [hx]; exact hc k hlt
      have hc0 : wr.cell? ⟨b, off, none⟩ = some (.int .i64 (f : Int)) := by rw [hf]; exact hc 0 (by omega)
      have hi0 : (0 : Int) ≤ (k : Int) := by omega
      have hi1 : (k : Int) < (L.length : Int) := by omega
      have hi2 : (0 : Int) < (L.length : Int) := by omega
      have hfn : (L[0]?.getD 0).toNat = f := by omega
      have Hsn : Hid (∀ c, decide (ones x = ones f) = c → (L.take (k + 1)).all (fun x => decide (ones x.toNat = ones (L[0]?.getD 0).toNat)) = c) := hid (fun c hcc => by
        rw [take_snoc hlt, List.all_append, Hk.out, ← hx, hfn]; simpa using hcc)
      have Hall : Hid (decide (ones x = ones f) = false → pureB L = false) := hid (fun hcc => by
        unfold pureB
        rw [List.all_eq_false]
        exact ⟨_, getD_mem hlt, by rw [← hx, hfn]; simpa using hcc⟩)
      clear hx hf hc hfn
      by_cases he : ones x = ones f
      · have hd : ((ones x : Int) != (ones f : Int)) = false := by simp; omega
        have He := hid (Hsn.out true (decide_eq_true he))
        clear he Hsn Hall
        go_wp2_with fail
        go_quiet ((go_at_call 95; exact quiet_of_eq (ones_any _ _ (by assumption))))
        go_wp2_with fail
        go_roundw
        case rel => exact ⟨k + 1, by omega, by go_num, He, hid ⟨HB.out.os, HB.out.tape, HB.out.output, HB.out.size, HB.out.block⟩⟩
        case measure => simp [RowKit.intOf]; omega
      · have hd : ((ones x : Int) != (ones f : Int)) = true := by simp; omega
        have He := hid (Hall.out (decide_eq_false he))
        clear he Hsn Hall
        go_wp2_with fail
        go_quiet ((go_at_call 95; exact quiet_of_eq (ones_any _ _ (by assumption))))
        go_wp2_with fail
        go_ret
        exact ⟨ret_bool He.out.symm, HB1.out.trans (Below.mono ⟨HB.out.os, HB.out.tape, HB.out.output, HB.out.size, HB.out.block⟩ HB1.out.size)⟩
    · have He : Hid (pureB L = true) := hid (by have h := Hk.out; rw [show k = L.length by omega, List.take_length] at h; exact h)
      go_wp2_with fail
      go_ret
      exact ⟨ret_bool He.out.symm, HB1.out.trans (HB.out.mono HB1.out.size)⟩


end Go.Proofs.Ytbhdipljhelddaa

/-! l07Shelling, the model's. -/
namespace Go.Proofs.Ytbhdipljhelddaa
open Go.RowKit Go.Shelf

/-- The k-th of a list is a facet that is not ahead of it. -/
def shK (F os : List Int) (k : Nat) : Bool := decide (os[k]?.getD 0 ∈ F) && (os.take k).all (fun x => decide (x ≠ os[k]?.getD 0))
def shOk (F os : List Int) (k : Nat) : Bool := (List.range k).all fun i => shK F os i && shG (os[i]?.getD 0) (os.take i)
/-- Is it a shelling? -/
def shB (F os : List Int) : Bool := decide (os.length = F.length) && shOk F os os.length
/-- The restrictions of the first k. -/
def shL (os : List Int) (k : Nat) : List Int := (List.range k).map fun i => shR (os[i]?.getD 0) (os.take i) 6
theorem shOk_succ (F os : List Int) (k : Nat) : shOk F os (k + 1) = (shOk F os k && (shK F os k && shG (os[k]?.getD 0) (os.take k))) := by unfold shOk; rw [List.range_succ, List.all_append]; simp
theorem shOk_no {F os : List Int} {n k : Nat} (hk : k < n) (h : (shK F os k && shG (os[k]?.getD 0) (os.take k)) = false) : shOk F os n = false := by
  unfold shOk
  rw [List.all_eq_false]
  exact ⟨k, by simpa using hk, by rw [h]; decide⟩
theorem shL_succ (os : List Int) (k : Nat) : shL os (k + 1) = shL os k ++ [shR (os[k]?.getD 0) (os.take k) 6] := by unfold shL; rw [List.range_succ, List.map_append]; rfl
theorem shL_len (os : List Int) (k : Nat) : (shL os k).length = k := by simp [shL]
theorem quiet_of_eq2 {P : Program} {f : FuncId} {args : Array Value} {w : World} {m n : Nat} {v : Value}
    (h : Calls P f args (w.drewN (m + n)) fun e w' => e = .returned v ∧ w.drewN (m + n) = w') : Calls P f args (w.drewN (m + n)) fun e w'' => e = .returned v ∧ ∃ k, w'' = w.drewN (m + k) :=
  h.mono fun _ _ ⟨he, hm⟩ => ⟨he, n, hm.symm⟩
theorem slI_take {w : World} {B : Nat} {a : Option Addr} {xs : List Int} (h : SlI w B a xs) (k : Nat) : SlI w B a (xs.take k) := by
  rcases h with rfl | ⟨b, off, hb, ha, hc⟩
  · left; simp
  · right
    refine ⟨b, off, hb, ha, fun i hi => ?_⟩
    simp at hi
    rw [hc i (by omega), List.getElem?_take_of_lt (by omega)]


end Go.Proofs.Ytbhdipljhelddaa

/-! followedBy: nodes with pointers. -/
namespace Go.Proofs.Ytbhdipljhelddaa
open Go.RowKit Go.Shelf

/-- What of f is not in o. -/
def ndiff (f o : Nat) : Nat := f - (f &&& o)
theorem ndiff_le (f o : Nat) : ndiff f o ≤ f := Nat.sub_le _ _
set_option maxRecDepth 100000 in
theorem ndiff_bits : ∀ f o : Fin 64, bits BinOp.andNot IntKind.i64 (f.val : Int) (o.val : Int) = ((ndiff f.val o.val : Nat) : Int) := by decide +kernel
theorem or_bits {x y : Nat} (hx : x < 64) (hy : y < 64) : bits BinOp.or IntKind.i64 (x : Int) (y : Int) = ((x ||| y : Nat) : Int) := (bits_nat .i64 6 (by decide) (fun n h0 h1 => by rw [IntKind.wrap_i64]; omega) x y (by omega) (by omega)).2
theorem or_lt {x y : Nat} (hx : x < 64) (hy : y < 64) : x ||| y < 64 := Nat.or_lt_two_pow (n := 6) hx hy

/-- The restriction of f behind the facets of a chain, the last one first. -/
def fRs (f : Nat) (L : List (Nat × Nat)) (r : Nat) : Nat := L.foldl (fun r o => if ones (ndiff f o.1) = 1 then r ||| ndiff f o.1 else r) r
def fR (f : Nat) (L : List (Nat × Nat)) : Nat := fRs f L 0
def fG (f : Nat) (L : List (Nat × Nat)) : Bool := L.all fun o => decide (ndiff (fR f L) o.1 ≠ 0)
theorem fRs_lt {f : Nat} (hf : f < 64) : ∀ (L : List (Nat × Nat)) (r : Nat), r < 64 → fRs f L r < 64
  | [], r, h => h
  | o :: L, r, h => by
    unfold fRs
    rw [List.foldl_cons]
    refine fRs_lt hf L _ ?_
    split
    · exact or_lt h (Nat.lt_of_le_of_lt (ndiff_le _ _) hf)
    · exact h

/-- A chain of nodes lies from p on: facets and restrictions, the last one first. -/
def ChainAt (W : World) : Option Addr → List (Nat × Nat) → Prop
  | p, [] => p = none
  | p, (f, r) :: L => ∃ b p', p = some ⟨b, 0, none⟩ ∧ W.heap[b]? = some (.cells #[.int .i64 (f : Int), .int .i64 (r : Int), .pointer p'] 162 (0, 0)) ∧ f < 64 ∧ r < 64 ∧ ChainAt W p' L
theorem ChainAt.later {W W' : World} (hb : Below W.heap.size W W') : ∀ (L : List (Nat × Nat)) (p : Option Addr), ChainAt W p L → ChainAt W' p L
  | [], _, h => h
  | (_, _) :: L, _, ⟨b, p', h1, h2, h3, h4, h5⟩ => ⟨b, p', h1, (hb.block b (lt_of_get h2)).trans h2, h3, h4, ChainAt.later hb L p' h5⟩
theorem three_of {W : World} {b : Nat} {x y z : Value} {t : Nat} (h : W.heap[b]? = some (.cells #[x, y, z] t (0, 0))) : W.cell? ⟨b, 0, none⟩ = some x ∧ W.cell? ⟨b, 1, none⟩ = some y ∧ W.cell? ⟨b, 2, none⟩ = some z ∧ W.frozen? ⟨b, 1, none⟩ = false := by
  refine ⟨?_, ?_, ?_, ?_⟩ <;> simp [World.cell?, World.frozen?, h]

set_option maxRecDepth 1000000 in
set_option maxHeartbeats 4000000 in
theorem followed_any (p : Option Addr) (L : List (Nat × Nat)) (f : Nat) (w : World) (hc : ChainAt w p L) (hf : f < 64) :
    Calls Try.prog 133 #[.pointer p, .int .i64 (f : Int)] w fun e w' => ∃ q, e = .returned (.tuple #[.pointer q, .bool (fG f L)]) ∧ (fG f L = true → ChainAt w' q ((f, fR f L) :: L)) ∧ Below w.heap.size w w' := by
  obtain ⟨W, hW⟩ : ∃ W, W = w.alloc (.cells #[.int .i64 (f : Int), .int .i64 0, .pointer p] 162) := ⟨_, rfl⟩
  have hB0 : Below w.heap.size w W := by rw [hW]; exact (Below.refl _ w).alloc (Nat.le_refl _) _
  have hbx : W.heap[w.heap.size]? = some (.cells #[.int .i64 (f : Int), .int .i64 0, .pointer p] 162 (0, 0)) := by rw [hW]; exact heap_alloc_new _ _
  obtain ⟨E, hE⟩ : ∃ E, E = fG f L := ⟨_, rfl⟩
  obtain ⟨R, hR⟩ : ∃ R, R = fR f L := ⟨_, rfl⟩
  have HE := hid hE
  have HR := hid hR
  have hR64 : R < 64 := by rw [hR]; exact fRs_lt hf L 0 (by decide)
  rw [← hE, ← hR]
  have Hc := hid hc
  have HB0 := hid hB0
  have Hbx := hid hbx
  clear hc hB0 hbx hE hR
  go_enter Try.func133, Try.ntmps133
  go_wp2_with (rw [← hW])
  clear hW
  go_loopg [7] L.length (fun n s7 wr => ∃ (pre rest : List (Nat × Nat)) (q : Option Addr), s7 = .pointer q ∧ Hid (L = pre ++ rest) ∧ rest.length ≤ n ∧ Hid (ChainAt w q rest) ∧ Hid (wr.heap[w.heap.size]? = some (.cells #[.int .i64 (f : Int), .int .i64 (fRs f pre 0 : Nat), .pointer p] 162 (0, 0))) ∧ Hid (Below w.heap.size w wr))
  case atStart => exact ⟨[], L, p, rfl, hid rfl, Nat.le_refl _, Hc, Hbx, HB0⟩
  case round =>
    obtain ⟨pre, rest, q, rfl, Hl, hn, Hq, Hb, HB⟩ := hrel
    cases rest with
    | nil =>
      obtain rfl : q = none := Hq.out
      have hpre : fRs f pre 0 = R := by rw [HR.out, fR, Hl.out, List.append_nil]
      rw [hpre] at Hb
      have HB1 := HB
      have Hb1 := Hb
      clear hpre hn Hq Hl HB Hb
      go_wp2_with fail
      go_loopg [9] L.length (fun n s9 wr => ∃ (pre rest : List (Nat × Nat)) (q : Option Addr), s9 = .pointer q ∧ Hid (L = pre ++ rest) ∧ rest.length ≤ n ∧ Hid (ChainAt w q rest) ∧ Hid (∀ o ∈ pre, ndiff R o.1 ≠ 0) ∧ Hid (wr.heap[w.heap.size]? = some (.cells #[.int .i64 (f : Int), .int .i64 (R : Nat), .pointer p] 162 (0, 0))) ∧ Hid (Below w.heap.size w wr))
      case atStart => exact ⟨[], L, p, rfl, hid rfl, Nat.le_refl _, Hc, hid (by simp), Hb1, HB1⟩
      case round =>
        obtain ⟨pre, rest, q, rfl, Hl, hn, Hq, Ha, Hb, HB⟩ := hrel
        cases rest with
        | nil =>
          obtain rfl : q = none := Hq.out
          have He : Hid (E = true) := hid (by
            rw [HE.out, fG, List.all_eq_true]
            intro o ho
            rw [Hl.out, List.append_nil] at ho
            rw [← HR.out]
            exact decide_eq_true (Ha.out o ho))
          have Hch : Hid (ChainAt wr (some ⟨w.heap.size, 0, none⟩) ((f, R) :: L)) := hid ⟨_, p, rfl, Hb.out, hf, hR64, Hc.out.later HB.out L p⟩
          go_wp2_with fail
          go_ret2
          rw [He.out]
          exact ⟨_, rfl, fun _ => Hch.out, HB.out⟩
        | cons o rest =>
          obtain ⟨o, ro⟩ := o
          obtain ⟨b, q', rfl, hbk, ho, hro, hch⟩ := Hq.out
          obtain ⟨c0, c1, c2, _⟩ := three_of ((HB.out.block b (lt_of_get hbk)).trans hbk)
          obtain ⟨d0, d1, d2, _⟩ := three_of Hb.out
          have Hch := hid hch
          have hbits := ndiff_bits ⟨R, hR64⟩ ⟨o, ho⟩
          simp only at hbits
          have hn0 := hid hn
          have HnG : Hid (ndiff R o = 0 → E = false) := hid (fun h => by
            rw [HE.out, fG, List.all_eq_false]
            exact ⟨(o, ro), by rw [Hl.out]; simp, by rw [← HR.out]; simpa using h⟩)
          have Hl2 : Hid (L = (pre ++ [(o, ro)]) ++ rest) := hid (by rw [Hl.out]; simp)
          have Ha2 : Hid (ndiff R o ≠ 0 → ∀ z ∈ pre ++ [(o, ro)], ndiff R z.1 ≠ 0) := hid (fun h z hz => by
            rcases List.mem_append.1 hz with hz | hz
            · exact Ha.out z hz
            · simp at hz; rw [hz]; exact h)
          clear hbk hch hn
          obtain ⟨t, ht⟩ : ∃ t, t = ndiff R o := ⟨_, rfl⟩
          rw [← ht] at hbits HnG Ha2
          clear ht
          by_cases h0 : t = 0
          · have He := hid (HnG.out h0)
            have hd : ((t : Int) == 0) = true := by simp [h0]
            clear h0
            go_wp2_with fail
            go_quiet (fail)
            go_wp2_with fail
            go_ret2
            rw [He.out]
            exact ⟨_, rfl, by simp, HB.out.os, HB.out.tape, HB.out.output, HB.out.size, HB.out.block⟩
          · have Ha3 := hid (Ha2.out h0)
            have hd : ((t : Int) == 0) = false := by simp [h0]
            clear h0
            go_wp2_with fail
            go_quiet (fail)
            go_wp2_with fail
            go_roundg rest.length
            case measure => have h := hn0.out; simp at h; omega
            case rel => exact ⟨_, rest, q', rfl, Hl2, Nat.le_refl _, Hch, Ha3, hid Hb.out, hid ⟨HB.out.os, HB.out.tape, HB.out.output, HB.out.size, HB.out.block⟩⟩
    | cons o rest =>
      obtain ⟨o, ro⟩ := o
      obtain ⟨b, q', rfl, hbk, ho, hro, hch⟩ := Hq.out
      obtain ⟨c0, c1, c2, _⟩ := three_of ((HB.out.block b (lt_of_get hbk)).trans hbk)
      obtain ⟨d0, d1, d2, d3⟩ := three_of Hb.out
      have Hch := hid hch
      have hbits := ndiff_bits ⟨f, hf⟩ ⟨o, ho⟩
      simp only at hbits
      have hn0 := hid hn
      have Hl2 : Hid (L = (pre ++ [(o, ro)]) ++ rest) := hid (by rw [Hl.out]; simp)
      have Hs : Hid (fRs f (pre ++ [(o, ro)]) 0 = if ones (ndiff f o) = 1 then fRs f pre 0 ||| ndiff f o else fRs f pre 0) := hid (by unfold fRs; rw [List.foldl_append]; rfl)
      have hr64 : fRs f pre 0 < 64 := fRs_lt hf pre 0 (by decide)
      have ht64 : ndiff f o < 64 := Nat.lt_of_le_of_lt (ndiff_le _ _) hf
      clear hbk hch hn
      obtain ⟨t, ht⟩ : ∃ t, t = ndiff f o := ⟨_, rfl⟩
      obtain ⟨r, hr⟩ : ∃ t, t = fRs f pre 0 := ⟨_, rfl⟩
      rw [← ht] at hbits Hs ht64
      rw [← hr] at Hs hr64 Hb d1
      have hor := or_bits hr64 ht64
      have hot := ones_le t
      clear ht hr
      by_cases h1 : ones t = 1
      · have hd : ((ones t : Int) - 1 == 0) = true := by simp; omega
        have Hs2 := hid (Hs.out.trans (if_pos h1))
        clear h1
        go_wp2_with (go_at_call 107; refine (dim_any t _ ht64).mono ?_; rintro e w' ⟨rfl, rfl⟩)
        go_roundg rest.length
        case measure => have h := hn0.out; simp at h; omega
        case rel =>
          refine ⟨_, rest, q', rfl, Hl2, Nat.le_refl _, Hch, hid ?_, hid (HB.out.setCell (p := ⟨w.heap.size, 1, none⟩) (Nat.le_refl _) _)⟩
          rw [Hs2.out]
          simp only [World.setCell, Array.getElem?_modify, Hb.out]
          simp
      · have hd : ((ones t : Int) - 1 == 0) = false := by simp; omega
        have Hs2 := hid (Hs.out.trans (if_neg h1))
        clear h1
        go_wp2_with (go_at_call 107; refine (dim_any t _ ht64).mono ?_; rintro e w' ⟨rfl, rfl⟩)
        go_roundg rest.length
        case measure => have h := hn0.out; simp at h; omega
        case rel => exact ⟨_, rest, q', rfl, Hl2, Nat.le_refl _, Hch, hid (by rw [Hs2.out]; exact Hb.out), HB⟩

end Go.Proofs.Ytbhdipljhelddaa

/-! Shellings: the program's and the model's are the same. -/
namespace Go.Proofs.Ytbhdipljhelddaa
open Go.RowKit Go.Shelf

def gI (f o : Nat) : Nat := if ones (ndiff f o) = 1 then ndiff f o else 0
def hB (f v o : Nat) : Nat := if f &&& 2 ^ v = 2 ^ v ∧ o &&& (f - 2 ^ v) = f - 2 ^ v then 2 ^ v else 0
set_option maxRecDepth 1000000 in
theorem gI_hB : ∀ f o : Fin 64, o.val &&& f.val ≠ f.val → gI f.val o.val = (List.range 6).foldl (fun r v => r ||| hB f.val v o.val) 0 := by decide +kernel

theorem foldOr_bit {α : Type} (F : α → Nat) (k : Nat) : ∀ (L : List α) (r : Nat), (L.foldl (fun r x => r ||| F x) r).testBit k = (r.testBit k || L.any fun x => (F x).testBit k)
  | [], r => by simp
  | x :: L, r => by
    rw [List.foldl_cons, foldOr_bit F k L, Nat.testBit_or, List.any_cons, Bool.or_assoc]

/-- The model's restriction as a number. -/
def rN (f : Nat) (ns : List Nat) : Nat → Nat
  | 0 => 0
  | v + 1 => ns.foldl (fun r o => r ||| hB f v o) (rN f ns v)
theorem rN_bit (f : Nat) (ns : List Nat) (k : Nat) : ∀ n, (rN f ns n).testBit k = (List.range n).any fun v => ns.any fun o => (hB f v o).testBit k
  | 0 => by simp [rN]
  | n + 1 => by
    rw [rN, foldOr_bit (fun o => hB f n o), rN_bit f ns k n, List.range_succ, List.any_append]
    simp
theorem fR_eq (f : Nat) (L : List (Nat × Nat)) : fR f L = L.foldl (fun r o => r ||| gI f o.1) 0 := by
  unfold fR fRs
  congr 1
  funext r o
  unfold gI
  split <;> simp
theorem hB_lt {f v o : Nat} (hv : v < 6) : hB f v o < 64 := by
  unfold hB
  split
  · exact Nat.lt_of_lt_of_le (Nat.pow_lt_pow_right (by decide) hv) (by decide)
  · decide
theorem foldN_lt {F : Nat → Nat} (hF : ∀ o, F o < 64) : ∀ (L : List Nat) (r : Nat), r < 64 → L.foldl (fun r o => r ||| F o) r < 64
  | [], r, h => h
  | o :: L, r, h => by rw [List.foldl_cons]; exact foldN_lt hF L _ (or_lt h (hF o))
theorem rN_lt (f : Nat) (ns : List Nat) : ∀ n, n ≤ 6 → rN f ns n < 64
  | 0, _ => Nat.zero_lt_succ _
  | n + 1, h => by rw [rN]; exact foldN_lt (fun o => hB_lt (by omega)) ns _ (rN_lt f ns n (by omega))

/-- The chain's restriction is the model's, where no facet ahead holds f. -/
theorem rN_fR {f : Nat} {ns : List Nat} {L : List (Nat × Nat)} (hf : f < 64) (hm : ∀ o, o ∈ ns ↔ ∃ r, (o, r) ∈ L) (ho : ∀ o ∈ ns, o < 64 ∧ o &&& f ≠ f) : rN f ns 6 = fR f L := by
  apply Nat.eq_of_testBit_eq
  intro k
  rw [rN_bit, fR_eq, foldOr_bit (fun o : Nat × Nat => gI f o.1), Nat.zero_testBit, Bool.false_or, Bool.eq_iff_iff, List.any_eq_true, List.any_eq_true]
  constructor
  · rintro ⟨v, hv, h⟩
    obtain ⟨o, hon, h⟩ := List.any_eq_true.1 h
    obtain ⟨r, hr⟩ := (hm o).1 hon
    obtain ⟨o64, hne⟩ := ho o hon
    refine ⟨(o, r), hr, ?_⟩
    simp only
    rw [gI_hB ⟨f, hf⟩ ⟨o, o64⟩ hne, foldOr_bit (fun v => hB f v o), Nat.zero_testBit, Bool.false_or, List.any_eq_true]
    exact ⟨v, hv, h⟩
  · rintro ⟨⟨o, r⟩, hr, h⟩
    have hon := (hm o).2 ⟨r, hr⟩
    obtain ⟨o64, hne⟩ := ho o hon
    simp only at h
    rw [gI_hB ⟨f, hf⟩ ⟨o, o64⟩ hne, foldOr_bit (fun v => hB f v o), Nat.zero_testBit, Bool.false_or, List.any_eq_true] at h
    obtain ⟨v, hv, h⟩ := h
    exact ⟨v, hv, List.any_eq_true.2 ⟨o, hon, h⟩⟩

theorem and_bits64 {x y : Nat} (hx : x < 64) (hy : y < 64) : bits BinOp.and IntKind.i64 (x : Int) (y : Int) = ((x &&& y : Nat) : Int) := (bits_nat .i64 6 (by decide) (fun n h0 h1 => by rw [IntKind.wrap_i64]; omega) x y (by omega) (by omega)).1
theorem wrap_pow : ∀ v : Fin 6, wrap64 (2 ^ v.val) = ((2 ^ v.val : Nat) : Int) := by decide +kernel
theorem pow_le_of_bit : ∀ f : Fin 64, ∀ v : Fin 6, f.val &&& 2 ^ v.val = 2 ^ v.val → 2 ^ v.val ≤ f.val := by decide +kernel
theorem bit_zero : ∀ f : Fin 64, ∀ v : Fin 6, f.val &&& 2 ^ v.val ≠ 2 ^ v.val → f.val &&& 2 ^ v.val = 0 := by decide +kernel

theorem shF_nat {f v : Nat} (hf : f < 64) (hv : v < 6) (hb : f &&& 2 ^ v = 2 ^ v) : ∀ (ns : List Nat) (r : Nat), r < 64 → (∀ o ∈ ns, o < 64) → shF (f : Int) (wrap64 (2 ^ v)) (ns.map fun o : Nat => (o : Int)) (r : Int) = ((ns.foldl (fun r o => r ||| hB f v o) r : Nat) : Int)
  | [], r, _, _ => rfl
  | o :: ns, r, hr, ho => by
    have h1 := pow_le_of_bit ⟨f, hf⟩ ⟨v, hv⟩ hb
    simp only at h1
    have hw := wrap_pow ⟨v, hv⟩
    simp only at hw
    have ho64 := ho o (by simp)
    have hp64 : 2 ^ v < 64 := Nat.lt_of_lt_of_le (Nat.pow_lt_pow_right (by decide) hv) (by decide)
    have hd : wrap64 ((f : Int) - wrap64 (2 ^ v)) = ((f - 2 ^ v : Nat) : Int) := by
      rw [hw, ← Int.ofNat_sub h1]
      unfold wrap64
      omega
    have ih := fun r' hr' => shF_nat hf hv hb ns r' hr' (fun o h => ho o (List.mem_cons_of_mem _ h))
    unfold shF at ih ⊢
    rw [List.map_cons, List.foldl_cons, List.foldl_cons, hd, and_bits64 ho64 (by omega)]
    rw [hd] at ih
    have e : (if (((o &&& (f - 2 ^ v) : Nat) : Int) == ((f - 2 ^ v : Nat) : Int)) = true then bits BinOp.or IntKind.i64 (r : Int) (wrap64 (2 ^ v)) else (r : Int)) = ((r ||| hB f v o : Nat) : Int) := by
      unfold hB
      by_cases h : o &&& (f - 2 ^ v) = f - 2 ^ v
      · rw [if_pos (by rw [h]; simp), if_pos ⟨hb, h⟩, hw, or_bits hr hp64]
      · rw [if_neg (by simp only [beq_iff_eq, Int.natCast_inj]; exact h), if_neg (fun hh => h hh.2), Nat.or_zero]
    rw [e]
    exact ih _ (or_lt hr (hB_lt hv))

theorem shR_nat {f : Nat} (hf : f < 64) {ns : List Nat} (ho : ∀ o ∈ ns, o < 64) : ∀ n, n ≤ 6 → shR (f : Int) (ns.map fun o : Nat => (o : Int)) n = (rN f ns n : Int)
  | 0, _ => rfl
  | v + 1, h => by
    have ih := shR_nat hf ho v (by omega)
    have hv : v < 6 := by omega
    have hp64 : 2 ^ v < 64 := Nat.lt_of_lt_of_le (Nat.pow_lt_pow_right (by decide) hv) (by decide)
    have hw := wrap_pow ⟨v, hv⟩
    simp only at hw
    rw [shR, rN, ih]
    by_cases hb : f &&& 2 ^ v = 2 ^ v
    · have hne : (bits BinOp.and IntKind.i64 (f : Int) (wrap64 (2 ^ v)) == 0) = false := by
        rw [hw, and_bits64 hf hp64, hb]
        have := Nat.two_pow_pos v
        simp only [beq_eq_false_iff_ne]
        omega
      rw [if_neg (by rw [hne]; simp)]
      exact shF_nat hf hv hb ns _ (rN_lt f ns v (by omega)) ho
    · have h0 := bit_zero ⟨f, hf⟩ ⟨v, hv⟩ hb
      simp only at h0
      rw [if_pos (by rw [hw, and_bits64 hf hp64, h0]; rfl)]
      congr 1
      have : ∀ (L : List Nat) (r : Nat), L.foldl (fun r o => r ||| hB f v o) r = r := by
        intro L
        induction L with
        | nil => intro r; rfl
        | cons o L ih2 => intro r; rw [List.foldl_cons, show hB f v o = 0 from if_neg (fun h => hb h.1), Nat.or_zero]; exact ih2 r
      exact (this ns _).symm

end Go.Proofs.Ytbhdipljhelddaa

/-! What can follow: the model's test and the program's are one; facets are not in each other. -/
namespace Go.Proofs.Ytbhdipljhelddaa
open Go.RowKit

theorem good_nat {f : Nat} (hf : f < 64) {ns : List Nat} {L : List (Nat × Nat)} (hm : ∀ o, o ∈ ns ↔ ∃ r, (o, r) ∈ L) (ho : ∀ o ∈ ns, o < 64 ∧ o &&& f ≠ f) : shG (f : Int) (ns.map fun o : Nat => (o : Int)) = fG f L := by
  have hR : shR (f : Int) (ns.map fun o : Nat => (o : Int)) 6 = (fR f L : Int) := by rw [shR_nat hf (fun o h => (ho o h).1) 6 (by decide), rN_fR hf hm ho]
  have hR64 : fR f L < 64 := fRs_lt hf L 0 (by decide)
  have key : ∀ o : Nat, o < 64 → (!(bits BinOp.and IntKind.i64 (o : Int) (fR f L : Int) == (fR f L : Int))) = decide (ndiff (fR f L) o ≠ 0) := by
    intro o h
    rw [and_bits64 h hR64]
    have h1 : o &&& fR f L = fR f L &&& o := Nat.and_comm _ _
    have h2 : fR f L &&& o ≤ fR f L := Nat.and_le_left
    unfold ndiff
    rw [Bool.eq_iff_iff]
    simp only [Bool.not_eq_true', beq_eq_false_iff_ne, decide_eq_true_eq, ne_eq, Int.natCast_inj]
    rw [h1]
    constructor <;> intro h3 h4 <;> apply h3 <;> omega
  unfold shG fG
  rw [hR, Bool.eq_iff_iff, List.all_eq_true, List.all_eq_true]
  constructor
  · rintro h ⟨o, r⟩ hr
    have hon := (hm o).2 ⟨r, hr⟩
    have := h (o : Int) (List.mem_map.2 ⟨o, hon, rfl⟩)
    rwa [key o (ho o hon).1] at this
  · intro h z hz
    obtain ⟨o, hon, rfl⟩ := List.mem_map.1 hz
    obtain ⟨r, hr⟩ := (hm o).1 hon
    rw [key o (ho o hon).1]
    exact h (o, r) hr

/-- A facet in a face is that face. -/
theorem facet_max {V : Int} {fs : List Int} (hC : IsC V fs) {f o : Nat} (hf : (f : Int) ∈ facetsL fs) (ho : (o : Int) ∈ fs) (h : o &&& f = f) : o = f := by
  have hff := (List.mem_filter.1 hf).1
  have hr := hC.range63 _ hff
  have hro := hC.range63 _ ho
  refine Classical.byContradiction fun hne => ?_
  obtain ⟨y, hy0, hyo, hyf, hyn⟩ := above_step ⟨f, by omega⟩ ⟨o, by omega⟩ (by simp only; omega) (by simp only; rw [Nat.and_comm]; exact h) (by simp only; exact fun e => hne e.symm)
  simp only at hyo hyf hyn
  have hm := hC.closed (o : Int) ho y.val hy0 (by rw [Int.toNat_natCast]; exact hyo)
  have hl := of_decide_eq_true (List.mem_filter.1 hf).2
  have : ((y.val : Nat) : Int) ∈ aboveL fs (f : Int).toNat := by
    unfold aboveL
    refine List.mem_filter.2 ⟨hm, decide_eq_true ?_⟩
    rw [Int.toNat_natCast, Int.toNat_natCast]
    exact ⟨hyf, hyn⟩
  rw [List.length_eq_zero_iff] at hl
  rw [hl] at this
  simp at this


end Go.Proofs.Ytbhdipljhelddaa

/-! A region that draws its order, whose last operation writes what others read: what is held of the world is asked behind every operation but that one. -/
namespace Go.Proofs.Ytbhdipljhelddaa
open Go.RowKit

section
variable {P : Program} {ops : Array Oper} {Q : Exit → Act → World → Prop} {md : Region.Mode} {S : World → Prop} {m : Nat}

/-- Whatever order is picked; S holds behind every operation but number m. -/
def anyM (P : Program) (md : Region.Mode) (ops : Array Oper) (Q : Exit → Act → World → Prop) (S : World → Prop) (m : Nat) : Nat → Array Bool → Act → World → Prop
  | 0, listed, a, w => Region.ready md ops listed = [] ∧ Q .normal a w
  | fuel + 1, listed, a, w => (Region.ready md ops listed = [] → Q .normal a w) ∧
      ∀ i ∈ Region.ready md ops listed, wpOp P ops Q i (fun a' w' => (i ≠ m → S w') ∧ anyM P md ops Q S m fuel (listed.setIfInBounds i true) a' w') a w

theorem any_of_M : ∀ (fuel : Nat) (listed : Array Bool) (a : Act) (w : World), anyM P md ops Q S m fuel listed a w → wpAny P md ops Q fuel listed a w
  | 0, _, _, _, h => h
  | fuel + 1, _, _, _, h => ⟨h.1, fun i hi => wpOp_mono (fun a' w' h' => any_of_M fuel _ a' w' h'.2) (h.2 i hi)⟩

/-- Each number waits for the one ahead of it. -/
def queueB (md : Region.Mode) (ops : Array Oper) : List Nat → Bool
  | x :: y :: r => (match ops[y]? with | some o => o.after.any (fun e => Region.binds md e && e.on == x) | none => false) && queueB md ops (y :: r)
  | _ => true

theorem queue_unready {listed : Array Bool} : ∀ (cs : List Nat) (i : Nat), queueB md ops (i :: cs) = true → (∀ c ∈ i :: cs, listed.getD c true = false) → ∀ c ∈ cs, c ∉ Region.ready md ops listed
  | [], _, _, _ => fun c hc => by cases hc
  | y :: r, i, h, hu => fun c hc => by
    simp only [queueB, Bool.and_eq_true] at h
    rcases List.mem_cons.1 hc with rfl | hc
    · intro hr
      obtain ⟨_, o, ho, hall⟩ := mem_ready.1 hr
      have h1 := h.1
      rw [ho] at h1
      simp only [Array.any_eq_true', Bool.and_eq_true, beq_iff_eq] at h1
      obtain ⟨e, he, hb, heq⟩ := h1
      have h2 := hall e he hb
      have h0 := hu i (List.mem_cons_self ..)
      rw [heq] at h2
      rcases Nat.lt_or_ge i listed.size with h' | h'
      · simp [h'] at h0 h2; rw [h0] at h2; cases h2
      · simp [Array.getElem?_eq_none h'] at h2
    · exact queue_unready r y h.2 (fun c hc => hu c (List.mem_cons_of_mem _ hc)) c hc

theorem anyM_first {i : Nat} {oi : Oper} {v : Value} (hi : ops[i]? = some oi) (hsel : ∀ (j : Nat) (o : Oper) cs b, ops[j]? = some o → o.op ≠ .select cs b)
    (hQ : ∀ c a w, Q (.panic c) (a.put oi.dst v) w → Q (.panic c) a w) {cs : List Nat} (hcs : queueB md ops (i :: cs) = true) (hm : m ∈ cs) :
    ∀ (fuel : Nat) (listed : Array Bool) (a : Act) (w : World),
      (∀ j oj, ops[j]? = some oj → j ≠ i → listed.getD j true = false → (∀ e ∈ oj.after, Region.binds md e = true → e.on ≠ i) → oi.apart ops oj = true) →
      i ∈ Region.ready md ops listed → (∀ c ∈ i :: cs, listed.getD c true = false) → YieldsIf P ops S oi v a → S w →
      anyM P md ops Q S m fuel (listed.setIfInBounds i true) (a.put oi.dst v) w → anyM P md ops Q S m (fuel + 1) listed a w := by
  intro fuel
  induction fuel with
  | zero =>
    intro listed a w _ hr _ hy hS H
    refine ⟨fun h => (by rw [h] at hr; cases hr), fun j hj => ?_⟩
    by_cases hji : j = i
    · subst hji; exact hy.wpOp hi hS ⟨fun _ => hS, H⟩
    · have := ready_mono hj hji
      rw [H.1] at this
      cases this
  | succ fuel ih =>
    intro listed a w hfree hr hu hy hS H
    refine ⟨fun h => (by rw [h] at hr; cases hr), fun j hj => ?_⟩
    by_cases hji : j = i
    · subst hji; exact hy.wpOp hi hS ⟨fun _ => hS, H⟩
    · have hjcs : j ∉ cs := fun hc => queue_unready cs i hcs hu j hc hj
      have hjm : j ≠ m := fun e => hjcs (e ▸ hm)
      have h1 := H.2 j (ready_mono hj hji)
      obtain ⟨hjun, oj, hoj, hall⟩ := mem_ready.1 hj
      have hnot : ∀ e ∈ oj.after, Region.binds md e = true → e.on ≠ i := fun e he hb heq => by
        have h1 := hall e he hb
        have h0 := (mem_ready.1 hr).1
        rw [heq] at h1
        rcases Nat.lt_or_ge i listed.size with h' | h'
        · simp [h'] at h0 h1; rw [h0] at h1; cases h1
        · simp [Array.getElem?_eq_none h'] at h1
      have h2 := wpOp_putIf hoj (hfree j oj hoj hji hjun hnot) (fun cs b => hsel i oi cs b hi) (fun cs b => hsel j oj cs b hoj) hQ hy h1
      have hfree' : ∀ k ok, ops[k]? = some ok → k ≠ i → (listed.setIfInBounds j true).getD k true = false →
          (∀ e ∈ ok.after, Region.binds md e = true → e.on ≠ i) → oi.apart ops ok = true := fun k ok hk hki hun hno => by
        refine hfree k ok hk hki ?_ hno
        by_cases hjk : j = k
        · subst hjk; exact hjun
        · rw [getD_set_ne true hjk] at hun; exact hun
      have hu' : ∀ c ∈ i :: cs, (listed.setIfInBounds j true).getD c true = false := fun c hc => by
        rw [getD_set_ne true (fun e => ?_)]
        · exact hu c hc
        · rcases List.mem_cons.1 hc with h | h
          · exact hji (e.trans h)
          · exact hjcs (e ▸ h)
      refine wpOp_mono (fun a' w' h3 => ⟨h3.2.1, ih (listed.setIfInBounds j true) a' w' hfree' (ready_mono hr (Ne.symm hji)) hu' h3.1 (h3.2.1 hjm) ?_⟩) h2
      rw [Array.setIfInBounds_comm _ _ hji]
      exact h3.2.2

theorem anyM_take {i : Nat} {oi : Oper} {v : Value} {fuel : Nat} {listed : Array Bool} {a : Act} {w : World} (cs : List Nat) (hi : ops[i]? = some oi)
    (hs : (Region.noSelect ops && queueB md ops (i :: cs) && cs.contains m && (i :: cs).all (fun c => !listed.getD c true) && Region.free md ops listed i && (Region.ready md ops listed).contains i) = true)
    (hQ : ∀ c a w, Q (.panic c) (a.put oi.dst v) w → Q (.panic c) a w) (hy : YieldsIf P ops S oi v a) (hS : S w)
    (h : anyM P md ops Q S m fuel (listed.setIfInBounds i true) (a.put oi.dst v) w) : anyM P md ops Q S m (fuel + 1) listed a w := by
  simp only [Bool.and_eq_true] at hs
  obtain ⟨⟨⟨⟨⟨h1, h2⟩, h3⟩, h4⟩, h5⟩, h6⟩ := hs
  exact anyM_first hi (Region.noSelect_spec h1) hQ h2 (by simpa using h3) fuel listed a w (Region.free_spec hi h5) (by simpa using h6) (fun c hc => by simpa using List.all_eq_true.1 h4 c hc) hy hS h

/-- Each of the operations 'rs' comes up next. -/
def AllM (P : Program) (md : Region.Mode) (ops : Array Oper) (Q : Exit → Act → World → Prop) (S : World → Prop) (m fuel : Nat) (listed : Array Bool) (a : Act) (w : World) (rs : List Nat) : Prop :=
  ∀ i ∈ rs, wpOp P ops Q i (fun a' w' => (i ≠ m → S w') ∧ anyM P md ops Q S m fuel (listed.setIfInBounds i true) a' w') a w
theorem AllM.nil {fuel : Nat} {listed : Array Bool} {a : Act} {w : World} : AllM P md ops Q S m fuel listed a w [] := fun _ h => by cases h
theorem AllM.cons {fuel : Nat} {listed : Array Bool} {a : Act} {w : World} {i : Nat} {o : Oper} {rs : List Nat} (ho : ops[i]? = some o)
    (h : ∀ K' : Act → World → Prop, Go.Shut (∀ a w, (i ≠ m → S w) → anyM P md ops Q S m fuel (listed.setIfInBounds i true) a w → K' a w) → if Region.wanted o (yielded ops a.tmps) = true then Oper.wp P o a w K' Q else K' (a.put o.dst undef) w)
    (hs : AllM P md ops Q S m fuel listed a w rs) : AllM P md ops Q S m fuel listed a w (i :: rs) := fun j hj => by
  rcases List.mem_cons.1 hj with rfl | hj
  · exact wpOp_step ho (fun K' hK => h K' (fun a w hS hW => hK a w ⟨hS, hW⟩))
  · exact hs j hj
theorem anyM_ready {rs : List Nat} {fuel : Nat} {listed : Array Bool} {a : Act} {w : World} (hr : (Region.ready md ops listed == rs) = true) (hne : rs ≠ [])
    (h : AllM P md ops Q S m fuel listed a w rs) : anyM P md ops Q S m (fuel + 1) listed a w :=
  ⟨fun h0 => absurd (eq_of_beq hr ▸ h0) hne, eq_of_beq hr ▸ h⟩
theorem anyM_done {listed : Array Bool} {a : Act} {w : World} (hr : (Region.ready md ops listed).isEmpty = true) (h : Q .normal a w) : ∀ fuel, anyM P md ops Q S m fuel listed a w
  | 0 => ⟨List.isEmpty_iff.1 hr, h⟩
  | _ + 1 => ⟨fun _ => h, by rw [List.isEmpty_iff.1 hr]; simp⟩
/-- The beginning. -/
theorem region_M {id : Nat} {a : Act} {w : World} (m : Nat) (S : World → Prop) (hm : P.follows .mixedOrders = true)
    (h : anyM P .any ops Q S m ops.size (Array.replicate ops.size false) a w.drew) : (Code.region id ops true).wp P Q a w :=
  wp_region_any hm (any_of_M _ _ _ _ h)
end

end Go.Proofs.Ytbhdipljhelddaa

/-! Joins: copies of lists. -/
namespace Go.Proofs.Ytbhdipljhelddaa
open Go.RowKit

/-- 'append([]int64{}, list...)' of a list that lies in memory. -/
theorem append_all {w : World} {ops : Array Oper} {rest : List Oper} {o : Oper} {a : Act} {Q : Exit → Act → World → Prop} (hgd : o.guard = none) {s y : Operand}
    (ho : o.op = .call { callee := .builtin .append, args := #[s, y], argTypes := #[22, 22] })
    {b off cap : Nat} {xs : List Int} (hl : xs.length ≤ 1048576) (hc : ∀ i, i < xs.length → w.cell? ⟨b, off + i, none⟩ = some (.int .i64 (xs[i]?.getD 0)))
    (hs : a.eval s = .slice (some ⟨w.heap.size, 0, none⟩) 0 0) (hy : a.eval y = .slice (some ⟨b, off, none⟩) xs.length cap)
    (hK : ∀ v' w', w'.ownsRow w.heap.size 2 1 v' xs.length (xs.map (Value.int .i64)) → Below w.heap.size w w' → (v' = .slice none 0 0 → False) → wpList Try.prog ops Q rest (a.put o.dst v') w') :
    wpList Try.prog ops Q (o :: rest) a (w.alloc (.cells #[] 2)) := by
  obtain ⟨i0, hi, hz0, hz1, hz2⟩ := info_parts info_i64
  refine wpList_append_own _ hgd s y 22 ho w.heap.size 2 i0 (.int .i64 0) 1 8 Try.underlying22 hi hz0 hz1 hz2 rfl (by decide) (.slice (some ⟨w.heap.size, 0, none⟩) 0 0) 0 [] hs (World.ownsRow_made w #[] 0 (Nat.le_refl _) (Nat.zero_le _) rfl) ⟨b, off, none⟩ xs.length cap (xs.map (Value.int .i64)) hy (by simp) ?_ (fun u hu => by obtain ⟨x, _, rfl⟩ := List.mem_map.1 hu; rfl) (by unfold maxLen; omega) (by omega) (by simp) ?_
  · intro j u hj
    have hjn : j < xs.length := by
      have := (List.getElem?_eq_some_iff.1 hj).1
      simpa using this
    rw [Addr.add_lit]
    refine (World.cell?_alloc_some w _ _ (show (w.cell? _).isSome = true by rw [hc j hjn]; rfl)).trans ?_
    rw [hc j hjn, ← hj]
    simp [List.getElem?_eq_getElem hjn]
  · intro v' w1 hown hgrow hnil
    refine hK v' w1 (by simpa using hown) (((Below.refl _ w).alloc (Nat.le_refl _) _).grown hgrow (by simp) (by intro k hk; simp [Value.ownBlock] at hk; omega)) (fun e => ?_)
    have := (hnil.1 e).1
    simp at this

theorem own_any (a0 : Option Addr) (cap : Nat) (xs : List Int) (w : World) (hx : SlI w w.heap.size a0 xs) (hl : xs.length ≤ 1048576) :
    Calls Try.prog 130 #[.slice a0 xs.length cap] w fun e w' => ∃ v, e = .returned v ∧ Res w w' v xs := by
  rcases hx with rfl | ⟨b, off, hb, rfl, hc⟩
  · have hr : Res w (w.alloc (.cells #[] 2)) (.slice (some ⟨w.heap.size, 0, none⟩) 0 0) [] := ⟨World.ownsRow_made w #[] 0 (Nat.le_refl _) (Nat.zero_le _) rfl, (Below.refl _ w).alloc (Nat.le_refl _) _⟩
    have Hr := hid hr
    clear hr
    cases a0 with
    | none =>
      go_enter Try.func130, Try.ntmps130
      go_wp2_with fail
      go_ret
      exact ⟨_, rfl, Hr.out⟩
    | some ad =>
      go_enter Try.func130, Try.ntmps130
      go_wp2_with fail
      go_ret
      exact ⟨_, rfl, Hr.out⟩
  · have Hc := hid hc
    clear hc
    go_enter Try.func130, Try.ntmps130
    go_wp2_with (at_builtin; refine append_all rfl rfl hl Hc.out rfl rfl ?_; intro v' w1 hown hB _)
    go_ret
    exact ⟨v', rfl, hown, hB⟩

/-- slices.Clone: nil of nil; else a copy. -/
theorem clone_any (a0 : Option Addr) (cap : Nat) (xs : List Int) (w : World) (hx : SlI w w.heap.size a0 xs) (hl : xs.length ≤ 1048576) :
    Calls Try.prog 140 #[.slice a0 xs.length cap] w fun e w' => ∃ v, e = .returned v ∧ Res w w' v xs := by
  have q22 : ∀ (w : World) (a : Option Addr) (n c n' c' : Nat), (binOp .eql 22 (.slice a n c) (.slice none n' c')).run Try.prog w = .ok (.bool a.isNone) w := fun w a n c n' c' => Lib.run_eql_slice_nil w _ _ a n c n' c' Try.underlying22
  rcases hx with rfl | ⟨b, off, hb, rfl, hc⟩
  · have hr : Res w (w.alloc (.cells #[] 2)) (.slice (some ⟨w.heap.size, 0, none⟩) 0 0) [] := ⟨World.ownsRow_made w #[] 0 (Nat.le_refl _) (Nat.zero_le _) rfl, (Below.refl _ w).alloc (Nat.le_refl _) _⟩
    have hr0 : Res w w (.slice none 0 0) [] := res_nil _ _ (Below.refl _ _)
    have Hr := hid hr
    have Hr0 := hid hr0
    clear hr hr0
    cases a0 with
    | none =>
      go_enter Try.func140, Try.ntmps140
      go_wp2_with fail
      go_ret
      exact ⟨_, rfl, Hr0.out⟩
    | some ad =>
      go_enter Try.func140, Try.ntmps140
      go_wp2_with fail
      go_ret
      exact ⟨_, rfl, Hr.out⟩
  · have Hc := hid hc
    clear hc
    go_enter Try.func140, Try.ntmps140
    go_wp2_with (at_builtin; refine append_all rfl rfl hl Hc.out rfl rfl ?_; intro v' w1 hown hB _)
    go_ret
    exact ⟨v', rfl, hown, hB⟩

/-- step_append_new in a plain region. -/
theorem plain_append_new {W : World} {H : Nat} {ops : Array Oper} {rest : List Oper} {o : Oper} {a : Act} {Q : Exit → Act → World → Prop} (hgd : o.guard = none) {s y : Operand}
    (ho : o.op = .call { callee := .builtin .append, args := #[s, y], argTypes := #[22, 22] })
    {base : Nat} {v : Value} {xs : List Int} {x : Int} (hown : W.ownsRow base 2 1 v xs.length (xs.map (Value.int .i64))) (hH : W.heap.size = H) (hbase : base ≤ H) (hl : xs.length ≤ 1099511627776)
    (hs : a.eval s = v) (hy : a.eval y = .slice (some ⟨H, 0, none⟩) 1 1)
    (hK : ∀ g cap w', w'.ownsRow base 2 1 (.slice (some ⟨g, 0, none⟩) (xs ++ [x]).length cap) (xs ++ [x]).length ((xs ++ [x]).map (Value.int .i64)) → (W.alloc (.cells #[.int .i64 x] 2)).grownBy w' v.ownBlock →
      wpList Try.prog ops Q rest (a.put o.dst (.slice (some ⟨g, 0, none⟩) (xs ++ [x]).length cap)) w') :
    wpList Try.prog ops Q (o :: rest) a (W.alloc (.cells #[.int .i64 x] 2)) := by
  subst hH
  obtain ⟨i0, hi, hz0, hz1, hz2⟩ := info_parts info_i64
  refine wpList_append_lies (W.alloc (.cells #[.int .i64 x] 2)) hgd s y 22 ho base 2 i0 (.int .i64 0) 1 8 Try.underlying22 hi hz0 hz1 hz2 rfl (by decide) v _ _ hs (hown.alloc _) ⟨W.heap.size, 0, none⟩ 1 1 [.int .i64 x] hy rfl (cell_one_new _ _ _) (by simp [Value.oneCell']) (by decide) (by unfold maxLen; omega) (by omega) (by simp; omega) _ rfl ?_
  intro g cap w1 hown1 hg _ _
  have e : (xs ++ [x]).length = xs.length + 1 := by simp
  have h := hK g cap w1 (by rw [e]; simpa using hown1) hg
  rw [e] at h
  exact h

end Go.Proofs.Ytbhdipljhelddaa
