import Derived.Test.YtmkknfdjoajpcaaFacets
import Derived.Test.YtmkknfdjoajpcaaHaving
import Derived.Test.YtmkknfdjoajpcaaMathF
import Derived.Test.YtmkknfdjoajpcaaMathL
/-! FacetsOf, the program's. -/
namespace Go.Proofs.Ytmkknfdjoajpcaa
open Go.RowKit Go.Shelf

attribute [local go_sem] Oper.semAt_some

/-- The parts of one face that are not itself, as they are met. -/
def innerOf (f : Nat) (pre : List (Fin 64)) : List Int := (pre.filter fun p => decide (p.val ≠ f)).map fun p => ((p.val : Nat) : Int)
/-- All parts of faces that are not the faces themselves. -/
def innerL (fs : List Int) : List Int := fs.flatMap fun x => innerOf x.toNat (subsF x.toNat)

theorem innerOf_len (f : Nat) (pre : List (Fin 64)) : (innerOf f pre).length ≤ pre.length := by
  unfold innerOf; rw [List.length_map]; exact List.length_filter_le _ _

theorem innerOf_snoc (f : Nat) (pre : List (Fin 64)) (p : Fin 64) (c : Bool) (h : decide (p.val ≠ f) = c) : innerOf f (pre ++ [p]) = innerOf f pre ++ (if c then [((p.val : Nat) : Int)] else []) := by
  unfold innerOf
  rw [List.filter_append, List.map_append]
  cases c <;> simp only [List.filter_cons, h, List.filter_nil] <;> simp

theorem subsF_len (f : Nat) (hf : f < 64) : (subsF f).length ≤ 63 := by
  have h := subs_len' ⟨f, hf⟩
  have e := congrArg List.length (subsF_map hf)
  rw [List.length_map] at e
  simp only at h
  omega

theorem innerL_len : ∀ (fs : List Int), (∀ x ∈ fs, 1 ≤ x ∧ x ≤ 63) → (innerL fs).length ≤ 63 * fs.length
  | [], _ => by simp [innerL]
  | x :: fs, h => by
    have h1 := innerL_len fs (fun y hy => h y (by simp [hy]))
    have h2 := innerOf_len x.toNat (subsF x.toNat)
    have h3 := subsF_len x.toNat (by have := h x (by simp); omega)
    unfold innerL at h1 ⊢
    rw [List.flatMap_cons, List.length_append, List.length_cons]
    omega

theorem innerL_snoc (fs : List Int) (x : Int) : innerL (fs ++ [x]) = innerL fs ++ innerOf x.toNat (subsF x.toNat) := by simp [innerL]

theorem mem_innerL {fs : List Int} (hr : ∀ x ∈ fs, 1 ≤ x ∧ x ≤ 63) {x : Int} : x ∈ innerL fs ↔ ∃ y ∈ fs, ∃ p : Nat, x = p ∧ p ≠ 0 ∧ p &&& y.toNat = p ∧ p ≠ y.toNat := by
  unfold innerL innerOf
  simp only [List.mem_flatMap, List.mem_map, List.mem_filter]
  constructor
  · rintro ⟨y, hy, p, ⟨hp, hne⟩, rfl⟩
    have := hr y hy
    have hm := (mem_subsF (show y.toNat < 64 by omega)).1 hp
    exact ⟨y, hy, p.val, rfl, hm.1, hm.2, by simpa using hne⟩
  · rintro ⟨y, hy, p, rfl, h0, h1, h2⟩
    have := hr y hy
    have hle := and_le_left' _ _ h1
    exact ⟨y, hy, ⟨p, by omega⟩, ⟨(mem_subsF (show y.toNat < 64 by omega)).2 ⟨h0, h1⟩, by simpa using h2⟩, rfl⟩

/-- The facets are the faces that are no such parts. -/
theorem facets_inner {V : Int} {fs : List Int} (h : IsC V fs) : facetsL fs = fs.filter fun x => !decide (x ∈ innerL fs) := by
  unfold facetsL
  refine List.filter_congr (fun x hx => ?_)
  have hxr := h.range63 x hx
  rw [← decide_not]
  refine decide_eq_decide.2 ?_
  rw [List.length_eq_zero_iff]
  unfold aboveL
  rw [List.filter_eq_nil_iff, mem_innerL h.range63]
  constructor
  · rintro ha ⟨y, hy, p, rfl, h0, h1, h2⟩
    have hyr := h.range63 y hy
    rw [Int.toNat_natCast] at ha
    obtain ⟨z, z0, z1, z2, z3⟩ := above_step ⟨p, by omega⟩ ⟨y.toNat, by omega⟩ h0 h1 h2
    have hz := h.closed y hy z.val z0 z1
    refine ha _ hz ?_
    rw [Int.toNat_natCast]
    exact decide_eq_true ⟨z2, z3⟩
  · intro hn y hy hd
    have hyr := h.range63 y hy
    have hd' := of_decide_eq_true hd
    refine hn ⟨y, hy, x.toNat, by omega, by omega, by rw [Nat.and_comm]; exact hd'.1, fun e => ?_⟩
    rw [← e] at hd'
    omega

/-- What the walk keeps of the world. -/
structure FaW (w W : World) (V : Int) (sl : Value) (mb : Nat) (L : List Int) (Ds : List Nat) : Prop where
  below : Below w.heap.size w W
  lo : w.heap.size + 1 ≤ mb
  kbox : W.heap[w.heap.size]? = some (.cells #[.int .i64 V, sl] 26 (0, 0))
  own : W.ownsMap Try.prog 2 (plainElem (H := Unit) Try.prog 4) mb L.length (knownD L)
  mbox : W.heap[mb + 1]? = some (.cells #[.map (some mb)] 76 (0, 0))
  nodup : Ds.Nodup
  marks : ∀ D ∈ Ds, mb + 2 ≤ D ∧ W.heap[D]? = some (.deferred (some []))

theorem FaW.size {w W : World} {V : Int} {sl : Value} {mb : Nat} {L : List Int} {Ds : List Nat} (h : FaW w W V sl mb L Ds) : mb + 2 ≤ W.heap.size := by
  have := lt_of_get h.mbox; omega

theorem FaW.turn {w W W' : World} {V : Int} {sl : Value} {mb : Nat} {L : List Int} {Ds : List Nat} (h : FaW w W V sl mb L Ds) {row : Option Nat} (hg : W.grownBy W' row)
    (hr : ∀ r, row = some r → mb + 2 ≤ r ∧ r ∉ Ds) : FaW w W' V sl mb L Ds where
  below := h.below.grown hg h.below.size (fun k e => by have := (hr k e).1; have := h.lo; omega)
  lo := h.lo
  kbox := (hg.block _ (lt_of_get h.kbox) (fun e => by have := (hr _ e.symm).1; have := h.lo; omega)).trans h.kbox
  own := h.own.kept hg (fun e => by have := (hr _ e.symm).1; omega)
  mbox := (hg.block _ (lt_of_get h.mbox) (fun e => by have := (hr _ e.symm).1; omega)).trans h.mbox
  nodup := h.nodup
  marks := fun D hD => ⟨(h.marks D hD).1, (hg.block _ (lt_of_get (h.marks D hD).2) (fun e => (hr _ e.symm).2 hD)).trans (h.marks D hD).2⟩

theorem faw_own {w : World} {V : Int} {sl : Value} {mb : Nat} {g : List (Fin 64) → List Int} {Ds : List Nat} {B : Nat} (hB : mb + 2 ≤ B) (hD : ∀ D ∈ Ds, D < B) : OwnFrom B (fun (pre : List (Fin 64)) W => FaW w W V sl mb (g pre) Ds) :=
  fun _ _ _ _ hs hg hr => hs.turn hg (fun r e => ⟨by have := (hr r e).1; omega, fun hm => by have := hD r hm; have := (hr r e).1; omega⟩)

theorem box_own {β : Type} {B fb : Nat} {o : Obj} (hB : fb < B) : OwnFrom B (fun (_ : β) (W : World) => W.heap[fb]? = some o) :=
  fun _ _ _ _ hs hg hr => (hg.block _ (lt_of_get hs) (fun e => by have := (hr _ e.symm).1; omega)).trans hs

/-- A further mark. -/
theorem FaW.mark {w W : World} {V : Int} {sl : Value} {mb : Nat} {L : List Int} {Ds : List Nat} (h : FaW w W V sl mb L Ds) {D : Nat} (hD : W.heap[D]? = some (.deferred (some []))) (hb : mb + 2 ≤ D) (hn : D ∉ Ds) : FaW w W V sl mb L (D :: Ds) where
  below := h.below
  lo := h.lo
  kbox := h.kbox
  own := h.own
  mbox := h.mbox
  nodup := List.nodup_cons.2 ⟨hn, h.nodup⟩
  marks := fun E hE => by
    rcases List.mem_cons.1 hE with rfl | hE
    · exact ⟨hb, hD⟩
    · exact h.marks E hE

/-- A part more in the map. -/
theorem FaW.put {w W w1 : World} {V : Int} {sl : Value} {mb : Nat} {L : List Int} {Ds : List Nat} (h : FaW w W V sl mb L Ds) {x : Int}
    (hown : w1.ownsMap Try.prog 2 (plainElem (H := Unit) Try.prog 4) mb (L.length + 1) ((knownD L).put (.int .i64 x) (.lit (.bool true)))) (hg : W.grownBy w1 (some mb)) : FaW w w1 V sl mb (L ++ [x]) Ds where
  below := h.below.grown hg h.below.size (fun k e => by cases e; have := h.lo; omega)
  lo := h.lo
  kbox := (hg.block _ (lt_of_get h.kbox) (fun e => by have := h.lo; simp at e; omega)).trans h.kbox
  own := by rw [knownD_snoc]; simpa using hown
  mbox := (hg.block _ (lt_of_get h.mbox) (fun e => by simp at e)).trans h.mbox
  nodup := h.nodup
  marks := fun D hD => ⟨(h.marks D hD).1, (hg.block _ (lt_of_get (h.marks D hD).2) (fun e => by have := (h.marks D hD).1; simp at e; omega)).trans (h.marks D hD).2⟩

theorem facetWanted (L : List Int) (bm b n : Nat) (x : Int) (w : World) (hx0 : 1 ≤ x) (hx1 : x ≤ 63) (hm : w.cell? ⟨bm, 0, none⟩ = some (.map (some b))) (hM : w.ownsMap Try.prog 2 (plainElem (H := Unit) Try.prog 4) b n (knownD L)) :
    Calls Try.prog 117 #[.int .i64 x, .pointer (some ⟨bm, 0, none⟩)] w fun e w' => e = .returned (.bool (!decide (x ∈ L))) ∧ Below w.heap.size w w' := by
  have hlook := lookup_known hM (p := x) (WalkArith.wf_i64 (by omega))
  clear hM
  obtain ⟨c, hc⟩ : ∃ c, c = decide (x ∈ L) := ⟨_, rfl⟩
  rw [← hc] at hlook ⊢
  clear hc
  cases c
  · go_enter Try.func117, Try.ntmps117
    go_wp2_with fail
    go_ret
    exact ⟨rfl, Below.refl _ _⟩
  · go_enter Try.func117, Try.ntmps117
    go_wp2_with fail
    go_ret
    exact ⟨rfl, Below.refl _ _⟩

set_option maxRecDepth 100000 in
set_option maxHeartbeats 4000000 in
theorem fac_in (V : Int) (b off : Nat) (cap : Nat) (fs : List Int) (w : World) (hb : b < w.heap.size)
    (hc : ∀ i, i < fs.length → w.cell? ⟨b, off + i, none⟩ = some (.int .i64 (fs[i]?.getD 0))) (hC : IsC V fs) :
    CallsIn Fence.wide 10 Try.prog 95 #[.agg #[.int .i64 V, .slice (some ⟨b, off, none⟩) fs.length cap]] w fun e w' => ∃ v, e = .returned (.tuple #[v, .int .i64 0]) ∧ Res w w' v (facetsL fs) := by
  have hmm := @run_makeMap Try.prog
  have hl63 : fs.length ≤ 63 := hC.len63
  have hB0 : Below w.heap.size w (w.alloc (.cells #[.int .i64 V, .slice (some ⟨b, off, none⟩) fs.length cap] 26)) := (Below.refl _ w).alloc (Nat.le_refl _) _
  have hx : SlI w w.heap.size (some ⟨b, off, none⟩) fs := .inr ⟨b, off, hb, rfl, hc⟩
  have Hx := hid (hx.later hB0 hB0.size)
  have Hx0 := hid hx
  have Hf := hid hC.range63
  have HC := hid hC
  have Hc := hid hc
  have HB0 := hid hB0
  clear hC hx hc hB0
  refine callsIn_of_wp_marks Try.func95 rfl trivial ?_ rfl
  simp only [Try.ntmps95, List.size_toArray, List.length_cons, List.length_nil, Nat.reduceAdd, Nat.reduceSub, Array.replicate_succ, Array.replicate_zero, List.push_toArray, List.append_toArray, List.nil_append, List.cons_append]
  gi_wp2_with (first
    | (refine ⟨trivial, ?_⟩; gi_at_call 51; refine (callsIn_wide.2 (isc_yes V _ cap fs _ Hx.out (by omega) HC.out)).mono ?_; rintro e w1 ⟨rfl, hB1⟩; have k0 : w1.cell? ⟨w.heap.size, 0, none⟩ = some (.int .i64 V) := (hB1.cell (p := ⟨w.heap.size, 0, none⟩) (by simp)).trans (by simp [go_sem]); have k1 : w1.cell? ⟨w.heap.size, 1, none⟩ = some (.slice (some ⟨b, off, none⟩) fs.length cap) := (hB1.cell (p := ⟨w.heap.size, 1, none⟩) (by simp)).trans (by simp [go_sem]); have hs1 : w.heap.size < w1.heap.size := (by have := hB1.size; simp at this; omega)))
  clear hmm
  have hB01 := HB0.out.trans (hB1.mono (by simp))
  have q1 : w1.heap[w.heap.size]? = some (.cells #[.int .i64 V, .slice (some ⟨b, off, none⟩) fs.length cap] 26 (0, 0)) := (hB1.block _ (by simp)).trans (heap_alloc_new _ _)
  have hF0 : FaW w ((w1.alloc (.map #[] 0)).alloc (.cells #[.map (some w1.heap.size)] 76)) V (.slice (some ⟨b, off, none⟩) fs.length cap) w1.heap.size [] [] := by
    have e3 := heap_alloc_new (w1.alloc (.map #[] 0)) (.cells #[.map (some w1.heap.size)] 76)
    rw [World.size_alloc] at e3
    exact {
      below := (hB01.alloc (by omega) _).alloc (by simp <;> omega) _
      lo := by omega
      kbox := (Below.heap_alloc _ _ _ (by simp; omega)).trans ((Below.heap_alloc _ _ _ (by omega)).trans q1)
      own := (World.ownsMap_made w1 Try.prog 2 (plainElem (H := Unit) Try.prog 4)).alloc _
      mbox := e3
      nodup := by simp
      marks := by simp }
  have HF0 := hid hF0
  obtain ⟨mb, hmb⟩ : ∃ mb, mb = w1.heap.size := ⟨_, rfl⟩
  rw [← hmb] at HF0 ⊢
  clear hF0 q1 hB01 hB1 k0 k1 hmb hs1
  refine wpIn_loop (fun a' W => ∃ (k : Nat) (c6 c7 c16 c17 c18 c19 c20 c21 c22 c23 c24 c25 c26 c27 : Value) (Ds : List Nat),
      a' = { tmps := #[.agg #[.int .i64 V, .slice (some ⟨b, off, none⟩) fs.length cap], .pointer (some ⟨w.heap.size, 0, none⟩), .slice none 0 0, .int .i64 0, .pointer (some ⟨mb + 1, 0, none⟩), undef, c6, c7,
          .agg #[.int .i64 V, .slice (some ⟨b, off, none⟩) fs.length cap], .bool true, .bool false, .map (some mb), .pointer (some ⟨w.heap.size, 1, none⟩), .slice (some ⟨b, off, none⟩) fs.length cap, .int .i64 fs.length,
          .int .i64 k, c16, c17, c18, c19, c20, c21, c22, c23, c24, c25, c26, c27, undef, undef, undef], defers := marks Ds } ∧
      k ≤ fs.length ∧ FaW w W V (.slice (some ⟨b, off, none⟩) fs.length cap) mb (innerL (fs.take k)) Ds)
    (fun a' _ => fs.length - (intOf (a'.tmps.getD 15 undef)).toNat) ?start ?round
  case start => exact ⟨0, _, _, _, _, _, _, _, _, _, _, _, _, _, _, [], rfl, Nat.zero_le _, by simpa [innerL] using HF0.out⟩
  case round =>
    rintro a W ⟨k, c6, c7, c16, c17, c18, c19, c20, c21, c22, c23, c24, c25, c26, c27, Ds, rfl, hk, hW⟩
    have hsz := hW.size
    have k0 : W.cell? ⟨w.heap.size, 0, none⟩ = some (.int .i64 V) := by simp [World.cell?, hW.kbox]
    have k1 : W.cell? ⟨w.heap.size, 1, none⟩ = some (.slice (some ⟨b, off, none⟩) fs.length cap) := by simp [World.cell?, hW.kbox]
    have HW := hid hW
    have hlo := hW.lo
    clear hW
    by_cases hlt : k < fs.length
    · obtain ⟨x, hx⟩ : ∃ x, x = fs[k]?.getD 0 := ⟨_, rfl⟩
      have hck : W.cell? ⟨b, off + k, none⟩ = some (.int .i64 x) := by rw [hx]; exact (HW.out.below.cell (p := ⟨b, off + k, none⟩) hb).trans (Hc.out k hlt)
      have hxr := Hf.out _ (getD_mem hlt)
      rw [← hx] at hxr
      have Hx1 := hid hx
      have hi0 : (0 : Int) ≤ (k : Int) := by omega
      have hi1 : (k : Int) < (fs.length : Int) := by omega
      obtain ⟨f, rfl⟩ : ∃ f : Nat, x = f := ⟨x.toNat, by omega⟩
      have hf : f < 64 := by omega
      clear hx
      gi_wp2_with (first
        | (refine ⟨trivial, ?_⟩; gi_at_call 89; refine (parts_in _ _ trivial rfl _ _).mono ?_; rintro e w' ⟨rfl, rfl⟩))
      have hW2 : FaW w ((W.alloc (.cells #[.int .i64 (f : Int)] 2)).alloc (.cells #[.int .i64 (f : Int)] 2)) V (.slice (some ⟨b, off, none⟩) fs.length cap) mb (innerL (fs.take k)) Ds := (HW.out.turn (World.grownBy_alloc W _ none) (fun r e => by cases e)).turn (World.grownBy_alloc _ _ none) (fun r e => by cases e)
      have hfb : ((W.alloc (.cells #[.int .i64 (f : Int)] 2)).alloc (.cells #[.int .i64 (f : Int)] 2)).heap[W.heap.size]? = some (.cells #[.int .i64 (f : Int)] 2 (0, 0)) := (Below.heap_alloc _ _ _ (by simp)).trans (heap_alloc_new _ _)
      have hsb : ((W.alloc (.cells #[.int .i64 (f : Int)] 2)).alloc (.cells #[.int .i64 (f : Int)] 2)).heap[W.heap.size + 1]? = some (.cells #[.int .i64 (f : Int)] 2 (0, 0)) := new2 _ _ _
      have hDlt : ∀ D ∈ Ds, D < ((W.alloc (.cells #[.int .i64 (f : Int)] 2)).alloc (.cells #[.int .i64 (f : Int)] 2)).heap.size := fun D hD => lt_of_get (hW2.marks D hD).2
      have hLl := innerL_len (fs.take k) (fun y hy => Hf.out y (List.mem_of_mem_take hy))
      have hkl : (fs.take k).length ≤ 63 := by simp; omega
      obtain ⟨L0, hL0⟩ : ∃ L0, L0 = innerL (fs.take k) := ⟨_, rfl⟩
      have HL0 := hid hL0
      rw [← hL0] at hW2 hLl HW
      clear hL0
      refine wpIn_rangeFunc_ownG rfl (by decide) (gf := 116) (lb := #[.pointer (some ⟨W.heap.size + 1, 0, none⟩)]) rfl trivial (enters_of Try.func116 (by kernel_rfl) rfl)
        (parts_stops Fence.wide 9 trivial rfl (by decide) (W.heap.size + 1) f hf _ (by simp) hsb) keepB_t (keepB_b (by simp)) (Below.refl _ _) (fun _ => rfl)
        (fun pre W' => FaW w W' V (.slice (some ⟨b, off, none⟩) fs.length cap) mb (L0 ++ innerOf f pre) Ds ∧ W'.heap[W.heap.size]? = some (.cells #[.int .i64 (f : Int)] 2 (0, 0)) ∧ W'.heap[W.heap.size + 1]? = some (.cells #[.int .i64 (f : Int)] 2 (0, 0)))
        (fun _ _ _ => False)
        (OwnFrom.and (faw_own (by simp; omega) hDlt) (OwnFrom.and (box_own (by simp <;> omega)) (box_own (by simp <;> omega)))) (fun _ => ownFrom_pure _ _)
        ⟨by simpa [innerOf] using hW2, hfb, hsb⟩
        (fun x => { tmps := #[.agg #[.int .i64 V, .slice (some ⟨b, off, none⟩) fs.length cap], .pointer (some ⟨w.heap.size, 0, none⟩), .slice none 0 0, .int .i64 0, .pointer (some ⟨mb + 1, 0, none⟩), undef, .pointer (some ⟨W.heap.size, 0, none⟩), .int .i64 (x.val : Int),
          .agg #[.int .i64 V, .slice (some ⟨b, off, none⟩) fs.length cap], .bool true, .bool false, .map (some mb), .pointer (some ⟨w.heap.size, 1, none⟩), .slice (some ⟨b, off, none⟩) fs.length cap, .int .i64 fs.length,
          .int .i64 k, .bool true, .pointer (some ⟨b, off + k, none⟩), .int .i64 f, .int .i64 f, .func (.func 116) #[] #[.pointer (some ⟨W.heap.size + 1, 0, none⟩)], .int .i64 (x.val : Int), c22, c23, c24, c25, c26, c27, undef, undef, undef], defers := [] }) ?assign ?body ?done ?stop
      case assign =>
        intro l x W3 K hK
        gi_wp2
        exact hK
      case body =>
        rintro l pre x W3 ⟨hW3, hfb3, hsb3⟩ hpl
        have m3 : W3.cell? ⟨mb + 1, 0, none⟩ = some (.map (some mb)) := (box_cell hW3.mbox).1
        have f3 : W3.cell? ⟨W.heap.size, 0, none⟩ = some (.int .i64 (f : Int)) := (box_cell hfb3).1
        have hxl := x.isLt
        have hwx : (Lit.int .i64 (x.val : Int)).wf = true := WalkArith.wf_i64 (by omega)
        have HW3 := hid hW3
        have Hfb3 := hid hfb3
        have Hsb3 := hid hsb3
        have hpre := innerOf_len f pre
        clear hW3 hfb3 hsb3
        by_cases hm : x.val = f
        · have hd : (((x.val : Nat) : Int) != (f : Int)) = false := by simp; omega
          have Hs := hid (innerOf_snoc f pre x false (by simpa using hm))
          clear hm
          gi_wp2
          refine ⟨KeepsFrom.refl _ _, rfl, ?_, Hfb3.out, Hsb3.out⟩
          rw [Hs.out]
          simpa using HW3.out
        · have hd : (((x.val : Nat) : Int) != (f : Int)) = true := by simp; omega
          have Hs := hid (innerOf_snoc f pre x true (by simpa using hm))
          clear hm
          have hkm : (L0 ++ innerOf f pre).length < maxLen := by unfold maxLen; simp; omega
          gi_wp2_with (gi_at_mapUpdate; refine wpListIn_mapUpdate_own _ rfl _ _ _ 76 rfl 2 4 (Maps.int_keyed Try.underlying2) Try.underlying76 _ mb _ _ rfl HW3.out.own hkm _ _ _ rfl rfl (Maps.keyOf_int_mk Try.underlying2 hwx) _ [] (plainElem_bool Try.underlying4 true) ?_; intro w4 hown4 hgrow4)
          refine ⟨KeepsFrom.of_grownBy hgrow4 (fun j e => by cases e; first | omega | (simp; omega)), (hgrow4.block _ (lt_of_get Hsb3.out) (fun e => by simp at e; omega)), ?_, (hgrow4.block _ (lt_of_get Hfb3.out) (fun e => by simp at e; omega)).trans Hfb3.out, (hgrow4.block _ (lt_of_get Hsb3.out) (fun e => by simp at e; omega)).trans Hsb3.out⟩
          rw [Hs.out, ← List.append_assoc]
          exact HW3.out.put hown4 hgrow4
      case done =>
        rintro D ys W3 hD rfl ⟨hW3, _, _⟩ hK
        have hDb : mb + 2 ≤ D := by simp at hD; omega
        have hDn : D ∉ Ds := fun hm => by have := hDlt D hm; omega
        have HW4 := hid (hW3.mark hK hDb hDn)
        have htk : innerL (fs.take (k + 1)) = L0 ++ innerOf f (subsF f) := by rw [take_snoc hlt, innerL_snoc, ← Hx1.out, HL0.out, Int.toNat_natCast]
        have Htk := hid htk
        clear hW3 htk
        gi_wp2
        refine ⟨⟨k + 1, ?_⟩, ?_⟩
        · (repeat apply Exists.intro)
          refine ⟨?e, ?_⟩
          case e =>
            rw [show ((k + 1 : Nat) : Int) = (k : Int) + 1 by omega, show ({ target := .collected D, args := #[] } :: marks Ds : List Deferred) = marks (D :: Ds) from rfl]
          exact ⟨by omega, by rw [Htk.out]; exact HW4.out⟩
        · simp [intOf]; omega
      case stop =>
        rintro D c pre W3 hD hpre hF hK
        exact hF.elim
    · obtain rfl : k = fs.length := by omega
      rw [List.take_of_length_le (Nat.le_refl _)] at HW
      have hxW := Hx0.out.later HW.out.below HW.out.below.size
      have HFW : Hid (Calls Try.prog 101 #[.agg #[.int .i64 V, .slice (some ⟨b, off, none⟩) fs.length cap], .func (.func 117) #[] #[.pointer (some ⟨mb + 1, 0, none⟩)]] W fun e w' => ∃ v, e = .returned v ∧ Res W w' v (facetsL fs)) := hid (by
        rw [facets_inner HC.out]
        refine fw_any V _ cap fs W 117 _ (fun x => !decide (x ∈ innerL fs)) hxW (by omega) (enters_of Try.func117 (by kernel_rfl) rfl) ?_
        intro W' x hW' hxm
        have hr := Hf.out x hxm
        have hkeep : W.grownBy W' none := ⟨hW'.os, hW'.tape, hW'.output, hW'.size, fun k hk _ => hW'.block k hk⟩
        exact facetWanted (innerL fs) _ mb _ x W' hr.1 hr.2 ((hW'.cell (p := ⟨mb + 1, 0, none⟩) (lt_of_get HW.out.mbox)).trans (box_cell HW.out.mbox).1) (HW.out.own.kept hkeep (by simp)))
      clear hxW
      gi_wp2_with (refine ⟨trivial, ?_⟩; gi_at_call 101; refine (callsIn_wide.2 HFW.out).mono ?_; rintro e w2 ⟨v, rfl, hr⟩)
      have hB2 : Below W.heap.size W w2 := hr.2
      refine leaves_marks (by simp) Ds _ HW.out.nodup (fun D hD => (hB2.block _ (lt_of_get (HW.out.marks D hD).2)).trans (HW.out.marks D hD).2) (fun w' hw' => ?_)
      have hsh : Below w.heap.size w2 w' := hw'.below (fun D hD => by have := (HW.out.marks D hD).1; omega)
      have hown : w'.ownsRow W.heap.size 2 1 v (facetsL fs).length ((facetsL fs).map (Value.int .i64)) := by
        refine ⟨hr.1.1, ?_⟩
        rcases hr.1.2 with hn | ⟨g, cp, cur, rfl, hg, hh, rest⟩
        · exact .inl hn
        · exact .inr ⟨g, cp, cur, rfl, hg, (hw'.block g (fun hm => by have := lt_of_get (HW.out.marks g hm).2; omega)).trans hh, rest⟩
      refine ⟨.tuple #[v, .int .i64 0], ?_, v, rfl, ownsRow_base hown HW.out.below.size, (HW.out.below.trans (hB2.mono HW.out.below.size)).trans hsh⟩
      simp [results, Try.results95, go_sem]

set_option maxRecDepth 100000 in
set_option maxHeartbeats 1000000 in
theorem fac_nil (V : Int) (a : Option Addr) (cap : Nat) (w : World) (hC : IsC V []) :
    CallsIn Fence.wide 10 Try.prog 95 #[.agg #[.int .i64 V, .slice a 0 cap]] w fun e w' => ∃ v, e = .returned (.tuple #[v, .int .i64 0]) ∧ Res w w' v [] := by
  have hmm := @run_makeMap Try.prog
  have hB0 : Below w.heap.size w (w.alloc (.cells #[.int .i64 V, .slice a 0 cap] 26)) := (Below.refl _ w).alloc (Nat.le_refl _) _
  have HB0 := hid hB0
  have HC := hid hC
  have HFW : Hid (∀ (W : World) (bm : Nat), Calls Try.prog 101 #[.agg #[.int .i64 V, .slice a 0 cap], .func (.func 117) #[] #[.pointer (some ⟨bm, 0, none⟩)]] W fun e w' => ∃ v, e = .returned v ∧ Res W w' v []) := hid (fun W bm => by
    have h := fw_any V a cap [] W 117 (.pointer (some ⟨bm, 0, none⟩)) (fun _ => false) (.inl rfl) (by simp) (enters_of Try.func117 (by kernel_rfl) rfl) (by intro _ x _ hx; simp at hx)
    simpa using h)
  clear hC hB0
  refine callsIn_of_wp_marks Try.func95 rfl trivial ?_ rfl
  simp only [Try.ntmps95, List.size_toArray, List.length_cons, List.length_nil, Nat.reduceAdd, Nat.reduceSub, Array.replicate_succ, Array.replicate_zero, List.push_toArray, List.append_toArray, List.nil_append, List.cons_append]
  gi_wp2_with (first
    | (refine ⟨trivial, ?_⟩; gi_at_call 51; refine (callsIn_wide.2 (isc_yes V a cap [] _ (.inl rfl) (by simp) HC.out)).mono ?_; rintro e w1 ⟨rfl, hB1⟩; have k0 : w1.cell? ⟨w.heap.size, 0, none⟩ = some (.int .i64 V) := (hB1.cell (p := ⟨w.heap.size, 0, none⟩) (by simp)).trans (by simp [go_sem]); have k1 : w1.cell? ⟨w.heap.size, 1, none⟩ = some (.slice a 0 cap) := (hB1.cell (p := ⟨w.heap.size, 1, none⟩) (by simp)).trans (by simp [go_sem]); have hs1 : w.heap.size < w1.heap.size := (by have := hB1.size; simp at this; omega)))
  clear hmm
  refine wpIn_loop_rounds 1 ?_
  rw [roundsIn_succ]
  gi_wp2_with (refine ⟨trivial, ?_⟩; gi_at_call 101; refine (callsIn_wide.2 (HFW.out _ _)).mono ?_; rintro e w2 ⟨v, rfl, hr⟩)
  refine ⟨.tuple #[v, .int .i64 0], ?_, v, rfl, hr.later ?_⟩
  · simp [results, Try.results95, go_sem]
  · exact ((HB0.out.trans (hB1.mono (by simp))).alloc (by omega) _).alloc (by simp <;> omega) _

set_option maxRecDepth 100000 in
set_option maxHeartbeats 1000000 in
theorem fac_no (V : Int) (a : Option Addr) (cap : Nat) (fs : List Int) (w : World) (hx : SlI w w.heap.size a fs) (hl : fs.length ≤ 1048576) (hC : ¬ IsC V fs) :
    CallsIn Fence.wide 10 Try.prog 95 #[.agg #[.int .i64 V, .slice a fs.length cap]] w fun e w' => ∃ v, e = .returned (.tuple #[v, .int .i64 1]) ∧ Res w w' v [] := by
  have hB0 : Below w.heap.size w (w.alloc (.cells #[.int .i64 V, .slice a fs.length cap] 26)) := (Below.refl _ w).alloc (Nat.le_refl _) _
  have HB0 := hid hB0
  have HC := hid hC
  have Hx := hid (hx.later hB0 hB0.size)
  clear hC hB0 hx
  refine callsIn_of_wp_marks Try.func95 rfl trivial ?_ rfl
  simp only [Try.ntmps95, List.size_toArray, List.length_cons, List.length_nil, Nat.reduceAdd, Nat.reduceSub, Array.replicate_succ, Array.replicate_zero, List.push_toArray, List.append_toArray, List.nil_append, List.cons_append]
  gi_wp2_with (first
    | (refine ⟨trivial, ?_⟩; gi_at_call 51; refine (callsIn_wide.2 (isc_no V a cap fs _ Hx.out hl HC.out)).mono ?_; rintro e w1 ⟨rfl, hB1⟩))
  refine ⟨.tuple #[.slice none 0 0, .int .i64 1], ?_, _, rfl, res_nil _ _ (HB0.out.trans (hB1.mono (by simp)))⟩
  simp [results, Try.results95, go_sem]

theorem facets_nil : facetsL [] = [] := rfl

/-- impl.FacetsOf, whatever comes in. -/
theorem implFacetsOf (V : Int) (a : Option Addr) (cap : Nat) (fs : List Int) (w : World) (hx : SlI w w.heap.size a fs) (hl : fs.length ≤ 1048576) :
    Calls Try.prog 95 #[.agg #[.int .i64 V, .slice a fs.length cap]] w fun e w' => ∃ v, e = .returned (.tuple #[v, .int .i64 (facetsOfR V fs).2]) ∧ Res w w' v (facetsOfR V fs).1 := by
  by_cases hC : IsC V fs
  · refine pair_mono' (show facetsOfR V fs = (facetsL fs, 0) by unfold facetsOfR; rw [isCB_true hC, if_pos rfl]) ?_
    rcases hx with rfl | ⟨b, off, hb, rfl, hc⟩
    · rw [facets_nil]
      exact callsIn_wide.1 (fac_nil V a cap w hC)
    · exact callsIn_wide.1 (fac_in V b off cap fs w hb hc hC)
  · refine pair_mono' (show facetsOfR V fs = ([], 1) by unfold facetsOfR; rw [isCB_false hC, if_neg (by simp)]) ?_
    exact callsIn_wide.1 (fac_no V a cap fs w hx hl hC)

end Go.Proofs.Ytmkknfdjoajpcaa
