import Derived.Test.YtmkknfdjoajpcaaSides
import Derived.Test.YtmkknfdjoajpcaaDualI
import Derived.Test.YtmkknfdjoajpcaaFacetsI
/-! Missing faces: the program's. -/
namespace Go.Proofs.Ytmkknfdjoajpcaa
open Go.RowKit Go.Shelf

attribute [local go_sem] Oper.semAt_some

/-- Is a set a missing face? -/
def missB (fs : List Int) (f : Nat) : Bool := (sidesF f).all (fun s => decide (((s.val : Nat) : Int) ∈ fs)) && !decide ((f : Int) ∈ fs)
/-- The missing faces. -/
def missL (V : Int) (fs : List Int) : List Int := pickTo (fun x => missB fs x.toNat) (allV V).toNat

/-- What the walk of isMissing keeps of the world. -/
structure MsW (w W : World) (V : Int) (sl : Value) : Prop where
  below : Below w.heap.size w W
  kbox : W.heap[w.heap.size]? = some (.cells #[.int .i64 V, sl] 26 (0, 0))
  res : W.heap[w.heap.size + 1]? = some (.cells #[.bool false] 4 (0, 0))

theorem MsW.size {w W : World} {V : Int} {sl : Value} (h : MsW w W V sl) : w.heap.size + 2 ≤ W.heap.size := by
  have := lt_of_get h.res; omega

theorem MsW.turn {w W W' : World} {V : Int} {sl : Value} (h : MsW w W V sl) {row : Option Nat} (hg : W.grownBy W' row) (hr : ∀ r, row = some r → w.heap.size + 2 ≤ r) : MsW w W' V sl where
  below := h.below.grown hg h.below.size (fun k e => by have := hr k e; omega)
  kbox := (hg.block _ (lt_of_get h.kbox) (fun e => by have := hr _ e.symm; omega)).trans h.kbox
  res := (hg.block _ (lt_of_get h.res) (fun e => by have := hr _ e.symm; omega)).trans h.res

theorem MsW.drewN {w W : World} {V : Int} {sl : Value} (h : MsW w W V sl) (n : Nat) : MsW w (W.drewN n) V sl :=
  ⟨⟨h.below.os, h.below.tape, h.below.output, h.below.size, h.below.block⟩, h.kbox, h.res⟩

theorem msw_own {β : Type} {w : World} {V : Int} {sl : Value} {B : Nat} (hB : w.heap.size + 2 ≤ B) : OwnFrom B (fun (_ : β) W => MsW w W V sl) :=
  fun _ _ _ _ hs hg hr => hs.turn hg (fun r e => by have := (hr r e).1; omega)

theorem MsW.store {w W : World} {V : Int} {sl : Value} (h : MsW w W V sl) : MsW w (W.setCell ⟨w.heap.size + 1, 0, none⟩ (.bool false)) V sl where
  below := h.below.setCell (p := ⟨w.heap.size + 1, 0, none⟩) (by simp) _
  kbox := (Below.heap_setCell _ _ _ _ (by simp)).trans h.kbox
  res := by
    have := h.res
    simp only [World.setCell, Array.getElem?_modify, this]
    simp

/-- isMissing's end: the answer lies in its block, the marks are taken off. -/
theorem ms_end {w W : World} {V : Int} {sl : Value} (h : MsW w W V sl) {D : Nat} (hD : w.heap.size + 2 ≤ D) (hK : W.heap[D]? = some (.deferred (some []))) (b c : Bool) (hb : b = c) {tmps : Array Value} (ht : tmps[4]?.getD undef = .pointer (some ⟨w.heap.size + 1, 0, none⟩)) :
    LeavesInM Fence.wide 10 Try.prog Try.f91 tmps (fun e w' => e = .returned (.bool b) ∧ Below w.heap.size w w') (marks [D]) .returning (W.setCell ⟨w.heap.size + 1, 0, none⟩ (.bool c)) := by
  have hs := h.size
  refine leaves_marks (by simp) [D] _ (by simp) (fun E hE => by
    simp at hE
    subst hE
    exact (Below.heap_setCell _ _ _ _ (by simp <;> omega)).trans hK) (fun w' hw' => ?_)
  have hres : w'.cell? ⟨w.heap.size + 1, 0, none⟩ = some (.bool c) := by
    rw [World.cell?_of_block (hw'.block _ (fun hm => by simp at hm; omega))]
    exact World.cell?_setCell_same' _ _ _ (by rw [(box_cell h.res).1]; rfl)
  have hB : Below w.heap.size w w' := (h.below.setCell (p := ⟨w.heap.size + 1, 0, none⟩) (by simp) _).trans (hw'.below (fun E hE => by simp at hE; omega))
  refine ⟨.bool c, ?_, by rw [hb], hB⟩
  simp [results, Try.results91, go_sem, ht, hres]

theorem ms_end0 {w W : World} {V : Int} {sl : Value} (h : MsW w W V sl) {D : Nat} (hD : w.heap.size + 2 ≤ D) (hK : W.heap[D]? = some (.deferred (some []))) (b : Bool) (hb : b = false) {tmps : Array Value} (ht : tmps[4]?.getD undef = .pointer (some ⟨w.heap.size + 1, 0, none⟩)) :
    LeavesInM Fence.wide 10 Try.prog Try.f91 tmps (fun e w' => e = .returned (.bool b) ∧ Below w.heap.size w w') (marks [D]) .returning W := by
  refine leaves_marks (by simp) [D] _ (by simp) (fun E hE => by
    simp at hE
    subst hE
    exact hK) (fun w' hw' => ?_)
  have hres : w'.cell? ⟨w.heap.size + 1, 0, none⟩ = some (.bool false) := by
    rw [World.cell?_of_block (w := W) (hw'.block _ (fun hm => by simp at hm; omega))]
    exact (box_cell h.res).1
  have hB : Below w.heap.size w w' := h.below.trans (hw'.below (fun E hE => by simp at hE; omega))
  refine ⟨.bool false, ?_, by rw [hb], hB⟩
  simp [results, Try.results91, go_sem, ht, hres]

set_option maxRecDepth 100000 in
set_option maxHeartbeats 4000000 in
theorem missing_in (V : Int) (a : Option Addr) (cap : Nat) (fs : List Int) (f : Nat) (w : World) (hx : SlI w w.heap.size a fs) (hl : fs.length ≤ 1048576) (hf : f < 64) :
    CallsIn Fence.wide 10 Try.prog 91 #[.agg #[.int .i64 V, .slice a fs.length cap], .int .i64 (f : Int)] w fun e w' => e = .returned (.bool (missB fs f)) ∧ Below w.heap.size w w' := by
  have hms : MsW w ((w.alloc (.cells #[.int .i64 V, .slice a fs.length cap] 26)).alloc (.cells #[.bool false] 4)) V (.slice a fs.length cap) := {
      below := ((Below.refl _ w).alloc (Nat.le_refl _) _).alloc (by simp) _
      kbox := (Below.heap_alloc _ _ _ (by simp)).trans (heap_alloc_new _ _)
      res := new2 _ _ _ }
  have Hms := hid hms
  have Hx := hid hx
  clear hms hx
  refine callsIn_of_wp_marks Try.func91 rfl trivial ?_ rfl
  simp only [Try.ntmps91, List.size_toArray, List.length_cons, List.length_nil, Nat.reduceAdd, Nat.reduceSub, Array.replicate_succ, Array.replicate_zero, List.push_toArray, List.append_toArray, List.nil_append, List.cons_append]
  gi_wp2_with (first
    | (refine ⟨trivial, ?_⟩; gi_at_call 103; refine (sides_in _ _ _).mono ?_; rintro e w' ⟨rfl, rfl⟩))
  obtain ⟨W0, hW0⟩ : ∃ W0, W0 = (w.alloc (.cells #[.int .i64 V, .slice a fs.length cap] 26)).alloc (.cells #[.bool false] 4) := ⟨_, rfl⟩
  rw [← hW0] at Hms ⊢
  have hsz0 : W0.heap.size = w.heap.size + 1 + 1 := by rw [hW0]; simp
  clear hW0
  have hW2 : MsW w (W0.alloc (.cells #[.int .i64 (f : Int)] 2)) V (.slice a fs.length cap) := Hms.out.turn (World.grownBy_alloc W0 _ none) (fun r e => by cases e)
  have hsb : (W0.alloc (.cells #[.int .i64 (f : Int)] 2)).heap[W0.heap.size]? = some (.cells #[.int .i64 (f : Int)] 2 (0, 0)) := heap_alloc_new _ _
  rw [hsz0] at hsb
  refine wpIn_rangeFunc_ownG rfl (by decide) (gf := 120) (lb := #[.pointer (some ⟨w.heap.size + 1 + 1, 0, none⟩)]) rfl trivial (enters_of Try.func120 (by kernel_rfl) rfl)
    (sides_stops 9 (by decide) (w.heap.size + 1 + 1) f hf _ (by simp; omega) hsb) keepB_t (keepB_b (by simp; omega)) (Below.refl _ _) (fun _ => rfl)
    (fun pre W => (∀ p ∈ pre, ((p.val : Nat) : Int) ∈ fs) ∧ MsW w W V (.slice a fs.length cap))
    (fun c pre W => (c = .ret ∧ ∃ p ∈ pre, ((p.val : Nat) : Int) ∉ fs) ∧ MsW w W V (.slice a fs.length cap))
    (OwnFrom.and (ownFrom_pure _ _) (msw_own (by simp; omega))) (fun c => OwnFrom.and (ownFrom_pure _ _) (msw_own (by simp; omega)))
    ⟨by simp, hW2⟩
    (fun x => { tmps := #[.agg #[.int .i64 V, .slice a fs.length cap], .int .i64 f, .pointer (some ⟨w.heap.size, 0, none⟩), undef, .pointer (some ⟨w.heap.size + 1, 0, none⟩), .int .i64 (x.val : Int), .int .i64 f, .func (.func 120) #[] #[.pointer (some ⟨w.heap.size + 1 + 1, 0, none⟩)], .int .i64 (x.val : Int),
      undef, undef, undef, undef, undef, undef, undef, undef, undef, undef], defers := [] }) ?assign ?body ?done ?stop
  case assign =>
    intro l x W3 K hK
    gi_wp2
    exact hK
  case body =>
    rintro l pre x W3 ⟨hp, hW3⟩ _
    obtain ⟨k0, k1, _, _⟩ := two_of hW3.kbox
    have r3 : W3.cell? ⟨w.heap.size + 1, 0, none⟩ = some (.bool false) := (box_cell hW3.res).1
    have r4 : W3.frozen? ⟨w.heap.size + 1, 0, none⟩ = false := (box_cell hW3.res).2
    have HW3 := hid hW3
    have Hp := hid hp
    have HxW := hid (Hx.out.later hW3.below hW3.below.size)
    clear hW3 hp
    by_cases hm : ((x.val : Nat) : Int) ∈ fs
    · have HC := hid (contains_any a cap fs ((x.val : Nat) : Int) W3 HxW.out hl)
      rw [decide_eq_true hm] at HC
      have Hm := hid hm
      clear hm
      gi_wp2_with (refine ⟨trivial, ?_⟩; gi_at_call 53; refine (callsIn_wide.2 HC.out).mono ?_; rintro e w' ⟨rfl, rfl⟩)
      refine ⟨KeepsFrom.refl _ _, rfl, fun p hp' => ?_, HW3.out⟩
      rcases List.mem_append.1 hp' with hp' | hp'
      · exact Hp.out p hp'
      · simp at hp'; rw [hp']; exact Hm.out
    · have HC := hid (contains_any a cap fs ((x.val : Nat) : Int) W3 HxW.out hl)
      rw [decide_eq_false hm] at HC
      have Hm := hid hm
      clear hm
      gi_wp2_with (refine ⟨trivial, ?_⟩; gi_at_call 53; refine (callsIn_wide.2 HC.out).mono ?_; rintro e w' ⟨rfl, rfl⟩)
      exact ⟨(KeepsOthers.setCell _ _ _).from _, ⟨rfl, x, by simp, Hm.out⟩, HW3.out.store⟩
  case done =>
    rintro D ys W3 hD rfl ⟨hp, hW3⟩ hK
    have hDb : w.heap.size + 2 ≤ D := by simp at hD; omega
    obtain ⟨k0, k1, _, _⟩ := two_of hW3.kbox
    have r3 : W3.cell? ⟨w.heap.size + 1, 0, none⟩ = some (.bool false) := (box_cell hW3.res).1
    have r4 : W3.frozen? ⟨w.heap.size + 1, 0, none⟩ = false := (box_cell hW3.res).2
    have HE : Hid (missB fs f = !decide ((f : Int) ∈ fs)) := hid (by
      unfold missB
      rw [show ((sidesF f).all fun s => decide (((s.val : Nat) : Int) ∈ fs)) = true from List.all_eq_true.2 (fun p hp' => decide_eq_true (hp p hp'))]
      rfl)
    have HC := hid (contains_any a cap fs (f : Int) W3 (Hx.out.later hW3.below hW3.below.size) hl)
    have HW3 := hid hW3
    have HK := hid hK
    obtain ⟨c, hc⟩ : ∃ c, c = decide ((f : Int) ∈ fs) := ⟨_, rfl⟩
    rw [← hc] at HC HE
    clear hW3 hp hc hK
    cases c
    · gi_wp2_with (refine ⟨trivial, ?_⟩; gi_at_call 53; refine (callsIn_wide.2 HC.out).mono ?_; rintro e w' ⟨rfl, rfl⟩)
      exact ms_end HW3.out hDb HK.out _ true HE.out rfl
    · gi_wp2_with (refine ⟨trivial, ?_⟩; gi_at_call 53; refine (callsIn_wide.2 HC.out).mono ?_; rintro e w' ⟨rfl, rfl⟩)
      exact ms_end HW3.out hDb HK.out _ false HE.out rfl
  case stop =>
    rintro D c pre W3 hD hpre ⟨⟨rfl, p, hpm, hpn⟩, hW3⟩ hK
    have hDb : w.heap.size + 2 ≤ D := by simp at hD; omega
    have HE : Hid (missB fs f = false) := hid (by
      unfold missB
      rw [show ((sidesF f).all fun s => decide (((s.val : Nat) : Int) ∈ fs)) = false from List.all_eq_false.2 ⟨p, hpre.subset hpm, by simpa using hpn⟩]
      rfl)
    have HW3 := hid hW3
    have HK := hid hK
    clear hW3 hpn hpm hpre hK
    gi_wp2
    exact ms_end0 HW3.out hDb HK.out _ HE.out rfl

end Go.Proofs.Ytmkknfdjoajpcaa
