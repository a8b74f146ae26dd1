import Derived.Test.YtmkknfdjoajpcaaCntM
import Derived.Test.YtmkknfdjoajpcaaSides
import Derived.Test.YtmkknfdjoajpcaaMade
/-! facetsAroundSides: in how many facets a set is with one vertex less. -/
namespace Go.Proofs.Ytmkknfdjoajpcaa
open Go.RowKit Go.Shelf Go.Maps

attribute [local go_sem] Oper.semAt_some

/-- The sides of a facet, the empty one too. -/
def sideL (f : Nat) : List Int := (sidesF f).map fun p => ((p.val : Nat) : Int)
def aroundOf (f : Nat) : List Int := sideL f ++ (if ones f = 1 then [0] else [])
def arL (fs : List Int) : List Int := fs.flatMap fun x => aroundOf x.toNat

theorem sideL_len (f : Nat) : (sideL f).length ≤ 6 := by unfold sideL; rw [List.length_map]; exact sides_len f 6
theorem aroundOf_len (f : Nat) : (aroundOf f).length ≤ 7 := by
  have := sideL_len f
  unfold aroundOf
  rw [List.length_append]
  split <;> simp <;> omega
theorem arL_len : ∀ fs : List Int, (arL fs).length ≤ 7 * fs.length
  | [] => by simp [arL]
  | x :: fs => by
    have ih := arL_len fs
    have := aroundOf_len x.toNat
    simp only [arL, List.flatMap_cons, List.length_append, List.length_cons] at ih ⊢
    omega
theorem arL_snoc (fs : List Int) (x : Int) : arL (fs ++ [x]) = arL fs ++ aroundOf x.toNat := by simp [arL]

/-- The map in block b counts how often a number is in a list. -/
def CntH (W : World) (b N : Nat) (L : List Int) : Prop :=
  ∃ D : DataW Unit, Maps.IsMap D ∧ W.ownsMap Try.prog 2 (plainElem (H := Unit) Try.prog 2) b N D ∧ (∀ p, D.atKey (.int .i64 p) (.lit (.int .i64 0)) = .lit (.int .i64 (L.count p : Int))) ∧ ∀ p, has D (.int .i64 p) = true ↔ p ∈ L

theorem CntH.made (w : World) : CntH (w.alloc (.map #[] 0)) w.heap.size 0 [] :=
  ⟨_, Maps.isMap_empty, World.ownsMap_made w _ _ _, fun _ => rfl, fun p => by simp [has]⟩
theorem CntH.lt {W : World} {b N : Nat} {L : List Int} (h : CntH W b N L) : b < W.heap.size := by
  obtain ⟨D, _, h1, _⟩ := h
  exact h1.lt
theorem CntH.kept {W W' : World} {b N : Nat} {L : List Int} (h : CntH W b N L) {row : Option Nat} (hg : W.grownBy W' row) (hn : some b ≠ row) : CntH W' b N L := by
  obtain ⟨D, h0, h1, h2⟩ := h
  exact ⟨D, h0, h1.kept hg hn, h2⟩
theorem CntH.block {W W' : World} {b N : Nat} {L : List Int} (h : CntH W b N L) (hb : W'.heap[b]? = W.heap[b]?) : CntH W' b N L := by
  obtain ⟨D, h0, h1, h2⟩ := h
  obtain ⟨es, clock, hbb, rest⟩ := h1
  exact ⟨D, h0, ⟨es, clock, hb.trans hbb, rest⟩, h2⟩
set_option maxRecDepth 100000 in
theorem CntH.lookup {W : World} {b N : Nat} {L : List Int} (h : CntH W b N L) {p : Int} (hp : (Lit.int .i64 p).wf = true) :
    (Instr.lookup 83 (.map (some b)) (.int .i64 p) false).run Try.prog W = .ok (.int .i64 (L.count p : Int)) W := by
  obtain ⟨D, h0, h1, h2, _⟩ := h
  exact CntM.lookup ⟨D, h0, h1, h2⟩ hp
theorem CntH.update {W : World} {b N : Nat} {L : List Int} (h : CntH W b N L) (hN : N < maxLen) {p : Int} (hp : (Lit.int .i64 p).wf = true) (hl : L.length ≤ 1048576) :
    ∃ W', (Instr.mapUpdate 83 (.map (some b)) (.int .i64 p) (.int .i64 ((L.count p : Int) + 1))).run Try.prog W = .ok () W' ∧ CntH W' b (N + 1) (L ++ [p]) ∧ W.grownBy W' (some b) ∧ W'.heap.size = W.heap.size := by
  obtain ⟨D, h0, h1, h2, h3⟩ := h
  have hcl : L.count p ≤ L.length := List.count_le_length
  have hx : (Lit.int .i64 ((L.count p : Int) + 1)).wf = true := WalkArith.wf_i64 (by omega)
  obtain ⟨W', hrun, ho, ht⟩ := World.ownsMap.store h1 (Maps.int_keyed Try.underlying2) Try.underlying83 hN (Maps.keyOf_int_mk Try.underlying2 hp) (plainElem_int Try.underlying2 hx)
  have hs : W'.heap.size = W.heap.size := by
    obtain ⟨es, c, es', c', hb, rfl⟩ := ht
    simp [ChangeMaps.setBlock]
  refine ⟨W', hrun, ⟨_, h0.put _ _, ho, fun q => ?_, fun q => ?_⟩, ?_, hs⟩
  · by_cases e : q = p
    · subst e
      rw [Maps.atKey_put_same h0 (show WideAt.IsKeyLit (.int .i64 q) from trivial)]
      simp
    · rw [Maps.atKey_put_other (by simpa using e), h2]
      simp [List.count_append, Ne.symm e]
  · by_cases e : q = p
    · subst e
      rw [has_put_same h0 (show WideAt.IsKeyLit (.int .i64 q) from trivial)]
      simp
    · rw [has_put_other (by simpa using e), h3]
      simp [e]
  · obtain ⟨es, c, es', c', hb, rfl⟩ := ht
    exact ⟨rfl, rfl, rfl, by simp [ChangeMaps.setBlock], fun i _ hi => ChangeMaps.heap_setBlock_other hb _ (fun e => hi (by rw [e]))⟩

/-- What the walk keeps of the world. -/
structure ArW (w W : World) (mb : Nat) (L : List Int) (Ds : List Nat) : Prop where
  below : Below w.heap.size w W
  lo : w.heap.size ≤ mb
  own : CntH W mb L.length L
  mbox : W.heap[mb + 1]? = some (.cells #[.map (some mb)] 83 (0, 0))
  nodup : Ds.Nodup
  marks : ∀ D ∈ Ds, mb + 2 ≤ D ∧ W.heap[D]? = some (.deferred (some []))

theorem ArW.size {w W : World} {mb : Nat} {L : List Int} {Ds : List Nat} (h : ArW w W mb L Ds) : mb + 2 ≤ W.heap.size := by
  have := lt_of_get h.mbox; omega

theorem ArW.turn {w W W' : World} {mb : Nat} {L : List Int} {Ds : List Nat} (h : ArW w W mb L Ds) {row : Option Nat} (hg : W.grownBy W' row)
    (hr : ∀ r, row = some r → mb + 2 ≤ r ∧ r ∉ Ds) : ArW w W' mb L Ds where
  below := h.below.grown hg h.below.size (fun k e => by have := (hr k e).1; have := h.lo; omega)
  lo := h.lo
  own := h.own.kept hg (fun e => by have := (hr _ e.symm).1; omega)
  mbox := (hg.block _ (lt_of_get h.mbox) (fun e => by have := (hr _ e.symm).1; omega)).trans h.mbox
  nodup := h.nodup
  marks := fun D hD => ⟨(h.marks D hD).1, (hg.block _ (lt_of_get (h.marks D hD).2) (fun e => (hr _ e.symm).2 hD)).trans (h.marks D hD).2⟩

theorem arw_own {w : World} {mb : Nat} {g : List (Fin 64) → List Int} {Ds : List Nat} {B : Nat} (hB : mb + 2 ≤ B) (hD : ∀ D ∈ Ds, D < B) : OwnFrom B (fun (pre : List (Fin 64)) W => ArW w W mb (g pre) Ds) :=
  fun _ _ _ _ hs hg hr => hs.turn hg (fun r e => ⟨by have := (hr r e).1; omega, fun hm => by have := hD r hm; have := (hr r e).1; omega⟩)

theorem ArW.mark {w W : World} {mb : Nat} {L : List Int} {Ds : List Nat} (h : ArW w W mb L Ds) {D : Nat} (hD : W.heap[D]? = some (.deferred (some []))) (hb : mb + 2 ≤ D) (hn : D ∉ Ds) : ArW w W mb L (D :: Ds) where
  below := h.below
  lo := h.lo
  own := h.own
  mbox := h.mbox
  nodup := List.nodup_cons.2 ⟨hn, h.nodup⟩
  marks := fun E hE => by
    rcases List.mem_cons.1 hE with rfl | hE
    · exact ⟨hb, hD⟩
    · exact h.marks E hE

theorem ArW.put {w W w1 : World} {mb : Nat} {L : List Int} {Ds : List Nat} (h : ArW w W mb L Ds) {x : Int}
    (hown : CntH w1 mb (L.length + 1) (L ++ [x])) (hg : W.grownBy w1 (some mb)) : ArW w w1 mb (L ++ [x]) Ds where
  below := h.below.grown hg h.below.size (fun k e => by cases e; exact h.lo)
  lo := h.lo
  own := by simpa using hown
  mbox := (hg.block _ (lt_of_get h.mbox) (fun e => by simp at e)).trans h.mbox
  nodup := h.nodup
  marks := fun D hD => ⟨(h.marks D hD).1, (hg.block _ (lt_of_get (h.marks D hD).2) (fun e => by have := (h.marks D hD).1; simp at e; omega)).trans (h.marks D hD).2⟩

set_option maxRecDepth 100000 in
set_option maxHeartbeats 4000000 in
theorem around_in (a : Option Addr) (cap : Nat) (xs : List Int) (w : World) (hx : SlI w w.heap.size a xs) (hl : xs.length ≤ 63) (hr : ∀ x ∈ xs, 1 ≤ x ∧ x ≤ 63) :
    CallsIn Fence.wide 10 Try.prog 84 #[.slice a xs.length cap] w fun e w' => ∃ mb, e = .returned (.map (some mb)) ∧ CntH w' mb (arL xs).length (arL xs) ∧ w.heap.size ≤ mb ∧ Below w.heap.size w w' := by
  have hmm := @run_makeMap Try.prog
  have Hx0 := hid hx
  have Hf := hid hr
  have hF0 : ArW w ((w.alloc (.map #[] 0)).alloc (.cells #[.map (some w.heap.size)] 83)) w.heap.size [] [] := {
      below := ((Below.refl _ w).alloc (Nat.le_refl _) _).alloc (by simp) _
      lo := Nat.le_refl _
      own := (CntH.made w).kept (World.grownBy_alloc _ _ none) (by simp)
      mbox := new2 _ _ _
      nodup := by simp
      marks := by simp }
  have HF0 := hid hF0
  clear hF0 hx hr
  refine callsIn_of_wp_marks Try.func84 rfl trivial ?_ rfl
  simp only [Try.ntmps84, List.size_toArray, List.length_cons, List.length_nil, Nat.reduceAdd, Nat.reduceSub, Array.replicate_succ, Array.replicate_zero, List.push_toArray, List.append_toArray, List.nil_append, List.cons_append]
  gi_wp2
  clear hmm
  obtain ⟨mb, hmb⟩ : ∃ mb, mb = w.heap.size := ⟨_, rfl⟩
  have Hmb := hid hmb
  rw [← hmb] at HF0 ⊢
  clear hmb
  refine wpIn_loop (fun a' W => ∃ (k : Nat) (c5 c6 c11 c12 c13 c14 c15 c16 c17 c18 c19 c20 c21 c22 c23 c24 c25 c26 c27 : Value) (Ds : List Nat),
      a' = { tmps := #[.slice a xs.length cap, undef, .map none, .pointer (some ⟨mb + 1, 0, none⟩), undef, c5, c6, .map (some mb), .slice a xs.length cap, .int .i64 xs.length,
          .int .i64 k, c11, c12, c13, c14, c15, c16, c17, c18, c19, c20, c21, c22, c23, c24, c25, c26, c27, undef], defers := marks Ds } ∧
      k ≤ xs.length ∧ ArW w W mb (arL (xs.take k)) Ds)
    (fun a' _ => xs.length - (RowKit.intOf (a'.tmps.getD 10 undef)).toNat) ?start ?round
  case start => exact ⟨0, _, _, _, _, _, _, _, _, _, _, _, _, _, _, _, _, _, _, _, [], rfl, Nat.zero_le _, by simpa [arL] using HF0.out⟩
  case round =>
    rintro a' W ⟨k, c5, c6, c11, c12, c13, c14, c15, c16, c17, c18, c19, c20, c21, c22, c23, c24, c25, c26, c27, Ds, rfl, hk, hW⟩
    have hsz := hW.size
    have HW := hid hW
    have hlo := hW.lo
    clear hW
    by_cases hlt : k < xs.length
    · obtain ⟨b, off, hb, rfl, hc⟩ : ∃ b off, b < w.heap.size ∧ a = some ⟨b, off, none⟩ ∧ ∀ i, i < xs.length → w.cell? ⟨b, off + i, none⟩ = some (.int .i64 (xs[i]?.getD 0)) := by
        rcases Hx0.out with h | h
        · rw [h] at hlt; simp at hlt
        · exact h
      have Hc := hid hc
      clear hc
      obtain ⟨x, hx⟩ : ∃ x, x = xs[k]?.getD 0 := ⟨_, rfl⟩
      have hck : W.cell? ⟨b, off + k, none⟩ = some (.int .i64 x) := by rw [hx]; exact (HW.out.below.cell (p := ⟨b, off + k, none⟩) hb).trans (Hc.out k hlt)
      have hxr := Hf.out _ (getD_mem hlt)
      rw [← hx] at hxr
      have Hx1 := hid hx
      have hi0 : (0 : Int) ≤ (k : Int) := by omega
      have hi1 : (k : Int) < (xs.length : Int) := by omega
      obtain ⟨f, rfl⟩ : ∃ f : Nat, x = f := ⟨x.toNat, by omega⟩
      have hf : f < 64 := by omega
      clear hx
      gi_wp2_with (first
        | (refine ⟨trivial, ?_⟩; gi_at_call 103; refine (sides_in _ _ _).mono ?_; rintro e w' ⟨rfl, rfl⟩))
      have hW2 : ArW w (W.alloc (.cells #[.int .i64 (f : Int)] 2)) mb (arL (xs.take k)) Ds := HW.out.turn (World.grownBy_alloc W _ none) (fun r e => by cases e)
      have hsb : (W.alloc (.cells #[.int .i64 (f : Int)] 2)).heap[W.heap.size]? = some (.cells #[.int .i64 (f : Int)] 2 (0, 0)) := heap_alloc_new _ _
      have hDlt : ∀ D ∈ Ds, D < (W.alloc (.cells #[.int .i64 (f : Int)] 2)).heap.size := fun D hD => lt_of_get (hW2.marks D hD).2
      have hLl := arL_len (xs.take k)
      have hkl : (xs.take k).length ≤ 63 := by simp; omega
      obtain ⟨L0, hL0⟩ : ∃ L0, L0 = arL (xs.take k) := ⟨_, rfl⟩
      have HL0 := hid hL0
      rw [← hL0] at hW2 hLl HW
      clear hL0
      refine wpIn_rangeFunc_ownG rfl (by decide) (gf := 120) (lb := #[.pointer (some ⟨W.heap.size, 0, none⟩)]) rfl trivial (enters_of Try.func120 (by kernel_rfl) rfl)
        (sides_stops 9 (by decide) W.heap.size f hf _ (by simp) hsb) keepB_t (keepB_b (by simp)) (Below.refl _ _) (fun _ => rfl)
        (fun pre W' => ArW w W' mb (L0 ++ pre.map (fun p => ((p.val : Nat) : Int))) Ds ∧ W'.heap[W.heap.size]? = some (.cells #[.int .i64 (f : Int)] 2 (0, 0)))
        (fun _ _ _ => False)
        (OwnFrom.and (arw_own (by simp; omega) hDlt) (box_own (by simp <;> omega))) (fun _ => ownFrom_pure _ _)
        ⟨by simpa using hW2, hsb⟩
        (fun x => { tmps := #[.slice (some ⟨b, off, none⟩) xs.length cap, undef, .map none, .pointer (some ⟨mb + 1, 0, none⟩), undef, .int .i64 f, .int .i64 (x.val : Int), .map (some mb), .slice (some ⟨b, off, none⟩) xs.length cap, .int .i64 xs.length,
          .int .i64 k, .bool true, .pointer (some ⟨b, off + k, none⟩), .int .i64 f, .int .i64 f, .func (.func 120) #[] #[.pointer (some ⟨W.heap.size, 0, none⟩)], .int .i64 (x.val : Int), c17, c18, c19, c20, c21, c22, c23, c24, c25, c26, c27, undef], defers := [] }) ?assign ?body ?done ?stop
      case assign =>
        intro l x W3 K hK
        gi_wp2
        exact hK
      case body =>
        rintro l pre x W3 ⟨hW3, hsb3⟩ hpl
        have m3 : W3.cell? ⟨mb + 1, 0, none⟩ = some (.map (some mb)) := (box_cell hW3.mbox).1
        have hxl := x.isLt
        have hpl2 : pre.length ≤ 64 := by have := hpl; omega
        have hwx : (Lit.int .i64 (x.val : Int)).wf = true := WalkArith.wf_i64 (by omega)
        have HW3 := hid hW3
        have Hsb3 := hid hsb3
        obtain ⟨L1, hL1⟩ : ∃ L1, L1 = L0 ++ pre.map (fun p => ((p.val : Nat) : Int)) := ⟨_, rfl⟩
        have hl1 : L1.length ≤ 1048576 := by rw [hL1]; simp; omega
        rw [← hL1] at HW3
        have hlk := HW3.out.own.lookup hwx
        obtain ⟨w4, hup, hown4, hgrow4, hs4⟩ := HW3.out.own.update (by unfold maxLen; omega) hwx hl1
        have hcl : L1.count (x.val : Int) ≤ L1.length := List.count_le_length
        obtain ⟨c, hcc⟩ : ∃ c, c = L1.count (x.val : Int) := ⟨_, rfl⟩
        rw [← hcc] at hlk hup hcl
        have Hown4 := hid hown4
        have Hg4 := hid hgrow4
        have HL1 := hid hL1
        clear hW3 hsb3 hL1 hcc hown4 hgrow4 hs4
        gi_wp2
        refine ⟨KeepsFrom.of_grownBy Hg4.out (fun j e => by cases e; first | omega | (simp; omega)), (Hg4.out.block _ (lt_of_get Hsb3.out) (fun e => by simp at e; omega)), ?_, (Hg4.out.block _ (lt_of_get Hsb3.out) (fun e => by simp at e; omega)).trans Hsb3.out⟩
        rw [List.map_append, ← List.append_assoc, ← HL1.out]
        exact HW3.out.put Hown4.out Hg4.out
      case done =>
        rintro D ys W3 hD rfl ⟨hW3, _⟩ hK
        have hDb : mb + 2 ≤ D := by simp at hD; omega
        have hDn : D ∉ Ds := fun hm => by have := hDlt D hm; omega
        have HW4 := hid (hW3.mark hK hDb hDn)
        have m3 : W3.cell? ⟨mb + 1, 0, none⟩ = some (.map (some mb)) := (box_cell hW3.mbox).1
        have htk : arL (xs.take (k + 1)) = L0 ++ (sidesF f).map (fun p => ((p.val : Nat) : Int)) ++ (if ones f = 1 then [0] else []) := by rw [take_snoc hlt, arL_snoc, ← Hx1.out, HL0.out, Int.toNat_natCast, List.append_assoc]; rfl
        have hsl := sides_len f 6
        obtain ⟨L1, hL1⟩ : ∃ L1, L1 = L0 ++ (sidesF f).map (fun p => ((p.val : Nat) : Int)) := ⟨_, rfl⟩
        have hl1 : L1.length ≤ 1048576 := by rw [hL1]; unfold sidesF; simp; omega
        rw [← hL1] at HW4 htk
        have ho := ones_le f
        clear hW3 hL1
        by_cases h1 : ones f = 1
        · have hd : ((ones f : Int) - 1 == 0) = true := by simp; omega
          rw [if_pos h1] at htk
          have Htk := hid htk
          have hlk := HW4.out.own.lookup (p := 0) (by decide)
          obtain ⟨w4, hup, hown4, hgrow4, hs4⟩ := HW4.out.own.update (p := 0) (by unfold maxLen; omega) (by decide) hl1
          have hcl : L1.count 0 ≤ L1.length := List.count_le_length
          obtain ⟨c, hcc⟩ : ∃ c, c = L1.count 0 := ⟨_, rfl⟩
          rw [← hcc] at hlk hup hcl
          have HW5 := hid (HW4.out.put hown4 hgrow4)
          clear htk hcc hown4 hgrow4 hs4 h1
          gi_wp2_with (refine ⟨trivial, ?_⟩; gi_at_call 106; refine (callsIn_wide.2 (dim_any f _ hf)).mono ?_; rintro e w' ⟨rfl, rfl⟩)
          refine ⟨⟨k + 1, ?_⟩, ?_⟩
          · (repeat apply Exists.intro)
            refine ⟨?e, ?_⟩
            case e =>
              rw [show ((k + 1 : Nat) : Int) = (k : Int) + 1 by omega, show ({ target := .collected D, args := #[] } :: marks Ds : List Deferred) = marks (D :: Ds) from rfl]
            exact ⟨by omega, by rw [Htk.out]; exact HW5.out⟩
          · simp [RowKit.intOf]; omega
        · have hd : ((ones f : Int) - 1 == 0) = false := by simp; omega
          rw [if_neg h1, List.append_nil] at htk
          have Htk := hid htk
          clear htk h1
          gi_wp2_with (refine ⟨trivial, ?_⟩; gi_at_call 106; refine (callsIn_wide.2 (dim_any f _ hf)).mono ?_; rintro e w' ⟨rfl, rfl⟩)
          refine ⟨⟨k + 1, ?_⟩, ?_⟩
          · (repeat apply Exists.intro)
            refine ⟨?e, ?_⟩
            case e =>
              rw [show ((k + 1 : Nat) : Int) = (k : Int) + 1 by omega, show ({ target := .collected D, args := #[] } :: marks Ds : List Deferred) = marks (D :: Ds) from rfl]
            exact ⟨by omega, by rw [Htk.out]; exact HW4.out⟩
          · simp [RowKit.intOf]; omega
      case stop =>
        rintro D c pre W3 hD hpre hF hK
        exact hF.elim
    · obtain rfl : k = xs.length := by omega
      rw [List.take_of_length_le (Nat.le_refl _)] at HW
      have m0 := (box_cell HW.out.mbox).1
      gi_wp2
      refine leaves_marks (by simp) Ds _ HW.out.nodup (fun D hD => (HW.out.marks D hD).2) (fun w' hw' => ?_)
      have hbl := hw'.block mb (fun hm => by have := (HW.out.marks _ hm).1; omega)
      have hsh : Below w.heap.size W w' := hw'.below (fun D hD => by have := (HW.out.marks D hD).1; omega)
      refine ⟨.map (some mb), ?_, mb, rfl, HW.out.own.block hbl, by have := Hmb.out; omega, HW.out.below.trans hsh⟩
      simp [results, Try.results84, go_sem]

end Go.Proofs.Ytmkknfdjoajpcaa
