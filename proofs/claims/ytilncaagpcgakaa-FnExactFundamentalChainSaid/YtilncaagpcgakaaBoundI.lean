import Derived.Test.YtilncaagpcgakaaBoundM
import Derived.Test.YtilncaagpcgakaaFw
import Derived.Test.YtilncaagpcgakaaHaving
/-! The boundary of a chain, the program's. -/
namespace Go.Proofs.Ytilncaagpcgakaa
open Go.RowKit Go.Shelf

attribute [local go_sem] Oper.semAt_some

/-- What the walk keeps of the world. -/
structure FbW (w W : World) (V : Int) (sl : Value) (L : List Int) (Ds : List Nat) : Prop where
  below : Below w.heap.size w W
  kbox : W.heap[w.heap.size]? = some (.cells #[.int .i64 V, sl] 30 (0, 0))
  own : W.ownsMap Try.prog 2 (plainElem (H := Unit) Try.prog 4) (w.heap.size + 1) L.length (togD L)
  mbox : W.heap[w.heap.size + 2]? = some (.cells #[.map (some (w.heap.size + 1))] 64 (0, 0))
  nodup : Ds.Nodup
  marks : ∀ D ∈ Ds, w.heap.size + 3 ≤ D ∧ W.heap[D]? = some (.deferred (some []))

theorem FbW.size {w W : World} {V : Int} {sl : Value} {L : List Int} {Ds : List Nat} (h : FbW w W V sl L Ds) : w.heap.size + 3 ≤ W.heap.size := by
  have := lt_of_get h.mbox; omega

theorem FbW.turn {w W W' : World} {V : Int} {sl : Value} {L : List Int} {Ds : List Nat} (h : FbW w W V sl L Ds) {row : Option Nat} (hg : W.grownBy W' row)
    (hr : ∀ r, row = some r → w.heap.size + 3 ≤ r ∧ r ∉ Ds) : FbW w W' V sl L Ds where
  below := h.below.grown hg h.below.size (fun k e => by have := (hr k e).1; omega)
  kbox := (hg.block _ (lt_of_get h.kbox) (fun e => by have := (hr _ e.symm).1; omega)).trans h.kbox
  own := h.own.kept hg (fun e => by have := (hr _ e.symm).1; omega)
  mbox := (hg.block _ (lt_of_get h.mbox) (fun e => by have := (hr _ e.symm).1; omega)).trans h.mbox
  nodup := h.nodup
  marks := fun D hD => ⟨(h.marks D hD).1, (hg.block _ (lt_of_get (h.marks D hD).2) (fun e => (hr _ e.symm).2 hD)).trans (h.marks D hD).2⟩

theorem fbw_own {w : World} {V : Int} {sl : Value} {g : List (Fin 64) → List Int} {Ds : List Nat} {B : Nat} (hB : w.heap.size + 3 ≤ B) (hD : ∀ D ∈ Ds, D < B) : OwnFrom B (fun (pre : List (Fin 64)) W => FbW w W V sl (g pre) Ds) :=
  fun _ _ _ _ hs hg hr => hs.turn hg (fun r e => ⟨by have := (hr r e).1; omega, fun hm => by have := hD r hm; have := (hr r e).1; omega⟩)

theorem box_ownB {β : Type} {B fb : Nat} {o : Obj} (hB : fb < B) : OwnFrom B (fun (_ : β) (W : World) => W.heap[fb]? = some o) :=
  fun _ _ _ _ hs hg hr => (hg.block _ (lt_of_get hs) (fun e => by have := (hr _ e.symm).1; omega)).trans hs

/-- A further mark. -/
theorem FbW.mark {w W : World} {V : Int} {sl : Value} {L : List Int} {Ds : List Nat} (h : FbW w W V sl L Ds) {D : Nat} (hD : W.heap[D]? = some (.deferred (some []))) (hb : w.heap.size + 3 ≤ D) (hn : D ∉ Ds) : FbW w W V sl L (D :: Ds) where
  below := h.below
  kbox := h.kbox
  own := h.own
  mbox := h.mbox
  nodup := List.nodup_cons.2 ⟨hn, h.nodup⟩
  marks := fun E hE => by
    rcases List.mem_cons.1 hE with rfl | hE
    · exact ⟨hb, hD⟩
    · exact h.marks E hE

/-- A side more in the map. -/
theorem FbW.put {w W w1 : World} {V : Int} {sl : Value} {L : List Int} {Ds : List Nat} (h : FbW w W V sl L Ds) {x : Int}
    (hown : w1.ownsMap Try.prog 2 (plainElem (H := Unit) Try.prog 4) (w.heap.size + 1) (L.length + 1) ((togD L).put (.int .i64 x) (.lit (.bool (!par x L))))) (hg : W.grownBy w1 (some (w.heap.size + 1))) : FbW w w1 V sl (L ++ [x]) Ds where
  below := h.below.grown hg h.below.size (fun k e => by cases e; omega)
  kbox := (hg.block _ (lt_of_get h.kbox) (fun e => by simp at e)).trans h.kbox
  own := by rw [togD_snoc]; simpa using hown
  mbox := (hg.block _ (lt_of_get h.mbox) (fun e => by simp at e)).trans h.mbox
  nodup := h.nodup
  marks := fun D hD => ⟨(h.marks D hD).1, (hg.block _ (lt_of_get (h.marks D hD).2) (fun e => by have := (h.marks D hD).1; simp at e; omega)).trans (h.marks D hD).2⟩

theorem oddWanted (L : List Int) (bm b n : Nat) (x : Int) (w : World) (hx0 : 1 ≤ x) (hx1 : x ≤ 63) (hm : w.cell? ⟨bm, 0, none⟩ = some (.map (some b))) (hM : w.ownsMap Try.prog 2 (plainElem (H := Unit) Try.prog 4) b n (togD L)) :
    Calls Try.prog 101 #[.int .i64 x, .pointer (some ⟨bm, 0, none⟩)] w fun e w' => e = .returned (.bool (par x L)) ∧ Below w.heap.size w w' := by
  have hlook := lookup_tog hM (p := x) (WalkArith.wf_i64 (by omega))
  clear hM
  obtain ⟨c, hc⟩ : ∃ c, c = par x L := ⟨_, rfl⟩
  rw [← hc] at hlook ⊢
  clear hc
  go_enter Try.func101, Try.ntmps101
  go_wp2_with fail
  go_ret
  exact ⟨rfl, Below.refl _ _⟩

set_option maxRecDepth 100000 in
set_option maxHeartbeats 4000000 in
theorem bd_in (V : Int) (a0 : Option Addr) (cap : Nat) (fs : List Int) (b off c2 : Nat) (ch : List Int) (w : World) (hx : SlI w w.heap.size a0 fs) (hl : fs.length ≤ 1048576) (hf : ∀ x ∈ fs, 1 ≤ x ∧ x ≤ 63) (hb : b < w.heap.size)
    (hc : ∀ i, i < ch.length → w.cell? ⟨b, off + i, none⟩ = some (.int .i64 (ch[i]?.getD 0))) (hch : ∀ x ∈ ch, 1 ≤ x ∧ x ≤ 63) (hcl : ch.length ≤ 1048576) :
    CallsIn Fence.wide 10 Try.prog 69 #[.agg #[.int .i64 V, .slice a0 fs.length cap], .slice (some ⟨b, off, none⟩) ch.length c2] w fun e w' => ∃ v, e = .returned v ∧ Res w w' v (bdL fs ch) := by
  have hmm := @run_makeMap Try.prog
  have Hx0 := hid hx
  have Hf := hid hf
  have Hc := hid hc
  have Hch := hid hch
  clear hx hc hf hch
  have hF0 : FbW w (((w.alloc (.cells #[.int .i64 V, .slice a0 fs.length cap] 30)).alloc (.map #[] 0)).alloc (.cells #[.map (some (w.heap.size + 1))] 64)) V (.slice a0 fs.length cap) [] [] := by
    have e3 := heap_alloc_new ((w.alloc (.cells #[.int .i64 V, .slice a0 fs.length cap] 30)).alloc (.map #[] 0)) (.cells #[.map (some (w.heap.size + 1))] 64)
    rw [World.size_alloc, World.size_alloc] at e3
    have e2 := World.ownsMap_made (w.alloc (.cells #[.int .i64 V, .slice a0 fs.length cap] 30)) Try.prog 2 (plainElem (H := Unit) Try.prog 4)
    rw [World.size_alloc] at e2
    exact {
      below := (((Below.refl _ w).alloc (Nat.le_refl _) _).alloc (by simp) _).alloc (by simp <;> omega) _
      kbox := (Below.heap_alloc _ _ _ (by simp <;> omega)).trans ((Below.heap_alloc _ _ _ (by simp)).trans (heap_alloc_new _ _))
      own := e2.alloc _
      mbox := e3
      nodup := by simp
      marks := by simp }
  have HF0 := hid hF0
  clear hF0
  refine callsIn_of_wp_marks Try.func69 rfl trivial ?_ rfl
  simp only [Try.ntmps69, List.size_toArray, List.length_cons, List.length_nil, Nat.reduceAdd, Nat.reduceSub, Array.replicate_succ, Array.replicate_zero, List.push_toArray, List.append_toArray, List.nil_append, List.cons_append]
  gi_wp2
  clear hmm
  refine wpIn_loop (fun a' W => ∃ (k : Nat) (c7 c8 c13 c14 c15 c16 c17 c18 c19 c20 c21 c22 c23 c24 c25 : Value) (Ds : List Nat),
      a' = { tmps := #[.agg #[.int .i64 V, .slice a0 fs.length cap], .slice (some ⟨b, off, none⟩) ch.length c2, .pointer (some ⟨w.heap.size, 0, none⟩), undef, .slice none 0 0, .pointer (some ⟨w.heap.size + 2, 0, none⟩), undef, c7, c8, .map (some (w.heap.size + 1)), .slice (some ⟨b, off, none⟩) ch.length c2, .int .i64 ch.length, .int .i64 k, c13, c14, c15, c16, c17, c18, c19, c20, c21, c22, c23, c24, c25, undef, undef, undef], defers := marks Ds } ∧
      k ≤ ch.length ∧ FbW w W V (.slice a0 fs.length cap) (sidesAll (ch.take k)) Ds)
    (fun a' _ => ch.length - (intOf (a'.tmps.getD 12 undef)).toNat) ?start ?round
  case start => exact ⟨0, _, _, _, _, _, _, _, _, _, _, _, _, _, _, _, [], rfl, Nat.zero_le _, by simpa [sidesAll] using HF0.out⟩
  case round =>
    rintro a W ⟨k, c7, c8, c13, c14, c15, c16, c17, c18, c19, c20, c21, c22, c23, c24, c25, Ds, rfl, hk, hW⟩
    have hsz := hW.size
    have k0 : W.cell? ⟨w.heap.size, 0, none⟩ = some (.int .i64 V) := by simp [World.cell?, hW.kbox]
    have k1 : W.cell? ⟨w.heap.size, 1, none⟩ = some (.slice a0 fs.length cap) := by simp [World.cell?, hW.kbox]
    have HW := hid hW
    clear hW
    by_cases hlt : k < ch.length
    · obtain ⟨x, hx⟩ : ∃ x, x = ch[k]?.getD 0 := ⟨_, rfl⟩
      have hck : W.cell? ⟨b, off + k, none⟩ = some (.int .i64 x) := by rw [hx]; exact (HW.out.below.cell (p := ⟨b, off + k, none⟩) hb).trans (Hc.out k hlt)
      have hxr := Hch.out _ (getD_mem hlt)
      rw [← hx] at hxr
      have Hx1 := hid hx
      have hi0 : (0 : Int) ≤ (k : Int) := by omega
      have hi1 : (k : Int) < (ch.length : Int) := by omega
      obtain ⟨f, rfl⟩ : ∃ f : Nat, x = f := ⟨x.toNat, by omega⟩
      have hf : f < 64 := by omega
      clear hx
      gi_wp2_with (first
        | (refine ⟨trivial, ?_⟩; gi_at_call 98; refine (sides_in _ _ _).mono ?_; rintro e w' ⟨rfl, rfl⟩))
      have hW2 : FbW w (W.alloc (.cells #[.int .i64 (f : Int)] 2)) V (.slice a0 fs.length cap) (sidesAll (ch.take k)) Ds := HW.out.turn (World.grownBy_alloc W _ none) (fun r e => by cases e)
      have hsb : (W.alloc (.cells #[.int .i64 (f : Int)] 2)).heap[W.heap.size]? = some (.cells #[.int .i64 (f : Int)] 2 (0, 0)) := heap_alloc_new _ _
      have hDlt : ∀ D ∈ Ds, D < (W.alloc (.cells #[.int .i64 (f : Int)] 2)).heap.size := fun D hD => lt_of_get (hW2.marks D hD).2
      have hLl := sidesAll_len (ch.take k)
      have hkl : (ch.take k).length ≤ 1048576 := by simp; omega
      obtain ⟨L0, hL0⟩ : ∃ L0, L0 = sidesAll (ch.take k) := ⟨_, rfl⟩
      have HL0 := hid hL0
      rw [← hL0] at hW2 hLl HW
      clear hL0
      refine wpIn_rangeFunc_ownG rfl (by decide) (gf := 116) (lb := #[.pointer (some ⟨W.heap.size, 0, none⟩)]) rfl trivial (enters_of Try.func116 (by kernel_rfl) rfl)
        (sides_stops 9 (by decide) W.heap.size f hf _ (by simp) hsb) keepB_t (keepB_b (by simp)) (Below.refl _ _) (fun _ => rfl)
        (fun pre W' => FbW w W' V (.slice a0 fs.length cap) (L0 ++ sidesI f pre) Ds ∧ W'.heap[W.heap.size]? = some (.cells #[.int .i64 (f : Int)] 2 (0, 0)))
        (fun _ _ _ => False)
        (OwnFrom.and (fbw_own (by simp; omega) hDlt) (box_ownB (by simp <;> omega))) (fun _ => ownFrom_pure _ _)
        ⟨by simpa [sidesI] using hW2, hsb⟩
        (fun x => { tmps := #[.agg #[.int .i64 V, .slice a0 fs.length cap], .slice (some ⟨b, off, none⟩) ch.length c2, .pointer (some ⟨w.heap.size, 0, none⟩), undef, .slice none 0 0, .pointer (some ⟨w.heap.size + 2, 0, none⟩), undef, .int .i64 f, .int .i64 (x.val : Int), .map (some (w.heap.size + 1)), .slice (some ⟨b, off, none⟩) ch.length c2, .int .i64 ch.length, .int .i64 k, .bool true, .pointer (some ⟨b, off + k, none⟩), .int .i64 f, .int .i64 f, .func (.func 116) #[] #[.pointer (some ⟨W.heap.size, 0, none⟩)], .int .i64 (x.val : Int), c19, c20, c21, c22, c23, c24, c25, undef, undef, undef], defers := [] }) ?assign ?body ?done ?stop
      case assign =>
        intro l x W3 K hK
        gi_wp2
        exact hK
      case body =>
        rintro l pre x W3 ⟨hW3, hsb3⟩ hpl
        have m3 : W3.cell? ⟨w.heap.size + 2, 0, none⟩ = some (.map (some (w.heap.size + 1))) := (box_cell hW3.mbox).1
        have hxl := x.isLt
        have hwx : (Lit.int .i64 (x.val : Int)).wf = true := WalkArith.wf_i64 (by omega)
        have hlook := lookup_tog hW3.own hwx
        have HW3 := hid hW3
        have Hsb3 := hid hsb3
        have hpre := sidesI_len f pre
        have Hs := hid (sidesI_snoc f pre x)
        have hkm : (L0 ++ sidesI f pre).length < maxLen := by unfold maxLen; rw [List.length_append, hpre]; omega
        clear hW3 hsb3
        gi_wp2_with (first
          | (gi_at_lookup; refine at_tog rfl rfl HW3.out.own hwx rfl rfl ?_)
          | (gi_at_mapUpdate; refine wpListIn_mapUpdate_own _ rfl _ _ _ 64 rfl 2 4 (Maps.int_keyed Try.underlying2) Try.underlying64 _ (w.heap.size + 1) _ _ rfl HW3.out.own hkm _ _ _ rfl rfl (Maps.keyOf_int_mk Try.underlying2 hwx) _ [] (plainElem_bool Try.underlying4 _) ?_; intro w4 hown4 hgrow4))
        refine ⟨KeepsFrom.of_grownBy hgrow4 (fun j e => by cases e; first | omega | (simp; omega)), (hgrow4.block _ (lt_of_get Hsb3.out) (fun e => by simp at e; omega)), ?_, (hgrow4.block _ (lt_of_get Hsb3.out) (fun e => by simp at e; omega)).trans Hsb3.out⟩
        rw [Hs.out, ← List.append_assoc]
        exact HW3.out.put hown4 hgrow4
      case done =>
        rintro D ys W3 hD rfl ⟨hW3, _⟩ hK
        have hDb : w.heap.size + 3 ≤ D := by simp at hD; omega
        have hDn : D ∉ Ds := fun hm => by have := hDlt D hm; omega
        have HW4 := hid (hW3.mark hK hDb hDn)
        have htk : sidesAll (ch.take (k + 1)) = L0 ++ sidesI f (sidesF f) := by rw [take_snoc hlt, sidesAll_snoc, ← Hx1.out, HL0.out, Int.toNat_natCast]
        have Htk := hid htk
        clear hW3 htk
        gi_wp2
        refine ⟨⟨k + 1, ?_⟩, ?_⟩
        · (repeat apply Exists.intro)
          refine ⟨?e, ?_⟩
          case e =>
            rw [show ((k + 1 : Nat) : Int) = (k : Int) + 1 by omega, show ({ target := .collected D, args := #[] } :: marks Ds : List Deferred) = marks (D :: Ds) from rfl]
          exact ⟨by omega, by rw [Htk.out]; exact HW4.out⟩
        · simp [intOf]; omega
      case stop =>
        rintro D c pre W3 hD hpre hF hK
        exact hF.elim
    · obtain rfl : k = ch.length := by omega
      rw [List.take_of_length_le (Nat.le_refl _)] at HW
      have hxW := Hx0.out.later HW.out.below HW.out.below.size
      have HFW : Hid (Calls Try.prog 55 #[.agg #[.int .i64 V, .slice a0 fs.length cap], .func (.func 101) #[] #[.pointer (some ⟨w.heap.size + 2, 0, none⟩)]] W fun e w' => ∃ v, e = .returned v ∧ Res W w' v (bdL fs ch)) := hid (by
        unfold bdL
        refine fw_any V _ cap fs W 101 _ (fun x => par x (sidesAll ch)) hxW hl (enters_of Try.func101 (by kernel_rfl) rfl) ?_
        intro W' x hW' hxm
        have hr := Hf.out x hxm
        have hkeep : W.grownBy W' none := ⟨hW'.os, hW'.tape, hW'.output, hW'.size, fun k hk _ => hW'.block k hk⟩
        exact oddWanted (sidesAll ch) _ _ _ x W' hr.1 hr.2 ((hW'.cell (p := ⟨w.heap.size + 2, 0, none⟩) (lt_of_get HW.out.mbox)).trans (box_cell HW.out.mbox).1) (HW.out.own.kept hkeep (by simp)))
      clear hxW
      gi_wp2_with (refine ⟨trivial, ?_⟩; gi_at_call 55; refine (callsIn_wide.2 HFW.out).mono ?_; rintro e w2 ⟨v, rfl, hr⟩)
      have hB2 : Below W.heap.size W w2 := hr.2
      refine leaves_marks (by simp) Ds _ HW.out.nodup (fun D hD => (hB2.block _ (lt_of_get (HW.out.marks D hD).2)).trans (HW.out.marks D hD).2) (fun w' hw' => ?_)
      have hsh : Below w.heap.size w2 w' := hw'.below (fun D hD => by have := (HW.out.marks D hD).1; omega)
      have hown : w'.ownsRow W.heap.size 2 1 v (bdL fs ch).length ((bdL fs ch).map (Value.int .i64)) := by
        refine ⟨hr.1.1, ?_⟩
        rcases hr.1.2 with hn | ⟨g, cp, cur, rfl, hg, hh, rest⟩
        · exact .inl hn
        · exact .inr ⟨g, cp, cur, rfl, hg, (hw'.block g (fun hm => by have := lt_of_get (HW.out.marks g hm).2; omega)).trans hh, rest⟩
      refine ⟨v, ?_, v, rfl, ownsRow_base hown HW.out.below.size, (HW.out.below.trans (hB2.mono HW.out.below.size)).trans hsh⟩
      simp [results, Try.results69, go_sem]

end Go.Proofs.Ytilncaagpcgakaa
