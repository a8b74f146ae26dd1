import Derived.Lib.QuietBelow
import Derived.Deep.RegionHeld3
import Derived.Test.YtgefpllmelpahaaMF1
import Derived.Test.YtgefpllmelpahaaMF2
import Derived.Test.YtgefpllmelpahaaMF3
/-! madeBy: the complex made by some sets. -/
namespace Go.Proofs.Ytgefpllmelpahaa
open Go.RowKit Go.Shelf

attribute [local go_sem] Oper.semAt_some

/-- The parts of a set, as they are met. -/
def partsI (f : Nat) : List Int := (subsF f).map fun p => ((p.val : Nat) : Int)
/-- .. of some sets. -/
def partsL (sets : List Int) : List Int := sets.flatMap fun x => partsI x.toNat
/-- The faces of the complex that some sets make. -/
def madeP (sets : List Int) : Int → Bool := fun x => sets.any fun s => decide (x.toNat &&& s.toNat = x.toNat)
def madeL (V : Int) (sets : List Int) : List Int := pickTo (madeP sets) (allV V).toNat

theorem partsI_len (f : Nat) (hf : f < 64) : (partsI f).length ≤ 63 := by
  unfold partsI; rw [List.length_map]; exact subsF_len f hf

theorem partsL_len : ∀ (sets : List Int), (∀ x ∈ sets, 0 ≤ x ∧ x ≤ 63) → (partsL sets).length ≤ 63 * sets.length
  | [], _ => by simp [partsL]
  | x :: sets, h => by
    have ih := partsL_len sets (fun y hy => h y (by simp [hy]))
    have hx := h x (by simp)
    have := partsI_len x.toNat (by omega)
    simp only [partsL, List.flatMap_cons, List.length_append, List.length_cons] at ih ⊢
    omega

theorem partsL_snoc (sets : List Int) (x : Int) : partsL (sets ++ [x]) = partsL sets ++ partsI x.toNat := by simp [partsL]

theorem mem_partsI {f : Nat} (hf : f < 64) {x : Int} : x ∈ partsI f ↔ ∃ p : Nat, x = p ∧ p ≠ 0 ∧ p &&& f = p := by
  unfold partsI
  rw [List.mem_map]
  constructor
  · rintro ⟨p, hp, rfl⟩
    exact ⟨p.val, rfl, (mem_subsF hf).1 hp⟩
  · rintro ⟨p, rfl, h1, h2⟩
    have hle := and_le_left' _ _ h2
    exact ⟨⟨p, by omega⟩, (mem_subsF hf).2 ⟨h1, h2⟩, rfl⟩

theorem mem_partsL {sets : List Int} (hr : ∀ x ∈ sets, 0 ≤ x ∧ x ≤ 63) {x : Int} : x ∈ partsL sets ↔ ∃ y ∈ sets, ∃ p : Nat, x = p ∧ p ≠ 0 ∧ p &&& y.toNat = p := by
  unfold partsL
  rw [List.mem_flatMap]
  constructor
  · rintro ⟨y, hy, h⟩
    exact ⟨y, hy, (mem_partsI (by have := hr y hy; omega)).1 h⟩
  · rintro ⟨y, hy, h⟩
    exact ⟨y, hy, (mem_partsI (by have := hr y hy; omega)).2 h⟩

/-- What is collected is what is made. -/
theorem asc_parts {V : Int} {sets : List Int} (h2 : V ≤ 6) (hr : ∀ x ∈ sets, 0 ≤ x ∧ x ≤ allV V) : ascOf (partsL sets) = madeL V sets := by
  have h63 : ∀ x ∈ sets, 0 ≤ x ∧ x ≤ 63 := fun x hx => ⟨(hr x hx).1, by have := allV_le h2; have := (hr x hx).2; omega⟩
  refine asc_ext (pickTo_asc _ _) (pickTo_asc _ _) fun x => ?_
  unfold ascOf madeL
  rw [mem_pickTo, mem_pickTo]
  simp only [decide_eq_true_eq, mem_partsL h63, madeP, List.any_eq_true]
  constructor
  · rintro ⟨h1, _, y, hy, p, rfl, hp0, hp⟩
    have hle := and_le_left' _ _ hp
    have := hr y hy
    exact ⟨h1, by omega, y, hy, by simpa using hp⟩
  · rintro ⟨h1, h3, y, hy, hp⟩
    have := allV_le h2
    exact ⟨h1, by omega, y, hy, x.toNat, by omega, by omega, hp⟩

theorem parts_range {sets : List Int} (hr : ∀ x ∈ sets, 0 ≤ x ∧ x ≤ 63) : ∀ x ∈ partsL sets, 1 ≤ x ∧ x ≤ 63 := by
  intro x hx
  obtain ⟨y, hy, p, rfl, h0, hp⟩ := (mem_partsL hr).1 hx
  have := and_le_left' _ _ hp
  have := hr y hy
  omega

theorem faw_box {w W : World} {V : Int} {sl : Value} {mb : Nat} {L : List Int} {Ds : List Nat} (h : FaW w W V sl mb L Ds) : W.cell? ⟨mb + 1, 0, none⟩ = some (.map (some mb)) := (box_cell h.mbox).1

set_option maxRecDepth 100000 in
set_option maxHeartbeats 4000000 in
theorem made_in (V : Int) (a : Option Addr) (cap : Nat) (xs : List Int) (w : World) (hx : SlI w w.heap.size a xs) (hl : xs.length ≤ 1048576) (h2 : V ≤ 6) (hr : ∀ x ∈ xs, 0 ≤ x ∧ x ≤ allV V) :
    CallsIn Fence.wide 10 Try.prog 91 #[.int .i64 V, .slice a xs.length cap] w fun e w' => ∃ v, e = .returned (.agg #[.int .i64 V, v]) ∧ Res w w' v (madeL V xs) := by
  have hmm := @run_makeMap Try.prog
  have hB0 : Below w.heap.size w (w.alloc (.cells #[.int .i64 0, .slice none 0 0] 30)) := (Below.refl _ w).alloc (Nat.le_refl _) _
  have h63 : ∀ x ∈ xs, 0 ≤ x ∧ x ≤ 63 := fun x hx => ⟨(hr x hx).1, by have := allV_le h2; have := (hr x hx).2; omega⟩
  have HR := hid (asc_parts h2 hr)
  have Hx0 := hid hx
  have Hf := hid h63
  have HB0 := hid hB0
  have hF0 : FaW w (((w.alloc (.cells #[.int .i64 0, .slice none 0 0] 30)).alloc (.map #[] 0)).alloc (.cells #[.map (some (w.heap.size + 1))] 93)) 0 (.slice none 0 0) (w.heap.size + 1) [] [] := by
    have e3 := heap_alloc_new ((w.alloc (.cells #[.int .i64 0, .slice none 0 0] 30)).alloc (.map #[] 0)) (.cells #[.map (some (w.heap.size + 1))] 93)
    rw [World.size_alloc, World.size_alloc] at e3
    have e4 := (World.ownsMap_made (w.alloc (.cells #[.int .i64 0, .slice none 0 0] 30)) Try.prog 2 (plainElem (H := Unit) Try.prog 4)).alloc (.cells #[.map (some (w.heap.size + 1))] 93)
    rw [World.size_alloc] at e4
    exact {
      below := (hB0.alloc (by simp) _).alloc (by simp <;> omega) _
      lo := Nat.le_refl _
      kbox := (Below.heap_alloc _ _ _ (by simp; omega)).trans ((Below.heap_alloc _ _ _ (by simp)).trans (heap_alloc_new _ _))
      own := e4
      mbox := e3
      nodup := by simp
      marks := by simp }
  have HF0 := hid hF0
  clear hF0 hx hr h63 hB0
  refine callsIn_of_wp_marks Try.func91 rfl trivial ?_ rfl
  simp only [Try.ntmps91, List.size_toArray, List.length_cons, List.length_nil, Nat.reduceAdd, Nat.reduceSub, Array.replicate_succ, Array.replicate_zero, List.push_toArray, List.append_toArray, List.nil_append, List.cons_append]
  gi_wp2
  clear hmm
  obtain ⟨mb, hmb⟩ : ∃ mb, mb = w.heap.size + 1 := ⟨_, rfl⟩
  rw [← hmb] at HF0 ⊢
  clear hmb
  refine wpIn_loop (fun a' W => ∃ (k : Nat) (c7 c8 c13 c14 c15 c16 c17 c18 c19 c20 c21 : Value) (Ds : List Nat),
      a' = { tmps := #[.int .i64 V, .slice a xs.length cap, undef, undef, .pointer (some ⟨w.heap.size, 0, none⟩), .pointer (some ⟨mb + 1, 0, none⟩), undef, c7, c8,
          .map (some mb), .slice a xs.length cap, .int .i64 xs.length,
          .int .i64 k, c13, c14, c15, c16, c17, c18, c19, c20, c21, undef, undef, undef, undef, undef], defers := marks Ds } ∧
      k ≤ xs.length ∧ FaW w W 0 (.slice none 0 0) mb (partsL (xs.take k)) Ds)
    (fun a' _ => xs.length - (RowKit.intOf (a'.tmps.getD 12 undef)).toNat) ?start ?round
  case start => exact ⟨0, _, _, _, _, _, _, _, _, _, _, _, [], rfl, Nat.zero_le _, by simpa [partsL] using HF0.out⟩
  case round =>
    rintro a' W ⟨k, c7, c8, c13, c14, c15, c16, c17, c18, c19, c20, c21, Ds, rfl, hk, hW⟩
    have hsz := hW.size
    have HW := hid hW
    have hlo := hW.lo
    clear hW
    by_cases hlt : k < xs.length
    · obtain ⟨b, off, hb, rfl, hc⟩ : ∃ b off, b < w.heap.size ∧ a = some ⟨b, off, none⟩ ∧ ∀ i, i < xs.length → w.cell? ⟨b, off + i, none⟩ = some (.int .i64 (xs[i]?.getD 0)) := by
        rcases Hx0.out with h | h
        · rw [h] at hlt; simp at hlt
        · exact h
      have Hc := hid hc
      clear hc
      obtain ⟨x, hx⟩ : ∃ x, x = xs[k]?.getD 0 := ⟨_, rfl⟩
      have hck : W.cell? ⟨b, off + k, none⟩ = some (.int .i64 x) := by rw [hx]; exact (HW.out.below.cell (p := ⟨b, off + k, none⟩) hb).trans (Hc.out k hlt)
      have hxr := Hf.out _ (getD_mem hlt)
      rw [← hx] at hxr
      have Hx1 := hid hx
      have hi0 : (0 : Int) ≤ (k : Int) := by omega
      have hi1 : (k : Int) < (xs.length : Int) := by omega
      obtain ⟨f, rfl⟩ : ∃ f : Nat, x = f := ⟨x.toNat, by omega⟩
      have hf : f < 64 := by omega
      clear hx
      gi_wp2_with (first
        | (refine ⟨trivial, ?_⟩; gi_at_call 151; refine (parts_in _ _ trivial rfl _ _).mono ?_; rintro e w' ⟨rfl, rfl⟩))
      have hW2 : FaW w (W.alloc (.cells #[.int .i64 (f : Int)] 2)) 0 (.slice none 0 0) mb (partsL (xs.take k)) Ds := HW.out.turn (World.grownBy_alloc W _ none) (fun r e => by cases e)
      have hsb : (W.alloc (.cells #[.int .i64 (f : Int)] 2)).heap[W.heap.size]? = some (.cells #[.int .i64 (f : Int)] 2 (0, 0)) := heap_alloc_new _ _
      have hDlt : ∀ D ∈ Ds, D < (W.alloc (.cells #[.int .i64 (f : Int)] 2)).heap.size := fun D hD => lt_of_get (hW2.marks D hD).2
      have hLl := partsL_len (xs.take k) (fun y hy => Hf.out y (List.mem_of_mem_take hy))
      have hkl : (xs.take k).length ≤ 1048576 := by simp; omega
      obtain ⟨L0, hL0⟩ : ∃ L0, L0 = partsL (xs.take k) := ⟨_, rfl⟩
      have HL0 := hid hL0
      rw [← hL0] at hW2 hLl HW
      clear hL0
      refine wpIn_rangeFunc_ownG rfl (by decide) (gf := 214) (lb := #[.pointer (some ⟨W.heap.size, 0, none⟩)]) rfl trivial (enters_of Try.func214 (by kernel_rfl) rfl)
        (parts_stops Fence.wide 9 trivial rfl (by decide) W.heap.size f hf _ (by simp) hsb) keepB_t (keepB_b (by simp)) (Below.refl _ _) (fun _ => rfl)
        (fun pre W' => FaW w W' 0 (.slice none 0 0) mb (L0 ++ pre.map (fun p => ((p.val : Nat) : Int))) Ds ∧ W'.heap[W.heap.size]? = some (.cells #[.int .i64 (f : Int)] 2 (0, 0)))
        (fun _ _ _ => False)
        (OwnFrom.and (faw_own (by simp; omega) hDlt) (box_own (by simp <;> omega))) (fun _ => ownFrom_pure _ _)
        ⟨by simpa using hW2, hsb⟩
        (fun x => { tmps := #[.int .i64 V, .slice (some ⟨b, off, none⟩) xs.length cap, undef, undef, .pointer (some ⟨w.heap.size, 0, none⟩), .pointer (some ⟨mb + 1, 0, none⟩), undef, .int .i64 f, .int .i64 (x.val : Int),
          .map (some mb), .slice (some ⟨b, off, none⟩) xs.length cap, .int .i64 xs.length,
          .int .i64 k, .bool true, .pointer (some ⟨b, off + k, none⟩), .int .i64 f, .int .i64 f, .func (.func 214) #[] #[.pointer (some ⟨W.heap.size, 0, none⟩)], .int .i64 (x.val : Int), c19, c20, c21, undef, undef, undef, undef, undef], defers := [] }) ?assign ?body ?done ?stop
      case assign =>
        intro l x W3 K hK
        gi_wp2
        exact hK
      case body =>
        rintro l pre x W3 ⟨hW3, hsb3⟩ hpl
        have m3 : W3.cell? ⟨mb + 1, 0, none⟩ = some (.map (some mb)) := (box_cell hW3.mbox).1
        have hxl := x.isLt
        have hwx : (Lit.int .i64 (x.val : Int)).wf = true := WalkArith.wf_i64 (by omega)
        have HW3 := hid hW3
        have Hsb3 := hid hsb3
        have hkm : (L0 ++ pre.map (fun p => ((p.val : Nat) : Int))).length < maxLen := by unfold maxLen; simp; omega
        clear hW3 hsb3
        gi_wp2_with (gi_at_mapUpdate; refine wpListIn_mapUpdate_own _ rfl _ _ _ 93 rfl 2 4 (Maps.int_keyed Try.underlying2) Try.underlying93 _ mb _ _ rfl HW3.out.own hkm _ _ _ rfl rfl (Maps.keyOf_int_mk Try.underlying2 hwx) _ [] (plainElem_bool Try.underlying4 true) ?_; intro w4 hown4 hgrow4)
        refine ⟨KeepsFrom.of_grownBy hgrow4 (fun j e => by cases e; first | omega | (simp; omega)), (hgrow4.block _ (lt_of_get Hsb3.out) (fun e => by simp at e; omega)), ?_, (hgrow4.block _ (lt_of_get Hsb3.out) (fun e => by simp at e; omega)).trans Hsb3.out⟩
        rw [List.map_append, ← List.append_assoc]
        exact HW3.out.put hown4 hgrow4
      case done =>
        rintro D ys W3 hD rfl ⟨hW3, _⟩ hK
        have hDb : mb + 2 ≤ D := by simp at hD; omega
        have hDn : D ∉ Ds := fun hm => by have := hDlt D hm; omega
        have HW4 := hid (hW3.mark hK hDb hDn)
        have htk : partsL (xs.take (k + 1)) = L0 ++ (subsF f).map (fun p => ((p.val : Nat) : Int)) := by rw [take_snoc hlt, partsL_snoc, ← Hx1.out, HL0.out, Int.toNat_natCast]; rfl
        have Htk := hid htk
        clear hW3 htk
        gi_wp2
        refine ⟨⟨k + 1, ?_⟩, ?_⟩
        · (repeat apply Exists.intro)
          refine ⟨?e, ?_⟩
          case e =>
            rw [show ((k + 1 : Nat) : Int) = (k : Int) + 1 by omega, show ({ target := .collected D, args := #[] } :: marks Ds : List Deferred) = marks (D :: Ds) from rfl]
          exact ⟨by omega, by rw [Htk.out]; exact HW4.out⟩
        · simp [RowKit.intOf]; omega
      case stop =>
        rintro D c pre W3 hD hpre hF hK
        exact hF.elim
    · obtain rfl : k = xs.length := by omega
      rw [List.take_of_length_le (Nat.le_refl _)] at HW
      have m0 := faw_box HW.out
      have hLr := parts_range Hf.out
      have hLl := partsL_len xs Hf.out
      have hkm : Maps.size (knownD (partsL xs)) ≤ (partsL xs).length := HW.out.own.size_le
      have hmax : Maps.size (knownD (partsL xs)) ≤ maxLen := by unfold maxLen; omega
      have hbytes : Maps.size (knownD (partsL xs)) * 8 ≤ 140737488355328 := by omega
      have hown1 := HW.out.own.alloc (.cells #[.map (some mb)] 93)
      have hseq : SeqGives Fence.wide 6 Try.prog 219 #[.pointer (some ⟨W.heap.size, 0, none⟩)] encZ (fun ss => ss.Perm (intKeys (knownD (partsL xs)))) (Maps.size (knownD (partsL xs))) (W.alloc (.cells #[.map (some mb)] 93)) :=
        AnyZI.keys_gives (ρ := keysL_ren) { keysL with } Fence.wide _ trivial rfl (by omega) W.heap.size mb (partsL xs).length (knownD (partsL xs)) _ (by simp) (by simp [go_sem]) hown1
      have cK : ∀ mb' W', CallsIn Fence.wide 9 Try.prog 163 #[.map mb'] W' fun e w' => e = .returned (.func (.func 219) #[] #[.pointer (some ⟨W'.heap.size, 0, none⟩)]) ∧ w' = W'.alloc (.cells #[.map mb'] 93) := fun mb' W' => AnyZI.keys_in keysL Fence.wide 9 trivial rfl mb' W'
      have cS := AnyZI.sorted_in sortedL Fence.wide 9 trivial trivial trivial trivial rfl (by omega) (sortsL _) (enters_of Try.func213 (by kernel_rfl) rfl) 219 #[.pointer (some ⟨W.heap.size, 0, none⟩)] trivial (enters_of Try.func219 (by kernel_rfl) rfl) _ _ hmax hbytes _ hseq
      change CallsIn _ _ Try.prog 150 _ _ _ at cS
      have HcS := hid cS
      have HcK := hid cK
      have Hsort := hid (fun (ss : List Int) (h : ss.Perm (intKeys (knownD (partsL xs)))) => sorted_known HW.out.own hLr h)
      clear hkm hmax hbytes hown1 hseq cK cS
      gi_wp2_with (first
        | (refine ⟨trivial, ?_⟩; gi_at_call 163; refine (HcK.out _ _).mono ?_; rintro e w' ⟨rfl, rfl⟩))
      refine ⟨trivial, ?_⟩
      refine HcS.out.mono ?_
      rintro e w2 ⟨v, ss, rfl, hS, hrow, hnil, hB2⟩
      have hrow2 : w2.ownsRow (W.alloc (.cells #[.map (some mb)] 93)).heap.size 2 1 v ss.length ((madeL V xs).map (Value.int .i64)) := by
        have h := hrow
        rw [Hsort.out ss hS, HR.out] at h
        exact h
      have Hrow := hid hrow2
      have HB2 := hid hB2
      obtain ⟨hln, av, cv, rfl, _⟩ := ownsRow_slI hrow2
      have k2 := (hB2.block _ (by simp; exact Nat.lt_succ_of_lt (lt_of_get HW.out.kbox))).trans ((Below.heap_alloc W _ _ (lt_of_get HW.out.kbox)).trans HW.out.kbox)
      obtain ⟨r0, r1, g0, g1⟩ := two_of k2
      clear hrow hnil hB2 hrow2 k2
      gi_wp2
      have k2 : w2.heap[w.heap.size]? = some (.cells #[.int .i64 0, .slice none 0 0] 30 (0, 0)) := (HB2.out.block _ (by simp; exact Nat.lt_succ_of_lt (lt_of_get HW.out.kbox))).trans ((Below.heap_alloc W _ _ (lt_of_get HW.out.kbox)).trans HW.out.kbox)
      have k3 := two_set k2 (.int .i64 V) (.slice av (madeL V xs).length cv)
      have hWsz := HW.out.below.size
      have hB2' : Below W.heap.size W w2 := ((Below.refl _ W).alloc (Nat.le_refl _) _).trans (HB2.out.mono (by simp))
      have hmk : ∀ D ∈ Ds, ((w2.setCell ⟨w.heap.size, 0, none⟩ (.int .i64 V)).setCell ⟨w.heap.size, 1, none⟩ (.slice av (madeL V xs).length cv)).heap[D]? = some (.deferred (some [])) := fun D hD => by
        have h1 := HW.out.marks D hD
        rw [Below.heap_setCell _ _ _ _ (by show D ≠ w.heap.size; omega), Below.heap_setCell _ _ _ _ (by show D ≠ w.heap.size; omega)]
        exact (hB2'.block _ (lt_of_get h1.2)).trans h1.2
      refine leaves_marks (by simp) Ds _ HW.out.nodup hmk (fun w' hw' => ?_)
      have hDw : w.heap.size ∉ Ds := fun hm => by have := (HW.out.marks _ hm).1; omega
      have k4 := (hw'.block w.heap.size hDw).trans k3
      obtain ⟨q0, q1, _, _⟩ := two_of k4
      have hsh : Below w.heap.size ((w2.setCell ⟨w.heap.size, 0, none⟩ (.int .i64 V)).setCell ⟨w.heap.size, 1, none⟩ (.slice av (madeL V xs).length cv)) w' := hw'.below (fun D hD => by have := (HW.out.marks D hD).1; omega)
      have hres : Res w ((w2.setCell ⟨w.heap.size, 0, none⟩ (.int .i64 V)).setCell ⟨w.heap.size, 1, none⟩ (.slice av (madeL V xs).length cv)) (.slice av (madeL V xs).length cv) (madeL V xs) := by
        have hln' : ss.length = (madeL V xs).length := by have := Hrow.out.1; simpa using this.symm
        have h0 : Res W w2 (.slice av (madeL V xs).length cv) (madeL V xs) := ⟨by have h := Hrow.out; rw [hln'] at h; exact ownsRow_base h (by simp), hB2'⟩
        exact (h0.later HW.out.below).set2 k2 (by decide) (Nat.le_refl _) _ _
      have hown : w'.ownsRow w.heap.size 2 1 (.slice av (madeL V xs).length cv) (madeL V xs).length ((madeL V xs).map (Value.int .i64)) := by
        refine ⟨hres.1.1, ?_⟩
        rcases hres.1.2 with hn | ⟨g, cp, cur, he, hg, hh, rest⟩
        · exact .inl hn
        · refine .inr ⟨g, cp, cur, he, hg, (hw'.block g (fun hm => ?_)).trans hh, rest⟩
          rw [hmk g hm] at hh
          simp at hh
      refine ⟨.agg #[.int .i64 V, .slice av (madeL V xs).length cv], ?_, _, rfl, hown, hres.2.trans hsh⟩
      simp [results, Try.results91, asAddr, load_cx q0 q1]

/-- madeBy. -/
theorem made_any (V : Int) (a : Option Addr) (cap : Nat) (xs : List Int) (w : World) (hx : SlI w w.heap.size a xs) (hl : xs.length ≤ 1048576) (h2 : V ≤ 6) (hr : ∀ x ∈ xs, 0 ≤ x ∧ x ≤ allV V) :
    Calls Try.prog 91 #[.int .i64 V, .slice a xs.length cap] w fun e w' => ∃ v, e = .returned (.agg #[.int .i64 V, v]) ∧ Res w w' v (madeL V xs) :=
  callsIn_wide.1 (made_in V a cap xs w hx hl h2 hr)

end Go.Proofs.Ytgefpllmelpahaa

/-! Mathematics of flips: the two ways to tell that a face can be flipped are one. -/
namespace Go.Proofs.Ytgefpllmelpahaa
open Go.RowKit Go.Maps Go.Sort Go.Shelf

/-- The proper parts of g, ascending. -/
def properL (g : Nat) : List Int := pickTo (fun x => decide (x.toNat &&& g = x.toNat)) (g - 1)
theorem mem_properL {g : Nat} {x : Int} : x ∈ properL g ↔ 1 ≤ x ∧ x < g ∧ x.toNat &&& g = x.toNat := by
  unfold properL
  rw [mem_pickTo]
  simp only [decide_eq_true_eq]
  omega
theorem properL_asc (g : Nat) : (properL g).Pairwise (· < ·) := pickTo_asc _ _
theorem properL_len : ∀ g : Fin 64, 1 ≤ g.val → (properL g.val).length = 2 ^ ones g.val - 2 := by decide +kernel
theorem parts_perm : ∀ g : Fin 64, 1 ≤ g.val → (((subsF g.val).map fun x => ((x.val : Nat) : Int)).isPerm (properL g.val ++ [(g.val : Int)])) = true := by decide +kernel

theorem srtP_eq {g : Nat} (h1 : 1 ≤ g) (hg : g < 64) : srtP g = properL g ++ [(g : Int)] := by
  have hp : ((subsF g).map fun x => ((x.val : Nat) : Int)).Perm (properL g ++ [(g : Int)]) := List.isPerm_iff.1 (parts_perm ⟨g, hg⟩ h1)
  unfold srtP
  have h2 := mergeSort_of_perm_i hp
  refine h2.trans (List.mergeSort_of_pairwise ?_)
  rw [List.pairwise_append]
  refine ⟨(properL_asc g).imp fun h => by simp only [leI, decide_eq_true_eq]; omega, by simp, fun a ha b hb => ?_⟩
  have := mem_properL.1 ha
  simp at hb
  subst hb
  simp only [leI, decide_eq_true_eq]
  omega
theorem srtP_take {g : Nat} (h1 : 1 ≤ g) (hg : g < 64) : (srtP g).take ((srtP g).length - 1) = properL g ∧ (srtP g).length - 1 = (properL g).length := by
  rw [srtP_eq h1 hg]
  simp

-- bits
theorem and_sub {p q r : Nat} (h1 : p &&& q = p) (h2 : q &&& r = q) : p &&& r = p := by
  rw [← h1, Nat.and_assoc, h2]
theorem single_or_part : ∀ g : Fin 64, ∀ f : Fin 64, g.val &&& f.val ≠ 0 → (g.val &&& f.val = g.val ∧ ones g.val = 1) ∨ ∃ x : Fin 64, x.val ≠ 0 ∧ x.val < g.val ∧ x.val &&& g.val = x.val ∧ x.val &&& f.val ≠ 0 := by decide +kernel

theorem linkL_mem {fs : List Int} {f : Nat} {x : Int} : x ∈ linkL fs f ↔ x ∈ fs ∧ x.toNat &&& f = 0 ∧ ((x.toNat ||| f : Nat) : Int) ∈ fs := by
  unfold linkL
  simp

/-- g serves for a flip of f, as the model tells. -/
def servesB (fs : List Int) (f g : Nat) : Bool := decide (g &&& f = 0) && (decide ((linkL fs f).length = 2 ^ ones g - 2) && (linkL fs f).all fun x => decide (x.toNat &&& g = x.toNat))

theorem serves_iff {V : Int} {fs : List Int} (hC : IsC V fs) {f g : Nat} (hf : (f : Int) ∈ fs) (hg1 : 1 ≤ g) (hg : g < 64) (hgm : (g : Int) ∉ fs) : servesB fs f g = true ↔ linkL fs f = properL g := by
  have hf63 := hC.range63 _ hf
  have hlen := properL_len ⟨g, hg⟩ hg1
  simp only at hlen
  have hasc : (linkL fs f).Pairwise (· < ·) := hC.asc.filter _
  unfold servesB
  simp only [Bool.and_eq_true, decide_eq_true_eq, List.all_eq_true]
  constructor
  · rintro ⟨_, h2, h3⟩
    have hsub : ∀ x ∈ linkL fs f, x ∈ properL g := fun x hx => by
      have hm := linkL_mem.1 hx
      have hr := hC.range63 x hm.1
      have hs := h3 x hx
      have hle := and_le_left' _ _ hs
      refine mem_properL.2 ⟨hr.1, ?_, hs⟩
      by_cases e : x = (g : Int)
      · exact absurd (e ▸ hm.1) hgm
      · omega
    have hfil : linkL fs f = (properL g).filter fun x => decide (x ∈ linkL fs f) := asc_ext hasc ((properL_asc g).filter _) fun x => by
      rw [List.mem_filter]
      exact ⟨fun h => ⟨hsub x h, by simpa using h⟩, fun h => by simpa using h.2⟩
    have hall : ∀ x ∈ properL g, decide (x ∈ linkL fs f) = true := by
      have h5 : ((properL g).filter fun x => decide (x ∈ linkL fs f)).length = (properL g).length := by rw [← hfil, h2, hlen]
      exact List.length_filter_eq_length_iff.1 h5
    rw [hfil]
    exact List.filter_eq_self.2 hall
  · intro h
    refine ⟨Classical.byContradiction fun hn => ?_, by rw [h, hlen], fun x hx => by rw [h] at hx; exact (mem_properL.1 hx).2.2⟩
    rcases single_or_part ⟨g, hg⟩ ⟨f, by omega⟩ hn with ⟨h1, _⟩ | ⟨x, h1, h2, h3, h4⟩
    · exact hgm (hC.closed (f : Int) hf g (by omega) (by simpa using h1))
    · have hx : ((x.val : Nat) : Int) ∈ linkL fs f := by
        rw [h]
        exact mem_properL.2 ⟨by omega, by simp only at h2; omega, by simpa using h3⟩
      have := (linkL_mem.1 hx).2.1
      simp only [Int.toNat_natCast] at this
      exact h4 this

end Go.Proofs.Ytgefpllmelpahaa

/-! Mathematics of flips: what a flip gives. -/
namespace Go.Proofs.Ytgefpllmelpahaa
open Go.RowKit

/-- The faces behind a flip of f by g, as the model tells. -/
def flipP (fs : List Int) (f g : Nat) (x : Int) : Bool := decide (x ∈ takeL fs f) || (decide (x.toNat &&& g = g) && (decide (x.toNat &&& (f ||| g) = x.toNat) && !decide (x.toNat &&& f = f)))
def flipL (V : Int) (fs : List Int) (f g : Nat) : List Int := pickTo (flipP fs f g) (allV V).toNat
/-- What the program makes a complex of. -/
def flipSets (fs : List Int) (f g : Nat) : List Int := takeL fs f ++ [(g : Int)] ++ (sidesF f).map (fun s => ((s.val ||| g : Nat) : Int))

theorem sides_spec : ∀ f : Fin 64, ((sidesF f.val).all fun s => decide (s.val ≠ 0) && (decide (s.val &&& f.val = s.val) && decide (s.val ≠ f.val))) = true := by decide +kernel
theorem sides_cover : ∀ f : Fin 64, ∀ h : Fin 64, h.val &&& f.val ≠ f.val → ((h.val &&& f.val = 0) ∨ ((sidesF f.val).any fun s => decide ((h.val &&& f.val) &&& s.val = h.val &&& f.val)) = true) := by decide +kernel

theorem takeL_mem {fs : List Int} {f : Nat} {x : Int} : x ∈ takeL fs f ↔ x ∈ fs ∧ ¬ x.toNat &&& f = f := by
  unfold takeL
  simp

theorem or_and_self (a b x : Nat) (h : x &&& a = x) : x &&& (a ||| b) = x := by
  rw [Nat.and_or_distrib_left, h]
  apply Nat.eq_of_testBit_eq
  intro i
  simp only [Nat.testBit_or, Nat.testBit_and]
  cases x.testBit i <;> simp

theorem flip_made {V : Int} {fs : List Int} (hC : IsC V fs) {f g : Nat} (hf : (f : Int) ∈ fs) (hg1 : 1 ≤ g) (hg : g < 64) (hgf : g &&& f = 0) (hL : linkL fs f = properL g) : madeL V (flipSets fs f g) = flipL V fs f g := by
  have hf63 := hC.range63 _ hf
  have hA := allV_le hC.hi
  unfold madeL flipL
  refine pickTo_congr _ fun x h1 h2 => ?_
  obtain ⟨h, rfl⟩ : ∃ h : Nat, x = (h : Int) := ⟨x.toNat, by omega⟩
  have h64 : h < 64 := by omega
  have hss := sides_spec ⟨f, by omega⟩
  simp only [List.all_eq_true, Bool.and_eq_true, decide_eq_true_eq] at hss
  have hsv := sides_cover ⟨f, by omega⟩ ⟨h, h64⟩
  simp only [List.any_eq_true, decide_eq_true_eq] at hsv
  rw [Bool.eq_iff_iff]
  unfold madeP flipP flipSets
  simp only [List.any_eq_true, List.mem_append, List.mem_singleton, List.mem_map, Bool.or_eq_true, Bool.and_eq_true, decide_eq_true_eq, Bool.not_eq_true', decide_eq_false_iff_not, Int.toNat_natCast]
  -- a face below one that is left is left
  have low : ∀ s : Nat, (s : Int) ∈ fs → h &&& s = h → ¬ h &&& f = f → ((h : Nat) : Int) ∈ takeL fs f := fun s hs hsub hn => takeL_mem.2 ⟨hC.closed (s : Int) hs h (by omega) (by simpa using hsub), by simpa using hn⟩
  constructor
  · rintro ⟨s, (hs | rfl) | ⟨t, ht, rfl⟩, hsub⟩
    · -- below a face that is left
      obtain ⟨hs1, hs2⟩ := takeL_mem.1 hs
      have hr := hC.range63 s hs1
      obtain ⟨s, rfl⟩ : ∃ k : Nat, s = (k : Int) := ⟨s.toNat, by omega⟩
      simp only [Int.toNat_natCast] at hs2 hsub
      refine .inl (low s hs1 hsub fun e => hs2 ?_)
      apply Nat.eq_of_testBit_eq
      intro i
      have e1 := congrArg (·.testBit i) e
      have e2 := congrArg (·.testBit i) hsub
      simp only [Nat.testBit_and] at e1 e2 ⊢
      revert e1 e2
      cases h.testBit i <;> cases f.testBit i <;> cases s.testBit i <;> simp
    · -- below g
      simp only [Int.toNat_natCast] at hsub
      by_cases e : h = g
      · subst e
        refine .inr ⟨by simp, ?_, ?_⟩
        · rw [Nat.or_comm]
          exact or_and_self _ _ _ (by simp)
        · rw [hgf]; omega
      · have hle := and_le_left' _ _ hsub
        have hm : ((h : Nat) : Int) ∈ linkL fs f := by
          rw [hL]
          exact mem_properL.2 ⟨by omega, by omega, by simpa using hsub⟩
        obtain ⟨m1, m2, _⟩ := linkL_mem.1 hm
        simp only [Int.toNat_natCast] at m2
        exact .inl (takeL_mem.2 ⟨m1, by simp only [Int.toNat_natCast]; rw [m2]; omega⟩)
    · -- below a side of f with g
      obtain ⟨t0, t1, t2⟩ := hss t ht
      simp only [Int.toNat_natCast] at hsub
      have hnf : ¬ h &&& f = f := fun e => t2 (by
        apply Nat.eq_of_testBit_eq
        intro i
        have e1 := congrArg (·.testBit i) e
        have e2 := congrArg (·.testBit i) hsub
        have e3 := congrArg (·.testBit i) hgf
        have e4 := congrArg (·.testBit i) t1
        simp only [Nat.testBit_and, Nat.testBit_or, Nat.zero_testBit] at e1 e2 e3 e4 ⊢
        revert e1 e2 e3 e4
        cases h.testBit i <;> cases f.testBit i <;> cases g.testBit i <;> cases t.val.testBit i <;> simp)
      by_cases e : h &&& g = g
      · refine .inr ⟨e, ?_, hnf⟩
        apply Nat.eq_of_testBit_eq
        intro i
        have e2 := congrArg (·.testBit i) hsub
        have e4 := congrArg (·.testBit i) t1
        simp only [Nat.testBit_and, Nat.testBit_or] at e2 e4 ⊢
        revert e2 e4
        cases h.testBit i <;> cases f.testBit i <;> cases g.testBit i <;> cases t.val.testBit i <;> simp
      · by_cases e0 : h &&& g = 0
        · refine .inl (low f hf ?_ hnf)
          apply Nat.eq_of_testBit_eq
          intro i
          have e1 := congrArg (·.testBit i) e0
          have e2 := congrArg (·.testBit i) hsub
          have e4 := congrArg (·.testBit i) t1
          simp only [Nat.testBit_and, Nat.testBit_or, Nat.zero_testBit] at e1 e2 e4 ⊢
          revert e1 e2 e4
          cases h.testBit i <;> cases f.testBit i <;> cases g.testBit i <;> cases t.val.testBit i <;> simp
        · have hpg : (h &&& g) &&& g = h &&& g := by rw [Nat.and_assoc, Nat.and_self]
          have hle := and_le_left' _ _ hpg
          have hm : ((h &&& g : Nat) : Int) ∈ linkL fs f := by
            rw [hL]
            exact mem_properL.2 ⟨by omega, by omega, by simpa using hpg⟩
          obtain ⟨_, _, m3⟩ := linkL_mem.1 hm
          simp only [Int.toNat_natCast] at m3
          refine .inl (low _ m3 ?_ hnf)
          apply Nat.eq_of_testBit_eq
          intro i
          have e2 := congrArg (·.testBit i) hsub
          have e4 := congrArg (·.testBit i) t1
          simp only [Nat.testBit_and, Nat.testBit_or] at e2 e4 ⊢
          revert e2 e4
          cases h.testBit i <;> cases f.testBit i <;> cases g.testBit i <;> cases t.val.testBit i <;> simp
  · rintro (hl | ⟨hg2, hsub, hn⟩)
    · exact ⟨_, .inl (.inl hl), by simp⟩
    · rcases hsv hn with h0 | ⟨t, ht, hts⟩
      · refine ⟨_, .inl (.inr rfl), ?_⟩
        simp only [Int.toNat_natCast]
        apply Nat.eq_of_testBit_eq
        intro i
        have e1 := congrArg (·.testBit i) hsub
        have e2 := congrArg (·.testBit i) h0
        simp only [Nat.testBit_and, Nat.testBit_or, Nat.zero_testBit] at e1 e2 ⊢
        revert e1 e2
        cases h.testBit i <;> cases f.testBit i <;> cases g.testBit i <;> simp
      · refine ⟨_, .inr ⟨t, ht, rfl⟩, ?_⟩
        simp only [Int.toNat_natCast]
        apply Nat.eq_of_testBit_eq
        intro i
        have e1 := congrArg (·.testBit i) hsub
        have e2 := congrArg (·.testBit i) hts
        simp only [Nat.testBit_and, Nat.testBit_or] at e1 e2 ⊢
        revert e1 e2
        cases h.testBit i <;> cases f.testBit i <;> cases g.testBit i <;> cases t.val.testBit i <;> simp

end Go.Proofs.Ytgefpllmelpahaa

/-! Flips, the program's: the faces that are left. -/
namespace Go.Proofs.Ytgefpllmelpahaa
open Go.RowKit

set_option maxRecDepth 100000 in
set_option maxHeartbeats 1000000 in
theorem flipWanted (f bf : Nat) (hf : f < 64) (x : Int) (w : World) (hx0 : 1 ≤ x) (hx1 : x ≤ 63) (hd : w.cell? ⟨bf, 0, none⟩ = some (.int .i64 (f : Int))) :
    Calls Try.prog 153 #[.int .i64 x, .pointer (some ⟨bf, 0, none⟩)] w fun e w' => e = .returned (.bool (decide (¬ x.toNat &&& f = f))) ∧ Below w.heap.size w w' := by
  obtain ⟨h, rfl⟩ : ∃ h : Nat, x = h := ⟨x.toNat, by omega⟩
  rw [Int.toNat_natCast]
  have hand : bits BinOp.and IntKind.i64 (h : Int) (f : Int) = ((h &&& f : Nat) : Int) := (bits_nat .i64 6 (by decide) (fun n h0 h1 => by rw [IntKind.wrap_i64]; omega) h f (by omega) (by omega)).1
  obtain ⟨p, hp⟩ : ∃ p, p = h &&& f := ⟨_, rfl⟩
  rw [← hp] at hand ⊢
  have hb : (((p : Nat) : Int) != (f : Int)) = decide (¬ p = f) := by
    by_cases e : p = f
    · subst e; simp
    · have : ((p : Nat) : Int) ≠ (f : Int) := by omega
      simp [this, e]
  have Hb := hid hb
  clear hb hp
  go_enter Try.func153, Try.ntmps153
  go_wp2_with fail
  go_ret
  exact ⟨ret_bool (by first | exact Hb.out | (rw [← Hb.out]; rfl)), Below.refl _ _⟩

theorem fwFlip (V : Int) (a : Option Addr) (cap : Nat) (fs : List Int) (f bf : Nat) (w : World) (hx : SlI w w.heap.size a fs) (hl : fs.length ≤ 1048576) (hr : ∀ x ∈ fs, 1 ≤ x ∧ x ≤ 63) (hf : f < 64) (hd : w.cell? ⟨bf, 0, none⟩ = some (.int .i64 (f : Int))) (hbf : bf < w.heap.size) :
    Calls Try.prog 152 #[.agg #[.int .i64 V, .slice a fs.length cap], .func (.func 153) #[] #[.pointer (some ⟨bf, 0, none⟩)]] w fun e w' => ∃ v, e = .returned v ∧ Res w w' v (takeL fs f) :=
  fw_any V a cap fs w 153 _ (fun x => decide (¬ x.toNat &&& f = f)) hx hl (enters_of Try.func153 (by kernel_rfl) rfl) (fun W' x hW hxm => flipWanted f bf hf x W' (hr x hxm).1 (hr x hxm).2 ((hW.cell (p := ⟨bf, 0, none⟩) hbf).trans hd))

end Go.Proofs.Ytgefpllmelpahaa

/-! Missing faces: the model's; MissingFaces. -/
namespace Go.Proofs.Ytgefpllmelpahaa
open Go.RowKit Go.Shelf Go.Sort

theorem missB_below {fs : List Int} {f : Nat} (hf : f < 64) : missB fs f = ((belowR f 63).all (fun y => decide (y ∈ fs)) && !decide ((f : Int) ∈ fs)) := by
  unfold missB
  rw [sides_all hf (fun y => decide (y ∈ fs))]

set_option maxRecDepth 100000 in
set_option maxHeartbeats 4000000 in
theorem missS_any (V : Int) (a : Option Addr) (cap : Nat) (fs : List Int) (w : World) (hx : SlI w w.heap.size a fs) (hl : fs.length ≤ 1048576) (h1 : 1 ≤ V) (h2 : V ≤ 6) :
    Calls Try.prog 144 #[.agg #[.int .i64 V, .slice a fs.length cap]] w fun e w' => ∃ v, e = .returned v ∧ Res w w' v (missL V fs) := by
  obtain ⟨A, hA, hA1, hA2⟩ := allV_nat h1 h2
  have hB0 : Below w.heap.size w (w.alloc (.cells #[.int .i64 V, .slice a fs.length cap] 30)) := (Below.refl _ w).alloc (Nat.le_refl _) _
  have hown0 := World.ownsRow_made (base := w.heap.size) (e := 2) (size := 1) (w.alloc (.cells #[.int .i64 V, .slice a fs.length cap] 30)) #[] 0 (by simp) (by simp [maxLen]) rfl
  rw [World.size_alloc] at hown0
  have Hown0 := hid hown0
  have Hk := hid ((Below.heap_alloc _ (.cells #[] 2) _ (by simp)).trans (heap_alloc_new w (.cells #[.int .i64 V, .slice a fs.length cap] 30)))
  have HB0 := hid (hB0.alloc (by simp) (.cells #[] 2))
  have HA := hid hA
  have Hx := hid hx
  have Hall : Hid (∀ W, Calls Try.prog 71 #[.int .i64 V] W fun e w' => e = .returned (.int .i64 (A : Int)) ∧ W = w') := hid (fun W => by rw [hA]; exact all_any V W (by omega) h2)
  clear hx hA hB0 hown0
  go_enter Try.func144, Try.ntmps144
  go_wp2_with fail
  go_loopw [3, 4] (fun v i wr => ∃ k : Nat, k ≤ A ∧ i = .int .i64 ((k : Int) + 1) ∧ Hid (wr.ownsRow w.heap.size 2 1 v (pickTo (fun x => missB fs x.toNat) k).length ((pickTo (fun x => missB fs x.toNat) k).map (Value.int .i64))) ∧ Hid (Below w.heap.size w wr ∧ wr.heap[w.heap.size]? = some (.cells #[.int .i64 V, .slice a fs.length cap] 30 (0, 0)))) (fun _ i _ => A + 1 - (RowKit.intOf i).toNat)
  case atStart => exact ⟨0, Nat.zero_le _, rfl, hid (by simpa [pickTo] using Hown0.out), hid ⟨HB0.out, Hk.out⟩⟩
  case round =>
    obtain ⟨k, hk, rfl, HO, HB⟩ := hrel
    obtain ⟨k0, k1, _, _⟩ := two_of HB.out.2
    have hbs := HB.out.1.size
    have hlen := pickTo_len (fun x => missB fs x.toNat) k
    by_cases hlt : k < A
    · have hd : decide ((k : Int) + 1 ≤ (A : Int)) = true := decide_eq_true (by omega)
      have Hs : Hid (∀ b : Bool, missB fs (k + 1) = b → pickTo (fun x => missB fs x.toNat) (k + 1) = pickTo (fun x => missB fs x.toNat) k ++ (if b then [(k : Int) + 1] else [])) := hid (fun b hb => by rw [← hb]; rfl)
      have HxW := hid (Hx.out.later HB.out.1 hbs)
      by_cases hm : ((k : Int) + 1) ∈ fs
      · have HP := hid (Hs.out false (by rw [missB_below (by omega), show decide (((k + 1 : Nat) : Int) ∈ fs) = true from decide_eq_true hm]; simp))
        have Hm := hid hm
        clear hm Hs
        go_wp2_with fail
        refine (Hall.out _).mono ?_
        rintro e w1 ⟨rfl, rfl⟩
        go_wp2_with fail
        refine (has_yes V _ a cap fs wr HxW.out hl Hm.out).mono ?_
        rintro e w2 ⟨rfl, hB2⟩
        have HO2 := hid (ownsRow_below HO.out hB2 (fun g hg => (HO.out.lt g hg).2))
        have HB2 := hid (show Below w.heap.size w w2 ∧ w2.heap[w.heap.size]? = some (.cells #[.int .i64 V, .slice a fs.length cap] 30 (0, 0)) from ⟨HB.out.1.trans (hB2.mono hbs), (hB2.block _ (lt_get HB.out.2)).trans HB.out.2⟩)
        clear hB2
        go_wp2_with fail
        go_roundw
        case rel => exact ⟨k + 1, by omega, by go_num, hid (by rw [HP.out]; simpa using HO2.out), HB2⟩
        case measure => simp [RowKit.intOf]; omega
      · have hmB : missB fs (k + 1) = (belowR (k + 1) 63).all (fun y => decide (y ∈ fs)) := by
          rw [missB_below (by omega), show decide (((k + 1 : Nat) : Int) ∈ fs) = false from decide_eq_false hm]; simp
        have Hm := hid hm
        have HmB := hid hmB
        clear hm hmB
        have HL : Hid (∃ L, L = belowR (k + 1) 63 ∧ L.length ≤ 63) := hid ⟨_, rfl, belowR_len _ 63⟩
        obtain ⟨L, hL, hLl⟩ := HL.out
        have HBw := hid (fun W => below_any (k + 1) W (by omega))
        rw [← hL] at HBw HmB
        clear hL HL
        go_wp2_with fail
        refine (Hall.out _).mono ?_
        rintro e w1 ⟨rfl, rfl⟩
        go_wp2_with fail
        refine (has_no V _ a cap fs wr HxW.out hl Hm.out).mono ?_
        rintro e w2 ⟨rfl, hB2⟩
        have HO2 := hid (ownsRow_below HO.out hB2 (fun g hg => (HO.out.lt g hg).2))
        have HB2 := hid (show Below w.heap.size w w2 ∧ w2.heap[w.heap.size]? = some (.cells #[.int .i64 V, .slice a fs.length cap] 30 (0, 0)) from ⟨HB.out.1.trans (hB2.mono hbs), (hB2.block _ (lt_get HB.out.2)).trans HB.out.2⟩)
        clear hB2 HO HB k0 k1
        obtain ⟨k0, k1, _, _⟩ := two_of HB2.out.2
        go_wp2_with fail
        refine (HBw.out w2).mono ?_
        rintro e w3 ⟨v3, rfl, hown3, hB3⟩
        obtain ⟨_, av, cv, rfl, hs3⟩ := ownsRow_slI hown3
        have HO3 := hid (ownsRow_below HO2.out hB3 (fun g hg => (HO2.out.lt g hg).2))
        have HB3 := hid (show Below w.heap.size w w3 ∧ w3.heap[w.heap.size]? = some (.cells #[.int .i64 V, .slice a fs.length cap] 30 (0, 0)) from ⟨HB2.out.1.trans (hB3.mono HB2.out.1.size), (hB3.block _ (lt_get HB2.out.2)).trans HB2.out.2⟩)
        have Hs3 := hid hs3
        clear hown3 hB3 hs3 k0 k1 HO2 HB2
        go_wp2_with fail
        go_loopw [5, 7] (fun g i wi => ∃ (j : Nat), j ≤ L.length ∧ i = .int .i64 j ∧ g = .bool ((L.take j).all (fun y => decide (y ∈ fs))) ∧ Hid (wi.ownsRow w.heap.size 2 1 u3 (pickTo (fun x => missB fs x.toNat) k).length ((pickTo (fun x => missB fs x.toNat) k).map (Value.int .i64))) ∧ Hid (Below w3.heap.size w3 wi)) (fun _ i _ => L.length - (RowKit.intOf i).toNat)
        case atStart => exact ⟨0, Nat.zero_le _, rfl, rfl, HO3, hid (Below.refl _ _)⟩
        case round =>
          obtain ⟨j, hj, rfl, rfl, HOi, HBi⟩ := hrel
          have HBi2 := hid (show Below w.heap.size w wr ∧ wr.heap[w.heap.size]? = some (.cells #[.int .i64 V, .slice a fs.length cap] 30 (0, 0)) from ⟨HB3.out.1.trans (HBi.out.mono HB3.out.1.size), (HBi.out.block _ (lt_get HB3.out.2)).trans HB3.out.2⟩)
          have hbi := HBi2.out.1.size
          obtain ⟨g, hg⟩ : ∃ g, g = (L.take j).all (fun y => decide (y ∈ fs)) := ⟨_, rfl⟩
          rw [← hg]
          have Hg := hid hg
          clear hg
          by_cases hjl : j < L.length
          · obtain ⟨b, off, hb, rfl, hc⟩ : ∃ b off, b < wr.heap.size ∧ av = some ⟨b, off, none⟩ ∧ ∀ i, i < L.length → wr.cell? ⟨b, off + i, none⟩ = some (.int .i64 (L[i]?.getD 0)) := by
              rcases Hs3.out.later HBi.out HBi.out.size with h | h
              · rw [h] at hjl; simp at hjl
              · exact h
            obtain ⟨y, hy⟩ : ∃ y, y = L[j]?.getD 0 := ⟨_, rfl⟩
            have hck : wr.cell? ⟨b, off + j, none⟩ = some (.int .i64 y) := by rw [hy]; exact hc j hjl
            have hi0 : (0 : Int) ≤ (j : Int) := by omega
            have hi1 : (j : Int) < (L.length : Int) := by omega
            have Hsn : Hid (∀ c, (g && decide (y ∈ fs)) = c → (L.take (j + 1)).all (fun y => decide (y ∈ fs)) = c) := hid (fun c hcc => by
              rw [take_snoc hjl, List.all_append, ← Hg.out, ← hy, ← hcc]
              simp)
            clear hy hc
            cases g
            · have He := hid (Hsn.out false rfl)
              go_wp2_with fail
              go_quiet (fail)
              go_wp2_with fail
              go_roundw
              case rel => exact ⟨j + 1, by omega, by go_num, by rw [He.out], hid ⟨HOi.out.1, HOi.out.2⟩, hid ⟨HBi.out.os, HBi.out.tape, HBi.out.output, HBi.out.size, HBi.out.block⟩⟩
              case measure => simp [RowKit.intOf]; omega
            · obtain ⟨k0, k1, _, _⟩ := two_of HBi2.out.2
              have r0 := cell_regrown k0
              have r1 := cell_regrown k1
              have rc := cell_regrown hck
              have CH := hid (fun d os => Calls.regrown_of (has_any V y a cap fs (grow (redrawn wr d) os) (Hx.out.later (HBi2.out.1.trans ((below_regrown wr d os).mono hbi)) (HBi2.out.1.trans ((below_regrown wr d os).mono hbi)).size) hl))
              have He := hid (Hsn.out _ (Bool.true_and _))
              obtain ⟨c, hcc⟩ : ∃ c, c = decide (y ∈ fs) := ⟨_, rfl⟩
              rw [← hcc] at He CH
              clear k0 k1 hcc Hsn
              go_wp2_with fail
              refine wp_region_quiet_below (by kernel_rfl) (by kernel_rfl) ?_
              iterate 7 (with_reducible refine wpQuiet_step (fun K hK => ?_); have HK := hid hK; clear hK; go_simp; with_reducible refine HK.out _ ?_; clear HK K)
              (with_reducible refine wpQuiet_step (fun K hK => ?_); have HK := hid hK; clear hK; go_simp; apply Exists.intro; with_reducible refine ⟨fun _ => ?_, HK.out _ ?_⟩; exact CH.out _ _; clear HK K)
              iterate 2 (with_reducible refine wpQuiet_step (fun K hK => ?_); have HK := hid hK; clear hK; go_simp; with_reducible refine HK.out _ ?_; clear HK K)
              with_reducible refine wpQuiet_nil ?_
              intro _ hw'
              obtain ⟨⟨dq, osq⟩, hw''⟩ := hw'
              subst hw''
              go_wp2_with fail
              go_roundw
              case rel =>
                have hbq := below_regrown wr dq osq
                exact ⟨j + 1, by omega, by go_num, by rw [He.out], hid (ownsRow_below HOi.out hbq (fun g hg => (HOi.out.lt g hg).2)), hid (HBi.out.trans (hbq.mono HBi.out.size))⟩
              case measure => simp [RowKit.intOf]; omega
          · have He : Hid (missB fs (k + 1) = g) := hid (by rw [HmB.out, Hg.out, show j = L.length by omega, List.take_length])
            cases g
            · have HP := hid (Hs.out false He.out)
              go_wp2_with fail
              go_roundw
              case rel => exact ⟨k + 1, by omega, by go_num, hid (by rw [HP.out]; simpa using HOi.out), HBi2⟩
              case measure => simp [RowKit.intOf]; omega
            · have HP := hid ((Hs.out true He.out).trans (by rw [if_pos rfl]))
              go_wp2_with (at_builtin; refine append_int rfl rfl HOi.out hbi (by omega) rfl rfl ?_; intro v' w5 hown5 hgrow5 hB5)
              go_roundw
              case rel =>
                refine ⟨k + 1, by omega, by go_num, hid (by rw [HP.out]; exact hown5), hid ⟨HBi2.out.1.trans hB5, ?_⟩⟩
                exact (hgrow5.block _ (lt_get HBi2.out.2) (row_ne HOi.out HBi2.out.2 (by decide))).trans HBi2.out.2
              case measure => simp [RowKit.intOf]; omega
    · have hd : decide ((k : Int) + 1 ≤ (A : Int)) = false := decide_eq_false (by omega)
      have HE : Hid (pickTo (fun x => missB fs x.toNat) k = missL V fs) := hid (by unfold missL; rw [← HA.out, Int.toNat_natCast, show A = k by omega])
      go_wp2_with fail
      refine (Hall.out _).mono ?_
      rintro e w1 ⟨rfl, rfl⟩
      go_wp2_with fail
      go_ret
      exact ⟨_, rfl, by rw [← HE.out]; exact ⟨HO.out, HB.out.1⟩⟩



end Go.Proofs.Ytgefpllmelpahaa

/-! A region that draws its order, whose last operation writes what others read: what is held of the world is asked behind every operation but that one. -/
namespace Go.Proofs.Ytgefpllmelpahaa
open Go.RowKit

section
variable {P : Program} {ops : Array Oper} {Q : Exit → Act → World → Prop} {md : Region.Mode} {S : World → Prop} {m : Nat}

/-- Whatever order is picked; S holds behind every operation but number m. -/
def anyM (P : Program) (md : Region.Mode) (ops : Array Oper) (Q : Exit → Act → World → Prop) (S : World → Prop) (m : Nat) : Nat → Array Bool → Act → World → Prop
  | 0, listed, a, w => Region.ready md ops listed = [] ∧ Q .normal a w
  | fuel + 1, listed, a, w => (Region.ready md ops listed = [] → Q .normal a w) ∧
      ∀ i ∈ Region.ready md ops listed, wpOp P ops Q i (fun a' w' => (i ≠ m → S w') ∧ anyM P md ops Q S m fuel (listed.setIfInBounds i true) a' w') a w

theorem any_of_M : ∀ (fuel : Nat) (listed : Array Bool) (a : Act) (w : World), anyM P md ops Q S m fuel listed a w → wpAny P md ops Q fuel listed a w
  | 0, _, _, _, h => h
  | fuel + 1, _, _, _, h => ⟨h.1, fun i hi => wpOp_mono (fun a' w' h' => any_of_M fuel _ a' w' h'.2) (h.2 i hi)⟩

/-- Each number waits for the one ahead of it. -/
def queueB (md : Region.Mode) (ops : Array Oper) : List Nat → Bool
  | x :: y :: r => (match ops[y]? with | some o => o.after.any (fun e => Region.binds md e && e.on == x) | none => false) && queueB md ops (y :: r)
  | _ => true

theorem queue_unready {listed : Array Bool} : ∀ (cs : List Nat) (i : Nat), queueB md ops (i :: cs) = true → (∀ c ∈ i :: cs, listed.getD c true = false) → ∀ c ∈ cs, c ∉ Region.ready md ops listed
  | [], _, _, _ => fun c hc => by cases hc
  | y :: r, i, h, hu => fun c hc => by
    simp only [queueB, Bool.and_eq_true] at h
    rcases List.mem_cons.1 hc with rfl | hc
    · intro hr
      obtain ⟨_, o, ho, hall⟩ := mem_ready.1 hr
      have h1 := h.1
      rw [ho] at h1
      simp only [Array.any_eq_true', Bool.and_eq_true, beq_iff_eq] at h1
      obtain ⟨e, he, hb, heq⟩ := h1
      have h2 := hall e he hb
      have h0 := hu i (List.mem_cons_self ..)
      rw [heq] at h2
      rcases Nat.lt_or_ge i listed.size with h' | h'
      · simp [h'] at h0 h2; rw [h0] at h2; cases h2
      · simp [Array.getElem?_eq_none h'] at h2
    · exact queue_unready r y h.2 (fun c hc => hu c (List.mem_cons_of_mem _ hc)) c hc

theorem anyM_first {i : Nat} {oi : Oper} {v : Value} (hi : ops[i]? = some oi) (hsel : ∀ (j : Nat) (o : Oper) cs b, ops[j]? = some o → o.op ≠ .select cs b)
    (hQ : ∀ c a w, Q (.panic c) (a.put oi.dst v) w → Q (.panic c) a w) {cs : List Nat} (hcs : queueB md ops (i :: cs) = true) (hm : m ∈ cs) :
    ∀ (fuel : Nat) (listed : Array Bool) (a : Act) (w : World),
      (∀ j oj, ops[j]? = some oj → j ≠ i → listed.getD j true = false → (∀ e ∈ oj.after, Region.binds md e = true → e.on ≠ i) → oi.apart ops oj = true) →
      i ∈ Region.ready md ops listed → (∀ c ∈ i :: cs, listed.getD c true = false) → YieldsIf P ops S oi v a → S w →
      anyM P md ops Q S m fuel (listed.setIfInBounds i true) (a.put oi.dst v) w → anyM P md ops Q S m (fuel + 1) listed a w := by
  intro fuel
  induction fuel with
  | zero =>
    intro listed a w _ hr _ hy hS H
    refine ⟨fun h => (by rw [h] at hr; cases hr), fun j hj => ?_⟩
    by_cases hji : j = i
    · subst hji; exact hy.wpOp hi hS ⟨fun _ => hS, H⟩
    · have := ready_mono hj hji
      rw [H.1] at this
      cases this
  | succ fuel ih =>
    intro listed a w hfree hr hu hy hS H
    refine ⟨fun h => (by rw [h] at hr; cases hr), fun j hj => ?_⟩
    by_cases hji : j = i
    · subst hji; exact hy.wpOp hi hS ⟨fun _ => hS, H⟩
    · have hjcs : j ∉ cs := fun hc => queue_unready cs i hcs hu j hc hj
      have hjm : j ≠ m := fun e => hjcs (e ▸ hm)
      have h1 := H.2 j (ready_mono hj hji)
      obtain ⟨hjun, oj, hoj, hall⟩ := mem_ready.1 hj
      have hnot : ∀ e ∈ oj.after, Region.binds md e = true → e.on ≠ i := fun e he hb heq => by
        have h1 := hall e he hb
        have h0 := (mem_ready.1 hr).1
        rw [heq] at h1
        rcases Nat.lt_or_ge i listed.size with h' | h'
        · simp [h'] at h0 h1; rw [h0] at h1; cases h1
        · simp [Array.getElem?_eq_none h'] at h1
      have h2 := wpOp_putIf hoj (hfree j oj hoj hji hjun hnot) (fun cs b => hsel i oi cs b hi) (fun cs b => hsel j oj cs b hoj) hQ hy h1
      have hfree' : ∀ k ok, ops[k]? = some ok → k ≠ i → (listed.setIfInBounds j true).getD k true = false →
          (∀ e ∈ ok.after, Region.binds md e = true → e.on ≠ i) → oi.apart ops ok = true := fun k ok hk hki hun hno => by
        refine hfree k ok hk hki ?_ hno
        by_cases hjk : j = k
        · subst hjk; exact hjun
        · rw [getD_set_ne true hjk] at hun; exact hun
      have hu' : ∀ c ∈ i :: cs, (listed.setIfInBounds j true).getD c true = false := fun c hc => by
        rw [getD_set_ne true (fun e => ?_)]
        · exact hu c hc
        · rcases List.mem_cons.1 hc with h | h
          · exact hji (e.trans h)
          · exact hjcs (e ▸ h)
      refine wpOp_mono (fun a' w' h3 => ⟨h3.2.1, ih (listed.setIfInBounds j true) a' w' hfree' (ready_mono hr (Ne.symm hji)) hu' h3.1 (h3.2.1 hjm) ?_⟩) h2
      rw [Array.setIfInBounds_comm _ _ hji]
      exact h3.2.2

theorem anyM_take {i : Nat} {oi : Oper} {v : Value} {fuel : Nat} {listed : Array Bool} {a : Act} {w : World} (cs : List Nat) (hi : ops[i]? = some oi)
    (hs : (Region.noSelect ops && queueB md ops (i :: cs) && cs.contains m && (i :: cs).all (fun c => !listed.getD c true) && Region.free md ops listed i && (Region.ready md ops listed).contains i) = true)
    (hQ : ∀ c a w, Q (.panic c) (a.put oi.dst v) w → Q (.panic c) a w) (hy : YieldsIf P ops S oi v a) (hS : S w)
    (h : anyM P md ops Q S m fuel (listed.setIfInBounds i true) (a.put oi.dst v) w) : anyM P md ops Q S m (fuel + 1) listed a w := by
  simp only [Bool.and_eq_true] at hs
  obtain ⟨⟨⟨⟨⟨h1, h2⟩, h3⟩, h4⟩, h5⟩, h6⟩ := hs
  exact anyM_first hi (Region.noSelect_spec h1) hQ h2 (by simpa using h3) fuel listed a w (Region.free_spec hi h5) (by simpa using h6) (fun c hc => by simpa using List.all_eq_true.1 h4 c hc) hy hS h

/-- Each of the operations 'rs' comes up next. -/
def AllM (P : Program) (md : Region.Mode) (ops : Array Oper) (Q : Exit → Act → World → Prop) (S : World → Prop) (m fuel : Nat) (listed : Array Bool) (a : Act) (w : World) (rs : List Nat) : Prop :=
  ∀ i ∈ rs, wpOp P ops Q i (fun a' w' => (i ≠ m → S w') ∧ anyM P md ops Q S m fuel (listed.setIfInBounds i true) a' w') a w
theorem AllM.nil {fuel : Nat} {listed : Array Bool} {a : Act} {w : World} : AllM P md ops Q S m fuel listed a w [] := fun _ h => by cases h
theorem AllM.cons {fuel : Nat} {listed : Array Bool} {a : Act} {w : World} {i : Nat} {o : Oper} {rs : List Nat} (ho : ops[i]? = some o)
    (h : ∀ K' : Act → World → Prop, Go.Shut (∀ a w, (i ≠ m → S w) → anyM P md ops Q S m fuel (listed.setIfInBounds i true) a w → K' a w) → if Region.wanted o (yielded ops a.tmps) = true then Oper.wp P o a w K' Q else K' (a.put o.dst undef) w)
    (hs : AllM P md ops Q S m fuel listed a w rs) : AllM P md ops Q S m fuel listed a w (i :: rs) := fun j hj => by
  rcases List.mem_cons.1 hj with rfl | hj
  · exact wpOp_step ho (fun K' hK => h K' (fun a w hS hW => hK a w ⟨hS, hW⟩))
  · exact hs j hj
theorem anyM_ready {rs : List Nat} {fuel : Nat} {listed : Array Bool} {a : Act} {w : World} (hr : (Region.ready md ops listed == rs) = true) (hne : rs ≠ [])
    (h : AllM P md ops Q S m fuel listed a w rs) : anyM P md ops Q S m (fuel + 1) listed a w :=
  ⟨fun h0 => absurd (eq_of_beq hr ▸ h0) hne, eq_of_beq hr ▸ h⟩
theorem anyM_done {listed : Array Bool} {a : Act} {w : World} (hr : (Region.ready md ops listed).isEmpty = true) (h : Q .normal a w) : ∀ fuel, anyM P md ops Q S m fuel listed a w
  | 0 => ⟨List.isEmpty_iff.1 hr, h⟩
  | _ + 1 => ⟨fun _ => h, by rw [List.isEmpty_iff.1 hr]; simp⟩
/-- The beginning. -/
theorem region_M {id : Nat} {a : Act} {w : World} (m : Nat) (S : World → Prop) (hm : P.follows .mixedOrders = true)
    (h : anyM P .any ops Q S m ops.size (Array.replicate ops.size false) a w.drew) : (Code.region id ops true).wp P Q a w :=
  wp_region_any hm (any_of_M _ _ _ _ h)
end

end Go.Proofs.Ytgefpllmelpahaa

/-! FacesOf, the model's and the program's. -/
namespace Go.Proofs.Ytgefpllmelpahaa
open Go.RowKit

/-- The faces of a dimension. -/
def ofDim (fs : List Int) (d : Int) : List Int := fs.filter fun x => decide ((ones x.toNat : Int) = d + 1)

set_option maxHeartbeats 1000000 in
theorem of_any (V : Int) (a : Option Addr) (cap : Nat) (fs : List Int) (d : Int) (w : World) (hx : SlI w w.heap.size a fs) (hl : fs.length ≤ 1048576) (hf : ∀ x ∈ fs, 1 ≤ x ∧ x ≤ 63) (hd0 : 0 ≤ d) (hd1 : d ≤ 5) :
    Calls Try.prog 110 #[.agg #[.int .i64 V, .slice a fs.length cap], .int .i64 d] w fun e w' => ∃ v, e = .returned v ∧ Res w w' v (ofDim fs d) := by
  have hB0 : Below w.heap.size w (w.alloc (.cells #[.int .i64 V, .slice a fs.length cap] 30)) := (Below.refl _ w).alloc (Nat.le_refl _) _
  have hB00 := (hB0.alloc (by simp) (.cells #[] 2))
  have hown0 := World.ownsRow_made (base := w.heap.size + 1) (e := 2) (size := 1) (w.alloc (.cells #[.int .i64 V, .slice a fs.length cap] 30)) #[] 0 (by simp) (by simp [maxLen]) rfl
  rw [World.size_alloc] at hown0
  rcases hx with rfl | ⟨b, off, hb, rfl, hc⟩
  · have Hown0 := hid hown0
    clear hown0
    go_enter Try.func110, Try.ntmps110
    go_wp2
    refine wp_loop_rounds 1 ?_; rw [rounds_succ]
    go_wp2
    go_ret
    exact ⟨_, rfl, ownsRow_base (by simpa [ofDim] using Hown0.out) (Nat.le_succ _), hB00⟩
  · have Hc := hid hc
    have Hf := hid hf
    have Hown0 := hid hown0
    clear hc hf hown0
    go_enter Try.func110, Try.ntmps110
    go_wp2
    go_loopw [5, 6] (fun v i wr => ∃ k : Nat, k ≤ fs.length ∧ i = .int .i64 k ∧ wr.ownsRow (w.heap.size + 1) 2 1 v (ofDim (fs.take k) d).length ((ofDim (fs.take k) d).map (Value.int .i64)) ∧
        Below (w.heap.size + 1) (w.alloc (.cells #[.int .i64 V, .slice (some ⟨b, off, none⟩) fs.length cap] 30)) wr) (fun _ i _ => fs.length - (intOf i).toNat)
    case atStart => exact ⟨0, Nat.zero_le _, rfl, Hown0.out, (Below.refl _ _).alloc (by simp) _⟩
    case round =>
      obtain ⟨k, hk, rfl, hown, hB⟩ := hrel
      have c0 : wr.cell? ⟨w.heap.size, 0, none⟩ = some (.int .i64 V) := (hB.cell (p := ⟨w.heap.size, 0, none⟩) (by simp)).trans (by simp [go_sem])
      have c1 : wr.cell? ⟨w.heap.size, 1, none⟩ = some (.slice (some ⟨b, off, none⟩) fs.length cap) := (hB.cell (p := ⟨w.heap.size, 1, none⟩) (by simp)).trans (by simp [go_sem])
      have hBW := hB0.trans (hB.mono (by simp))
      have hsz := hB.size
      simp only [World.size_alloc] at hsz
      by_cases hlt : k < fs.length
      · obtain ⟨x, hx⟩ : ∃ x : Nat, (x : Int) = fs[k]?.getD 0 := ⟨(fs[k]?.getD 0).toNat, by have := Hf.out _ (getD_mem hlt); omega⟩
        have hx64 : x < 64 := by have := Hf.out _ (getD_mem hlt); omega
        have hck : wr.cell? ⟨b, off + k, none⟩ = some (.int .i64 (x : Int)) := by rw [hx]; exact (hBW.cell (p := ⟨b, off + k, none⟩) hb).trans (Hc.out k hlt)
        have hi0 : (0 : Int) ≤ (k : Int) := by omega
        have hi1 : (k : Int) < (fs.length : Int) := by omega
        have hfl : (ofDim (fs.take k) d).length ≤ 1048576 := Nat.le_trans (List.length_filter_le _ _) (by simp; omega)
        have Hp : Hid (∀ c, decide ((ones x : Int) = d + 1) = c → ofDim (fs.take (k + 1)) d = ofDim (fs.take k) d ++ (if c then [(x : Int)] else [])) := hid (fun c hc => by
          unfold ofDim
          rw [take_snoc hlt, List.filter_append, ← hx]
          cases c <;> simp [hc])
        clear hx hB0 hB00
        have ho := ones_le x
        by_cases hpx : (ones x : Int) = d + 1
        · have hd : ((ones x : Int) == d + 1) = true := by simpa using hpx
          have HP := hid (Hp.out true (decide_eq_true hpx))
          clear hpx Hp
          go_wp2_with (first
            | (go_at_call 130; refine (ones_any x _ hx64).mono ?_; rintro e w' ⟨rfl, rfl⟩)
            | (at_builtin; refine append_int rfl rfl hown hsz (by omega) rfl rfl ?_; intro v' w2 hown2 hgrow2 hB2))
          go_roundw
          case rel => exact ⟨k + 1, by omega, by go_num, by rw [HP.out]; exact hown2, hB.trans hB2⟩
          case measure => simp [intOf]; omega
        · have hd : ((ones x : Int) == d + 1) = false := by simpa using hpx
          have HP := hid (Hp.out false (decide_eq_false hpx))
          clear hpx Hp
          go_wp2_with (first
            | (go_at_call 130; refine (ones_any x _ hx64).mono ?_; rintro e w' ⟨rfl, rfl⟩))
          go_roundw
          case rel => exact ⟨k + 1, by omega, by go_num, by rw [HP.out]; simpa using hown, hB⟩
          case measure => simp [intOf]; omega
      · go_wp2
        go_ret
        obtain rfl : k = fs.length := by omega
        rw [List.take_of_length_le (Nat.le_refl _)] at hown
        exact ⟨_, rfl, ownsRow_base hown (by omega), hBW⟩

/-- What FacesOf hands back. -/
noncomputable def facesOfR (V : Int) (fs : List Int) (d : Int) : List Int × Int := if isCB V fs then (if 0 ≤ d ∧ d ≤ 5 then (ofDim fs d, 0) else ([], 2)) else ([], 1)

theorem facesOfR_len (V : Int) (fs : List Int) (d : Int) (h : fs.length ≤ 1048576) : (facesOfR V fs d).1.length ≤ 1048576 := by
  unfold facesOfR
  split
  · split
    · exact Nat.le_trans (List.length_filter_le _ _) h
    · simp
  · simp

theorem pair_mono {P : Program} {f : FuncId} {args : Array Value} {w : World} {r : List Int × Int} {xs : List Int} {c : Int} (hr : r = (xs, c))
    (h : Calls P f args w fun e w' => ∃ v, e = .returned (.tuple #[v, .int .i64 c]) ∧ Res w w' v xs) : Calls P f args w fun e w' => ∃ v, e = .returned (.tuple #[v, .int .i64 r.2]) ∧ Res w w' v r.1 := by
  subst hr; exact h



end Go.Proofs.Ytgefpllmelpahaa

/-! The dimension of a complex, the model's and the program's. -/
namespace Go.Proofs.Ytgefpllmelpahaa
open Go.RowKit

/-- The greater number, as the model has it. -/
def more (m y : Int) : Int := if m < y then y else m

/-- The dimension of a list of faces. -/
def top (fs : List Int) : Int := fs.foldl (fun m x => more m ((ones x.toNat : Int) - 1)) (-1)

theorem top_snoc (pre : List Int) (x : Int) : top (pre ++ [x]) = more (top pre) ((ones x.toNat : Int) - 1) := by simp [top]

theorem top_from (fs : List Int) : ∀ m : Int, -1 ≤ m → m ≤ 5 → -1 ≤ fs.foldl (fun m x => more m ((ones x.toNat : Int) - 1)) m ∧ fs.foldl (fun m x => more m ((ones x.toNat : Int) - 1)) m ≤ 5 ∧ m ≤ fs.foldl (fun m x => more m ((ones x.toNat : Int) - 1)) m ∧ ∀ x ∈ fs, (ones x.toNat : Int) - 1 ≤ fs.foldl (fun m x => more m ((ones x.toNat : Int) - 1)) m := by
  induction fs with
  | nil => intro m h0 h1; exact ⟨h0, h1, Int.le_refl _, by simp⟩
  | cons x fs ih =>
    intro m h0 h1
    have ho := ones_le x.toNat
    have hm : -1 ≤ more m ((ones x.toNat : Int) - 1) ∧ more m ((ones x.toNat : Int) - 1) ≤ 5 ∧ m ≤ more m ((ones x.toNat : Int) - 1) ∧ (ones x.toNat : Int) - 1 ≤ more m ((ones x.toNat : Int) - 1) := by
      unfold more
      split <;> omega
    obtain ⟨a1, a2, a3, a4⟩ := ih _ hm.1 hm.2.1
    simp only [List.foldl_cons]
    refine ⟨a1, a2, by omega, ?_⟩
    intro y hy
    rcases List.mem_cons.1 hy with rfl | hy
    · omega
    · exact a4 y hy

theorem top_lo (fs : List Int) : -1 ≤ top fs := (top_from fs (-1) (by omega) (by omega)).1
theorem top_hi (fs : List Int) : top fs ≤ 5 := (top_from fs (-1) (by omega) (by omega)).2.1
theorem top_ge (fs : List Int) {x : Int} (hx : x ∈ fs) : (ones x.toNat : Int) - 1 ≤ top fs := (top_from fs (-1) (by omega) (by omega)).2.2.2 x hx

theorem cell_alloc0 {W : World} {p : Addr} {v : Value} (h : W.cell? p = some v) (o : Obj) : (W.alloc o).cell? p = some v :=
  (World.cell?_alloc_some W p o (show (W.cell? p).isSome = true by rw [h]; rfl)).trans h

set_option maxHeartbeats 1000000 in
theorem dimS_any (V : Int) (a0 : Option Addr) (cap : Nat) (fs : List Int) (w : World) (hx : SlI w w.heap.size a0 fs) (hl : fs.length ≤ 1048576) (hf : ∀ x ∈ fs, 1 ≤ x ∧ x ≤ 63) :
    Calls Try.prog 189 #[.agg #[.int .i64 V, .slice a0 fs.length cap]] w fun e w' => e = .returned (.int .i64 (top fs)) ∧ Below w.heap.size w w' := by
  have hB0 : Below w.heap.size w (w.alloc (.cells #[.int .i64 V, .slice a0 fs.length cap] 30)) := (Below.refl _ w).alloc (Nat.le_refl _) _
  have Hx0 := hid hx
  have Hf := hid hf
  clear hx hf
  go_enter Try.func189, Try.ntmps189
  go_wp2
  go_loopw [3, 4] (fun m i wr => ∃ k : Nat, k ≤ fs.length ∧ i = .int .i64 k ∧ m = .int .i64 (top (fs.take k)) ∧ wr = w.alloc (.cells #[.int .i64 V, .slice a0 fs.length cap] 30)) (fun _ i _ => fs.length - (intOf i).toNat)
  case atStart => exact ⟨0, Nat.zero_le _, rfl, by simp [top], rfl⟩
  case round =>
    obtain ⟨k, hk, rfl, rfl, rfl⟩ := hrel
    by_cases hlt : k < fs.length
    · obtain ⟨b, off, hb, rfl, hc⟩ : ∃ b off, b < w.heap.size ∧ a0 = some ⟨b, off, none⟩ ∧ ∀ i, i < fs.length → w.cell? ⟨b, off + i, none⟩ = some (.int .i64 (fs[i]?.getD 0)) := by
        rcases Hx0.out with rfl | h
        · simp at hlt
        · exact h
      obtain ⟨x, hx⟩ : ∃ x : Nat, (x : Int) = fs[k]?.getD 0 := ⟨(fs[k]?.getD 0).toNat, by have := Hf.out _ (getD_mem hlt); omega⟩
      have hx64 : x < 64 := by have := Hf.out _ (getD_mem hlt); omega
      have hck : ∀ o, (w.alloc o).cell? ⟨b, off + k, none⟩ = some (.int .i64 (x : Int)) := cell_alloc0 (by rw [hx]; exact hc k hlt)
      have hi0 : (0 : Int) ≤ (k : Int) := by omega
      have hi1 : (k : Int) < (fs.length : Int) := by omega
      have Ht : Hid (top (fs.take (k + 1)) = more (top (fs.take k)) ((ones x : Int) - 1)) := hid (by rw [take_snoc hlt, ← hx, top_snoc]; simp)
      have ht0 := top_lo (fs.take k)
      have ht1 := top_hi (fs.take k)
      obtain ⟨t, htt⟩ : ∃ t, t = top (fs.take k) := ⟨_, rfl⟩
      rw [← htt] at Ht ht0 ht1 ⊢
      have ho := ones_le x
      clear hx hc htt
      by_cases hm : t < (ones x : Int) - 1
      · have hmm : more t ((ones x : Int) - 1) = (ones x : Int) - 1 := by unfold more; rw [if_pos hm]
        rw [hmm] at Ht
        clear hmm
        go_wp2_with (go_at_call 130; refine (ones_any x _ hx64).mono ?_; rintro e w' ⟨rfl, rfl⟩)
        go_roundw
        case rel => exact ⟨k + 1, by omega, by go_num, by first | (rw [Ht.out]; done) | (rw [Ht.out]; congr 1; omega), trivial⟩
        case measure => simp [intOf]; omega
      · have hmm : more t ((ones x : Int) - 1) = t := by unfold more; rw [if_neg hm]
        rw [hmm] at Ht
        have hm' : (ones x : Int) - 1 ≤ t := by omega
        clear hmm
        go_wp2_with (go_at_call 130; refine (ones_any x _ hx64).mono ?_; rintro e w' ⟨rfl, rfl⟩)
        go_roundw
        case rel => exact ⟨k + 1, by omega, by go_num, by first | (rw [Ht.out]; done) | (rw [Ht.out]; congr 1; omega), trivial⟩
        case measure => simp [intOf]; omega
    · go_wp2
      go_ret
      obtain rfl : k = fs.length := by omega
      exact ⟨ret_int (by rw [List.take_of_length_le (Nat.le_refl _)]), hB0⟩

set_option maxHeartbeats 1000000 in
theorem dimI_any (V : Int) (a0 : Option Addr) (cap : Nat) (fs : List Int) (w : World) (hx : SlI w w.heap.size a0 fs) (hl : fs.length ≤ 1048576) (hf : ∀ x ∈ fs, 1 ≤ x ∧ x ≤ 63) :
    Calls Try.prog 124 #[.agg #[.int .i64 V, .slice a0 fs.length cap]] w fun e w' => e = .returned (.int .i64 (top fs)) ∧ Below w.heap.size w w' := by
  have hB0 : Below w.heap.size w (w.alloc (.cells #[.int .i64 V, .slice a0 fs.length cap] 30)) := (Below.refl _ w).alloc (Nat.le_refl _) _
  have Hx0 := hid hx
  have Hf := hid hf
  clear hx hf
  go_enter Try.func124, Try.ntmps124
  go_wp2
  go_loopw [3, 9] (fun m i wr => ∃ k : Nat, k ≤ fs.length ∧ i = .int .i64 k ∧ m = .int .i64 (top (fs.take k)) ∧ wr = w.alloc (.cells #[.int .i64 V, .slice a0 fs.length cap] 30)) (fun _ i _ => fs.length - (intOf i).toNat)
  case atStart => exact ⟨0, Nat.zero_le _, rfl, by simp [top], rfl⟩
  case round =>
    obtain ⟨k, hk, rfl, rfl, rfl⟩ := hrel
    by_cases hlt : k < fs.length
    · obtain ⟨b, off, hb, rfl, hc⟩ : ∃ b off, b < w.heap.size ∧ a0 = some ⟨b, off, none⟩ ∧ ∀ i, i < fs.length → w.cell? ⟨b, off + i, none⟩ = some (.int .i64 (fs[i]?.getD 0)) := by
        rcases Hx0.out with rfl | h
        · simp at hlt
        · exact h
      obtain ⟨x, hx⟩ : ∃ x : Nat, (x : Int) = fs[k]?.getD 0 := ⟨(fs[k]?.getD 0).toNat, by have := Hf.out _ (getD_mem hlt); omega⟩
      have hx64 : x < 64 := by have := Hf.out _ (getD_mem hlt); omega
      have hck : ∀ o, (w.alloc o).cell? ⟨b, off + k, none⟩ = some (.int .i64 (x : Int)) := cell_alloc0 (by rw [hx]; exact hc k hlt)
      have hi0 : (0 : Int) ≤ (k : Int) := by omega
      have hi1 : (k : Int) < (fs.length : Int) := by omega
      have Ht : Hid (top (fs.take (k + 1)) = more (top (fs.take k)) ((ones x : Int) - 1)) := hid (by rw [take_snoc hlt, ← hx, top_snoc]; simp)
      have ht0 := top_lo (fs.take k)
      have ht1 := top_hi (fs.take k)
      obtain ⟨t, htt⟩ : ∃ t, t = top (fs.take k) := ⟨_, rfl⟩
      rw [← htt] at Ht ht0 ht1 ⊢
      have ho := ones_le x
      clear hx hc htt
      by_cases hm : t < (ones x : Int) - 1
      · have hmm : more t ((ones x : Int) - 1) = (ones x : Int) - 1 := by unfold more; rw [if_pos hm]
        rw [hmm] at Ht
        clear hmm
        go_wp2_with (go_at_call 125; refine (dim_any x _ hx64).mono ?_; rintro e w' ⟨rfl, rfl⟩)
        go_roundw
        case rel => exact ⟨k + 1, by omega, by go_num, by first | (rw [Ht.out]; done) | (rw [Ht.out]; congr 1; omega), trivial⟩
        case measure => simp [intOf]; omega
      · have hmm : more t ((ones x : Int) - 1) = t := by unfold more; rw [if_neg hm]
        rw [hmm] at Ht
        have hm' : (ones x : Int) - 1 ≤ t := by omega
        clear hmm
        go_wp2_with (go_at_call 125; refine (dim_any x _ hx64).mono ?_; rintro e w' ⟨rfl, rfl⟩)
        go_roundw
        case rel => exact ⟨k + 1, by omega, by go_num, by first | (rw [Ht.out]; done) | (rw [Ht.out]; congr 1; omega), trivial⟩
        case measure => simp [intOf]; omega
    · go_wp2
      go_ret
      obtain rfl : k = fs.length := by omega
      exact ⟨ret_int (by rw [List.take_of_length_le (Nat.le_refl _)]), hB0⟩

end Go.Proofs.Ytgefpllmelpahaa

/-! The missing face for which a face can be flipped: the model's. -/
namespace Go.Proofs.Ytgefpllmelpahaa
open Go.RowKit

/-- The first of some sets that serves for a flip of f, or 0. -/
def otherN (fs : List Int) (f : Nat) (L : List Int) : Int := (L.find? fun g => servesB fs f g.toNat).getD 0
theorem otherN_none {fs : List Int} {f : Nat} {L : List Int} (h : ∀ i, i < L.length → servesB fs f (L[i]?.getD 0).toNat = false) : otherN fs f L = 0 := by
  have h1 : L.find? (fun g => servesB fs f g.toNat) = none := List.find?_eq_none.2 fun x hx => by
    obtain ⟨i, hi, rfl⟩ := List.mem_iff_getElem.1 hx
    have := h i hi
    rw [List.getElem?_eq_getElem hi] at this
    simpa using this
  unfold otherN
  rw [h1]
  rfl
theorem otherN_some {fs : List Int} {f : Nat} {L : List Int} {k : Nat} (hk : k < L.length) (h : ∀ i, i < k → servesB fs f (L[i]?.getD 0).toNat = false) (h1 : servesB fs f (L[k]?.getD 0).toNat = true) : otherN fs f L = L[k]?.getD 0 := by
  unfold otherN
  rw [List.getElem?_eq_getElem hk] at h1 ⊢
  have : L.find? (fun g => servesB fs f g.toNat) = some L[k] := by
    rw [List.find?_eq_some_iff_getElem]
    refine ⟨h1, k, hk, rfl, fun j hj => ?_⟩
    have := h j hj
    rw [List.getElem?_eq_getElem (by omega)] at this
    simpa using this
  rw [this]

/-- The link and the missing faces at hand. -/
structure OtW (w W : World) (V : Int) (bl : Nat) (al : Option Addr) (cl : Nat) (L : List Int) (am : Option Addr) (M : List Int) : Prop where
  below : Below w.heap.size w W
  box : W.heap[bl]? = some (.cells #[.int .i64 V, .slice al L.length cl] 30 (0, 0))
  link : SlI W W.heap.size al L
  miss : SlI W W.heap.size am M
theorem OtW.later {w W W' : World} {V : Int} {bl : Nat} {al : Option Addr} {cl : Nat} {L : List Int} {am : Option Addr} {M : List Int} (h : OtW w W V bl al cl L am M) (hb : Below W.heap.size W W') : OtW w W' V bl al cl L am M :=
  ⟨h.below.trans (hb.mono h.below.size), (hb.block _ (lt_get h.box)).trans h.box, h.link.later hb hb.size, h.miss.later hb hb.size⟩

theorem otw_set {w W : World} {V : Int} {bl : Nat} {al : Option Addr} {cl : Nat} {L : List Int} {am : Option Addr} {M : List Int} {u v : Value} (hB : Below w.heap.size w W) (hb : W.heap[bl]? = some (.cells #[u, v] 30 (0, 0))) (hbl : w.heap.size < bl) {cm : Nat} (hl : W.ownsRow w.heap.size 2 1 (.slice al L.length cl) L.length (L.map (Value.int .i64))) (hm : W.ownsRow w.heap.size 2 1 (.slice am M.length cm) M.length (M.map (Value.int .i64))) :
    OtW w ((W.setCell ⟨bl, 0, none⟩ (.int .i64 V)).setCell ⟨bl, 1, none⟩ (.slice al L.length cl)) V bl al cl L am M := by
  have h1 := row_ne hl hb (by decide)
  have h2 := row_ne hm hb (by decide)
  have l1 := ownsRow_set (ownsRow_set hl (a := ⟨bl, 0, none⟩) (fun e => h1 e.symm) (.int .i64 V)) (a := ⟨bl, 1, none⟩) (fun e => h1 e.symm) (.slice al L.length cl)
  have l2 := ownsRow_set (ownsRow_set hm (a := ⟨bl, 0, none⟩) (fun e => h2 e.symm) (.int .i64 V)) (a := ⟨bl, 1, none⟩) (fun e => h2 e.symm) (.slice al L.length cl)
  obtain ⟨_, _, _, e1, s1⟩ := ownsRow_slI l1
  obtain ⟨_, _, _, e2, s2⟩ := ownsRow_slI l2
  cases e1
  cases e2
  refine ⟨(hB.setCell (p := ⟨bl, 0, none⟩) (by simp only; omega) _).setCell (p := ⟨bl, 1, none⟩) (by simp only; omega) _, ?_, s1, s2⟩
  simp only [World.setCell, Array.getElem?_modify, hb]
  simp
theorem two_keep {W : World} {b bl : Nat} {u v x y : Value} (h : W.cell? ⟨b, 0, none⟩ = some u ∧ W.cell? ⟨b, 1, none⟩ = some v) (hne : bl ≠ b) : ((W.setCell ⟨bl, 0, none⟩ x).setCell ⟨bl, 1, none⟩ y).cell? ⟨b, 0, none⟩ = some u ∧ ((W.setCell ⟨bl, 0, none⟩ x).setCell ⟨bl, 1, none⟩ y).cell? ⟨b, 1, none⟩ = some v := by
  constructor
  · rw [World.cell?_setCell_far _ _ _ _ hne, World.cell?_setCell_far _ _ _ _ hne]; exact h.1
  · rw [World.cell?_setCell_far _ _ _ _ hne, World.cell?_setCell_far _ _ _ _ hne]; exact h.2

set_option maxRecDepth 100000 in
set_option maxHeartbeats 8000000 in
theorem other_any (V : Int) (a0 : Option Addr) (cap : Nat) (fs : List Int) (f : Nat) (w : World) (hx : SlI w w.heap.size a0 fs) (hl : fs.length ≤ 1048576) (hC : IsC V fs) (hf : f < 64) :
    Calls Try.prog 69 #[.agg #[.int .i64 V, .slice a0 fs.length cap], .int .i64 (f : Int)] w fun e w' => e = .returned (.int .i64 (otherN fs f (missL V fs))) ∧ Below w.heap.size w w' := by
  have hB0 : Below w.heap.size w (w.alloc (.cells #[.int .i64 V, .slice a0 fs.length cap] 30)) := (Below.refl _ w).alloc (Nat.le_refl _) _
  have HL := hid (fun W (h : Below w.heap.size w W) => link_any V a0 cap fs f W (hx.later h h.size) hl hC.range63 hf)
  have HM := hid (fun W (h : Below w.heap.size w W) => missS_any V a0 cap fs W (hx.later h h.size) hl hC.lo hC.hi)
  have HMr : Hid (∀ g ∈ missL V fs, 1 ≤ g ∧ g ≤ 63) := hid (fun g hg => by
    unfold missL at hg
    have := ((mem_pickTo _).1 hg)
    have hA := allV_le hC.hi
    omega)
  have HMl : Hid ((missL V fs).length ≤ 1048576) := hid (by
    have := pickTo_len (fun x => missB fs x.toNat) (allV V).toNat
    have hA := allV_le hC.hi
    unfold missL
    omega)
  have HLl : Hid ((linkL fs f).length ≤ 1048576) := hid (Nat.le_trans (List.length_filter_le _ _) hl)
  have HLr : Hid (∀ x ∈ linkL fs f, 1 ≤ x ∧ x ≤ 63) := hid (fun x hx => hC.range63 x (List.mem_filter.1 hx).1)
  obtain ⟨M, hM⟩ : ∃ M, M = missL V fs := ⟨_, rfl⟩
  rw [← hM] at HM HMr HMl ⊢
  have HB0 := hid hB0
  clear hx hC hB0 hM
  go_enter Try.func69, Try.ntmps69
  go_wp2_with fail
  go_cut [5, 6] from 11 to 15 (fun p q wx => ∃ (bl : Nat) (al : Option Addr) (cl : Nat) (am : Option Addr) (cm : Nat), p = .pointer (some ⟨bl, 0, none⟩) ∧ q = .slice am M.length cm ∧ Hid (OtW w wx V bl al cl (linkL fs f) am M))
  case first =>
    obtain ⟨W0, hW0⟩ : ∃ W0, W0 = w.alloc (.cells #[.int .i64 V, .slice a0 fs.length cap] 30) := ⟨_, rfl⟩
    have k0 : W0.cell? ⟨w.heap.size, 0, none⟩ = some (.int .i64 V) := by rw [hW0]; simp [go_sem]
    have k1 : W0.cell? ⟨w.heap.size, 1, none⟩ = some (.slice a0 fs.length cap) := by rw [hW0]; simp [go_sem]
    have hs0 : w.heap.size < W0.heap.size := by rw [hW0]; simp
    have HB00 : Hid (Below w.heap.size w W0) := hid (by rw [hW0]; exact HB0.out)
    rw [← hW0]
    have hbs0 := HB00.out.drew
    have hS0 : W0.drew.cell? ⟨w.heap.size, 0, none⟩ = some (.int .i64 V) ∧ W0.drew.cell? ⟨w.heap.size, 1, none⟩ = some (.slice a0 fs.length cap) := ⟨k0, k1⟩
    have hz0 : w.heap.size < W0.drew.heap.size := hs0
    obtain ⟨x0, hx0⟩ : ∃ x, x = W0.drew := ⟨_, rfl⟩
    rw [← hx0] at hbs0 hS0 hz0
    refine region_M 7 (fun W : World => W.cell? ⟨w.heap.size, 0, none⟩ = some (.int .i64 V) ∧ W.cell? ⟨w.heap.size, 1, none⟩ = some (.slice a0 fs.length cap)) (by kernel_rfl) ?_
    rw [← hx0]
    have HBc0 := hid hbs0
    have HS0 := hid hS0
    clear hbs0 hS0 hx0 hW0 HB00 k0 k1 hs0
    refine anyM_take (i := 0) (v := .agg #[.int .i64 V, .slice a0 fs.length cap]) [7] rfl (by kernel_rfl) (fun _ _ _ h => h) (Or.inl ⟨by rfl, fun W hW => by (obtain ⟨hW0, hW1⟩ := hW; go_simp)⟩) HS0.out ?_
    refine anyM_take (i := 1) (v := .int .i64 (f : Int)) [7] rfl (by kernel_rfl) (fun _ _ _ h => h) (Or.inl ⟨by rfl, fun W hW => by (obtain ⟨hW0, hW1⟩ := hW; go_simp)⟩) HS0.out ?_
    refine anyM_take (i := 3) (v := .agg #[.int .i64 V, .slice a0 fs.length cap]) [7] rfl (by kernel_rfl) (fun _ _ _ h => h) (Or.inl ⟨by rfl, fun W hW => by (obtain ⟨hW0, hW1⟩ := hW; go_simp)⟩) HS0.out ?_
    refine anyM_ready (rs := [2, 5]) (by kernel_rfl) (by simp) ?_
    refine AllM.cons rfl (fun K hK => ?_) (AllM.cons rfl (fun K hK => ?_) (AllM.nil))
    · skip
      go_simp
      go_at_call 143
      refine (HL.out _ HBc0.out).mono ?_
      rintro e x1 ⟨_, rfl, hr⟩
      obtain ⟨_, al, cl, rfl, _⟩ := ownsRow_slI hr.1
      have HLk := hid (ownsRow_base (base' := w.heap.size) hr.1 HBc0.out.size)
      have HBc1 := hid (HBc0.out.trans (hr.2.mono HBc0.out.size))
      have hz1 : w.heap.size < x1.heap.size := Nat.lt_of_lt_of_le hz0 hr.2.size
      have HS1 := hid (show x1.cell? ⟨w.heap.size, 0, none⟩ = some (.int .i64 V) ∧ x1.cell? ⟨w.heap.size, 1, none⟩ = some (.slice a0 fs.length cap) from ⟨(hr.2.cell (p := ⟨w.heap.size, 0, none⟩) hz0).trans HS0.out.1, (hr.2.cell (p := ⟨w.heap.size, 1, none⟩) hz0).trans HS0.out.2⟩)
      clear hr
      refine hK.out _ _ (fun _ => HS1.out) ?_
      clear hK K
      refine anyM_ready (rs := [4, 5]) (by kernel_rfl) (by simp) ?_
      refine AllM.cons rfl (fun K hK => ?_) (AllM.cons rfl (fun K hK => ?_) (AllM.nil))
      · skip
        go_simp
        go_at_call 144
        refine (HM.out _ HBc1.out).mono ?_
        rintro e x2 ⟨_, rfl, hr⟩
        obtain ⟨_, am, cm, rfl, _⟩ := ownsRow_slI hr.1
        have HMk := hid (ownsRow_base (base' := w.heap.size) hr.1 HBc1.out.size)
        have HLk := hid (ownsRow_below HLk.out hr.2 (fun g hg => (HLk.out.lt g hg).2))
        have HBc2 := hid (HBc1.out.trans (hr.2.mono HBc1.out.size))
        have hz2 : w.heap.size < x2.heap.size := Nat.lt_of_lt_of_le hz1 hr.2.size
        have HS2 := hid (show x2.cell? ⟨w.heap.size, 0, none⟩ = some (.int .i64 V) ∧ x2.cell? ⟨w.heap.size, 1, none⟩ = some (.slice a0 fs.length cap) from ⟨(hr.2.cell (p := ⟨w.heap.size, 0, none⟩) hz1).trans HS1.out.1, (hr.2.cell (p := ⟨w.heap.size, 1, none⟩) hz1).trans HS1.out.2⟩)
        clear hr
        refine hK.out _ _ (fun _ => HS2.out) ?_
        clear hK K
        refine anyM_ready (rs := [5]) (by kernel_rfl) (by simp) ?_
        refine AllM.cons rfl (fun K hK => ?_) (AllM.nil)
        go_simp
        obtain ⟨x3, hx3⟩ : ∃ x, x = x2.alloc (.cells #[.int .i64 0, .slice none 0 0] 30) := ⟨_, rfl⟩
        rw [← hx3]
        obtain ⟨bl, hbl⟩ : ∃ b, b = x2.heap.size := ⟨_, rfl⟩
        rw [← hbl]
        have Hbx : Hid (x3.heap[bl]? = some (.cells #[.int .i64 0, .slice none 0 0] 30 (0, 0))) := hid (by rw [hx3, hbl]; exact heap_alloc_new _ _)
        have hbb : Below x2.heap.size x2 x3 := by rw [hx3]; exact (Below.refl _ _).alloc (Nat.le_refl _) _
        have Hbl : Hid (w.heap.size < bl) := hid (by rw [hbl]; exact hz2)
        have HLk := hid (ownsRow_below HLk.out hbb (fun g hg => (HLk.out.lt g hg).2))
        have HMk := hid (ownsRow_below HMk.out hbb (fun g hg => (HMk.out.lt g hg).2))
        have HBc3 := hid (HBc2.out.trans (hbb.mono HBc2.out.size))
        have hz3 : w.heap.size < x3.heap.size := Nat.lt_of_lt_of_le hz2 hbb.size
        have HS3 := hid (show x3.cell? ⟨w.heap.size, 0, none⟩ = some (.int .i64 V) ∧ x3.cell? ⟨w.heap.size, 1, none⟩ = some (.slice a0 fs.length cap) from ⟨(hbb.cell (p := ⟨w.heap.size, 0, none⟩) hz2).trans HS2.out.1, (hbb.cell (p := ⟨w.heap.size, 1, none⟩) hz2).trans HS2.out.2⟩)
        clear hbb hx3 hbl
        refine hK.out _ _ (fun _ => HS3.out) ?_
        clear hK K
        refine anyM_ready (rs := [6]) (by kernel_rfl) (by simp) ?_
        refine AllM.cons rfl (fun K hK => ?_) AllM.nil
        obtain ⟨z0, z1, f0, f1⟩ := two_of Hbx.out
        go_simp
        obtain ⟨x9, hx9⟩ : ∃ x, x = (x3.setCell ⟨bl, 0, none⟩ (.int .i64 V)).setCell ⟨bl, 1, none⟩ (.slice al (linkL fs f).length cl) := ⟨_, rfl⟩
        rw [← hx9]
        have HOt : Hid (OtW w x9 V bl al cl (linkL fs f) am M) := hid (by rw [hx9]; exact otw_set HBc3.out Hbx.out Hbl.out HLk.out HMk.out)
        have HS9 : Hid (x9.cell? ⟨w.heap.size, 0, none⟩ = some (.int .i64 V) ∧ x9.cell? ⟨w.heap.size, 1, none⟩ = some (.slice a0 fs.length cap)) := hid (by rw [hx9]; exact two_keep HS3.out (by have := Hbl.out; omega))
        clear z0 z1 f0 f1 hx9
        refine hK.out _ _ (fun _ => HS9.out) ?_
        clear hK K
        refine anyM_ready (rs := [7]) (by kernel_rfl) (by simp) ?_
        refine AllM.cons rfl (fun K hK => ?_) AllM.nil
        go_simp
        refine hK.out _ _ (fun _ => HS9.out) ?_
        clear hK K
        refine anyM_done (by kernel_rfl) ?_ _
        go_wp2_with fail
        go_meet
        case rel => exact ⟨_, _, _, _, _, rfl, rfl, HOt⟩
      · skip
        go_simp
        obtain ⟨x2, hx2⟩ : ∃ x, x = x1.alloc (.cells #[.int .i64 0, .slice none 0 0] 30) := ⟨_, rfl⟩
        rw [← hx2]
        obtain ⟨bl, hbl⟩ : ∃ b, b = x1.heap.size := ⟨_, rfl⟩
        rw [← hbl]
        have Hbx : Hid (x2.heap[bl]? = some (.cells #[.int .i64 0, .slice none 0 0] 30 (0, 0))) := hid (by rw [hx2, hbl]; exact heap_alloc_new _ _)
        have hbb : Below x1.heap.size x1 x2 := by rw [hx2]; exact (Below.refl _ _).alloc (Nat.le_refl _) _
        have Hbl : Hid (w.heap.size < bl) := hid (by rw [hbl]; exact hz1)
        have HLk := hid (ownsRow_below HLk.out hbb (fun g hg => (HLk.out.lt g hg).2))
        have HBc2 := hid (HBc1.out.trans (hbb.mono HBc1.out.size))
        have hz2 : w.heap.size < x2.heap.size := Nat.lt_of_lt_of_le hz1 hbb.size
        have HS2 := hid (show x2.cell? ⟨w.heap.size, 0, none⟩ = some (.int .i64 V) ∧ x2.cell? ⟨w.heap.size, 1, none⟩ = some (.slice a0 fs.length cap) from ⟨(hbb.cell (p := ⟨w.heap.size, 0, none⟩) hz1).trans HS1.out.1, (hbb.cell (p := ⟨w.heap.size, 1, none⟩) hz1).trans HS1.out.2⟩)
        clear hbb hx2 hbl
        refine hK.out _ _ (fun _ => HS2.out) ?_
        clear hK K
        refine anyM_ready (rs := [4]) (by kernel_rfl) (by simp) ?_
        refine AllM.cons rfl (fun K hK => ?_) (AllM.nil)
        go_simp
        go_at_call 144
        refine (HM.out _ HBc2.out).mono ?_
        rintro e x3 ⟨_, rfl, hr⟩
        obtain ⟨_, am, cm, rfl, _⟩ := ownsRow_slI hr.1
        have HMk := hid (ownsRow_base (base' := w.heap.size) hr.1 HBc2.out.size)
        have HLk := hid (ownsRow_below HLk.out hr.2 (fun g hg => (HLk.out.lt g hg).2))
        have Hbx := hid ((hr.2.block _ (lt_get Hbx.out)).trans Hbx.out)
        have HBc3 := hid (HBc2.out.trans (hr.2.mono HBc2.out.size))
        have hz3 : w.heap.size < x3.heap.size := Nat.lt_of_lt_of_le hz2 hr.2.size
        have HS3 := hid (show x3.cell? ⟨w.heap.size, 0, none⟩ = some (.int .i64 V) ∧ x3.cell? ⟨w.heap.size, 1, none⟩ = some (.slice a0 fs.length cap) from ⟨(hr.2.cell (p := ⟨w.heap.size, 0, none⟩) hz2).trans HS2.out.1, (hr.2.cell (p := ⟨w.heap.size, 1, none⟩) hz2).trans HS2.out.2⟩)
        clear hr
        refine hK.out _ _ (fun _ => HS3.out) ?_
        clear hK K
        refine anyM_ready (rs := [6]) (by kernel_rfl) (by simp) ?_
        refine AllM.cons rfl (fun K hK => ?_) AllM.nil
        obtain ⟨z0, z1, f0, f1⟩ := two_of Hbx.out
        go_simp
        obtain ⟨x9, hx9⟩ : ∃ x, x = (x3.setCell ⟨bl, 0, none⟩ (.int .i64 V)).setCell ⟨bl, 1, none⟩ (.slice al (linkL fs f).length cl) := ⟨_, rfl⟩
        rw [← hx9]
        have HOt : Hid (OtW w x9 V bl al cl (linkL fs f) am M) := hid (by rw [hx9]; exact otw_set HBc3.out Hbx.out Hbl.out HLk.out HMk.out)
        have HS9 : Hid (x9.cell? ⟨w.heap.size, 0, none⟩ = some (.int .i64 V) ∧ x9.cell? ⟨w.heap.size, 1, none⟩ = some (.slice a0 fs.length cap)) := hid (by rw [hx9]; exact two_keep HS3.out (by have := Hbl.out; omega))
        clear z0 z1 f0 f1 hx9
        refine hK.out _ _ (fun _ => HS9.out) ?_
        clear hK K
        refine anyM_ready (rs := [7]) (by kernel_rfl) (by simp) ?_
        refine AllM.cons rfl (fun K hK => ?_) AllM.nil
        go_simp
        refine hK.out _ _ (fun _ => HS9.out) ?_
        clear hK K
        refine anyM_done (by kernel_rfl) ?_ _
        go_wp2_with fail
        go_meet
        case rel => exact ⟨_, _, _, _, _, rfl, rfl, HOt⟩
    · skip
      go_simp
      obtain ⟨x1, hx1⟩ : ∃ x, x = x0.alloc (.cells #[.int .i64 0, .slice none 0 0] 30) := ⟨_, rfl⟩
      rw [← hx1]
      obtain ⟨bl, hbl⟩ : ∃ b, b = x0.heap.size := ⟨_, rfl⟩
      rw [← hbl]
      have Hbx : Hid (x1.heap[bl]? = some (.cells #[.int .i64 0, .slice none 0 0] 30 (0, 0))) := hid (by rw [hx1, hbl]; exact heap_alloc_new _ _)
      have hbb : Below x0.heap.size x0 x1 := by rw [hx1]; exact (Below.refl _ _).alloc (Nat.le_refl _) _
      have Hbl : Hid (w.heap.size < bl) := hid (by rw [hbl]; exact hz0)
      have HBc1 := hid (HBc0.out.trans (hbb.mono HBc0.out.size))
      have hz1 : w.heap.size < x1.heap.size := Nat.lt_of_lt_of_le hz0 hbb.size
      have HS1 := hid (show x1.cell? ⟨w.heap.size, 0, none⟩ = some (.int .i64 V) ∧ x1.cell? ⟨w.heap.size, 1, none⟩ = some (.slice a0 fs.length cap) from ⟨(hbb.cell (p := ⟨w.heap.size, 0, none⟩) hz0).trans HS0.out.1, (hbb.cell (p := ⟨w.heap.size, 1, none⟩) hz0).trans HS0.out.2⟩)
      clear hbb hx1 hbl
      refine hK.out _ _ (fun _ => HS1.out) ?_
      clear hK K
      refine anyM_ready (rs := [2]) (by kernel_rfl) (by simp) ?_
      refine AllM.cons rfl (fun K hK => ?_) (AllM.nil)
      go_simp
      go_at_call 143
      refine (HL.out _ HBc1.out).mono ?_
      rintro e x2 ⟨_, rfl, hr⟩
      obtain ⟨_, al, cl, rfl, _⟩ := ownsRow_slI hr.1
      have HLk := hid (ownsRow_base (base' := w.heap.size) hr.1 HBc1.out.size)
      have Hbx := hid ((hr.2.block _ (lt_get Hbx.out)).trans Hbx.out)
      have HBc2 := hid (HBc1.out.trans (hr.2.mono HBc1.out.size))
      have hz2 : w.heap.size < x2.heap.size := Nat.lt_of_lt_of_le hz1 hr.2.size
      have HS2 := hid (show x2.cell? ⟨w.heap.size, 0, none⟩ = some (.int .i64 V) ∧ x2.cell? ⟨w.heap.size, 1, none⟩ = some (.slice a0 fs.length cap) from ⟨(hr.2.cell (p := ⟨w.heap.size, 0, none⟩) hz1).trans HS1.out.1, (hr.2.cell (p := ⟨w.heap.size, 1, none⟩) hz1).trans HS1.out.2⟩)
      clear hr
      refine hK.out _ _ (fun _ => HS2.out) ?_
      clear hK K
      refine anyM_ready (rs := [4]) (by kernel_rfl) (by simp) ?_
      refine AllM.cons rfl (fun K hK => ?_) (AllM.nil)
      go_simp
      go_at_call 144
      refine (HM.out _ HBc2.out).mono ?_
      rintro e x3 ⟨_, rfl, hr⟩
      obtain ⟨_, am, cm, rfl, _⟩ := ownsRow_slI hr.1
      have HMk := hid (ownsRow_base (base' := w.heap.size) hr.1 HBc2.out.size)
      have HLk := hid (ownsRow_below HLk.out hr.2 (fun g hg => (HLk.out.lt g hg).2))
      have Hbx := hid ((hr.2.block _ (lt_get Hbx.out)).trans Hbx.out)
      have HBc3 := hid (HBc2.out.trans (hr.2.mono HBc2.out.size))
      have hz3 : w.heap.size < x3.heap.size := Nat.lt_of_lt_of_le hz2 hr.2.size
      have HS3 := hid (show x3.cell? ⟨w.heap.size, 0, none⟩ = some (.int .i64 V) ∧ x3.cell? ⟨w.heap.size, 1, none⟩ = some (.slice a0 fs.length cap) from ⟨(hr.2.cell (p := ⟨w.heap.size, 0, none⟩) hz2).trans HS2.out.1, (hr.2.cell (p := ⟨w.heap.size, 1, none⟩) hz2).trans HS2.out.2⟩)
      clear hr
      refine hK.out _ _ (fun _ => HS3.out) ?_
      clear hK K
      refine anyM_ready (rs := [6]) (by kernel_rfl) (by simp) ?_
      refine AllM.cons rfl (fun K hK => ?_) AllM.nil
      obtain ⟨z0, z1, f0, f1⟩ := two_of Hbx.out
      go_simp
      obtain ⟨x9, hx9⟩ : ∃ x, x = (x3.setCell ⟨bl, 0, none⟩ (.int .i64 V)).setCell ⟨bl, 1, none⟩ (.slice al (linkL fs f).length cl) := ⟨_, rfl⟩
      rw [← hx9]
      have HOt : Hid (OtW w x9 V bl al cl (linkL fs f) am M) := hid (by rw [hx9]; exact otw_set HBc3.out Hbx.out Hbl.out HLk.out HMk.out)
      have HS9 : Hid (x9.cell? ⟨w.heap.size, 0, none⟩ = some (.int .i64 V) ∧ x9.cell? ⟨w.heap.size, 1, none⟩ = some (.slice a0 fs.length cap)) := hid (by rw [hx9]; exact two_keep HS3.out (by have := Hbl.out; omega))
      clear z0 z1 f0 f1 hx9
      refine hK.out _ _ (fun _ => HS9.out) ?_
      clear hK K
      refine anyM_ready (rs := [7]) (by kernel_rfl) (by simp) ?_
      refine AllM.cons rfl (fun K hK => ?_) AllM.nil
      go_simp
      refine hK.out _ _ (fun _ => HS9.out) ?_
      clear hK K
      refine anyM_done (by kernel_rfl) ?_ _
      go_wp2_with fail
      go_meet
      case rel => exact ⟨_, _, _, _, _, rfl, rfl, HOt⟩
  case rest =>
    obtain ⟨bl, al, cl, am, cm, rfl, rfl, HW⟩ := hcut
    obtain ⟨L, hL⟩ : ∃ L, L = linkL fs f := ⟨_, rfl⟩
    have HLe := hid hL
    rw [← hL] at HW HLl HLr
    clear hL HL HM HB0
    go_wp2_with fail
    go_loopw [7] (fun i wr => ∃ k : Nat, k ≤ M.length ∧ i = .int .i64 k ∧ Hid (∀ j, j < k → servesB fs f (M[j]?.getD 0).toNat = false) ∧ Hid (OtW w wr V bl al cl L am M)) (fun i _ => M.length - (intOf i).toNat)
    case atStart => exact ⟨0, Nat.zero_le _, rfl, hid (fun j hj => absurd hj (by omega)), HW⟩
    case round =>
      clear HW
      obtain ⟨k, hk, rfl, Hno, HW⟩ := hrel
      have hMl := HMl.out
      by_cases hlt : k < M.length
      · obtain ⟨b, off, hb, rfl, hc⟩ : ∃ b off, b < wr.heap.size ∧ am = some ⟨b, off, none⟩ ∧ ∀ i, i < M.length → wr.cell? ⟨b, off + i, none⟩ = some (.int .i64 (M[i]?.getD 0)) := by
          rcases HW.out.miss with h | h
          · rw [h] at hlt; simp at hlt
          · exact h
        obtain ⟨g, hg⟩ : ∃ g : Nat, (g : Int) = M[k]?.getD 0 := ⟨(M[k]?.getD 0).toNat, by have := HMr.out _ (getD_mem hlt); omega⟩
        have hgr : 1 ≤ g ∧ g < 64 := by have := HMr.out _ (getD_mem hlt); omega
        have hck := hc k hlt
        rw [← hg] at hck
        have hi0 : (0 : Int) ≤ (k : Int) := by omega
        have hi1 : (k : Int) < (M.length : Int) := by omega
        have hand : bits BinOp.and IntKind.i64 (g : Int) (f : Int) = ((g &&& f : Nat) : Int) := (bits_nat .i64 6 (by decide) (fun n h0 h1 => by rw [IntKind.wrap_i64]; omega) g f (by omega) (by omega)).1
        have Hsn : Hid (servesB fs f g = false → ∀ j, j < k + 1 → servesB fs f (M[j]?.getD 0).toNat = false) := hid (fun h j hj => by
          by_cases e : j = k
          · subst e; rw [← hg]; exact h
          · exact Hno.out j (by omega))
        have Hye : Hid (servesB fs f g = true → otherN fs f M = (g : Int)) := hid (fun h => by rw [otherN_some hlt Hno.out (by rw [← hg]; exact h), hg])
        have Hsv : Hid (servesB fs f g = (decide (g &&& f = 0) && (decide (L.length = 2 ^ ones g - 2) && L.all fun x => decide (x.toNat &&& g = x.toNat)))) := hid (by unfold servesB; rw [HLe.out])
        obtain ⟨p, hp⟩ : ∃ p, p = g &&& f := ⟨_, rfl⟩
        rw [← hp] at hand Hsv
        clear hg hc
        by_cases hp0 : p = 0
        · have hd : (((p : Nat) : Int) != 0) = false := by simp [hp0]
          obtain ⟨o, ho⟩ : ∃ o, o = ones g := ⟨_, rfl⟩
          have ho6 : o ≤ 6 := by rw [ho]; exact ones_le g
          have ho1 : 1 ≤ o := by
            have h5 := ones_pos ⟨g, hgr.2⟩ (by show g ≠ 0; omega)
            have h6 : 0 < ones g := h5
            omega
          have HOn := hid (fun W => ones_any g W hgr.2)
          rw [← ho] at HOn Hsv
          obtain ⟨P, hP⟩ : ∃ P : Nat, P = 2 ^ o := ⟨_, rfl⟩
          have hP2 : 2 ≤ P ∧ P ≤ 64 := by
            rw [hP]
            constructor
            · calc 2 = 2 ^ 1 := rfl
                _ ≤ 2 ^ o := Nat.pow_le_pow_right (by decide) ho1
            · calc 2 ^ o ≤ 2 ^ 6 := Nat.pow_le_pow_right (by decide) ho6
                _ = 64 := rfl
          have hPi : (2 : Int) ^ o = (P : Int) := by rw [hP]; push_cast; rfl
          have hu : (IntKind.u64.wrap (o : Int)).toNat = o := by rw [IntKind.wrap_u64]; omega
          have hmn : min (IntKind.u64.wrap (o : Int)).toNat 64 = o := by rw [hu]; omega
          have hsh : IntKind.i64.wrap (2 ^ min (IntKind.u64.wrap (o : Int)).toNat 64) = (P : Int) := by rw [hmn, hPi]; exact IntWalk.i64_in _ (by omega)
          have hsb : IntKind.i64.wrap ((P : Int) - 2) = (P : Int) - 2 := IntWalk.i64_in _ (by omega)
          obtain ⟨c0, hc0⟩ : ∃ c0, c0 = decide (L.length = P - 2) := ⟨_, rfl⟩
          have hcq : ((L.length : Int) == (P : Int) - 2) = c0 := by
            rw [hc0]
            by_cases e : L.length = P - 2
            · rw [decide_eq_true e]; simp; omega
            · rw [decide_eq_false e]; simp; omega
          have Hc : Hid (((L.length : Int) == wrap64 (wrap64 (2 ^ o) - 2)) = c0) := hid (by
            rw [hPi, show wrap64 (P : Int) = (P : Int) by unfold wrap64; omega, show wrap64 ((P : Int) - 2) = (P : Int) - 2 by unfold wrap64; omega]
            exact hcq)
          rw [← hP, ← hc0] at Hsv
          obtain ⟨b0, b1, _, _⟩ := two_of HW.out.box
          have o0 : (0 : Int) ≤ (o : Int) := by omega
          clear hP hPi hu hmn hc0 ho hp
          go_wp2_with fail
          go_quiet ((go_at_call 130; exact quiet_of_eq (HOn.out _)))
          have HWq := hid (HW.out.later (below_drewN _ nq))
          clear HW hck b0 b1 hand hsh hsb hcq hb
          go_wp2_with fail
          go_loopw [9, 10] (fun gd jv wi => ∃ j : Nat, j ≤ L.length ∧ jv = .int .i64 j ∧ gd = .bool (c0 && (L.take j).all fun x => decide (x.toNat &&& g = x.toNat)) ∧ Hid (OtW w wi V bl al cl L (some ⟨b, off, none⟩) M)) (fun _ jv _ => L.length - (intOf jv).toNat)
          case atStart => exact ⟨0, Nat.zero_le _, rfl, by rw [Hc.out]; simp, HWq⟩
          case round =>
            clear HWq
            obtain ⟨j, hj, rfl, rfl, HWi⟩ := hrel
            have hLl := HLl.out
            obtain ⟨b0, b1, _, _⟩ := two_of HWi.out.box
            obtain ⟨gd, hgd⟩ : ∃ gd, gd = (c0 && (L.take j).all fun x => decide (x.toNat &&& g = x.toNat)) := ⟨_, rfl⟩
            rw [← hgd]
            have Hgd := hid hgd
            clear hgd
            by_cases hjl : j < L.length
            · obtain ⟨bb, ob, hbb, rfl, hcc⟩ : ∃ bb ob, bb < wr.heap.size ∧ al = some ⟨bb, ob, none⟩ ∧ ∀ i, i < L.length → wr.cell? ⟨bb, ob + i, none⟩ = some (.int .i64 (L[i]?.getD 0)) := by
                rcases HWi.out.link with h | h
                · rw [h] at hjl; simp at hjl
                · exact h
              obtain ⟨x, hx⟩ : ∃ x : Nat, (x : Int) = L[j]?.getD 0 := ⟨(L[j]?.getD 0).toNat, by have := HLr.out _ (getD_mem hjl); omega⟩
              have hx64 : x < 64 := by have := HLr.out _ (getD_mem hjl); omega
              have hcj := hcc j hjl
              rw [← hx] at hcj
              have hj0 : (0 : Int) ≤ (j : Int) := by omega
              have hj1 : (j : Int) < (L.length : Int) := by omega
              have hxg : bits BinOp.and IntKind.i64 (x : Int) (g : Int) = ((x &&& g : Nat) : Int) := (bits_nat .i64 6 (by decide) (fun n h0 h1 => by rw [IntKind.wrap_i64]; omega) x g (by omega) (by omega)).1
              have Hsn2 : Hid (∀ c, (gd && decide (x &&& g = x)) = c → (c0 && (L.take (j + 1)).all fun x => decide (x.toNat &&& g = x.toNat)) = c) := hid (fun c hcq => by
                rw [take_snoc hjl, List.all_append, ← hx, ← hcq, Hgd.out]
                simp [Bool.and_assoc])
              obtain ⟨y, hy⟩ : ∃ y, y = x &&& g := ⟨_, rfl⟩
              rw [← hy] at hxg Hsn2
              clear hx hcc hy
              cases gd
              · have He := hid (Hsn2.out false rfl)
                go_wp2_with fail
                go_quiet (fail)
                go_wp2_with fail
                go_roundw
                case rel => exact ⟨j + 1, by omega, by go_num, by rw [He.out], hid (HWi.out.later (below_drewN _ nq))⟩
                case measure => simp [intOf]; omega
              · have hb : (((y : Nat) : Int) == (x : Int)) = decide (y = x) := by
                  by_cases e : y = x
                  · subst e; simp
                  · have : ((y : Nat) : Int) ≠ (x : Int) := by omega
                    simp [this, e]
                obtain ⟨c, hcq⟩ : ∃ c, c = decide (y = x) := ⟨_, rfl⟩
                rw [← hcq] at hb
                have He := hid (Hsn2.out c (by rw [hcq, Bool.true_and]))
                clear hcq Hsn2
                go_wp2_with fail
                go_quiet (fail)
                go_wp2_with fail
                go_roundw
                case rel => exact ⟨j + 1, by omega, by go_num, by rw [He.out], hid (HWi.out.later (below_drewN _ nq))⟩
                case measure => simp [intOf]; omega
            · obtain rfl : j = L.length := by omega
              have hsv : servesB fs f g = gd := by rw [Hsv.out, Hgd.out, List.take_length, hp0]; simp
              cases gd
              · have Hn := hid (Hsn.out hsv)
                clear hsv
                go_wp2_with fail
                go_roundw
                case rel => exact ⟨k + 1, by omega, by go_num, Hn, HWi⟩
                case measure => simp [intOf]; omega
              · have Hy := hid (Hye.out hsv)
                clear hsv
                go_wp2_with fail
                go_ret
                exact ⟨ret_int (by rw [Hy.out]), HWi.out.below⟩
        · have hd : (((p : Nat) : Int) != 0) = true := by simp; omega
          have Hn := hid (Hsn.out (by rw [Hsv.out, decide_eq_false hp0]; rfl))
          clear hp0
          go_wp2_with fail
          go_roundw
          case rel => exact ⟨k + 1, by omega, by go_num, Hn, HW⟩
          case measure => simp [intOf]; omega
      · obtain rfl : k = M.length := by omega
        have He : Hid (otherN fs f M = 0) := hid (otherN_none Hno.out)
        go_wp2_with fail
        go_ret
        exact ⟨ret_int (by rw [He.out]), HW.out.below⟩

end Go.Proofs.Ytgefpllmelpahaa
