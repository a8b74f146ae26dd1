import Derived.Test.YtmkknfdjoajpcaaSortK
import Derived.Test.YtmkknfdjoajpcaaFacetsI
/-! madeBy: the complex made by some sets. -/
namespace Go.Proofs.Ytmkknfdjoajpcaa
open Go.RowKit Go.Shelf

attribute [local go_sem] Oper.semAt_some

/-- The parts of a set, as they are met. -/
def partsI (f : Nat) : List Int := (subsF f).map fun p => ((p.val : Nat) : Int)
/-- .. of some sets. -/
def partsL (sets : List Int) : List Int := sets.flatMap fun x => partsI x.toNat
/-- The faces of the complex that some sets make. -/
def madeP (sets : List Int) : Int → Bool := fun x => sets.any fun s => decide (x.toNat &&& s.toNat = x.toNat)
def madeL (V : Int) (sets : List Int) : List Int := pickTo (madeP sets) (allV V).toNat

theorem partsI_len (f : Nat) (hf : f < 64) : (partsI f).length ≤ 63 := by
  unfold partsI; rw [List.length_map]; exact subsF_len f hf

theorem partsL_len : ∀ (sets : List Int), (∀ x ∈ sets, 0 ≤ x ∧ x ≤ 63) → (partsL sets).length ≤ 63 * sets.length
  | [], _ => by simp [partsL]
  | x :: sets, h => by
    have ih := partsL_len sets (fun y hy => h y (by simp [hy]))
    have hx := h x (by simp)
    have := partsI_len x.toNat (by omega)
    simp only [partsL, List.flatMap_cons, List.length_append, List.length_cons] at ih ⊢
    omega

theorem partsL_snoc (sets : List Int) (x : Int) : partsL (sets ++ [x]) = partsL sets ++ partsI x.toNat := by simp [partsL]

theorem mem_partsI {f : Nat} (hf : f < 64) {x : Int} : x ∈ partsI f ↔ ∃ p : Nat, x = p ∧ p ≠ 0 ∧ p &&& f = p := by
  unfold partsI
  rw [List.mem_map]
  constructor
  · rintro ⟨p, hp, rfl⟩
    exact ⟨p.val, rfl, (mem_subsF hf).1 hp⟩
  · rintro ⟨p, rfl, h1, h2⟩
    have hle := and_le_left' _ _ h2
    exact ⟨⟨p, by omega⟩, (mem_subsF hf).2 ⟨h1, h2⟩, rfl⟩

theorem mem_partsL {sets : List Int} (hr : ∀ x ∈ sets, 0 ≤ x ∧ x ≤ 63) {x : Int} : x ∈ partsL sets ↔ ∃ y ∈ sets, ∃ p : Nat, x = p ∧ p ≠ 0 ∧ p &&& y.toNat = p := by
  unfold partsL
  rw [List.mem_flatMap]
  constructor
  · rintro ⟨y, hy, h⟩
    exact ⟨y, hy, (mem_partsI (by have := hr y hy; omega)).1 h⟩
  · rintro ⟨y, hy, h⟩
    exact ⟨y, hy, (mem_partsI (by have := hr y hy; omega)).2 h⟩

/-- What is collected is what is made. -/
theorem asc_parts {V : Int} {sets : List Int} (h2 : V ≤ 6) (hr : ∀ x ∈ sets, 0 ≤ x ∧ x ≤ allV V) : ascOf (partsL sets) = madeL V sets := by
  have h63 : ∀ x ∈ sets, 0 ≤ x ∧ x ≤ 63 := fun x hx => ⟨(hr x hx).1, by have := allV_le h2; have := (hr x hx).2; omega⟩
  refine asc_ext (pickTo_asc _ _) (pickTo_asc _ _) fun x => ?_
  unfold ascOf madeL
  rw [mem_pickTo, mem_pickTo]
  simp only [decide_eq_true_eq, mem_partsL h63, madeP, List.any_eq_true]
  constructor
  · rintro ⟨h1, _, y, hy, p, rfl, hp0, hp⟩
    have hle := and_le_left' _ _ hp
    have := hr y hy
    exact ⟨h1, by omega, y, hy, by simpa using hp⟩
  · rintro ⟨h1, h3, y, hy, hp⟩
    have := allV_le h2
    exact ⟨h1, by omega, y, hy, x.toNat, by omega, by omega, hp⟩

theorem parts_range {sets : List Int} (hr : ∀ x ∈ sets, 0 ≤ x ∧ x ≤ 63) : ∀ x ∈ partsL sets, 1 ≤ x ∧ x ≤ 63 := by
  intro x hx
  obtain ⟨y, hy, p, rfl, h0, hp⟩ := (mem_partsL hr).1 hx
  have := and_le_left' _ _ hp
  have := hr y hy
  omega

theorem faw_box {w W : World} {V : Int} {sl : Value} {mb : Nat} {L : List Int} {Ds : List Nat} (h : FaW w W V sl mb L Ds) : W.cell? ⟨mb + 1, 0, none⟩ = some (.map (some mb)) := (box_cell h.mbox).1

set_option maxRecDepth 100000 in
set_option maxHeartbeats 4000000 in
theorem made_in (V : Int) (a : Option Addr) (cap : Nat) (xs : List Int) (w : World) (hx : SlI w w.heap.size a xs) (hl : xs.length ≤ 1048576) (h2 : V ≤ 6) (hr : ∀ x ∈ xs, 0 ≤ x ∧ x ≤ allV V) :
    CallsIn Fence.wide 10 Try.prog 85 #[.int .i64 V, .slice a xs.length cap] w fun e w' => ∃ v, e = .returned (.agg #[.int .i64 V, v]) ∧ Res w w' v (madeL V xs) := by
  have hmm := @run_makeMap Try.prog
  have hB0 : Below w.heap.size w (w.alloc (.cells #[.int .i64 0, .slice none 0 0] 26)) := (Below.refl _ w).alloc (Nat.le_refl _) _
  have h63 : ∀ x ∈ xs, 0 ≤ x ∧ x ≤ 63 := fun x hx => ⟨(hr x hx).1, by have := allV_le h2; have := (hr x hx).2; omega⟩
  have HR := hid (asc_parts h2 hr)
  have Hx0 := hid hx
  have Hf := hid h63
  have HB0 := hid hB0
  have hF0 : FaW w (((w.alloc (.cells #[.int .i64 0, .slice none 0 0] 26)).alloc (.map #[] 0)).alloc (.cells #[.map (some (w.heap.size + 1))] 76)) 0 (.slice none 0 0) (w.heap.size + 1) [] [] := by
    have e3 := heap_alloc_new ((w.alloc (.cells #[.int .i64 0, .slice none 0 0] 26)).alloc (.map #[] 0)) (.cells #[.map (some (w.heap.size + 1))] 76)
    rw [World.size_alloc, World.size_alloc] at e3
    have e4 := (World.ownsMap_made (w.alloc (.cells #[.int .i64 0, .slice none 0 0] 26)) Try.prog 2 (plainElem (H := Unit) Try.prog 4)).alloc (.cells #[.map (some (w.heap.size + 1))] 76)
    rw [World.size_alloc] at e4
    exact {
      below := (hB0.alloc (by simp) _).alloc (by simp <;> omega) _
      lo := Nat.le_refl _
      kbox := (Below.heap_alloc _ _ _ (by simp; omega)).trans ((Below.heap_alloc _ _ _ (by simp)).trans (heap_alloc_new _ _))
      own := e4
      mbox := e3
      nodup := by simp
      marks := by simp }
  have HF0 := hid hF0
  clear hF0 hx hr h63 hB0
  refine callsIn_of_wp_marks Try.func85 rfl trivial ?_ rfl
  simp only [Try.ntmps85, List.size_toArray, List.length_cons, List.length_nil, Nat.reduceAdd, Nat.reduceSub, Array.replicate_succ, Array.replicate_zero, List.push_toArray, List.append_toArray, List.nil_append, List.cons_append]
  gi_wp2
  clear hmm
  obtain ⟨mb, hmb⟩ : ∃ mb, mb = w.heap.size + 1 := ⟨_, rfl⟩
  rw [← hmb] at HF0 ⊢
  clear hmb
  refine wpIn_loop (fun a' W => ∃ (k : Nat) (c7 c8 c13 c14 c15 c16 c17 c18 c19 c20 c21 : Value) (Ds : List Nat),
      a' = { tmps := #[.int .i64 V, .slice a xs.length cap, undef, undef, .pointer (some ⟨w.heap.size, 0, none⟩), .pointer (some ⟨mb + 1, 0, none⟩), undef, c7, c8,
          .map (some mb), .slice a xs.length cap, .int .i64 xs.length,
          .int .i64 k, c13, c14, c15, c16, c17, c18, c19, c20, c21, undef, undef, undef, undef, undef], defers := marks Ds } ∧
      k ≤ xs.length ∧ FaW w W 0 (.slice none 0 0) mb (partsL (xs.take k)) Ds)
    (fun a' _ => xs.length - (RowKit.intOf (a'.tmps.getD 12 undef)).toNat) ?start ?round
  case start => exact ⟨0, _, _, _, _, _, _, _, _, _, _, _, [], rfl, Nat.zero_le _, by simpa [partsL] using HF0.out⟩
  case round =>
    rintro a' W ⟨k, c7, c8, c13, c14, c15, c16, c17, c18, c19, c20, c21, Ds, rfl, hk, hW⟩
    have hsz := hW.size
    have HW := hid hW
    have hlo := hW.lo
    clear hW
    by_cases hlt : k < xs.length
    · obtain ⟨b, off, hb, rfl, hc⟩ : ∃ b off, b < w.heap.size ∧ a = some ⟨b, off, none⟩ ∧ ∀ i, i < xs.length → w.cell? ⟨b, off + i, none⟩ = some (.int .i64 (xs[i]?.getD 0)) := by
        rcases Hx0.out with h | h
        · rw [h] at hlt; simp at hlt
        · exact h
      have Hc := hid hc
      clear hc
      obtain ⟨x, hx⟩ : ∃ x, x = xs[k]?.getD 0 := ⟨_, rfl⟩
      have hck : W.cell? ⟨b, off + k, none⟩ = some (.int .i64 x) := by rw [hx]; exact (HW.out.below.cell (p := ⟨b, off + k, none⟩) hb).trans (Hc.out k hlt)
      have hxr := Hf.out _ (getD_mem hlt)
      rw [← hx] at hxr
      have Hx1 := hid hx
      have hi0 : (0 : Int) ≤ (k : Int) := by omega
      have hi1 : (k : Int) < (xs.length : Int) := by omega
      obtain ⟨f, rfl⟩ : ∃ f : Nat, x = f := ⟨x.toNat, by omega⟩
      have hf : f < 64 := by omega
      clear hx
      gi_wp2_with (first
        | (refine ⟨trivial, ?_⟩; gi_at_call 89; refine (parts_in _ _ trivial rfl _ _).mono ?_; rintro e w' ⟨rfl, rfl⟩))
      have hW2 : FaW w (W.alloc (.cells #[.int .i64 (f : Int)] 2)) 0 (.slice none 0 0) mb (partsL (xs.take k)) Ds := HW.out.turn (World.grownBy_alloc W _ none) (fun r e => by cases e)
      have hsb : (W.alloc (.cells #[.int .i64 (f : Int)] 2)).heap[W.heap.size]? = some (.cells #[.int .i64 (f : Int)] 2 (0, 0)) := heap_alloc_new _ _
      have hDlt : ∀ D ∈ Ds, D < (W.alloc (.cells #[.int .i64 (f : Int)] 2)).heap.size := fun D hD => lt_of_get (hW2.marks D hD).2
      have hLl := partsL_len (xs.take k) (fun y hy => Hf.out y (List.mem_of_mem_take hy))
      have hkl : (xs.take k).length ≤ 1048576 := by simp; omega
      obtain ⟨L0, hL0⟩ : ∃ L0, L0 = partsL (xs.take k) := ⟨_, rfl⟩
      have HL0 := hid hL0
      rw [← hL0] at hW2 hLl HW
      clear hL0
      refine wpIn_rangeFunc_ownG rfl (by decide) (gf := 116) (lb := #[.pointer (some ⟨W.heap.size, 0, none⟩)]) rfl trivial (enters_of Try.func116 (by kernel_rfl) rfl)
        (parts_stops Fence.wide 9 trivial rfl (by decide) W.heap.size f hf _ (by simp) hsb) keepB_t (keepB_b (by simp)) (Below.refl _ _) (fun _ => rfl)
        (fun pre W' => FaW w W' 0 (.slice none 0 0) mb (L0 ++ pre.map (fun p => ((p.val : Nat) : Int))) Ds ∧ W'.heap[W.heap.size]? = some (.cells #[.int .i64 (f : Int)] 2 (0, 0)))
        (fun _ _ _ => False)
        (OwnFrom.and (faw_own (by simp; omega) hDlt) (box_own (by simp <;> omega))) (fun _ => ownFrom_pure _ _)
        ⟨by simpa using hW2, hsb⟩
        (fun x => { tmps := #[.int .i64 V, .slice (some ⟨b, off, none⟩) xs.length cap, undef, undef, .pointer (some ⟨w.heap.size, 0, none⟩), .pointer (some ⟨mb + 1, 0, none⟩), undef, .int .i64 f, .int .i64 (x.val : Int),
          .map (some mb), .slice (some ⟨b, off, none⟩) xs.length cap, .int .i64 xs.length,
          .int .i64 k, .bool true, .pointer (some ⟨b, off + k, none⟩), .int .i64 f, .int .i64 f, .func (.func 116) #[] #[.pointer (some ⟨W.heap.size, 0, none⟩)], .int .i64 (x.val : Int), c19, c20, c21, undef, undef, undef, undef, undef], defers := [] }) ?assign ?body ?done ?stop
      case assign =>
        intro l x W3 K hK
        gi_wp2
        exact hK
      case body =>
        rintro l pre x W3 ⟨hW3, hsb3⟩ hpl
        have m3 : W3.cell? ⟨mb + 1, 0, none⟩ = some (.map (some mb)) := (box_cell hW3.mbox).1
        have hxl := x.isLt
        have hwx : (Lit.int .i64 (x.val : Int)).wf = true := WalkArith.wf_i64 (by omega)
        have HW3 := hid hW3
        have Hsb3 := hid hsb3
        have hkm : (L0 ++ pre.map (fun p => ((p.val : Nat) : Int))).length < maxLen := by unfold maxLen; simp; omega
        clear hW3 hsb3
        gi_wp2_with (gi_at_mapUpdate; refine wpListIn_mapUpdate_own _ rfl _ _ _ 76 rfl 2 4 (Maps.int_keyed Try.underlying2) Try.underlying76 _ mb _ _ rfl HW3.out.own hkm _ _ _ rfl rfl (Maps.keyOf_int_mk Try.underlying2 hwx) _ [] (plainElem_bool Try.underlying4 true) ?_; intro w4 hown4 hgrow4)
        refine ⟨KeepsFrom.of_grownBy hgrow4 (fun j e => by cases e; first | omega | (simp; omega)), (hgrow4.block _ (lt_of_get Hsb3.out) (fun e => by simp at e; omega)), ?_, (hgrow4.block _ (lt_of_get Hsb3.out) (fun e => by simp at e; omega)).trans Hsb3.out⟩
        rw [List.map_append, ← List.append_assoc]
        exact HW3.out.put hown4 hgrow4
      case done =>
        rintro D ys W3 hD rfl ⟨hW3, _⟩ hK
        have hDb : mb + 2 ≤ D := by simp at hD; omega
        have hDn : D ∉ Ds := fun hm => by have := hDlt D hm; omega
        have HW4 := hid (hW3.mark hK hDb hDn)
        have htk : partsL (xs.take (k + 1)) = L0 ++ (subsF f).map (fun p => ((p.val : Nat) : Int)) := by rw [take_snoc hlt, partsL_snoc, ← Hx1.out, HL0.out, Int.toNat_natCast]; rfl
        have Htk := hid htk
        clear hW3 htk
        gi_wp2
        refine ⟨⟨k + 1, ?_⟩, ?_⟩
        · (repeat apply Exists.intro)
          refine ⟨?e, ?_⟩
          case e =>
            rw [show ((k + 1 : Nat) : Int) = (k : Int) + 1 by omega, show ({ target := .collected D, args := #[] } :: marks Ds : List Deferred) = marks (D :: Ds) from rfl]
          exact ⟨by omega, by rw [Htk.out]; exact HW4.out⟩
        · simp [RowKit.intOf]; omega
      case stop =>
        rintro D c pre W3 hD hpre hF hK
        exact hF.elim
    · obtain rfl : k = xs.length := by omega
      rw [List.take_of_length_le (Nat.le_refl _)] at HW
      have m0 := faw_box HW.out
      have hLr := parts_range Hf.out
      have hLl := partsL_len xs Hf.out
      have hkm : Maps.size (knownD (partsL xs)) ≤ (partsL xs).length := HW.out.own.size_le
      have hmax : Maps.size (knownD (partsL xs)) ≤ maxLen := by unfold maxLen; omega
      have hbytes : Maps.size (knownD (partsL xs)) * 8 ≤ 140737488355328 := by omega
      have hown1 := HW.out.own.alloc (.cells #[.map (some mb)] 76)
      have hseq : SeqGives Fence.wide 6 Try.prog 129 #[.pointer (some ⟨W.heap.size, 0, none⟩)] encZ (fun ss => ss.Perm (intKeys (knownD (partsL xs)))) (Maps.size (knownD (partsL xs))) (W.alloc (.cells #[.map (some mb)] 76)) :=
        AnyZI.keys_gives (ρ := keysL_ren) { keysL with } Fence.wide _ trivial rfl (by omega) W.heap.size mb (partsL xs).length (knownD (partsL xs)) _ (by simp) (by simp [go_sem]) hown1
      have cK : ∀ mb' W', CallsIn Fence.wide 9 Try.prog 115 #[.map mb'] W' fun e w' => e = .returned (.func (.func 129) #[] #[.pointer (some ⟨W'.heap.size, 0, none⟩)]) ∧ w' = W'.alloc (.cells #[.map mb'] 76) := fun mb' W' => AnyZI.keys_in keysL Fence.wide 9 trivial rfl mb' W'
      have cS := AnyZI.sorted_in sortedL Fence.wide 9 trivial trivial trivial trivial rfl (by omega) (sortsL _) (enters_of Try.func119 (by kernel_rfl) rfl) 129 #[.pointer (some ⟨W.heap.size, 0, none⟩)] trivial (enters_of Try.func129 (by kernel_rfl) rfl) _ _ hmax hbytes _ hseq
      change CallsIn _ _ Try.prog 100 _ _ _ at cS
      have HcS := hid cS
      have HcK := hid cK
      have Hsort := hid (fun (ss : List Int) (h : ss.Perm (intKeys (knownD (partsL xs)))) => sorted_known HW.out.own hLr h)
      clear hkm hmax hbytes hown1 hseq cK cS
      gi_wp2_with (first
        | (refine ⟨trivial, ?_⟩; gi_at_call 115; refine (HcK.out _ _).mono ?_; rintro e w' ⟨rfl, rfl⟩))
      refine ⟨trivial, ?_⟩
      refine HcS.out.mono ?_
      rintro e w2 ⟨v, ss, rfl, hS, hrow, hnil, hB2⟩
      have hrow2 : w2.ownsRow (W.alloc (.cells #[.map (some mb)] 76)).heap.size 2 1 v ss.length ((madeL V xs).map (Value.int .i64)) := by
        have h := hrow
        rw [Hsort.out ss hS, HR.out] at h
        exact h
      have Hrow := hid hrow2
      have HB2 := hid hB2
      obtain ⟨hln, av, cv, rfl, _⟩ := ownsRow_slI hrow2
      have k2 := (hB2.block _ (by simp; exact Nat.lt_succ_of_lt (lt_of_get HW.out.kbox))).trans ((Below.heap_alloc W _ _ (lt_of_get HW.out.kbox)).trans HW.out.kbox)
      obtain ⟨r0, r1, g0, g1⟩ := two_of k2
      clear hrow hnil hB2 hrow2 k2
      gi_wp2
      have k2 : w2.heap[w.heap.size]? = some (.cells #[.int .i64 0, .slice none 0 0] 26 (0, 0)) := (HB2.out.block _ (by simp; exact Nat.lt_succ_of_lt (lt_of_get HW.out.kbox))).trans ((Below.heap_alloc W _ _ (lt_of_get HW.out.kbox)).trans HW.out.kbox)
      have k3 := two_set k2 (.int .i64 V) (.slice av (madeL V xs).length cv)
      have hWsz := HW.out.below.size
      have hB2' : Below W.heap.size W w2 := ((Below.refl _ W).alloc (Nat.le_refl _) _).trans (HB2.out.mono (by simp))
      have hmk : ∀ D ∈ Ds, ((w2.setCell ⟨w.heap.size, 0, none⟩ (.int .i64 V)).setCell ⟨w.heap.size, 1, none⟩ (.slice av (madeL V xs).length cv)).heap[D]? = some (.deferred (some [])) := fun D hD => by
        have h1 := HW.out.marks D hD
        rw [Below.heap_setCell _ _ _ _ (by show D ≠ w.heap.size; omega), Below.heap_setCell _ _ _ _ (by show D ≠ w.heap.size; omega)]
        exact (hB2'.block _ (lt_of_get h1.2)).trans h1.2
      refine leaves_marks (by simp) Ds _ HW.out.nodup hmk (fun w' hw' => ?_)
      have hDw : w.heap.size ∉ Ds := fun hm => by have := (HW.out.marks _ hm).1; omega
      have k4 := (hw'.block w.heap.size hDw).trans k3
      obtain ⟨q0, q1, _, _⟩ := two_of k4
      have hsh : Below w.heap.size ((w2.setCell ⟨w.heap.size, 0, none⟩ (.int .i64 V)).setCell ⟨w.heap.size, 1, none⟩ (.slice av (madeL V xs).length cv)) w' := hw'.below (fun D hD => by have := (HW.out.marks D hD).1; omega)
      have hres : Res w ((w2.setCell ⟨w.heap.size, 0, none⟩ (.int .i64 V)).setCell ⟨w.heap.size, 1, none⟩ (.slice av (madeL V xs).length cv)) (.slice av (madeL V xs).length cv) (madeL V xs) := by
        have hln' : ss.length = (madeL V xs).length := by have := Hrow.out.1; simpa using this.symm
        have h0 : Res W w2 (.slice av (madeL V xs).length cv) (madeL V xs) := ⟨by have h := Hrow.out; rw [hln'] at h; exact ownsRow_base h (by simp), hB2'⟩
        exact (h0.later HW.out.below).set2 k2 (by decide) (Nat.le_refl _) _ _
      have hown : w'.ownsRow w.heap.size 2 1 (.slice av (madeL V xs).length cv) (madeL V xs).length ((madeL V xs).map (Value.int .i64)) := by
        refine ⟨hres.1.1, ?_⟩
        rcases hres.1.2 with hn | ⟨g, cp, cur, he, hg, hh, rest⟩
        · exact .inl hn
        · refine .inr ⟨g, cp, cur, he, hg, (hw'.block g (fun hm => ?_)).trans hh, rest⟩
          rw [hmk g hm] at hh
          simp at hh
      refine ⟨.agg #[.int .i64 V, .slice av (madeL V xs).length cv], ?_, _, rfl, hown, hres.2.trans hsh⟩
      simp [results, Try.results85, asAddr, load_cx q0 q1]

/-- madeBy. -/
theorem made_any (V : Int) (a : Option Addr) (cap : Nat) (xs : List Int) (w : World) (hx : SlI w w.heap.size a xs) (hl : xs.length ≤ 1048576) (h2 : V ≤ 6) (hr : ∀ x ∈ xs, 0 ≤ x ∧ x ≤ allV V) :
    Calls Try.prog 85 #[.int .i64 V, .slice a xs.length cap] w fun e w' => ∃ v, e = .returned (.agg #[.int .i64 V, v]) ∧ Res w w' v (madeL V xs) :=
  callsIn_wide.1 (made_in V a cap xs w hx hl h2 hr)

end Go.Proofs.Ytmkknfdjoajpcaa
