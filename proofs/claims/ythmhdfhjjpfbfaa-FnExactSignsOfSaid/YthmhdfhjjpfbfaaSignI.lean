import Derived.Test.YthmhdfhjjpfbfaaIterS
import Derived.Test.YthmhdfhjjpfbfaaRev
/-! SignsOf, the program's. -/
namespace Go.Proofs.Ythmhdfhjjpfbfaa
open Go.RowKit Go.Shelf Go.Sort

attribute [local go_sem] Oper.semAt_some

/-- 'out = append(out, x)' inside a fence. -/
theorem append_intIn {F : Fence} {nF : Nat} {w : World} {ops : Array Oper} {rest : List Oper} {o : Oper} {a : Act} {Q : Exit → Act → World → Prop} (hgd : o.guard = none) {s y : Operand}
    (ho : o.op = .call { callee := .builtin .append, args := #[s, y], argTypes := #[22, 22] })
    {base : Nat} {v : Value} {xs : List Int} {x : Int} (hown : w.ownsRow base 2 1 v xs.length (xs.map (Value.int .i64))) (hbase : base ≤ w.heap.size) (hl : xs.length ≤ 1099511627776)
    (hs : a.eval s = v) (hy : a.eval y = .slice (some ⟨w.heap.size, 0, none⟩) 1 1)
    (hK : ∀ g cap w', w'.ownsRow base 2 1 (.slice (some ⟨g, 0, none⟩) (xs.length + 1) cap) (xs.length + 1) ((xs ++ [x]).map (Value.int .i64)) → w.grownBy w' v.ownBlock →
      wpListIn F nF Try.prog ops Q rest (a.put o.dst (.slice (some ⟨g, 0, none⟩) (xs.length + 1) cap)) w') :
    wpListIn F nF Try.prog ops Q (o :: rest) a (w.alloc (.cells #[.int .i64 x] 2)) := by
  obtain ⟨i0, hi, hz0, hz1, hz2⟩ := info_parts info_i64
  refine wpListIn_append_own _ hgd s y 22 ho base 2 i0 (.int .i64 0) 1 8 Try.underlying22 hi hz0 hz1 hz2 rfl (by decide) v _ _ hs (hown.alloc _) ⟨w.heap.size, 0, none⟩ 1 1 [.int .i64 x] hy rfl (cell_one_new _ _ _) (by simp [Value.oneCell']) (by unfold maxLen; omega) (by omega) (by simp; omega) ?_
  intro v' w1 hown1 hgrow1 _
  obtain ⟨g, cap, rfl⟩ := ownsRow_succ hown1
  exact hK g cap w1 (by simpa using hown1) ((World.grownBy_alloc w _ _).trans hgrow1)

/-- What is owned at or beyond lo + k is none of the k blocks from lo on. -/
theorem ownIn_row {β : Type} {lo k base e : Nat} (f : β → Value) (n : β → Nat) (xs : β → List Value) (hb : lo + k ≤ base) : OwnIn lo k (fun s W => W.ownsRow base e 1 (f s) (n s) (xs s)) :=
  fun s W W' row hs hg hr => hs.kept hg (by
    cases hv : (f s).ownBlock with
    | none => exact .inl rfl
    | some g =>
      refine .inr (fun e => ?_)
      have h1 := hs.lt g hv
      obtain ⟨h2, h3 | ⟨o, ho, hc⟩⟩ := hr g e.symm
      · omega
      · rcases hs.2 with ⟨hn, _⟩ | ⟨g', cap, cur, hv', _, hh, _⟩
        · rw [hn] at hv; simp [Value.ownBlock] at hv
        · rw [hv'] at hv; simp [Value.ownBlock] at hv; subst hv; rw [hh] at ho; cases ho; cases hc)

theorem rev_map (l : List Int) : l.reverse = (l.toArray.reverse).toList := by simp

theorem signed_rev : ∀ f : Fin 64, f.val ≠ 0 → ((signedF f.val).map Prod.snd).reverse = signL f.val := by decide +kernel

theorem grow_nil (w : World) : grow w #[] = w := by cases w; simp [grow]

/-- slices.Reverse on a slice of the call's own. -/
theorem rev_own (base : Nat) (v : Value) (xs : List Int) (w : World) (hown : w.ownsRow base 2 1 v xs.length (xs.map (Value.int .i64))) (hl : xs.length ≤ 1048576) :
    Calls Try.prog 61 #[v] w fun e w' => (∃ u, e = .returned u) ∧ w'.ownsRow base 2 1 v xs.reverse.length (xs.reverse.map (Value.int .i64)) ∧ w.grownBy w' v.ownBlock := by
  rcases hown.2 with ⟨rfl, h0⟩ | ⟨g, cap, cur, rfl, hg, hh, h1, h2, h3, h4⟩
  · obtain rfl : xs = [] := List.eq_nil_of_length_eq_zero h0
    exact (rev_empty none 0 w).mono fun e w' ⟨hv, hw⟩ => ⟨hv, by rw [hw]; exact World.ownsRow_nil _ _ _ _, by rw [hw]; exact ⟨rfl, rfl, rfl, Nat.le_refl _, fun _ _ _ => rfl⟩⟩
  · have hH := holds_of_blockI hh (by simpa using h4)
    have := rev_arr g 0 cap xs.toArray w hH (by simp; omega)
    simp only [List.size_toArray] at this
    refine this.mono fun e w' ⟨hv, m, hw⟩ => ⟨hv, ?_, ?_⟩
    · have e1 : (xs.toArray.reverse) = xs.reverse.toArray := by simp
      have h := ownsRow_sortedI (n := m) (os := #[]) (ss := xs) (ts := xs.reverse) (by simp) hg hh h1 h2 h3
      rw [grow_nil] at h
      rw [hw, e1, List.length_reverse]
      exact h
    · have h := grownBy_sortedI (w := w) (g := g) (n := m) (os := #[]) xs.toArray.reverse
      rw [grow_nil] at h
      rw [hw]
      exact h

set_option maxRecDepth 100000 in
set_option maxHeartbeats 4000000 in
theorem implSigns_yes (V : Int) (a0 : Option Addr) (cap : Nat) (fs : List Int) (f : Nat) (w : World) (hx : SlI w w.heap.size a0 fs) (hl : fs.length ≤ 1048576) (hC : IsC V fs) (hm : (f : Int) ∈ fs) :
    CallsIn Fence.wide 10 Try.prog 25 #[.agg #[.int .i64 V, .slice a0 fs.length cap], .int .i64 (f : Int)] w fun e w' => ∃ v, e = .returned (.tuple #[v, .int .i64 0]) ∧ Res w w' v (signL f) := by
  have hB0 : Below w.heap.size w (w.alloc (.cells #[.int .i64 V, .slice a0 fs.length cap] 28)) := (Below.refl _ w).alloc (Nat.le_refl _) _
  have hx1 := hx.later hB0 hB0.size
  have hr := hC.range63 f hm
  have hf : f < 64 := by omega
  have hrev := signed_rev ⟨f, hf⟩ (by simp only; omega)
  simp only at hrev
  have Hrev := hid hrev
  have HI := hid (fh_yes V a0 cap fs f _ hx1 hl hC hm)
  clear hx hx1 hC hm hr hrev
  refine callsIn_of_wp_marks Try.func25 rfl trivial ?_ rfl
  simp only [Try.ntmps25, List.size_toArray, List.length_cons, List.length_nil, Nat.reduceAdd, Nat.reduceSub, Array.replicate_succ, Array.replicate_zero, List.push_toArray, List.append_toArray, List.nil_append, List.cons_append]
  gi_wp2_with (first
    | (refine ⟨trivial, ?_⟩; gi_at_call 59; refine (callsIn_wide.2 HI.out).mono ?_; rintro e w1 ⟨b1, rfl, _, _, hB1⟩)
    | (refine ⟨trivial, ?_⟩; gi_at_call 60; refine (signedSides_in _ _ _).mono ?_; rintro e w2 ⟨rfl, rfl⟩))
  have HB1 := hid (hB0.trans (hB1.mono (by simp)))
  have hb1 := heap_alloc_new w1 (.cells #[.slice none 0 0] 22)
  have hb2 := heap_alloc_new (w1.alloc (.cells #[.slice none 0 0] 22)) (.cells #[.int .i64 (f : Int)] 2)
  rw [World.size_alloc] at hb2
  have hb1' := (Below.heap_alloc (w1.alloc (.cells #[.slice none 0 0] 22)) (.cells #[.int .i64 (f : Int)] 2) _ (by simp)).trans hb1
  have hBl : Below w.heap.size w ((w1.alloc (.cells #[.slice none 0 0] 22)).alloc (.cells #[.int .i64 (f : Int)] 2)) := (HB1.out.alloc HB1.out.size _).alloc (by have := HB1.out.size; simp; omega) _
  have hsz1 := HB1.out.size
  clear hB0 hB1 hb1
  refine wpIn_rangeFunc_P rfl (by decide) (gf := 103) (lb := #[.pointer (some ⟨w1.heap.size + 1, 0, none⟩)]) rfl trivial (enters_of Try.func103 (by kernel_rfl) rfl)
    (signed_P 9 (by decide) (w1.heap.size + 1) f hf _ (by simp) hb2) (by simp) (Below.refl _ _) (fun _ => rfl)
    (fun pre W' => (∃ v, W'.heap[w1.heap.size]? = some (.cells #[v] 22 (0, 0)) ∧ W'.ownsRow (w1.heap.size + 9) 2 1 v (pre.map Prod.snd).length ((pre.map Prod.snd).map (Value.int .i64))) ∧ Below w.heap.size w W')
    (fun _ _ _ => False)
    (OwnIn.and (fun s A B row hs hg hr => by
        obtain ⟨v, h1, h2⟩ := hs
        exact ⟨v, ownIn_block (β := Unit) (lo := w1.heap.size + 1 + 1) (k := 7) (fun _ => _) (by omega) () A B row h1 hg (by simpa using hr), ownIn_row (β := Unit) (lo := w1.heap.size + 1 + 1) (k := 7) (fun _ => v) (fun _ => _) (fun _ => _) (by omega) () A B row h2 hg (by simpa using hr)⟩)
      (ownIn_below (by simp; omega) (Nat.le_refl _)))
    (fun _ => ownIn_pure _ _ _)
    ⟨⟨_, hb1', World.ownsRow_nil _ _ _ _⟩, hBl⟩
    (fun x => { tmps := #[.agg #[.int .i64 V, .slice a0 fs.length cap], .int .i64 (f : Int), .pointer (some ⟨w.heap.size, 0, none⟩), undef, .slice none 0 0, .int .i64 0, .map (some b1), .int .i64 0, .pointer (some ⟨w1.heap.size, 0, none⟩), undef, .int .i64 x.2, .tuple #[.map (some b1), .int .i64 0], .agg #[.int .i64 V, .slice a0 fs.length cap], .int .i64 (f : Int), .tuple #[.map (some b1), .int .i64 0], .map (some b1), .int .i64 0, .int .i64 0, .bool false, undef, .int .i64 (f : Int), .func (.func 103) #[] #[.pointer (some ⟨w1.heap.size + 1, 0, none⟩)], .int .i64 (x.1.val : Int), .int .i64 x.2, undef, undef, undef, undef, undef, undef, undef], defers := [] }) ?assign ?body ?done ?stop
  case assign =>
    intro l x W K hK
    gi_wp2
    exact hK
  case body =>
    rintro l pre x W hpre hsz ⟨⟨v, hv, hown⟩, hB⟩
    simp only [World.size_alloc] at hsz
    obtain ⟨cv, fv⟩ := box_cell hv
    have hlen : (pre.map Prod.snd).length ≤ 1048576 := by
      have h1 := hpre.length_le
      have h2 := sides_len f 6
      unfold signedF at h1
      rw [signedL_len] at h1
      unfold sidesF at h1
      simp at h1 ⊢
      omega
    have hne := row_ne hown hv (by decide)
    have hvs := hown.2
    have Hne := hid hne
    have Hv := hid hv
    have Hown := hid hown
    have HB := hid hB
    have hbase : w1.heap.size + 9 ≤ W.heap.size := by omega
    clear hpre hv hown hB hne hvs
    gi_wp2_with (gi_at_builtin; refine append_intIn rfl rfl Hown.out hbase (by omega) rfl rfl ?_; intro g cap' w3 hown3 hgrow3; have hv3 := (hgrow3.block _ (lt_of_get Hv.out) Hne.out).trans Hv.out; obtain ⟨cv3, fv3⟩ := box_cell hv3; have Hv3 := hid hv3; clear hv3)
    have hv3 := Hv3.out
    have hne3 := row_ne hown3 hv3 (by decide)
    have hlt := Hown.out.lt
    refine ⟨(KeepP.of_grownBy hgrow3 (by simp; omega) (by simp; omega) (fun j e => ?_)).trans (KeepP.setCell _ _ _ _ (by simp <;> omega)), ⟨_, ?_, by simpa using ownsRow_set hown3 (fun e => hne3 e.symm) _⟩, (HB.out.grown hgrow3 HB.out.size (fun r e => by have := (hlt r e).1; omega)).setCell (p := ⟨w1.heap.size, 0, none⟩) (by simp only; omega) _⟩
    · have := (hlt j e).1
      simp
      omega
    · simp only [World.setCell, Array.getElem?_modify, hv3]
      simp
  case done =>
    rintro W ⟨⟨v, hv, hown⟩, hB⟩ hD
    simp only [World.size_alloc] at hD
    have hlen : ((signedF f).map Prod.snd).length ≤ 1048576 := by
      have h2 := sides_len f 6
      unfold signedF
      rw [List.length_map, signedL_len]
      unfold sidesF
      omega
    obtain ⟨cv, fv⟩ := box_cell hv
    have hne := row_ne hown hv (by decide)
    have HR := hid (rev_own _ v _ W hown hlen)
    have Hv := hid hv
    have HB := hid hB
    have HD := hid hD
    have Hlt := hid hown.lt
    clear hv hB hD hown
    gi_wp2_with (refine ⟨trivial, ?_⟩; gi_at_call 61; refine (callsIn_wide.2 HR.out).mono ?_; rintro e w4 ⟨⟨u, rfl⟩, hown4, hgrow4⟩; have hv4 := (hgrow4.block _ (lt_of_get Hv.out) hne).trans Hv.out; obtain ⟨cv4, fv4⟩ := box_cell hv4; have Hv4 := hid hv4; clear hv4)
    have hD4 : w4.heap[w1.heap.size + 1 + 1]? = some (.deferred (some [])) := (hgrow4.block _ (lt_of_get HD.out) (fun e => by have := (Hlt.out _ e.symm).1; omega)).trans HD.out
    have hB4 : Below w.heap.size w w4 := HB.out.grown hgrow4 HB.out.size (fun r e => by have := (Hlt.out r e).1; omega)
    refine leaves_marks (by simp) [_] _ (by simp) (fun D hD' => by simp only [List.mem_singleton] at hD'; subst hD'; exact hD4) (fun w' hw' => ?_)
    have hB5 : Below w.heap.size w w' := hB4.grown (shut_grown hw' (D := w1.heap.size + 1 + 1) (by simp)) hB4.size (fun r e => by cases e; omega)
    rw [Hrev.out] at hown4
    have hown5 := hown4.kept (shut_grown hw' (D := w1.heap.size + 1 + 1) (by simp)) (by
      cases hv : v.ownBlock with
      | none => exact .inl rfl
      | some g => exact .inr (fun e => by cases e; have := (Hlt.out _ hv).1; omega))
    refine ⟨_, ?_, v, rfl, ownsRow_base hown5 (by omega), hB5⟩
    simp [results, Try.results25, go_sem]
  case stop =>
    rintro c pre W hpre h hD
    exact h.elim

set_option maxRecDepth 100000 in
set_option maxHeartbeats 1000000 in
theorem implSignsOf (V : Int) (a0 : Option Addr) (cap : Nat) (fs : List Int) (f : Int) (hwf : (Lit.int .i64 f).wf = true) (w : World) (hx : SlI w w.heap.size a0 fs) (hl : fs.length ≤ 1048576) :
    Calls Try.prog 25 #[.agg #[.int .i64 V, .slice a0 fs.length cap], .int .i64 f] w fun e w' => ∃ v, e = .returned (.tuple #[v, .int .i64 (signsOfR V fs f).2]) ∧ Res w w' v (signsOfR V fs f).1 := by
  have hB0 : Below w.heap.size w (w.alloc (.cells #[.int .i64 V, .slice a0 fs.length cap] 28)) := (Below.refl _ w).alloc (Nat.le_refl _) _
  have hx1 := hx.later hB0 hB0.size
  by_cases hC : IsC V fs
  · by_cases hm : f ∈ fs
    · refine sign_mono (show signsOfR V fs f = (signL f.toNat, 0) by unfold signsOfR; rw [isCB_true hC, if_pos rfl, if_pos hm]) ?_
      have hr := hC.range63 f hm
      obtain ⟨q, rfl⟩ : ∃ q : Nat, f = q := ⟨f.toNat, by omega⟩
      rw [Int.toNat_natCast]
      exact callsIn_wide.1 (implSigns_yes V a0 cap fs q w hx hl hC hm)
    · refine sign_mono (show signsOfR V fs f = ([], 2) by unfold signsOfR; rw [isCB_true hC, if_pos rfl, if_neg hm]) ?_
      have HI := hid (fh_no V a0 cap fs f _ hx1 hl hC hwf hm)
      clear hx hx1 hC hm
      go_enter Try.func25, Try.ntmps25
      go_wp2_with fail
      refine HI.out.mono ?_
      rintro e w1 ⟨rfl, hB1⟩
      go_wp2_with fail
      go_ret2
      exact ⟨_, rfl, res_nil _ _ (hB0.trans (hB1.mono (by simp)))⟩
  · refine sign_mono (show signsOfR V fs f = ([], 1) by unfold signsOfR; rw [isCB_false hC, if_neg (by simp)]) ?_
    have HI := hid (fh_bad V a0 cap fs f _ hx1 hl hC)
    clear hx hx1 hC
    go_enter Try.func25, Try.ntmps25
    go_wp2_with fail
    refine HI.out.mono ?_
    rintro e w1 ⟨rfl, hB1⟩
    go_wp2_with fail
    go_ret2
    exact ⟨_, rfl, res_nil _ _ (hB0.trans (hB1.mono (by simp)))⟩

end Go.Proofs.Ythmhdfhjjpfbfaa
